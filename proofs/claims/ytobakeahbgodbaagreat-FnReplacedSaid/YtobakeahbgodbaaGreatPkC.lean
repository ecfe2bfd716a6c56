/-
  Contracts and plain mathematics (FitI, BrkI, BrkI2, BrkC, Cnt, Push, Wid, Concat, IdxM, SpecK, BrkS, WaysS, WidS), each with its conditions in its own statement.
-/
import Derived.Test.YtobakeahbgodbaaGreatPkA
import Derived.Deep.RegionWith
import Derived.Test.YtobakeahbgodbaaGreatPkB
import Derived.Lib.AppendZeros
import Derived.Lib.SliceRun
import Derived.Deep.RegionHeld3
namespace Go.Proofs.YtobakeahbgodbaaGreat
open Go.RowKit
set_option linter.unusedVariables false

/-- the world in which a function over a measure begins -/
theorem msWorld (w : World) (W t k : Int) : ∃ w0, w.alloc (.cells #[.int .i64 W, .int .i64 t, .int .i64 k] 27) = w0 ∧ Below w.heap.size w w0 ∧ w0.heap.size = w.heap.size + 1 ∧
    (w0.cell? ⟨w.heap.size, 0, none⟩ = some (.int .i64 W) ∧ w0.cell? ⟨w.heap.size, 1, none⟩ = some (.int .i64 t) ∧ w0.cell? ⟨w.heap.size, 2, none⟩ = some (.int .i64 k)) :=
  ⟨_, rfl, below_new _ _, by simp, lay3 w (.int .i64 W) (.int .i64 t) (.int .i64 k) 27⟩
theorem good_no {m : Msr} {zs : List Int} (h : msrB m = false) : goodB m zs = false := by unfold goodB; rw [h]; rfl
theorem good_line {m : Msr} {zs : List Int} (h : lineB zs = false) : goodB m zs = false := by unfold goodB fitsB; rw [h]; simp
theorem good_is {m : Msr} {zs : List Int} (h : msrB m = true) (h2 : lineB zs = true) : goodB m zs = decide (widF (sumL zs) (bandsN zs) m.t ≤ m.w) := by
  unfold goodB fitsB fitL widL; rw [h, h2]; simp

set_option maxRecDepth 100000 in
set_option maxHeartbeats 1600000 in
theorem isFitting_any (W t k : Int) (A : Option Addr) (n c : Nat) (zs : List Int) (w : World) (hn : zs.length = n) (hm : n ≤ maxLen) (h : Ints w A zs) :
    Calls Tryz.prog 100 #[.agg #[.int .i64 W, .int .i64 t, .int .i64 k], .slice A n c] w fun e w' => e = .returned (.bool (goodB ⟨W, t, k⟩ zs)) ∧ Below w.heap.size w w' := by
  have Hn := Lib.hid hn
  obtain ⟨w0, hw0, hb0, hz0, P⟩ := msWorld w W t k
  have T0 := Lib.hid hb0; have P0 := Lib.hid P; have Z0 := Lib.hid hz0
  have I0 := Lib.hid (h.below hb0)
  clear hb0 hz0 P hn h
  obtain ⟨p0, p1, p2⟩ := P0.out
  cases hms : msrB ⟨W, t, k⟩
  · have HR := Lib.hid (good_no (zs := zs) hms)
    go_enter Tryz.func100, Tryz.ntmps100
    go_wp2_with fail
    clear hw0
    have hz := Z0.out
    first
      | go_region_with ((first
          | (go_at_call 115; refine (implMeasureOk_any W t k _).mono ?_; rintro e w1 ⟨he, hb1⟩; rw [hms] at he; subst he; have hc1 : Below w0.heap.size w0 w1 := undrew hb1; have P1 := Lib.hid (hold3 hc1 (by omega) P0.out); have T1 := Lib.hid (T0.out.trans (hc1.mono (B' := w.heap.size) (by omega))); clear hb1 hc1; obtain ⟨p0, p1, p2⟩ := P1.out)))
      | fail "the region"
    all_goals
      go_wp2
      go_ret
      exact ⟨ret_bool HR.out.symm, T1.out⟩
  cases hli : lineB zs
  · have HR := Lib.hid (good_line (m := ⟨W, t, k⟩) hli)
    go_enter Tryz.func100, Tryz.ntmps100
    go_wp2_with fail
    clear hw0
    have hz := Z0.out
    first
      | go_region_with ((first
          | (go_at_call 115; refine (implMeasureOk_any W t k _).mono ?_; rintro e w1 ⟨he, hb1⟩; rw [hms] at he; subst he; have hc1 : Below w0.heap.size w0 w1 := undrew hb1; have P1 := Lib.hid (hold3 hc1 (by omega) P0.out); have T1 := Lib.hid (T0.out.trans (hc1.mono (B' := w.heap.size) (by omega))); have I1 := Lib.hid (I0.out.below hc1); clear hb1 hc1; obtain ⟨p0, p1, p2⟩ := P1.out)
          | (go_at_call 130; refine (implLineOk_any A n c zs _ Hn.out hm I1.out).mono ?_; rintro e w2 ⟨he, rfl⟩; rw [hli] at he; subst he)))
      | fail "the region"
    all_goals
      go_wp2
      go_ret
      exact ⟨ret_bool HR.out.symm, T1.out⟩
  have HR := Lib.hid (good_is (m := ⟨W, t, k⟩) hms hli)
  have HL := Lib.hid hli; have HM := Lib.hid hms
  obtain ⟨s0, s1, s2⟩ := lineB_sum hli
  go_enter Tryz.func100, Tryz.ntmps100
  go_wp2_with fail
  clear hw0
  have hz := Z0.out
  first
    | go_region_held3 (fun w' => w'.cell? ⟨w.heap.size, 0, none⟩ = some (.int .i64 W) ∧ w'.cell? ⟨w.heap.size, 1, none⟩ = some (.int .i64 t) ∧ w'.cell? ⟨w.heap.size, 2, none⟩ = some (.int .i64 k)) (first | go_keep | exact P1.out | exact P3.out | exact P4.out) (first
        | (go_at_call 115; refine (implMeasureOk_any W t k _).mono ?_; rintro e w1 ⟨he, hb1⟩; rw [HM.out] at he; subst he; have hc1 : Below w0.heap.size w0 w1 := undrew hb1; have P1 := Lib.hid (hold3 hc1 (by omega) P0.out); have T1 := Lib.hid (T0.out.trans (hc1.mono (B' := w.heap.size) (by omega))); have I1 := Lib.hid (I0.out.below hc1); have z1 := hc1.size; clear hb1 hc1; obtain ⟨p0, p1, p2⟩ := P1.out)
        | (go_at_call 130; refine (implLineOk_any A n c zs _ Hn.out hm I1.out).mono ?_; rintro e w2 ⟨he, rfl⟩; rw [HL.out] at he; subst he)
        | (go_at_call 131; refine (loadOf_any A n c zs _ Hn.out I1.out HL.out).mono ?_; rintro e w3 ⟨rfl, hb3⟩; have P3 := Lib.hid (hold3 hb3 (by omega) P1.out); have T3 := Lib.hid (T1.out.trans (hb3.mono (B' := w.heap.size) (by omega))); have z3 := hb3.size; clear hb3; obtain ⟨p0, p1, p2⟩ := P3.out)
        | (go_at_call 132; refine (ldFits_any (sumL zs) (bandsN zs) W t k _ s0 (by omega) s2 HM.out).mono ?_; rintro e w4 ⟨rfl, hb4⟩; have P4 := Lib.hid (hold3 hb4 (by omega) P3.out); have T4 := Lib.hid (T3.out.trans (hb4.mono (B' := w.heap.size) (by omega))); clear hb4))
    | fail "the region"
  all_goals
    go_wp2
    go_ret
    exact ⟨ret_bool HR.out.symm, T4.out⟩
end Go.Proofs.YtobakeahbgodbaaGreat

namespace Go.Proofs.YtobakeahbgodbaaGreat
open Go.RowKit
set_option linter.unusedVariables false

/-- the world in which a function begins that boxes a measure and lays a setting -/
theorem msStWorld (w : World) (W t k : Int) (s : Value) : ∃ w0, (w.alloc (.cells #[.int .i64 W, .int .i64 t, .int .i64 k] 27)).alloc (.cells #[.int .i64 W, .int .i64 t, .int .i64 k, s] 109) = w0 ∧ Below w.heap.size w w0 ∧ w0.heap.size = w.heap.size + 2 ∧ St w0 (w.heap.size + 1) W t k s := by
  refine ⟨_, rfl, (below_new _ _).trans ((below_new _ _).mono (by simp)), by simp, ?_⟩
  have := stWorld (w.alloc (.cells #[.int .i64 W, .int .i64 t, .int .i64 k] 27)) W t k s
  obtain ⟨w0, h0, _, _, h⟩ := this
  rw [h0]
  rwa [World.size_alloc] at h

end Go.Proofs.YtobakeahbgodbaaGreat

namespace Go.Proofs.YtobakeahbgodbaaGreat
open Go.RowKit
set_option linter.unusedVariables false

set_option maxRecDepth 100000 in
set_option maxHeartbeats 3200000 in
theorem implIsBreaking_any (W t k : Int) (A : Option Addr) (n c : Nat) (zs : List Int) (Al : Option Addr) (q d : Nat) (ls : List Int) (w : World) (hn : zs.length = n) (hc : n ≤ c) (hcm : c ≤ maxLen) (h : Ints w A zs) (hq : ls.length = q) (hqm : q ≤ maxLen) (hl : Ints w Al ls) :
    Calls Tryz.prog 43 #[.agg #[.int .i64 W, .int .i64 t, .int .i64 k], .slice A n c, .slice Al q d] w fun e w' => e = .returned (.bool (isBrk ⟨W, t, k⟩ zs ls)) ∧ Below w.heap.size w w' := by
  have C := fun (w : World) (hI : Ints w A zs) => stOk_any W t k A n c zs w hn (by omega) hI
  have D := fun (ad : Addr) (a b : Nat) (w : World) (hI : Ints w (some ad) zs) (hm : msrB ⟨W, t, k⟩ = true) (ht : textB zs = true) (hab : a < b) (hb : b ≤ n) => stLine_any W t k ad n c zs a b w hn hc hcm hI hm ht hab hb
  obtain ⟨w0, hw0, hb0, hz0, P⟩ := msStWorld w W t k (.slice A n c)
  have T0 := Lib.hid hb0; have P0 := Lib.hid P; have Z0 := Lib.hid hz0
  have I0 := Lib.hid (h.below hb0); have L0 := Lib.hid (hl.below hb0)
  have CC := Lib.hid C; have DD := Lib.hid D; have Hn := Lib.hid hn; have Hq := Lib.hid hq
  obtain ⟨p0, p1, p2, p3⟩ := P
  obtain ⟨q0, q1, q2⟩ := lay3 w (.int .i64 W) (.int .i64 t) (.int .i64 k) 27
  clear hb0 hz0 hn h C D hc hcm hq hl
  unfold maxLen at hqm
  cases ho : (msrB ⟨W, t, k⟩ && textB zs)
  · have HR : Hid (isBrk ⟨W, t, k⟩ zs ls = false) := by show _ = _; unfold isBrk; rw [okW_no ho]; rfl
    go_enter Tryz.func43, Tryz.ntmps43
    go_wp2_with fail
    clear hw0
    refine (CC.out _ I0.out).mono ?_
    rintro e w1 ⟨he, hb1⟩
    rw [ho] at he; subst he
    have T1 := Lib.hid (T0.out.trans (hb1.mono (B' := w.heap.size) (by have := Z0.out; omega)))
    clear hb1 p0 p1 p2 p3 ho q0 q1 q2
    go_wp2
    go_ret
    exact ⟨ret_bool HR.out.symm, T1.out⟩
  have hq := ho
  rw [Bool.and_eq_true] at hq
  have HM := Lib.hid hq
  obtain ⟨_, hl1, hl2⟩ := textB_parts hq.2
  rw [Hn.out] at hl1 hl2
  have hA := ints_some I0.out (by rw [Hn.out]; exact hl1)
  clear hq
  obtain ⟨ad, rfl⟩ := hA
  have DD2 := Lib.hid (fun a b w h hab hb => DD.out ad a b w h HM.out.1 HM.out.2 hab hb)
  have HR : Hid (isBrk ⟨W, t, k⟩ zs ls = brkF ⟨W, t, k⟩ zs 0 ls) := by show _ = _; unfold isBrk okW; rw [ho]; rfl
  clear DD
  go_enter Tryz.func43, Tryz.ntmps43
  go_wp2_with fail
  clear hw0
  refine (CC.out _ I0.out).mono ?_
  rintro e w1 ⟨he, hb1⟩
  rw [ho] at he; subst he
  have T1 := Lib.hid (T0.out.trans (hb1.mono (B' := w.heap.size) (by have := Z0.out; omega)))
  have I1 := Lib.hid (I0.out.below hb1); have L1 := Lib.hid (L0.out.below hb1)
  have P1 := Lib.hid (St.hold hb1 (by have := Z0.out; omega) P0.out)
  have Z1 : Hid (w.heap.size + 1 < w1.heap.size) := by show _ < _; have := Z0.out; have := hb1.size; omega
  clear p0 p1 p2 p3 ho q0 q1 q2 hb1 T0 I0 L0 P0 Z0 CC
  go_wp2_with fail
  go_loopw [8, 19] (fun f i wr => ∃ j p : Nat, j ≤ q ∧ i = .int .i64 j ∧ f = .int .i64 p ∧ p ≤ n ∧ Hid (brkF ⟨W, t, k⟩ zs 0 ls = brkF ⟨W, t, k⟩ zs p (ls.drop j)) ∧ Below w1.heap.size w1 wr) (fun _ i _ => q - (intOf i).toNat)
  case atStart => exact ⟨0, 0, Nat.zero_le _, rfl, rfl, Nat.zero_le _, rfl, Below.refl _ _⟩
  case round =>
    obtain ⟨j, p, hj, rfl, rfl, hp, HB, hb⟩ := hrel
    have B2 := Lib.hid hb
    have P2 := St.hold hb Z1.out P1.out
    have I2 := Lib.hid (I1.out.below hb)
    have L2 := Lib.hid (L1.out.below hb)
    have T2 := Lib.hid (T1.out.trans (hb.mono (B' := w.heap.size) (by have := Z1.out; omega)))
    have Z2 : Hid (w1.heap.size ≤ wr.heap.size) := hb.size
    clear hb
    obtain ⟨p0, p1, p2, p3⟩ := P2
    by_cases hlt : j < q
    · obtain ⟨al, x, rfl, hx, hcx⟩ := L2.out.at_ (k := j) (by rw [Hq.out]; exact hlt)
      have e1 : IntKind.i64.wrap ((n : Int) - (p : Int)) = (n : Int) - (p : Int) := by rw [IntKind.wrap_i64]; omega
      cases hin : inB x 1 ((n : Int) - (p : Int))
      · have HF : Hid (brkF ⟨W, t, k⟩ zs 0 ls = false) := by show _ = _; rw [HB.out, brkF_at hx.out, Hn.out, hin]; rfl
        go_wp2_with fail
        refine (isFrom_any _ _ _ _).mono ?_
        rintro e w3 ⟨he, rfl⟩
        rw [hin] at he; subst he
        clear hin
        go_wp2
        go_ret
        exact ⟨ret_bool (by rw [HR.out, HF.out]), T2.out⟩
      · have hxr := inB_true hin
        obtain ⟨u, rfl⟩ : ∃ u : Nat, x = (u : Int) := ⟨x.toNat, by omega⟩
        have hu1 : p < p + u := by omega
        have hu2 : p + u ≤ n := by omega
        have HS : Hid (brkF ⟨W, t, k⟩ zs 0 ls = (lineW ⟨W, t, k⟩ zs p (p + u) && brkF ⟨W, t, k⟩ zs (p + u) (ls.drop (j + 1)))) := by show _ = _; rw [HB.out, brkF_at hx.out, Hn.out, hin, Bool.true_and]; rfl
        obtain ⟨r, hr⟩ : ∃ r, p + u = r := ⟨_, rfl⟩
        have hcast : (p : Int) + (u : Int) = (r : Int) := by omega
        have e2 : IntKind.i64.wrap ((p : Int) + (u : Int)) = (r : Int) := by rw [IntKind.wrap_i64]; omega
        have HI := Lib.hid hin
        rw [hr] at HS hu1 hu2
        clear hin hxr hr
        go_wp2_with fail
        refine (isFrom_any _ _ _ _).mono ?_
        rintro e w3 ⟨he, rfl⟩
        rw [HI.out] at he; subst he
        go_wp2_with fail
        clear p0 p1 p2 p3 HI
        refine (DD2.out p r _ I2.out hu1 hu2).mono ?_
        rintro e w4 ⟨rfl, hb4⟩
        have T4 := Lib.hid (T2.out.trans (hb4.mono (B' := w.heap.size) (by have := Z2.out; have := Z1.out; omega)))
        have B4 := Lib.hid (B2.out.trans (hb4.mono (B' := w1.heap.size) Z2.out))
        clear hb4
        cases hw : lineW ⟨W, t, k⟩ zs p r
        · have HF : Hid (brkF ⟨W, t, k⟩ zs 0 ls = false) := by show _ = _; rw [HS.out, hw]; rfl
          go_wp2
          go_ret
          exact ⟨ret_bool (by rw [HR.out, HF.out]), T4.out⟩
        · have HF : Hid (brkF ⟨W, t, k⟩ zs 0 ls = brkF ⟨W, t, k⟩ zs r (ls.drop (j + 1))) := by show _ = _; rw [HS.out, hw, Bool.true_and]
          clear HS HB
          go_wp2
          go_roundw
          case rel => exact ⟨j + 1, r, by omega, by go_num, rfl, hu2, HF, B4.out⟩
          case measure => simp [intOf]; omega
    · have hkn : j = q := by omega
      subst hkn
      rw [brkF_end Hq.out, Hn.out] at HB
      by_cases hpn : p = n
      · subst hpn
        go_wp2
        go_ret
        exact ⟨ret_bool (by rw [HR.out, HB.out]; simp), T2.out⟩
      · have hd : ((p : Int) == (n : Int)) = false := by rw [beq_eq_false_iff_ne]; omega
        have hdx : Hid (decide (p = n) = false) := by show _ = _; exact decide_eq_false hpn
        clear hpn
        go_wp2
        go_ret
        exact ⟨ret_bool (by rw [HR.out, HB.out, hdx.out]), T2.out⟩
end Go.Proofs.YtobakeahbgodbaaGreat

namespace Go.Proofs.YtobakeahbgodbaaGreat
open Go.RowKit
set_option linter.unusedVariables false

end Go.Proofs.YtobakeahbgodbaaGreat

namespace Go.Proofs.YtobakeahbgodbaaGreat
open Go.RowKit
set_option linter.unusedVariables false

theorem CMapG.anti {w : World} {r : Nat} {zs : List Int} {G G' : Nat → Prop} (h : CMapG w r zs G) (hG : ∀ k, G' k → G k) : CMapG w r zs G' := h.join (fun k hk => .inl (hG k hk))
theorem CMapG.empty {w : World} {r : Nat} (zs : List Int) (h : w.heap[r]? = some (.map #[] 0)) : CMapG w r zs (fun k => k ≠ r) := ⟨fun h => h rfl, #[], 0, h, fun e he => by cases he⟩

/-- an append to a row: the counter minds it not -/
theorem CMapG.pushed {w w' : World} {r : Nat} {zs : List Int} {v v' : Value} (h : CMapG w r zs (fun k => v.ownBlock = some k)) (hg : w.grownBy w' v.ownBlock) (hl : ∀ g, v'.ownBlock = some g → v.ownBlock = some g ∨ w.heap.size ≤ g) : CMapG w' r zs (fun k => v'.ownBlock = some k) :=
  ((h.join (G' := fun k => v.ownBlock = some k ∨ w.heap.size ≤ k) (fun k hk => hk)).ext (fun k hk hG => hg.block k hk (fun e => hG (.inl e.symm)))).anti (fun k hk => hl k hk)
theorem CMapG.kept {w w' : World} {r : Nat} {zs : List Int} {G : Nat → Prop} (h : CMapG w r zs G) (hb : Below w.heap.size w w') : CMapG w' r zs G := h.below hb

theorem hold3by {w w' : World} {B r : Nat} {x y z : Value} (hg : w.grownBy w' (some r)) (hB : B ≠ r) (h : w.cell? ⟨B, 0, none⟩ = some x ∧ w.cell? ⟨B, 1, none⟩ = some y ∧ w.cell? ⟨B, 2, none⟩ = some z) :
    w'.cell? ⟨B, 0, none⟩ = some x ∧ w'.cell? ⟨B, 1, none⟩ = some y ∧ w'.cell? ⟨B, 2, none⟩ = some z := by
  have hl : B < w.heap.size := World.block_lt_of_cell? _ _ h.1
  have hk : w'.heap[B]? = w.heap[B]? := hg.block B hl (fun e => hB (by cases e; rfl))
  exact ⟨(World.cell?_of_block (a := ⟨B, 0, none⟩) hk).trans h.1, (World.cell?_of_block (a := ⟨B, 1, none⟩) hk).trans h.2.1, (World.cell?_of_block (a := ⟨B, 2, none⟩) hk).trans h.2.2⟩

end Go.Proofs.YtobakeahbgodbaaGreat

namespace Go.Proofs.YtobakeahbgodbaaGreat
open Go.RowKit
set_option linter.unusedVariables false

theorem grown_trans {a b c : World} {row : Option Nat} (h : a.grownBy b row) (k : b.grownBy c row) : a.grownBy c row :=
  ⟨k.os.trans h.os, k.tape.trans h.tape, k.output.trans h.output, Nat.le_trans h.size k.size, fun i hi hne => (k.block i (Nat.lt_of_lt_of_le hi h.size) hne).trans (h.block i hi hne)⟩

set_option maxRecDepth 100000 in
/-- where the row lies behind an append: where it lay, or in a block that is new -/
theorem append_lies {base : Nat} {v v' : Value} {n : Nat} {xs news : List Value} {w w' : World} {ty : TypeId} (i : TypeInfo) (hi : Tryz.prog.info? 3 = some i) (hz : i.zero = some (.int .i64 0)) (hsz : i.size = 1) (hby : i.bytes = 8)
    (hown : w.ownsRow base 3 1 v n xs) (ad : Addr) (m c : Nat) (hl : news.length = m * 1) (hnews : ∀ j u, news[j]? = some u → w.cell? (ad.add j) = some u) (h1 : ∀ u ∈ news, u.oneCell' = true)
    (hn : n + m ≤ 4194304) (hr : (Builtin.append_ #[23, 23] ty #[v, .slice (some ad) m c]).run Tryz.prog w = .ok v' w') : v'.ownBlock = v.ownBlock ∨ v'.ownBlock = some w.heap.size := by
  rcases hown.2 with ⟨rfl, rfl⟩ | ⟨g, cap, cur, rfl, hbg, hg, hnc, hcm, hcs, htake⟩
  · by_cases hm : m = 0
    · left
      subst hm
      have hn0 : news = [] := List.eq_nil_of_length_eq_zero (by simpa using hl)
      subst hn0
      have hu := Tryz.underlying23
      simp [Builtin.append_, run_underlying hu, sizeOf, typeInfo, hi, Builtin.lenOf, Builtin.firstCells, loadCells, loadCellsFrom] at hr
      rw [← hr.1]
    · right
      have hr2 := run_append_nil (P := Tryz.prog) w 23 ty 3 i (.int .i64 0) Tryz.underlying23 hi hz ad m c news (by rw [hsz]; exact hl) hnews (by omega) (by omega) (by rw [hby]; omega)
      rw [hr] at hr2
      injection hr2 with e1 e2
      rw [e1]; rfl
  · by_cases hroom : n + m ≤ cap
    · left
      have hr2 := run_append_room (P := Tryz.prog) w 23 ty 3 i Tryz.underlying23 hi g n cap cur hg ad m c news (by rw [hsz]; exact hl) hnews h1 hroom (by rw [hsz, hl, hcs]; omega)
      rw [hr] at hr2
      injection hr2 with e1 e2
      rw [e1]; rfl
    · right
      have hr2 := run_append_grow (P := Tryz.prog) w 23 ty 3 i (.int .i64 0) Tryz.underlying23 hi hz ⟨g, 0, none⟩ n cap xs (by rw [hsz]; exact hown.1) (hown.cells (g := g) rfl) ad m c news (by rw [hsz]; exact hl) hnews (by omega) (by omega) (growslice_fits (by omega) (by rw [hby]; omega))
      rw [hr] at hr2
      injection hr2 with e1 e2
      rw [e1]; rfl

section
variable {ops : Array Oper} {rest : List Oper} {o : Oper} {a : Act} {Q : Exit → Act → World → Prop}
/-- append(s, xs...), where the row lies told; xs not empty -/
theorem wpl_append2 (w : World) (hg : o.guard = none) (s x : Operand) (ho : o.op = .call { callee := .builtin .append, args := #[s, x], argTypes := #[23, 23] })
    (B : Nat) (v : Value) (zs ys : List Int) (A : Option Addr) (m c : Nat) (hs : a.eval s = v) (hx : a.eval x = .slice A m c) (hm : ys.length = m) (hpos : 0 < m) (hI : Ints w A ys) (hown : Own w B v zs) (hB : B ≤ w.heap.size) (hlen : zs.length + m ≤ 2097152)
    (hK : ∀ v' w', Own w' B v' (zs ++ ys) → w.grownBy w' v.ownBlock → (v'.ownBlock = v.ownBlock ∨ v'.ownBlock = some w.heap.size) → wpList Tryz.prog ops Q rest (a.put o.dst v') w') :
    wpList Tryz.prog ops Q (o :: rest) a w := by
  obtain ⟨i0, hi, hz0, hz1, hz2⟩ := info_parts intInfo
  obtain ⟨ad, rfl, hc⟩ := hI (by omega)
  refine wpList_plain hg fun K hK' => ?_
  have hl : (ys.map (Value.int .i64)).length = m * 1 := by simp [hm]
  have hnews : ∀ j u, (ys.map (Value.int .i64))[j]? = some u → w.cell? (ad.add j) = some u := by
    intro j u hj
    rw [List.getElem?_map] at hj
    cases hy : ys[j]? with
    | none => rw [hy] at hj; cases hj
    | some y =>
      rw [hy] at hj
      simp at hj; subst hj
      rw [hc j (lt_at hy), getD_at hy]
  have h1 : ∀ u ∈ ys.map (Value.int .i64), u.oneCell' = true := by
    intro u hu
    obtain ⟨y, _, rfl⟩ := List.mem_map.1 hu
    rfl
  obtain ⟨v', w', hr, h2, h3, h4⟩ := run_append_own (P := Tryz.prog) w B 23 o.type 3 i0 (.int .i64 0) 1 8 Tryz.underlying23 hi hz0 hz1 hz2 rfl (by decide) v zs.length (zs.map (Value.int .i64)) hown ad m c _ hl hnews h1 (by unfold maxLen; omega) (by omega) hB
  have hlie := append_lies i0 hi hz0 hz1 hz2 hown ad m c hl hnews h1 (by omega) hr
  unfold Oper.wp execOp
  simp only [ho, resolve, invoke, builtin, Sem.run_bind, Sem.run_pure, Result.andThen_ok, List.map_toArray, List.map_cons, List.map_nil, hs, hx, hr]
  refine hK' _ _ (hK v' w' ?_ h3 hlie)
  unfold Own
  rw [List.map_append, List.length_append, hm]
  exact h2

/-- append(s, q), where the row lies told -/
theorem wpl_push2 (w : World) (hg : o.guard = none) (s x : Operand) (ho : o.op = .call { callee := .builtin .append, args := #[s, x], argTypes := #[23, 23] })
    (B : Nat) (v : Value) (zs : List Int) (q : Int) (hs : a.eval s = v) (hx : a.eval x = .slice (some ⟨w.heap.size, 0, none⟩) 1 1) (hown : Own w B v zs) (hB : B ≤ w.heap.size) (hlen : zs.length ≤ 1048576)
    (hK : ∀ v' w', Own w' B v' (zs ++ [q]) → w.grownBy w' v.ownBlock → (∀ g, v'.ownBlock = some g → v.ownBlock = some g ∨ w.heap.size ≤ g) → wpList Tryz.prog ops Q rest (a.put o.dst v') w') :
    wpList Tryz.prog ops Q (o :: rest) a (w.alloc (.cells #[.int .i64 q] 3)) := by
  refine wpl_append2 _ hg s x ho B v zs [q] (some ⟨w.heap.size, 0, none⟩) 1 1 hs hx rfl (by omega) (fun _ => ⟨_, rfl, fun j hj => ?_⟩) (World.ownsRow.alloc hown _) (by simp; omega) (by omega) (fun v' w' h2 h3 h4 => hK v' w' h2 (grown_trans (World.grownBy_alloc w _ _) h3) (fun g hg' => ?_))
  · have : j = 0 := by simp at hj; exact hj
    subst this
    rw [add_zero_at, World.cell?_alloc_at _ _ _ _ rfl]
    rfl
  · rcases h4 with h4 | h4
    · left; rw [← h4]; exact hg'
    · right; rw [h4] at hg'; injection hg' with hg'; rw [← hg', World.size_alloc]; omega
end
theorem IntsB.grown {w w' : World} {b : Nat} {A : Option Addr} {zs : List Int} {row : Option Nat} (h : IntsB w b A zs) (hg : w.grownBy w' row) (hb : b ≤ w.heap.size) (hne : ∀ ad, A = some ad → row ≠ some ad.block) : IntsB w' b A zs := fun hn => by
  obtain ⟨ad, e, hl, hc⟩ := h hn
  exact ⟨ad, e, hl, fun j hj => hg.cell (hc j hj) (by rw [block_add]; exact fun e' => hne ad e e'.symm)⟩
end Go.Proofs.YtobakeahbgodbaaGreat

namespace Go.Proofs.YtobakeahbgodbaaGreat
open Go.RowKit
set_option linter.unusedVariables false

/-- the widths of at most j in which the words have a breaking -/
def wdsF (t k : Int) (zs : List Int) : Nat → List Int
  | 0 => []
  | j + 1 => if 0 < wayF ⟨(j : Int) + 1, t, k⟩ zs 0 then wdsF t k zs j ++ [(j : Int) + 1] else wdsF t k zs j
theorem wdsF_len (t k : Int) (zs : List Int) (j : Nat) : (wdsF t k zs j).length ≤ j := by
  induction j with
  | zero => simp [wdsF]
  | succ j ih =>
    rw [wdsF]; split
    · simp; exact ih
    · omega
theorem wdsF_yes {t k : Int} {zs : List Int} {j : Nat} (h : 0 < wayF ⟨(j : Int) + 1, t, k⟩ zs 0) : wdsF t k zs (j + 1) = wdsF t k zs j ++ [(j : Int) + 1] := by rw [wdsF, if_pos h]
theorem wdsF_no {t k : Int} {zs : List Int} {j : Nat} (h : ¬ 0 < wayF ⟨(j : Int) + 1, t, k⟩ zs 0) : wdsF t k zs (j + 1) = wdsF t k zs j := by rw [wdsF, if_neg h]
def wdsB (m : Msr) (zs : List Int) (most : Int) : Bool := okW m zs && inB most 0 300
def wdsA (m : Msr) (zs : List Int) (most : Int) : List Int := if wdsB m zs most then wdsF m.t m.k zs most.toNat else []
theorem wdsA_len (m : Msr) (zs : List Int) (most : Int) : (wdsA m zs most).length ≤ 1048576 := by
  unfold wdsA
  split
  · rename_i h
    unfold wdsB at h
    rw [Bool.and_eq_true] at h
    have h1 := inB_true h.2
    have h2 := wdsF_len m.t m.k zs most.toNat
    omega
  · simp
theorem msrB_other {W t k V : Int} (h : msrB ⟨W, t, k⟩ = true) (h1 : 1 ≤ V) (h2 : V ≤ 2000) : msrB ⟨V, t, k⟩ = true := by
  have h3 := msrB_iff.1 h
  exact msrB_iff.2 ⟨h1, h2, h3.2.2⟩

theorem IntsB.keep3 {w w' : World} {b r : Nat} {A : Option Addr} {zs : List Int} (h : IntsB w b A zs) (hg : w.grownBy w' (some r)) (hr : b ≤ r) : IntsB w' b A zs := fun hn => by
  obtain ⟨ad, e, hl, hc⟩ := h hn
  exact ⟨ad, e, hl, fun j hj => (World.cell?_of_block (hg.block _ (World.block_lt_of_cell? _ _ (hc j hj)) (fun e => by injection e with e; rw [block_add] at e; omega))).trans (hc j hj)⟩

end Go.Proofs.YtobakeahbgodbaaGreat

namespace Go.Proofs.YtobakeahbgodbaaGreat
open Go.RowKit
set_option linter.unusedVariables false

theorem run_append_none_int {w : World} (base : Nat) (ty : TypeId) (v : Value) (zs : List Int) (c : Nat) (hown : Own w base v zs) :
    (Builtin.append_ #[23, 23] ty #[v, .slice none 0 c]).run Tryz.prog w = .ok v w := by
  obtain ⟨i0, hi, hz0, hz1, hz2⟩ := info_parts intInfo
  have hu := Tryz.underlying23
  rcases hown.2 with ⟨rfl, h0⟩ | ⟨g, cap, cur, rfl, _, _, hnc, _⟩
  · simp [Builtin.append_, run_underlying hu, sizeOf, typeInfo, hi, Builtin.lenOf, Builtin.firstCells]
  · simp [Builtin.append_, run_underlying hu, sizeOf, typeInfo, hi, Builtin.lenOf, Builtin.firstCells, hnc, storeCells]

section
variable {ops : Array Oper} {rest : List Oper} {o : Oper} {a : Act} {Q : Exit → Act → World → Prop}
/-- append(s, xs...) onto a row of the call's own, whatever xs -/
theorem wpl_append_any (w : World) (hg : o.guard = none) (s x : Operand) (ho : o.op = .call { callee := .builtin .append, args := #[s, x], argTypes := #[23, 23] })
    (B : Nat) (v : Value) (zs ys : List Int) (A : Option Addr) (m c : Nat) (hs : a.eval s = v) (hx : a.eval x = .slice A m c) (hm : ys.length = m) (hI : Ints w A ys) (hown : Own w B v zs) (hB : B ≤ w.heap.size) (hlen : zs.length + m ≤ 2097152)
    (hK : ∀ v' w', Own w' B v' (zs ++ ys) → w.grownBy w' v.ownBlock → (v'.ownBlock = v.ownBlock ∨ v'.ownBlock = some w.heap.size) → wpList Tryz.prog ops Q rest (a.put o.dst v') w') :
    wpList Tryz.prog ops Q (o :: rest) a w := by
  rcases Nat.eq_zero_or_pos m with h0 | hpos
  · subst h0
    have hy : ys = [] := List.eq_nil_of_length_eq_zero hm
    subst hy
    cases A with
    | none =>
      refine wpList_plain hg fun K hK' => ?_
      have hrun := run_append_none_int (w := w) B o.type v zs c hown
      unfold Oper.wp execOp
      simp only [ho, resolve, invoke, builtin, Sem.run_bind, Sem.run_pure, Result.andThen_ok, List.map_toArray, List.map_cons, List.map_nil, hs, hx, hrun]
      exact hK' _ _ (hK v w (by rw [List.append_nil]; exact hown) (World.grownBy.refl w _) (.inl rfl))
    | some ad =>
      obtain ⟨i0, hi, hz0, hz1, hz2⟩ := info_parts intInfo
      refine wpList_plain hg fun K hK' => ?_
      obtain ⟨v', w', hr, h2, h3, h4⟩ := run_append_own (P := Tryz.prog) w B 23 o.type 3 i0 (.int .i64 0) 1 8 Tryz.underlying23 hi hz0 hz1 hz2 rfl (by decide) v zs.length (zs.map (Value.int .i64)) hown ad 0 c [] rfl (fun j u hj => by simp at hj) (fun u hu => by simp at hu) (by unfold maxLen; omega) (by omega) hB
      have hlie := append_lies i0 hi hz0 hz1 hz2 hown ad 0 c (news := []) rfl (fun j u hj => by simp at hj) (fun u hu => by simp at hu) (by omega) hr
      unfold Oper.wp execOp
      simp only [ho, resolve, invoke, builtin, Sem.run_bind, Sem.run_pure, Result.andThen_ok, List.map_toArray, List.map_cons, List.map_nil, hs, hx, hr]
      refine hK' _ _ (hK v' w' ?_ h3 hlie)
      unfold Own
      rw [List.append_nil]
      simpa using h2
  · exact wpl_append2 w hg s x ho B v zs ys A m c hs hx hm hpos hI hown hB hlen hK
end

/-- one of the slices that are laid one behind the other -/
structure Part where
  A : Option Addr
  n : Nat
  c : Nat
  zs : List Int
def flat (ps : List Part) : List Int := ps.flatMap (·.zs)
theorem flat_at {ps : List Part} {k : Nat} {p : Part} (h : ps[k]? = some p) : flat (ps.take (k + 1)) = flat (ps.take k) ++ p.zs := by
  have : ps.take (k + 1) = ps.take k ++ [p] := by rw [List.take_add_one, h]; rfl
  unfold flat
  rw [this, List.flatMap_append]; simp
theorem flat_le (ps : List Part) (k : Nat) : (flat (ps.take k)).length ≤ (flat ps).length := by
  have := congrArg flat (List.take_append_drop k ps)
  unfold flat at *
  rw [List.flatMap_append] at this
  rw [← this, List.length_append]; omega
def PartsAt (w : World) (G : Addr) (b : Nat) (ps : List Part) : Prop := G.block < b ∧ ∀ j p, ps[j]? = some p → w.cell? (G.add j) = some (.slice p.A p.n p.c) ∧ p.zs.length = p.n ∧ IntsB w b p.A p.zs
theorem PartsAt.keep {w w' : World} {G : Addr} {b B : Nat} {ps : List Part} (h : PartsAt w G b ps) (hb : b ≤ B) (hB : Below B w w') : PartsAt w' G b ps :=
  ⟨h.1, fun j p hp => by
    obtain ⟨h1, h2, h3⟩ := h.2 j p hp
    exact ⟨(hB.cell (p := G.add j) (by rw [block_add]; have := h.1; omega)).trans h1, h2, h3.keep hb hB⟩⟩

set_option maxRecDepth 100000 in
set_option maxHeartbeats 1600000 in
/-- slices.Clone -/
theorem clone_any (A : Option Addr) (n c : Nat) (zs : List Int) (w : World) (hn : zs.length = n) (hm : n ≤ 1048576) (h : IntsB w w.heap.size A zs) :
    Calls Tryz.prog 162 #[.slice A n c] w fun e w' => ∃ v, e = .returned v ∧ Own w' w.heap.size v zs ∧ Below w.heap.size w w' := by
  have Hn := Lib.hid hn
  have H := Lib.hid h
  have heq := fun (wx : World) => Lib.run_eql_slice_nil (P := Tryz.prog) wx 23 3 A n c 0 0 Tryz.underlying23
  cases A with
  | none =>
    have hz : zs = [] := by
      cases zs with
      | nil => rfl
      | cons z zs => obtain ⟨ad, e, _⟩ := h (by simp); cases e
    subst hz
    have hn0 : n = 0 := by simpa using hn.symm
    subst hn0
    simp only [Option.isNone_none] at heq
    clear hn h
    go_enter Tryz.func162, Tryz.ntmps162
    go_wp2
    go_ret
    exact ⟨_, rfl, ⟨rfl, .inl ⟨rfl, rfl⟩⟩, Below.refl _ _⟩
  | some ad =>
    simp only [Option.isNone_some] at heq
    obtain ⟨w1, hw1⟩ : ∃ w1, w.alloc (.cells #[] 3) = w1 := ⟨_, rfl⟩
    have hb1 : Below w.heap.size w w1 := by rw [← hw1]; exact below_new _ _
    have hO1 : Own w1 w.heap.size (.slice (some ⟨w.heap.size, 0, none⟩) 0 0) [] := by rw [← hw1]; exact World.ownsRow_lit w #[] 0 (Nat.le_refl _) (Nat.zero_le _) rfl
    have B1 := Lib.hid hb1; have O1 := Lib.hid hO1
    have I1 := Lib.hid ((H.out.keep (Nat.le_refl _) hb1).ints)
    have z1 := hb1.size
    clear hn h hb1 hO1
    go_enter Tryz.func162, Tryz.ntmps162
    go_wp2_with (at_builtin; refine wpl_append_any _ rfl (.tmp 5) (.tmp 6) rfl w.heap.size _ [] zs (some ad) n c rfl rfl Hn.out I1.out O1.out z1 (by simp; omega) ?_; intro v' w4 hO4 hg4 _)
    rw [List.nil_append] at hO4
    have O4 := Lib.hid hO4; have B4 := Lib.hid (B1.out.trans ((Below.refl w.heap.size w1).grown hg4 z1 (fun g hg => (World.ownsRow.lt O1.out g hg).1)))
    clear hO4 hg4
    go_ret
    exact ⟨_, rfl, O4.out, B4.out⟩
end Go.Proofs.YtobakeahbgodbaaGreat

namespace Go.Proofs.YtobakeahbgodbaaGreat
open Go.RowKit Go.Shelf
set_option linter.unusedVariables false

/-- the sum over those ends that lie ahead of lim -/
def sumTo (m : Msr) (zs : List Int) (lim : Nat) (x : Int) (l : List Nat) : Int := l.foldl (fun acc q => if q < lim then wrap64 (acc + wayF m zs q) else acc) x
theorem sumTo_snoc (m : Msr) (zs : List Int) (lim : Nat) (x : Int) (l : List Nat) (q : Nat) : sumTo m zs lim x (l ++ [q]) = if q < lim then wrap64 (sumTo m zs lim x l + wayF m zs q) else sumTo m zs lim x l := by
  unfold sumTo; rw [List.foldl_append]; rfl
theorem sumTo_is {m : Msr} {zs : List Int} (hz : zs.length ≤ 40) {p lim : Nat} {x : Int} (h0 : 0 ≤ x) (h1 : x ≤ 1099511627776) (hp : p ≤ zs.length) (j : Nat) (hj : j ≤ zs.length + 1) (hl : lim ≤ zs.length + 1) : sumTo m zs lim x (endsTo m zs p j) = x + befF m zs p (min j lim) := by
  induction j with
  | zero => rw [endsTo_low (by omega), befF_low (by omega)]; simp [sumTo]
  | succ j ih =>
    have ih := ih (by omega)
    cases hh : (decide (p < j) && lineW m zs p j)
    · rw [endsTo_no hh, ih]
      by_cases hjl : j < lim
      · rw [show min j lim = j by omega, show min (j + 1) lim = j + 1 by omega, befF_no hh]
      · rw [show min j lim = lim by omega, show min (j + 1) lim = lim by omega]
    · rw [Bool.and_eq_true, decide_eq_true_eq] at hh
      rw [endsTo_yes hh.1 hh.2, sumTo_snoc, ih]
      by_cases hjl : j < lim
      · rw [if_pos hjl, show min j lim = j by omega, show min (j + 1) lim = j + 1 by omega, befF_yes hz hh.1 (by omega) hh.2]
        have a := befF_range (m := m) hz hp (show j ≤ zs.length + 1 by omega)
        have b := wayF_range (m := m) hz (show j ≤ zs.length by omega)
        have := IntKind.wrap_i64 (x + befF m zs p j + wayF m zs j)
        unfold wrap64; omega
      · rw [if_neg hjl, show min j lim = lim by omega, show min (j + 1) lim = lim by omega]

structure IxOrd (g sb kb fb bb r : Nat) : Prop where
  a : g < sb
  b : sb < r
  c : r < kb
  d : kb < fb
  e : fb < bb
section
variable {w : World} {g sb kb fb bb r : Nat} {W t k : Int} {ad : Addr} {n c : Nat} {zs : List Int} {Al : Option Addr} {ls : List Int} {p : Nat} {x : Int} {V V' : World}
theorem Blk.by_ {w w' : World} {B r : Nat} {cs : Array Value} {T : TypeId} (h : Blk w B cs T) (hg : w.grownBy w' (some r)) (hr : B ≠ r) : Blk w' B cs T := (hg.block B h.lt (fun e => hr (by cases e; rfl))).trans h
theorem setCell_blk (V : World) (B : Nat) (o : Nat) (u : Value) (k : Nat) (hk : k ≠ B) : (V.setCell ⟨B, o, none⟩ u).heap[k]? = V.heap[k]? := Below.heap_setCell V ⟨B, o, none⟩ u k hk
theorem setCell_size (V : World) (p : Addr) (u : Value) : (V.setCell p u).heap.size = V.heap.size := by simp [World.setCell]
theorem KpE.by_ {b : Nat} (hg : V.grownBy V' (some r)) (h1 : g ≤ r) (h2 : r < b) : KpE b g V V' := ⟨hg.size, fun p hp hb => World.cell?_of_block (hg.block p.block hb (fun e => by injection e with e; omega))⟩
end
end Go.Proofs.YtobakeahbgodbaaGreat

namespace Go.Proofs.YtobakeahbgodbaaGreat
open Go.RowKit
set_option linter.unusedVariables false

set_option maxRecDepth 100000 in
set_option maxHeartbeats 1600000 in
theorem l4Rest_any (W t k : Int) (ad : Addr) (B c : Nat) (ys : List Int) (w : World) (hn : ys.length = B + 1) (h : Ints w (some ad) ys) (hm : msrB ⟨W, t, k⟩ = true) (hy : ∀ x ∈ ys, 1 ≤ x ∧ x ≤ 2000) (hB : B < 40) :
    Calls Tryz.prog 141 #[.agg #[.int .i64 W, .int .i64 t, .int .i64 k], .slice (some ad) (B + 1) c] w fun e w' => e = .returned (.tuple #[.int .i64 (W - widF (sumL ys) B t), .int .i64 B]) ∧ Below w.heap.size w w' := by
  have hM := msrB_iff.1 hm
  simp only at hM
  obtain ⟨hs0, hs1⟩ := words_sum hy (by omega)
  have hmu := mul_small (B := B) (e := t) (by omega) (by omega) (by omega) (by omega)
  have HL := Lib.hid (words_take hy (by omega))
  have HY := Lib.hid hy
  have Hn := Lib.hid hn
  have HR : Hid (W - widF (sumL ys) B t = W - sumL ys - (B : Int) * t) := by show _ = _; unfold widF; omega
  obtain ⟨w0, hw0, hb0, hz0, P⟩ := msWorld w W t k
  have T0 := Lib.hid hb0; have Z0 := Lib.hid hz0
  have I0 := Lib.hid (h.below hb0)
  obtain ⟨p0, p1, p2⟩ := P
  clear hb0 hz0 hn h hy hm
  obtain ⟨S, hS⟩ : ∃ S, sumL ys = S := ⟨_, rfl⟩
  have HS := Lib.hid hS
  rw [hS] at hs0 hs1 HR
  clear hS
  have e2 : IntKind.i64.wrap ((B : Int) * t) = (B : Int) * t := by rw [IntKind.wrap_i64]; omega
  have e3 : IntKind.i64.wrap (W - S) = W - S := by rw [IntKind.wrap_i64]; omega
  have e4 : IntKind.i64.wrap (W - S - (B : Int) * t) = W - S - (B : Int) * t := by rw [IntKind.wrap_i64]; omega
  go_enter Tryz.func141, Tryz.ntmps141
  go_wp2_with fail
  clear hw0
  go_loop [6, 11] (fun s i => ∃ j : Nat, j ≤ B + 1 ∧ i = .int .i64 j ∧ s = .int .i64 (sumL (ys.take j))) (fun _ i => B + 1 - (intOf i).toNat)
  case atStart => exact ⟨0, Nat.zero_le _, rfl, rfl⟩
  case round =>
    obtain ⟨j, hj, rfl, rfl⟩ := hrel
    by_cases hlt : j < B + 1
    · obtain ⟨ad2, x, hade, hx, hcx⟩ := I0.out.at_ (k := j) (by rw [Hn.out]; exact hlt)
      injection hade with hade; subst hade
      have HQ := Lib.hid (sumL_at hx.out)
      have hb1 := HL.out j
      have hx2 := HY.out x (mem_at hx.out)
      obtain ⟨sm, hsm⟩ : ∃ s, sumL (ys.take j) = s := ⟨_, rfl⟩
      rw [hsm] at HQ hb1 ⊢
      clear hsm e2 e3 e4 p0 p1 p2
      go_wp2
      go_round
      case rel => exact ⟨j + 1, by omega, by go_num, by rw [HQ.out]⟩
      case measure => simp [intOf]; omega
    · have hkn : j = B + 1 := by omega
      subst hkn
      rw [take_all Hn.out, HS.out]
      go_wp2
      go_ret2
      refine ⟨?_, T0.out⟩
      rw [HS.out, HR.out]
      rfl

set_option maxRecDepth 100000 in
set_option maxHeartbeats 1600000 in
theorem l4Rise_any (W t k : Int) (ad : Addr) (B c : Nat) (ys : List Int) (w : World) (hn : ys.length = B + 1) (h : Ints w (some ad) ys) (hm : msrB ⟨W, t, k⟩ = true) (hy : ∀ x ∈ ys, 1 ≤ x ∧ x ≤ 2000) (hB : B < 40) (hf : widF (sumL ys) B t ≤ W) :
    Calls Tryz.prog 142 #[.agg #[.int .i64 W, .int .i64 t, .int .i64 k], .slice (some ad) (B + 1) c] w fun e w' => e = .returned (.int .i64 (riseF ⟨W, t, k⟩ (sumL ys) B)) ∧ Below w.heap.size w w' := by
  have hM := msrB_iff.1 hm
  simp only at hM
  obtain ⟨hs0, hs1⟩ := words_sum hy (by omega)
  have hws := widF_small (L := sumL ys) (B := B) (e := t) hs0 (by omega) (by omega) (by omega) (by omega)
  have C := fun (w : World) (h : Ints w (some ad) ys) => l4Rest_any W t k ad B c ys w hn h hm hy hB
  have HR : Hid (riseF ⟨W, t, k⟩ (sumL ys) B = if B = 0 then 0 else min (k - t) ((W - widF (sumL ys) B t).tdiv B)) := rfl
  obtain ⟨R, hR⟩ : ∃ R, W - widF (sumL ys) B t = R := ⟨_, rfl⟩
  rw [hR] at C HR
  have hR0 : 0 ≤ R := by omega
  have hR1 : R ≤ 2000 := by omega
  have CC := Lib.hid C
  obtain ⟨w0, hw0, hb0, hz0, P⟩ := msWorld w W t k
  have T0 := Lib.hid hb0; have Z0 := Lib.hid hz0; have P0 := Lib.hid P
  have I0 := Lib.hid (h.below hb0)
  obtain ⟨p0, p1, p2⟩ := P
  clear hb0 hz0 hn h hy hm hs0 hs1 hws hf C hR
  go_enter Tryz.func142, Tryz.ntmps142
  go_wp2_with fail
  clear hw0 p0 p1 p2
  refine (CC.out _ I0.out).mono ?_
  rintro e w1 ⟨rfl, hb1⟩
  have T1 := Lib.hid (T0.out.trans (hb1.mono (B' := w.heap.size) (by have := Z0.out; omega)))
  obtain ⟨p0, p1, p2⟩ := hold3 hb1 (by have := Z0.out; omega) P0.out
  clear hb1 P0 T0 I0 CC
  by_cases hb : B = 0
  · subst hb
    go_wp2
    go_ret
    exact ⟨ret_int (by rw [HR.out]; simp), T1.out⟩
  · have HR2 : Hid (riseF ⟨W, t, k⟩ (sumL ys) B = min (k - t) (R.tdiv B)) := by show _ = _; rw [HR.out, if_neg hb]
    have hd := tdiv_small (x := R) (b := B) (by omega) (by omega) (by omega)
    obtain ⟨q, hq⟩ : ∃ q, R.tdiv (B : Int) = q := ⟨_, rfl⟩
    rw [hq] at hd HR2
    have hb0 : ((B : Int) == 0) = false := by rw [beq_eq_false_iff_ne]; omega
    have hbx : ¬ ((B : Int) = 0) := by omega
    have e1 : IntKind.i64.wrap (k - t) = k - t := by rw [IntKind.wrap_i64]; omega
    have e3 : IntKind.i64.wrap q = q := by rw [IntKind.wrap_i64]; omega
    clear HR
    go_wp2_with fail
    go_region
    all_goals (try go_wp2)
    all_goals
      go_ret
      refine ⟨ret_int ?_, T1.out.drew⟩
      rw [HR2.out]
      omega
theorem rest_at (m : Msr) (L : Int) (B : Nat) : restF m L B = (m.w - widF L B m.t) - (B : Int) * riseF m L B := by unfold restF widF; rw [Int.mul_add]; omega

set_option maxRecDepth 100000 in
set_option maxHeartbeats 1600000 in
theorem l4Kind_any (W t k : Int) (ad : Addr) (B c : Nat) (ys : List Int) (w : World) (hn : ys.length = B + 1) (h : Ints w (some ad) ys) (hm : msrB ⟨W, t, k⟩ = true) (hy : ∀ x ∈ ys, 1 ≤ x ∧ x ≤ 2000) (hB : B < 40) :
    Calls Tryz.prog 113 #[.agg #[.int .i64 W, .int .i64 t, .int .i64 k], .slice (some ad) (B + 1) c] w fun e w' => e = .returned (.int .i64 (kindF ⟨W, t, k⟩ (sumL ys) B)) ∧ Below w.heap.size w w' := by
  have hM := msrB_iff.1 hm
  simp only at hM
  obtain ⟨hs0, hs1⟩ := words_sum hy (by omega)
  have hws := widF_small (L := sumL ys) (B := B) (e := t) hs0 (by omega) (by omega) (by omega) (by omega)
  have hrb := riseF_bound (m := ⟨W, t, k⟩) (L := sumL ys) (B := B) hs0 (by omega) (by omega) hm
  have C := fun (w : World) (h : Ints w (some ad) ys) => l4Rest_any W t k ad B c ys w hn h hm hy hB
  have D := fun (w : World) (h : Ints w (some ad) ys) (hf : widF (sumL ys) B t ≤ W) => l4Rise_any W t k ad B c ys w hn h hm hy hB hf
  obtain ⟨r, hr⟩ : ∃ r, riseF ⟨W, t, k⟩ (sumL ys) B = r := ⟨_, rfl⟩
  obtain ⟨R, hR⟩ : ∃ R, W - widF (sumL ys) B t = R := ⟨_, rfl⟩
  have HF : Hid (fullF ⟨W, t, k⟩ (sumL ys) B = (R - (B : Int) * r == 0 || decide (R - (B : Int) * r < B))) := by
    show _ = _
    have e : restF ⟨W, t, k⟩ (sumL ys) B = R - (B : Int) * r := by rw [rest_at, hr]; show W - widF _ _ t - _ = _; rw [hR]
    unfold fullF; rw [e]
  have HS : 0 ≤ R → (0 ≤ r ∧ 0 ≤ (B : Int) * r ∧ (B : Int) * r ≤ R) := fun h0 => by
    have := riseF_spec hm (L := sumL ys) (B := B) (by show widF (sumL ys) B t ≤ W; omega)
    have e : restF ⟨W, t, k⟩ (sumL ys) B = R - (B : Int) * r := by rw [rest_at, hr]; show W - widF _ _ t - _ = _; rw [hR]
    rw [hr, e] at this
    exact ⟨this.1, Int.mul_nonneg (by omega) this.1, by omega⟩
  rw [hR] at C
  rw [hr] at D
  have CC := Lib.hid C
  have DD := Lib.hid (fun w h (h0 : 0 ≤ R) => D w h (by omega))
  have HW : Hid (widF (sumL ys) B t ≤ W ↔ 0 ≤ R) := by show _ ↔ _; omega
  have hR1 : R ≤ 2000 := by omega
  have hR2 : -2000000 ≤ R := by omega
  have HSS := Lib.hid HS
  obtain ⟨w0, hw0, hb0, hz0, P⟩ := msWorld w W t k
  have T0 := Lib.hid hb0; have Z0 := Lib.hid hz0; have P0 := Lib.hid P
  have I0 := Lib.hid (h.below hb0)
  obtain ⟨p0, p1, p2⟩ := P
  clear hb0 hz0 hn h hy hs0 hs1 hws C D hR hr HS hrb
  go_enter Tryz.func113, Tryz.ntmps113
  go_wp2_with fail
  clear hw0 p0 p1 p2
  refine (CC.out _ I0.out).mono ?_
  rintro e w1 ⟨rfl, hb1⟩
  have T1 := Lib.hid (T0.out.trans (hb1.mono (B' := w.heap.size) (by have := Z0.out; omega)))
  have I1 := Lib.hid (I0.out.below hb1)
  have Z1 : Hid (w.heap.size ≤ w1.heap.size) := by show _ ≤ _; have := Z0.out; have := hb1.size; omega
  obtain ⟨p0, p1, p2⟩ := hold3 hb1 (by have := Z0.out; omega) P0.out
  clear hb1 P0 T0 I0 CC
  by_cases h0 : 0 ≤ R
  · obtain ⟨g0, g1, g2⟩ := HSS.out h0
    have hf0 : Hid (decide (widF (sumL ys) B t ≤ W) = true) := by show _ = _; exact decide_eq_true (HW.out.2 h0)
    have hnl : ¬ R < 0 := by omega
    have DD2 := Lib.hid (fun w h => DD.out w h h0)
    have e1 : IntKind.i64.wrap ((B : Int) * r) = (B : Int) * r := by rw [IntKind.wrap_i64]; omega
    have e2 : IntKind.i64.wrap (R - (B : Int) * r) = R - (B : Int) * r := by rw [IntKind.wrap_i64]; omega
    clear h0 DD HSS
    go_wp2_with fail
    clear p0 p1 p2
    refine (DD2.out _ I1.out).mono ?_
    rintro e w2 ⟨rfl, hb2⟩
    have T2 := Lib.hid (T1.out.trans (hb2.mono (B' := w.heap.size) Z1.out))
    clear hb2
    obtain ⟨y, hy⟩ : ∃ y, R - (B : Int) * r = y := ⟨_, rfl⟩
    rw [hy] at HF e2
    have HY := Lib.hid hy
    by_cases hz : y = 0
    · subst hz
      have HK : Hid (kindF ⟨W, t, k⟩ (sumL ys) B = 2) := kindF_full (by rw [hf0.out, HF.out]; simp)
      go_wp2
      go_ret
      exact ⟨ret_int HK.out.symm, T2.out⟩
    · have hz0 : (y == 0) = false := by simpa using hz
      by_cases hlt : y < (B : Int)
      · have HK : Hid (kindF ⟨W, t, k⟩ (sumL ys) B = 2) := kindF_full (by rw [hf0.out, HF.out]; simp [hlt])
        go_wp2
        go_ret
        exact ⟨ret_int HK.out.symm, T2.out⟩
      · have HK : Hid (kindF ⟨W, t, k⟩ (sumL ys) B = 1) := kindF_fits (by rw [hf0.out, HF.out]; simp [hlt, hz]) hf0.out
        go_wp2
        go_ret
        exact ⟨ret_int HK.out.symm, T2.out⟩
  · have HK : Hid (kindF ⟨W, t, k⟩ (sumL ys) B = 0) := kindF_no (decide_eq_false (fun hf => h0 (HW.out.1 hf)))
    have hnl : R < 0 := by omega
    clear h0 DD HSS
    go_wp2
    go_ret
    exact ⟨ret_int HK.out.symm, T1.out⟩
end Go.Proofs.YtobakeahbgodbaaGreat

namespace Go.Proofs.YtobakeahbgodbaaGreat
open Go.RowKit
set_option linter.unusedVariables false

theorem kindSeg_any (W t k : Int) (ad : Addr) (M cc : Nat) (zs : List Int) (a b : Nat) (w : World) (h : Ints w (some ad) zs) (hm : msrB ⟨W, t, k⟩ = true) (ht : textB zs = true) (hab : a < b) (hb : b ≤ zs.length) (hM : b - a = M) :
    Calls Tryz.prog 113 #[.agg #[.int .i64 W, .int .i64 t, .int .i64 k], .slice (some (ad.add a)) M cc] w fun e w' => e = .returned (.int .i64 (kindW ⟨W, t, k⟩ zs a b)) ∧ Below w.heap.size w w' := by
  obtain ⟨hz, hl1, hl2⟩ := textB_parts ht
  obtain ⟨B, rfl⟩ : ∃ B, M = B + 1 := ⟨M - 1, by omega⟩
  have := l4Kind_any W t k (ad.add a) B cc (seg zs a b) w (by rw [seg_len hb]; exact hM) (ints_seg h hb) hm (fun x hx => hz x (seg_mem hx)) (by omega)
  unfold kindW
  rw [show b - a - 1 = B by omega]
  exact this
theorem riseSeg_any (W t k : Int) (ad : Addr) (M cc : Nat) (zs : List Int) (a b : Nat) (w : World) (h : Ints w (some ad) zs) (hm : msrB ⟨W, t, k⟩ = true) (ht : textB zs = true) (hab : a < b) (hb : b ≤ zs.length) (hM : b - a = M) (hl : lineW ⟨W, t, k⟩ zs a b = true) :
    Calls Tryz.prog 142 #[.agg #[.int .i64 W, .int .i64 t, .int .i64 k], .slice (some (ad.add a)) M cc] w fun e w' => e = .returned (.int .i64 (riseW ⟨W, t, k⟩ zs a b)) ∧ Below w.heap.size w w' := by
  obtain ⟨hz, hl1, hl2⟩ := textB_parts ht
  obtain ⟨B, rfl⟩ : ∃ B, M = B + 1 := ⟨M - 1, by omega⟩
  have hf := lineW_fits hl
  rw [show b - a - 1 = B by omega] at hf
  have := l4Rise_any W t k (ad.add a) B cc (seg zs a b) w (by rw [seg_len hb]; exact hM) (ints_seg h hb) hm (fun x hx => hz x (seg_mem hx)) (by omega) hf
  unfold riseW
  rw [show b - a - 1 = B by omega]
  exact this

set_option maxHeartbeats 800000 in
theorem l4Ok_any (W t k : Int) (A : Option Addr) (n c : Nat) (zs : List Int) (w : World) (hn : zs.length = n) (hm : n ≤ maxLen) (h : Ints w A zs) :
    Calls Tryz.prog 112 #[.agg #[.int .i64 W, .int .i64 t, .int .i64 k], .slice A n c] w fun e w' => e = .returned (.bool (msrB ⟨W, t, k⟩ && textB zs)) ∧ Below w.heap.size w w' := by
  have Hn := Lib.hid hn
  obtain ⟨w0, hw0, hb0, hz0, P⟩ := msWorld w W t k
  have T0 := Lib.hid hb0; have P0 := Lib.hid P; have Z0 := Lib.hid hz0
  have I0 := Lib.hid (h.below hb0)
  obtain ⟨p0, p1, p2⟩ := P
  clear hb0 hz0 hn h
  cases hms : msrB ⟨W, t, k⟩
  · go_enter Tryz.func112, Tryz.ntmps112
    go_wp2_with fail
    clear hw0
    refine (specMeasureOk_any W t k _).mono ?_
    rintro e w1 ⟨he, hb1⟩
    rw [hms] at he; subst he
    have T1 := Lib.hid (T0.out.trans (hb1.mono (B' := w.heap.size) (by have := Z0.out; omega)))
    clear hb1 p0 p1 p2 hms
    go_wp2
    go_ret
    exact ⟨rfl, T1.out⟩
  · go_enter Tryz.func112, Tryz.ntmps112
    go_wp2_with fail
    clear hw0
    refine (specMeasureOk_any W t k _).mono ?_
    rintro e w1 ⟨he, hb1⟩
    rw [hms] at he; subst he
    have T1 := Lib.hid (T0.out.trans (hb1.mono (B' := w.heap.size) (by have := Z0.out; omega)))
    have I1 := Lib.hid (I0.out.below hb1)
    clear hb1 p0 p1 p2 hms
    go_wp2_with fail
    refine (specTextOk_any A n c zs _ Hn.out hm I1.out).mono ?_
    rintro e w2 ⟨rfl, rfl⟩
    go_wp2
    go_ret
    exact ⟨ret_bool (by simp), T1.out⟩

set_option maxRecDepth 100000 in
set_option maxHeartbeats 1600000 in
theorem l4Goes_any (W t k : Int) (ad : Addr) (n c : Nat) (zs : List Int) (a q : Nat) (w : World) (hn : zs.length = n) (hc : n ≤ c) (hcm : c ≤ maxLen) (h : Ints w (some ad) zs) (hm : msrB ⟨W, t, k⟩ = true) (ht : textB zs = true) (hq : 1 ≤ q) (hb : a + q ≤ n) :
    Calls Tryz.prog 114 #[.agg #[.int .i64 W, .int .i64 t, .int .i64 k], .slice (some ad) n c, .int .i64 a, .int .i64 q] w fun e w' => e = .returned (.bool (lineW ⟨W, t, k⟩ zs a (a + q))) ∧ Below w.heap.size w w' := by
  obtain ⟨r, hr⟩ : ∃ r, a + q = r := ⟨_, rfl⟩
  have C := fun (w : World) (hI : Ints w (some ad) zs) => kindSeg_any W t k ad q (c - a) zs a r w hI hm ht (by omega) (by omega) (by omega)
  have HR : Hid (lineW ⟨W, t, k⟩ zs a r = (kindW ⟨W, t, k⟩ zs a r == 2 || (kindW ⟨W, t, k⟩ zs a r == 1 && decide (r = n)))) := by show _ = _; unfold lineW; rw [hn]
  obtain ⟨K, hK⟩ : ∃ K, kindW ⟨W, t, k⟩ zs a r = K := ⟨_, rfl⟩
  have hK3 : K = 0 ∨ K = 1 ∨ K = 2 := by rw [← hK]; exact kindF_cases _ _ _
  rw [hK] at C HR
  rw [hr]
  have CC := Lib.hid C
  unfold maxLen at hcm
  have hcast : (a : Int) + (q : Int) = (r : Int) := by omega
  have e2 : IntKind.i64.wrap ((a : Int) + (q : Int)) = (r : Int) := by rw [IntKind.wrap_i64]; obtain ⟨_, _, _⟩ := textB_parts ht; omega
  have hca : ¬ c = a := by omega
  have har : a ≤ r := by omega
  have hrc : r ≤ c := by omega
  have hra : r - a = q := by omega
  have e5 : IntKind.i64.wrap (r : Int) = (r : Int) := by rw [← hcast]; rw [e2]; omega
  have i1 : (0 : Int) ≤ (a : Int) := by omega
  have i2 : (a : Int) ≤ (r : Int) := by omega
  have i3 : (r : Int) ≤ (c : Int) := by omega
  have i4 : (0 : Int) ≤ (r : Int) := by omega
  obtain ⟨w0, hw0, hb0, hz0, P⟩ := msWorld w W t k
  have T0 := Lib.hid hb0; have P0 := Lib.hid P; have Z0 := Lib.hid hz0
  have I0 := Lib.hid (h.below hb0)
  have HN := Lib.hid hn
  obtain ⟨p0, p1, p2⟩ := P
  clear hb0 hn h hc hcm ht hm C hK hr
  go_enter Tryz.func114, Tryz.ntmps114
  go_wp2_with fail
  clear hw0
  have hz := Z0.out
  first
    | go_region_held3 (fun w' => w'.cell? ⟨w.heap.size, 0, none⟩ = some (.int .i64 W) ∧ w'.cell? ⟨w.heap.size, 1, none⟩ = some (.int .i64 t) ∧ w'.cell? ⟨w.heap.size, 2, none⟩ = some (.int .i64 k)) (first | go_keep | exact P1.out) (first
        | (go_at_call 113; refine (CC.out _ I0.out.drew).mono ?_; rintro e w1 ⟨rfl, hb1⟩; have hc1 : Below w0.heap.size w0 w1 := undrew hb1; have P1 := Lib.hid (hold3 hc1 (by omega) P0.out); have T1 := Lib.hid (T0.out.trans (hc1.mono (B' := w.heap.size) (by omega))); clear hb1 hc1))
    | fail "the region"
  all_goals
    clear hca har hrc hra i1 i2 i3 i4
    rcases hK3 with rfl | rfl | rfl
    · go_wp2
      go_ret
      exact ⟨ret_bool (by rw [HR.out]; simp), T1.out⟩
    · by_cases hbn : r = n
      · subst hbn
        go_wp2
        go_ret
        exact ⟨ret_bool (by rw [HR.out]; simp), T1.out⟩
      · have hd : ((r : Int) == (n : Int)) = false := by rw [beq_eq_false_iff_ne]; omega
        have hd2 : Hid (decide (r = n) = false) := by show _ = _; exact decide_eq_false hbn
        clear hbn
        go_wp2
        go_ret
        exact ⟨ret_bool (by rw [HR.out, hd2.out]; simp), T1.out⟩
    · go_wp2
      go_ret
      exact ⟨ret_bool (by rw [HR.out]; simp), T1.out⟩
end Go.Proofs.YtobakeahbgodbaaGreat

namespace Go.Proofs.YtobakeahbgodbaaGreat
open Go.RowKit
set_option linter.unusedVariables false

theorem rowE_zero {m : Msr} {zs : List Int} {add : Int → Nat → Nat → Int → Int} {e z : Int} (d i : Nat) (h : i + d < zs.length) : (rowE m zs add e z d).getD i 0 = 0 := by
  induction d with
  | zero =>
    rw [rowE]
    simp only [List.getD]
    rw [List.getElem?_append_left (by simpa using h), List.getElem?_replicate, if_pos (by simpa using h)]
    rfl
  | succ d ih => rw [rowE, getD_set_ne (by omega)]; exact ih (by omega)
theorem set_same0 {l : List Int} {i : Nat} (h : i < l.length) (h0 : l.getD i 0 = 0) : l.set i 0 = l := by
  apply List.ext_getElem?
  intro j
  by_cases e : i = j
  · subst e
    rw [List.getElem?_set_self h]
    simp [List.getD, h] at h0
    rw [List.getElem?_eq_getElem h, h0]
  · rw [List.getElem?_set_ne e]

theorem made_own {w : World} {B g n c : Nat} (h : w.ownsRow B 3 1 (.slice (some ⟨g, 0, none⟩) n c) n (List.replicate n (.int .i64 0))) : Own w B (.slice (some ⟨g, 0, none⟩) n c) (List.replicate n 0) := by
  unfold Own
  rw [List.length_replicate, List.map_replicate]
  exact h
theorem below_store {B : Nat} {w w' : World} {g j : Nat} (h : Below B w w') (hg : B ≤ g) (u : Value) : Below B w (w'.setCell ⟨g, j, none⟩ u) := h.setCell (p := ⟨g, j, none⟩) hg u

end Go.Proofs.YtobakeahbgodbaaGreat

namespace Go.Proofs.YtobakeahbgodbaaGreat
open Go.RowKit
set_option linter.unusedVariables false

end Go.Proofs.YtobakeahbgodbaaGreat
