/-
  Contracts and plain mathematics (FitI, BrkI, BrkI2, BrkC, Cnt, Push, Wid, Concat, IdxM, SpecK, BrkS, WaysS, WidS), each with its conditions in its own statement.
-/
import Derived.Test.YtddkedinkgnboaaPkA
import Derived.Deep.RegionWith
import Derived.Test.YtddkedinkgnboaaPkB
import Derived.Lib.AppendZeros
import Derived.Lib.SliceRun
import Derived.Deep.RegionHeld3
namespace Go.Proofs.Ytddkedinkgnboaa
open Go.RowKit
set_option linter.unusedVariables false

/-- the world in which a function over a measure begins -/
theorem msWorld (w : World) (W t k : Int) : ∃ w0, w.alloc (.cells #[.int .i64 W, .int .i64 t, .int .i64 k] 24) = w0 ∧ Below w.heap.size w w0 ∧ w0.heap.size = w.heap.size + 1 ∧
    (w0.cell? ⟨w.heap.size, 0, none⟩ = some (.int .i64 W) ∧ w0.cell? ⟨w.heap.size, 1, none⟩ = some (.int .i64 t) ∧ w0.cell? ⟨w.heap.size, 2, none⟩ = some (.int .i64 k)) :=
  ⟨_, rfl, below_new _ _, by simp, lay3 w (.int .i64 W) (.int .i64 t) (.int .i64 k) 24⟩
theorem good_no {m : Msr} {zs : List Int} (h : msrB m = false) : goodB m zs = false := by unfold goodB; rw [h]; rfl
theorem good_line {m : Msr} {zs : List Int} (h : lineB zs = false) : goodB m zs = false := by unfold goodB fitsB; rw [h]; simp
theorem good_is {m : Msr} {zs : List Int} (h : msrB m = true) (h2 : lineB zs = true) : goodB m zs = decide (widF (sumL zs) (bandsN zs) m.t ≤ m.w) := by
  unfold goodB fitsB fitL widL; rw [h, h2]; simp

end Go.Proofs.Ytddkedinkgnboaa

namespace Go.Proofs.Ytddkedinkgnboaa
open Go.RowKit
set_option linter.unusedVariables false

/-- the world in which a function begins that boxes a measure and lays a setting -/
theorem msStWorld (w : World) (W t k : Int) (s : Value) : ∃ w0, (w.alloc (.cells #[.int .i64 W, .int .i64 t, .int .i64 k] 24)).alloc (.cells #[.int .i64 W, .int .i64 t, .int .i64 k, s] 59) = w0 ∧ Below w.heap.size w w0 ∧ w0.heap.size = w.heap.size + 2 ∧ St w0 (w.heap.size + 1) W t k s := by
  refine ⟨_, rfl, (below_new _ _).trans ((below_new _ _).mono (by simp)), by simp, ?_⟩
  have := stWorld (w.alloc (.cells #[.int .i64 W, .int .i64 t, .int .i64 k] 24)) W t k s
  obtain ⟨w0, h0, _, _, h⟩ := this
  rw [h0]
  rwa [World.size_alloc] at h

end Go.Proofs.Ytddkedinkgnboaa

namespace Go.Proofs.Ytddkedinkgnboaa
open Go.RowKit
set_option linter.unusedVariables false

set_option maxRecDepth 100000 in
set_option maxHeartbeats 3200000 in
theorem implIsBreaking_any (W t k : Int) (A : Option Addr) (n c : Nat) (zs : List Int) (Al : Option Addr) (q d : Nat) (ls : List Int) (w : World) (hn : zs.length = n) (hc : n ≤ c) (hcm : c ≤ maxLen) (h : Ints w A zs) (hq : ls.length = q) (hqm : q ≤ maxLen) (hl : Ints w Al ls) :
    Calls Try.prog 19 #[.agg #[.int .i64 W, .int .i64 t, .int .i64 k], .slice A n c, .slice Al q d] w fun e w' => e = .returned (.bool (isBrk ⟨W, t, k⟩ zs ls)) ∧ Below w.heap.size w w' := by
  have C := fun (w : World) (hI : Ints w A zs) => stOk_any W t k A n c zs w hn (by omega) hI
  have D := fun (ad : Addr) (a b : Nat) (w : World) (hI : Ints w (some ad) zs) (hm : msrB ⟨W, t, k⟩ = true) (ht : textB zs = true) (hab : a < b) (hb : b ≤ n) => stLine_any W t k ad n c zs a b w hn hc hcm hI hm ht hab hb
  obtain ⟨w0, hw0, hb0, hz0, P⟩ := msStWorld w W t k (.slice A n c)
  have T0 := Lib.hid hb0; have P0 := Lib.hid P; have Z0 := Lib.hid hz0
  have I0 := Lib.hid (h.below hb0); have L0 := Lib.hid (hl.below hb0)
  have CC := Lib.hid C; have DD := Lib.hid D; have Hn := Lib.hid hn; have Hq := Lib.hid hq
  obtain ⟨p0, p1, p2, p3⟩ := P
  obtain ⟨q0, q1, q2⟩ := lay3 w (.int .i64 W) (.int .i64 t) (.int .i64 k) 24
  clear hb0 hz0 hn h C D hc hcm hq hl
  unfold maxLen at hqm
  cases ho : (msrB ⟨W, t, k⟩ && textB zs)
  · have HR : Hid (isBrk ⟨W, t, k⟩ zs ls = false) := by show _ = _; unfold isBrk; rw [okW_no ho]; rfl
    go_enter Try.func19, Try.ntmps19
    go_wp2_with fail
    clear hw0
    refine (CC.out _ I0.out).mono ?_
    rintro e w1 ⟨he, hb1⟩
    rw [ho] at he; subst he
    have T1 := Lib.hid (T0.out.trans (hb1.mono (B' := w.heap.size) (by have := Z0.out; omega)))
    clear hb1 p0 p1 p2 p3 ho q0 q1 q2
    go_wp2
    go_ret
    exact ⟨ret_bool HR.out.symm, T1.out⟩
  have hq := ho
  rw [Bool.and_eq_true] at hq
  have HM := Lib.hid hq
  obtain ⟨_, hl1, hl2⟩ := textB_parts hq.2
  rw [Hn.out] at hl1 hl2
  have hA := ints_some I0.out (by rw [Hn.out]; exact hl1)
  clear hq
  obtain ⟨ad, rfl⟩ := hA
  have DD2 := Lib.hid (fun a b w h hab hb => DD.out ad a b w h HM.out.1 HM.out.2 hab hb)
  have HR : Hid (isBrk ⟨W, t, k⟩ zs ls = brkF ⟨W, t, k⟩ zs 0 ls) := by show _ = _; unfold isBrk okW; rw [ho]; rfl
  clear DD
  go_enter Try.func19, Try.ntmps19
  go_wp2_with fail
  clear hw0
  refine (CC.out _ I0.out).mono ?_
  rintro e w1 ⟨he, hb1⟩
  rw [ho] at he; subst he
  have T1 := Lib.hid (T0.out.trans (hb1.mono (B' := w.heap.size) (by have := Z0.out; omega)))
  have I1 := Lib.hid (I0.out.below hb1); have L1 := Lib.hid (L0.out.below hb1)
  have P1 := Lib.hid (St.hold hb1 (by have := Z0.out; omega) P0.out)
  have Z1 : Hid (w.heap.size + 1 < w1.heap.size) := by show _ < _; have := Z0.out; have := hb1.size; omega
  clear p0 p1 p2 p3 ho q0 q1 q2 hb1 T0 I0 L0 P0 Z0 CC
  go_wp2_with fail
  go_loopw [8, 19] (fun f i wr => ∃ j p : Nat, j ≤ q ∧ i = .int .i64 j ∧ f = .int .i64 p ∧ p ≤ n ∧ Hid (brkF ⟨W, t, k⟩ zs 0 ls = brkF ⟨W, t, k⟩ zs p (ls.drop j)) ∧ Below w1.heap.size w1 wr) (fun _ i _ => q - (intOf i).toNat)
  case atStart => exact ⟨0, 0, Nat.zero_le _, rfl, rfl, Nat.zero_le _, rfl, Below.refl _ _⟩
  case round =>
    obtain ⟨j, p, hj, rfl, rfl, hp, HB, hb⟩ := hrel
    have B2 := Lib.hid hb
    have P2 := St.hold hb Z1.out P1.out
    have I2 := Lib.hid (I1.out.below hb)
    have L2 := Lib.hid (L1.out.below hb)
    have T2 := Lib.hid (T1.out.trans (hb.mono (B' := w.heap.size) (by have := Z1.out; omega)))
    have Z2 : Hid (w1.heap.size ≤ wr.heap.size) := hb.size
    clear hb
    obtain ⟨p0, p1, p2, p3⟩ := P2
    by_cases hlt : j < q
    · obtain ⟨al, x, rfl, hx, hcx⟩ := L2.out.at_ (k := j) (by rw [Hq.out]; exact hlt)
      have e1 : IntKind.i64.wrap ((n : Int) - (p : Int)) = (n : Int) - (p : Int) := by rw [IntKind.wrap_i64]; omega
      cases hin : inB x 1 ((n : Int) - (p : Int))
      · have HF : Hid (brkF ⟨W, t, k⟩ zs 0 ls = false) := by show _ = _; rw [HB.out, brkF_at hx.out, Hn.out, hin]; rfl
        go_wp2_with fail
        refine (isFrom_any _ _ _ _).mono ?_
        rintro e w3 ⟨he, rfl⟩
        rw [hin] at he; subst he
        clear hin
        go_wp2
        go_ret
        exact ⟨ret_bool (by rw [HR.out, HF.out]), T2.out⟩
      · have hxr := inB_true hin
        obtain ⟨u, rfl⟩ : ∃ u : Nat, x = (u : Int) := ⟨x.toNat, by omega⟩
        have hu1 : p < p + u := by omega
        have hu2 : p + u ≤ n := by omega
        have HS : Hid (brkF ⟨W, t, k⟩ zs 0 ls = (lineW ⟨W, t, k⟩ zs p (p + u) && brkF ⟨W, t, k⟩ zs (p + u) (ls.drop (j + 1)))) := by show _ = _; rw [HB.out, brkF_at hx.out, Hn.out, hin, Bool.true_and]; rfl
        obtain ⟨r, hr⟩ : ∃ r, p + u = r := ⟨_, rfl⟩
        have hcast : (p : Int) + (u : Int) = (r : Int) := by omega
        have e2 : IntKind.i64.wrap ((p : Int) + (u : Int)) = (r : Int) := by rw [IntKind.wrap_i64]; omega
        have HI := Lib.hid hin
        rw [hr] at HS hu1 hu2
        clear hin hxr hr
        go_wp2_with fail
        refine (isFrom_any _ _ _ _).mono ?_
        rintro e w3 ⟨he, rfl⟩
        rw [HI.out] at he; subst he
        go_wp2_with fail
        clear p0 p1 p2 p3 HI
        refine (DD2.out p r _ I2.out hu1 hu2).mono ?_
        rintro e w4 ⟨rfl, hb4⟩
        have T4 := Lib.hid (T2.out.trans (hb4.mono (B' := w.heap.size) (by have := Z2.out; have := Z1.out; omega)))
        have B4 := Lib.hid (B2.out.trans (hb4.mono (B' := w1.heap.size) Z2.out))
        clear hb4
        cases hw : lineW ⟨W, t, k⟩ zs p r
        · have HF : Hid (brkF ⟨W, t, k⟩ zs 0 ls = false) := by show _ = _; rw [HS.out, hw]; rfl
          go_wp2
          go_ret
          exact ⟨ret_bool (by rw [HR.out, HF.out]), T4.out⟩
        · have HF : Hid (brkF ⟨W, t, k⟩ zs 0 ls = brkF ⟨W, t, k⟩ zs r (ls.drop (j + 1))) := by show _ = _; rw [HS.out, hw, Bool.true_and]
          clear HS HB
          go_wp2
          go_roundw
          case rel => exact ⟨j + 1, r, by omega, by go_num, rfl, hu2, HF, B4.out⟩
          case measure => simp [intOf]; omega
    · have hkn : j = q := by omega
      subst hkn
      rw [brkF_end Hq.out, Hn.out] at HB
      by_cases hpn : p = n
      · subst hpn
        go_wp2
        go_ret
        exact ⟨ret_bool (by rw [HR.out, HB.out]; simp), T2.out⟩
      · have hd : ((p : Int) == (n : Int)) = false := by rw [beq_eq_false_iff_ne]; omega
        have hdx : Hid (decide (p = n) = false) := by show _ = _; exact decide_eq_false hpn
        clear hpn
        go_wp2
        go_ret
        exact ⟨ret_bool (by rw [HR.out, HB.out, hdx.out]), T2.out⟩
end Go.Proofs.Ytddkedinkgnboaa

namespace Go.Proofs.Ytddkedinkgnboaa
open Go.RowKit
set_option linter.unusedVariables false

set_option maxRecDepth 100000 in
set_option maxHeartbeats 3200000 in
theorem implCostOf_any (W t k : Int) (A : Option Addr) (n c : Nat) (zs : List Int) (Al : Option Addr) (q d : Nat) (ls : List Int) (w : World) (hn : zs.length = n) (hc : n ≤ c) (hcm : c ≤ maxLen) (h : Ints w A zs) (hq : ls.length = q) (hqm : q ≤ maxLen) (hl : Ints w Al ls) :
    Calls Try.prog 28 #[.agg #[.int .i64 W, .int .i64 t, .int .i64 k], .slice A n c, .slice Al q d] w fun e w' => e = .returned (.int .i64 (costA ⟨W, t, k⟩ zs ls)) ∧ Below w.heap.size w w' := by
  have C := fun (w : World) (hI : Ints w A zs) (hL : Ints w Al ls) => implIsBreaking_any W t k A n c zs Al q d ls w hn hc hcm hI hq hqm hL
  have D := fun (ad : Addr) (a b : Nat) (w : World) (hI : Ints w (some ad) zs) (hm : msrB ⟨W, t, k⟩ = true) (ht : textB zs = true) (hab : a < b) (hb : b ≤ n) => stCost_any W t k ad n c zs a b w hn hc hcm hI hm ht hab hb
  obtain ⟨w0, hw0, hb0, hz0, P⟩ := msWorld w W t k
  have T0 := Lib.hid hb0; have P0 := Lib.hid P; have Z0 := Lib.hid hz0
  have I0 := Lib.hid (h.below hb0); have L0 := Lib.hid (hl.below hb0)
  have CC := Lib.hid C; have DD := Lib.hid D; have Hn := Lib.hid hn; have Hq := Lib.hid hq
  obtain ⟨p0, p1, p2⟩ := P
  clear hb0 hz0 hn h C D hc hcm hq hl
  unfold maxLen at hqm
  cases ho : isBrk ⟨W, t, k⟩ zs ls
  · have HR : Hid (costA ⟨W, t, k⟩ zs ls = -1) := by show _ = _; unfold costA; rw [ho]; rfl
    go_enter Try.func28, Try.ntmps28
    go_wp2_with fail
    clear hw0
    refine (CC.out _ I0.out L0.out).mono ?_
    rintro e w1 ⟨he, hb1⟩
    rw [ho] at he; subst he
    have T1 := Lib.hid (T0.out.trans (hb1.mono (B' := w.heap.size) (by have := Z0.out; omega)))
    clear hb1 p0 p1 p2 ho
    go_wp2
    go_ret
    exact ⟨ret_int HR.out.symm, T1.out⟩
  have HR : Hid (costA ⟨W, t, k⟩ zs ls = costF ⟨W, t, k⟩ zs 0 ls) := by show _ = _; unfold costA; rw [ho]; rfl
  have hq := ho
  unfold isBrk at hq
  rw [Bool.and_eq_true] at hq
  have HO := Lib.hid hq.1
  have HBr := Lib.hid hq.2
  have HM := Lib.hid (okW_parts hq.1)
  obtain ⟨-, hl1, hl2⟩ := textB_parts HM.out.2
  rw [Hn.out] at hl1 hl2
  obtain ⟨ad, rfl⟩ := ints_some I0.out (by rw [Hn.out]; exact hl1)
  clear hq
  have DD2 := Lib.hid (fun a b w h hab hb => DD.out ad a b w h HM.out.1 HM.out.2 hab hb)
  clear DD
  go_enter Try.func28, Try.ntmps28
  go_wp2_with fail
  clear hw0
  refine (CC.out _ I0.out L0.out).mono ?_
  rintro e w1 ⟨he, hb1⟩
  rw [ho] at he; subst he
  have T1 := Lib.hid (T0.out.trans (hb1.mono (B' := w.heap.size) (by have := Z0.out; omega)))
  have I1 := Lib.hid (I0.out.below hb1); have L1 := Lib.hid (L0.out.below hb1)
  have P1 := Lib.hid (hold3 hb1 (by have := Z0.out; omega) P0.out)
  have Z1 : Hid (w.heap.size < w1.heap.size) := by show _ < _; have := Z0.out; have := hb1.size; omega
  clear p0 p1 p2 ho hb1 T0 I0 L0 P0 Z0 CC
  obtain ⟨w2, hw2, hb2, hz2, S2⟩ := stWorld w1 W t k (.slice (some ad) n c)
  have T2 := Lib.hid (T1.out.trans (hb2.mono (B' := w.heap.size) (by have := Z1.out; omega)))
  have I2 := Lib.hid (I1.out.below hb2); have L2 := Lib.hid (L1.out.below hb2)
  have Z2 : Hid (w1.heap.size < w2.heap.size) := by show _ < _; omega
  have S2 := Lib.hid S2
  clear hb2 hz2 T1 I1 L1
  obtain ⟨p0, p1, p2⟩ := P1.out
  go_wp2_with fail
  clear hw2 p0 p1 p2 P1
  go_loopw [8, 9, 22] (fun f s i wr => ∃ (j p : Nat) (a : Int), j ≤ q ∧ i = .int .i64 j ∧ f = .int .i64 p ∧ s = .int .i64 a ∧ p ≤ n ∧ 0 ≤ a ∧ a ≤ 9801 * (p : Int) ∧ Hid (brkF ⟨W, t, k⟩ zs p (ls.drop j) = true ∧ a + costF ⟨W, t, k⟩ zs p (ls.drop j) = costF ⟨W, t, k⟩ zs 0 ls) ∧ Below w2.heap.size w2 wr) (fun _ _ i _ => q - (intOf i).toNat)
  case atStart => exact ⟨0, 0, 0, Nat.zero_le _, rfl, rfl, rfl, Nat.zero_le _, by omega, by omega, ⟨HBr.out, Int.zero_add _⟩, Below.refl _ _⟩
  case round =>
    obtain ⟨j, p, a, hj, rfl, rfl, rfl, hp, ha0, ha1, HB, hb⟩ := hrel
    have B3 := Lib.hid hb
    have S3 := St.hold hb Z2.out S2.out
    have I3 := Lib.hid (I2.out.below hb)
    have L3 := Lib.hid (L2.out.below hb)
    have T3 := Lib.hid (T2.out.trans (hb.mono (B' := w.heap.size) (by have := Z1.out; have := Z2.out; omega)))
    have Z3 : Hid (w2.heap.size ≤ wr.heap.size) := hb.size
    clear hb
    obtain ⟨p0, p1, p2, p3⟩ := S3
    by_cases hlt : j < q
    · obtain ⟨al, x, rfl, hx, hcx⟩ := L3.out.at_ (k := j) (by rw [Hq.out]; exact hlt)
      obtain ⟨u, rfl, hu0, hun, hlw, hbr⟩ := brkF_yes hx.out HB.out.1
      have hcb := costW_bound HO.out hun hlw
      rw [Hn.out] at hun
      have HS : Hid (a + costW ⟨W, t, k⟩ zs p (p + u) + costF ⟨W, t, k⟩ zs (p + u) (ls.drop (j + 1)) = costF ⟨W, t, k⟩ zs 0 ls) := by show _ = _; have h := HB.out.2; rw [costF_at hx.out] at h; rw [← h]; simp only [Int.toNat_natCast]; omega
      have HBr2 := Lib.hid hbr
      obtain ⟨r, hr⟩ : ∃ r, p + u = r := ⟨_, rfl⟩
      have hpr : p < r := by omega
      have hcast : (p : Int) + (u : Int) = (r : Int) := by omega
      have e2 : IntKind.i64.wrap ((p : Int) + (u : Int)) = (r : Int) := by rw [IntKind.wrap_i64]; omega
      rw [hr] at HS hcb hun HBr2
      obtain ⟨y, hy⟩ : ∃ y, costW ⟨W, t, k⟩ zs p r = y := ⟨_, rfl⟩
      have HY := Lib.hid hy
      rw [hy] at hcb HS
      have e3 : IntKind.i64.wrap (a + y) = a + y := by rw [IntKind.wrap_i64]; omega
      clear hbr hlw hr hy hu0
      go_wp2_with fail
      clear p0 p1 p2 p3
      refine (DD2.out p r _ I3.out hpr hun).mono ?_
      rintro e w4 ⟨rfl, hb4⟩
      rw [HY.out]
      have T4 := Lib.hid (T3.out.trans (hb4.mono (B' := w.heap.size) (by have := Z3.out; have := Z2.out; have := Z1.out; omega)))
      have B4 := Lib.hid (B3.out.trans (hb4.mono (B' := w2.heap.size) Z3.out))
      clear hb4
      go_wp2
      go_roundw
      case rel => exact ⟨j + 1, r, a + y, by omega, by go_num, rfl, rfl, hun, by omega, by omega, ⟨HBr2.out, HS.out⟩, B4.out⟩
      case measure => simp [intOf]; omega
    · have hkn : j = q := by omega
      subst hkn
      have HF : Hid (a = costF ⟨W, t, k⟩ zs 0 ls) := by show _ = _; have h := HB.out.2; rw [costF_end Hq.out] at h; omega
      go_wp2
      go_ret
      exact ⟨ret_int (by rw [HR.out, HF.out]), T3.out⟩
end Go.Proofs.Ytddkedinkgnboaa

namespace Go.Proofs.Ytddkedinkgnboaa
open Go.RowKit
set_option linter.unusedVariables false

theorem CMapG.anti {w : World} {r : Nat} {zs : List Int} {G G' : Nat → Prop} (h : CMapG w r zs G) (hG : ∀ k, G' k → G k) : CMapG w r zs G' := h.join (fun k hk => .inl (hG k hk))
theorem CMapG.empty {w : World} {r : Nat} (zs : List Int) (h : w.heap[r]? = some (.map #[] 0)) : CMapG w r zs (fun k => k ≠ r) := ⟨fun h => h rfl, #[], 0, h, fun e he => by cases he⟩

set_option maxHeartbeats 1600000 in
theorem counterOfG_any (A : Option Addr) (n c : Nat) (zs : List Int) (w : World) :
    Calls Try.prog 47 #[.slice A n c] w fun e w' => ∃ r, e = .returned (.agg #[.slice A n c, .map (some r)]) ∧ w.heap.size ≤ r ∧ CMapG w' r zs (fun k => k ≠ r) ∧ Below w.heap.size w w' := by
  have hmm := @run_makeMap Try.prog
  go_enter Try.func47, Try.ntmps47
  go_wp2
  refine bodyPost_ret (v := .agg #[.slice A n c, .map (some (w.heap.size + 1))]) (by simp [results, Try.results47, go_sem]) rfl ⟨w.heap.size + 1, rfl, by omega, ?_, ?_⟩
  · have h := heap_alloc_new (w.alloc (.cells #[.slice A n c, .map (some (w.heap.size + 1))] 63)) (.map #[] 0)
    rw [World.size_alloc] at h
    exact CMapG.empty zs h
  · exact (below_new _ _).trans ((below_new _ _).mono (by simp))
theorem counterOf_any (A : Option Addr) (n c : Nat) (zs : List Int) (w : World) :
    Calls Try.prog 47 #[.slice A n c] w fun e w' => ∃ r, e = .returned (.agg #[.slice A n c, .map (some r)]) ∧ w.heap.size ≤ r ∧ CMap w' r zs ∧ Below w.heap.size w w' :=
  (counterOfG_any A n c zs w).mono fun e w' ⟨r, h1, h2, h3, h4⟩ => ⟨r, h1, h2, h3.anti (fun _ h => h.elim), h4⟩
theorem cmWayG_any (G : Nat → Prop) (W t k : Int) (ad : Addr) (n c r i : Nat) (zs : List Int) (w : World) (hGw : ∀ j, G j → j < w.heap.size) (hn : zs.length = n) (hc : n ≤ c) (hcm : c ≤ maxLen) (h : Ints w (some ad) zs) (hm : msrB ⟨W, t, k⟩ = true) (ht : textB zs = true) (hr : CMapG w r zs G) (hi : i ≤ n) :
    Calls Try.prog 48 #[.agg #[.slice (some ad) n c, .map (some r)], .agg #[.int .i64 W, .int .i64 t, .int .i64 k], .int .i64 i] w fun e w' => e = .returned (.int .i64 (wayF ⟨W, t, k⟩ zs i)) ∧ w.grownBy w' (some r) ∧ CMapG w' r zs G := by
  have h1 := cmCountG_any G W t k ad n c r i zs w hGw hn hc hcm h hm ht hr hi
  subst hn
  exact h1
theorem cmWayG0_any (G : Nat → Prop) (W t k : Int) (ad : Addr) (n c r : Nat) (zs : List Int) (w : World) (hGw : ∀ j, G j → j < w.heap.size) (hn : zs.length = n) (hc : n ≤ c) (hcm : c ≤ maxLen) (h : Ints w (some ad) zs) (hm : msrB ⟨W, t, k⟩ = true) (ht : textB zs = true) (hr : CMapG w r zs G) :
    Calls Try.prog 48 #[.agg #[.slice (some ad) n c, .map (some r)], .agg #[.int .i64 W, .int .i64 t, .int .i64 k], .int .i64 0] w fun e w' => e = .returned (.int .i64 (wayF ⟨W, t, k⟩ zs 0)) ∧ w.grownBy w' (some r) ∧ CMapG w' r zs G :=
  cmWayG_any G W t k ad n c r 0 zs w hGw hn hc hcm h hm ht hr (Nat.zero_le _)
theorem cmWay0_any (W t k : Int) (ad : Addr) (n c r : Nat) (zs : List Int) (w : World) (hn : zs.length = n) (hc : n ≤ c) (hcm : c ≤ maxLen) (h : Ints w (some ad) zs) (hm : msrB ⟨W, t, k⟩ = true) (ht : textB zs = true) (hr : CMap w r zs) :
    Calls Try.prog 48 #[.agg #[.slice (some ad) n c, .map (some r)], .agg #[.int .i64 W, .int .i64 t, .int .i64 k], .int .i64 0] w fun e w' => e = .returned (.int .i64 (wayF ⟨W, t, k⟩ zs 0)) ∧ w.grownBy w' (some r) ∧ CMap w' r zs :=
  cmWayG0_any (fun _ => False) W t k ad n c r zs w (fun _ h => h.elim) hn hc hcm h hm ht hr
/-- an append to a row: the counter minds it not -/
theorem CMapG.pushed {w w' : World} {r : Nat} {zs : List Int} {v v' : Value} (h : CMapG w r zs (fun k => v.ownBlock = some k)) (hg : w.grownBy w' v.ownBlock) (hl : ∀ g, v'.ownBlock = some g → v.ownBlock = some g ∨ w.heap.size ≤ g) : CMapG w' r zs (fun k => v'.ownBlock = some k) :=
  ((h.join (G' := fun k => v.ownBlock = some k ∨ w.heap.size ≤ k) (fun k hk => hk)).ext (fun k hk hG => hg.block k hk (fun e => hG (.inl e.symm)))).anti (fun k hk => hl k hk)
theorem CMapG.kept {w w' : World} {r : Nat} {zs : List Int} {G : Nat → Prop} (h : CMapG w r zs G) (hb : Below w.heap.size w w') : CMapG w' r zs G := h.below hb

theorem hold3by {w w' : World} {B r : Nat} {x y z : Value} (hg : w.grownBy w' (some r)) (hB : B ≠ r) (h : w.cell? ⟨B, 0, none⟩ = some x ∧ w.cell? ⟨B, 1, none⟩ = some y ∧ w.cell? ⟨B, 2, none⟩ = some z) :
    w'.cell? ⟨B, 0, none⟩ = some x ∧ w'.cell? ⟨B, 1, none⟩ = some y ∧ w'.cell? ⟨B, 2, none⟩ = some z := by
  have hl : B < w.heap.size := World.block_lt_of_cell? _ _ h.1
  have hk : w'.heap[B]? = w.heap[B]? := hg.block B hl (fun e => hB (by cases e; rfl))
  exact ⟨(World.cell?_of_block (a := ⟨B, 0, none⟩) hk).trans h.1, (World.cell?_of_block (a := ⟨B, 1, none⟩) hk).trans h.2.1, (World.cell?_of_block (a := ⟨B, 2, none⟩) hk).trans h.2.2⟩

set_option maxRecDepth 100000 in
set_option maxHeartbeats 3200000 in
theorem implCntB_any (W t k : Int) (A : Option Addr) (n c : Nat) (zs : List Int) (w : World) (hn : zs.length = n) (hc : n ≤ c) (hcm : c ≤ maxLen) (h : Ints w A zs) :
    Calls Try.prog 15 #[.agg #[.int .i64 W, .int .i64 t, .int .i64 k], .slice A n c] w fun e w' => e = .returned (.int .i64 (cntA ⟨W, t, k⟩ zs)) ∧ Below w.heap.size w w' := by
  have C := fun (w : World) (hI : Ints w A zs) => stOk_any W t k A n c zs w hn (Nat.le_trans hc hcm) hI
  have D := fun (ad : Addr) (r : Nat) (w : World) (hI : Ints w (some ad) zs) (hm : msrB ⟨W, t, k⟩ = true) (ht : textB zs = true) (hr : CMap w r zs) => cmWay0_any W t k ad n c r zs w hn hc hcm hI hm ht hr
  obtain ⟨w0, hw0, hb0, hz0, P⟩ := msWorld w W t k
  have T0 := Lib.hid hb0; have P0 := Lib.hid P; have Z0 := Lib.hid hz0
  have I0 := Lib.hid (h.below hb0)
  have CC := Lib.hid C; have DD := Lib.hid D; have Hn := Lib.hid hn
  obtain ⟨p0, p1, p2⟩ := P
  clear hb0 hz0 hn h C D hc hcm
  cases ho : okW ⟨W, t, k⟩ zs
  · have HR : Hid (cntA ⟨W, t, k⟩ zs = -1) := by show _ = _; unfold cntA; rw [ho]; rfl
    have HO := Lib.hid ho
    clear ho
    go_enter Try.func15, Try.ntmps15
    go_wp2_with fail
    clear hw0
    refine (CC.out _ I0.out).mono ?_
    rintro e w1 ⟨he, hb1⟩
    rw [show (msrB ⟨W, t, k⟩ && textB zs) = false from HO.out] at he; subst he
    have T1 := Lib.hid (T0.out.trans (hb1.mono (B' := w.heap.size) (by have := Z0.out; omega)))
    clear hb1 p0 p1 p2
    go_wp2
    go_ret
    exact ⟨ret_int HR.out.symm, T1.out⟩
  have HR : Hid (cntA ⟨W, t, k⟩ zs = wayF ⟨W, t, k⟩ zs 0) := by show _ = _; unfold cntA; rw [ho]; rfl
  have HO := Lib.hid ho
  have HM := Lib.hid (okW_parts ho)
  obtain ⟨-, hl1, hl2⟩ := textB_parts HM.out.2
  rw [Hn.out] at hl1 hl2
  obtain ⟨ad, rfl⟩ := ints_some I0.out (by rw [Hn.out]; exact hl1)
  have DD2 := Lib.hid (fun r w h hr => DD.out ad r w h HM.out.1 HM.out.2 hr)
  clear DD ho
  go_enter Try.func15, Try.ntmps15
  go_wp2_with fail
  clear hw0
  refine (CC.out _ I0.out).mono ?_
  rintro e w1 ⟨he, hb1⟩
  rw [show (msrB ⟨W, t, k⟩ && textB zs) = true from HO.out] at he; subst he
  have T1 := Lib.hid (T0.out.trans (hb1.mono (B' := w.heap.size) (by have := Z0.out; omega)))
  have I1 := Lib.hid (I0.out.below hb1)
  have P1 := Lib.hid (hold3 hb1 (by have := Z0.out; omega) P0.out)
  have Z1 : Hid (w.heap.size < w1.heap.size) := by show _ < _; have := Z0.out; have := hb1.size; omega
  clear p0 p1 p2 hb1 T0 I0 P0 Z0 CC
  obtain ⟨p0, p1, p2⟩ := P1.out
  go_wp2_with fail
  have hz1 := Z1.out
  (go_region_held3 (fun w' => w'.cell? ⟨w.heap.size, 0, none⟩ = some (.int .i64 W) ∧ w'.cell? ⟨w.heap.size, 1, none⟩ = some (.int .i64 t) ∧ w'.cell? ⟨w.heap.size, 2, none⟩ = some (.int .i64 k)) (first | go_keep | exact P2.out | exact P3.out) (first
        | (go_at_call 47; refine (counterOf_any _ _ _ zs _).mono ?_; rintro e w2 ⟨r, rfl, hr, hCM, hb2⟩; have hc2 : Below w1.heap.size w1 w2 := undrew hb2; have R2 : Hid (w1.heap.size ≤ r) := hr; have M2 := Lib.hid hCM; have P2 := Lib.hid (hold3 hc2 (by omega) P1.out); have I2 := Lib.hid (I1.out.below hc2); have T2 := Lib.hid (T1.out.trans (hc2.mono (B' := w.heap.size) (by omega))); clear hb2 hc2 hr hCM)
        | (go_at_call 48; refine (DD2.out _ _ I2.out M2.out).mono ?_; rintro e w3 ⟨rfl, hg3, hCM3⟩; have T3 := Lib.hid (T2.out.grown hg3 T2.out.size (fun k e => by cases e; have := R2.out; omega)); have P3 := Lib.hid (hold3by hg3 (by have := R2.out; omega) P2.out); clear hg3 hCM3))
    )
  all_goals
    go_wp2
    go_ret
    exact ⟨ret_int HR.out.symm, T3.out⟩
end Go.Proofs.Ytddkedinkgnboaa

namespace Go.Proofs.Ytddkedinkgnboaa
open Go.RowKit
set_option linter.unusedVariables false

theorem grown_trans {a b c : World} {row : Option Nat} (h : a.grownBy b row) (k : b.grownBy c row) : a.grownBy c row :=
  ⟨k.os.trans h.os, k.tape.trans h.tape, k.output.trans h.output, Nat.le_trans h.size k.size, fun i hi hne => (k.block i (Nat.lt_of_lt_of_le hi h.size) hne).trans (h.block i hi hne)⟩

set_option maxRecDepth 100000 in
/-- where the row lies behind an append: where it lay, or in a block that is new -/
theorem append_lies {base : Nat} {v v' : Value} {n : Nat} {xs news : List Value} {w w' : World} {ty : TypeId} (i : TypeInfo) (hi : Try.prog.info? 3 = some i) (hz : i.zero = some (.int .i64 0)) (hsz : i.size = 1) (hby : i.bytes = 8)
    (hown : w.ownsRow base 3 1 v n xs) (ad : Addr) (m c : Nat) (hl : news.length = m * 1) (hnews : ∀ j u, news[j]? = some u → w.cell? (ad.add j) = some u) (h1 : ∀ u ∈ news, u.oneCell' = true)
    (hn : n + m ≤ 4194304) (hr : (Builtin.append_ #[25, 25] ty #[v, .slice (some ad) m c]).run Try.prog w = .ok v' w') : v'.ownBlock = v.ownBlock ∨ v'.ownBlock = some w.heap.size := by
  rcases hown.2 with ⟨rfl, rfl⟩ | ⟨g, cap, cur, rfl, hbg, hg, hnc, hcm, hcs, htake⟩
  · by_cases hm : m = 0
    · left
      subst hm
      have hn0 : news = [] := List.eq_nil_of_length_eq_zero (by simpa using hl)
      subst hn0
      have hu := Try.underlying25
      simp [Builtin.append_, run_underlying hu, sizeOf, typeInfo, hi, Builtin.lenOf, Builtin.firstCells, loadCells, loadCellsFrom] at hr
      rw [← hr.1]
    · right
      have hr2 := run_append_nil (P := Try.prog) w 25 ty 3 i (.int .i64 0) Try.underlying25 hi hz ad m c news (by rw [hsz]; exact hl) hnews (by omega) (by omega) (by rw [hby]; omega)
      rw [hr] at hr2
      injection hr2 with e1 e2
      rw [e1]; rfl
  · by_cases hroom : n + m ≤ cap
    · left
      have hr2 := run_append_room (P := Try.prog) w 25 ty 3 i Try.underlying25 hi g n cap cur hg ad m c news (by rw [hsz]; exact hl) hnews h1 hroom (by rw [hsz, hl, hcs]; omega)
      rw [hr] at hr2
      injection hr2 with e1 e2
      rw [e1]; rfl
    · right
      have hr2 := run_append_grow (P := Try.prog) w 25 ty 3 i (.int .i64 0) Try.underlying25 hi hz ⟨g, 0, none⟩ n cap xs (by rw [hsz]; exact hown.1) (hown.cells (g := g) rfl) ad m c news (by rw [hsz]; exact hl) hnews (by omega) (by omega) (growslice_fits (by omega) (by rw [hby]; omega))
      rw [hr] at hr2
      injection hr2 with e1 e2
      rw [e1]; rfl

section
variable {ops : Array Oper} {rest : List Oper} {o : Oper} {a : Act} {Q : Exit → Act → World → Prop}
/-- append(s, xs...), where the row lies told; xs not empty -/
theorem wpl_append2 (w : World) (hg : o.guard = none) (s x : Operand) (ho : o.op = .call { callee := .builtin .append, args := #[s, x], argTypes := #[25, 25] })
    (B : Nat) (v : Value) (zs ys : List Int) (A : Option Addr) (m c : Nat) (hs : a.eval s = v) (hx : a.eval x = .slice A m c) (hm : ys.length = m) (hpos : 0 < m) (hI : Ints w A ys) (hown : Own w B v zs) (hB : B ≤ w.heap.size) (hlen : zs.length + m ≤ 2097152)
    (hK : ∀ v' w', Own w' B v' (zs ++ ys) → w.grownBy w' v.ownBlock → (v'.ownBlock = v.ownBlock ∨ v'.ownBlock = some w.heap.size) → wpList Try.prog ops Q rest (a.put o.dst v') w') :
    wpList Try.prog ops Q (o :: rest) a w := by
  obtain ⟨i0, hi, hz0, hz1, hz2⟩ := info_parts intInfo
  obtain ⟨ad, rfl, hc⟩ := hI (by omega)
  refine wpList_plain hg fun K hK' => ?_
  have hl : (ys.map (Value.int .i64)).length = m * 1 := by simp [hm]
  have hnews : ∀ j u, (ys.map (Value.int .i64))[j]? = some u → w.cell? (ad.add j) = some u := by
    intro j u hj
    rw [List.getElem?_map] at hj
    cases hy : ys[j]? with
    | none => rw [hy] at hj; cases hj
    | some y =>
      rw [hy] at hj
      simp at hj; subst hj
      rw [hc j (lt_at hy), getD_at hy]
  have h1 : ∀ u ∈ ys.map (Value.int .i64), u.oneCell' = true := by
    intro u hu
    obtain ⟨y, _, rfl⟩ := List.mem_map.1 hu
    rfl
  obtain ⟨v', w', hr, h2, h3, h4⟩ := run_append_own (P := Try.prog) w B 25 o.type 3 i0 (.int .i64 0) 1 8 Try.underlying25 hi hz0 hz1 hz2 rfl (by decide) v zs.length (zs.map (Value.int .i64)) hown ad m c _ hl hnews h1 (by unfold maxLen; omega) (by omega) hB
  have hlie := append_lies i0 hi hz0 hz1 hz2 hown ad m c hl hnews h1 (by omega) hr
  unfold Oper.wp execOp
  simp only [ho, resolve, invoke, builtin, Sem.run_bind, Sem.run_pure, Result.andThen_ok, List.map_toArray, List.map_cons, List.map_nil, hs, hx, hr]
  refine hK' _ _ (hK v' w' ?_ h3 hlie)
  unfold Own
  rw [List.map_append, List.length_append, hm]
  exact h2

/-- append(s, q), where the row lies told -/
theorem wpl_push2 (w : World) (hg : o.guard = none) (s x : Operand) (ho : o.op = .call { callee := .builtin .append, args := #[s, x], argTypes := #[25, 25] })
    (B : Nat) (v : Value) (zs : List Int) (q : Int) (hs : a.eval s = v) (hx : a.eval x = .slice (some ⟨w.heap.size, 0, none⟩) 1 1) (hown : Own w B v zs) (hB : B ≤ w.heap.size) (hlen : zs.length ≤ 1048576)
    (hK : ∀ v' w', Own w' B v' (zs ++ [q]) → w.grownBy w' v.ownBlock → (∀ g, v'.ownBlock = some g → v.ownBlock = some g ∨ w.heap.size ≤ g) → wpList Try.prog ops Q rest (a.put o.dst v') w') :
    wpList Try.prog ops Q (o :: rest) a (w.alloc (.cells #[.int .i64 q] 3)) := by
  refine wpl_append2 _ hg s x ho B v zs [q] (some ⟨w.heap.size, 0, none⟩) 1 1 hs hx rfl (by omega) (fun _ => ⟨_, rfl, fun j hj => ?_⟩) (World.ownsRow.alloc hown _) (by simp; omega) (by omega) (fun v' w' h2 h3 h4 => hK v' w' h2 (grown_trans (World.grownBy_alloc w _ _) h3) (fun g hg' => ?_))
  · have : j = 0 := by simp at hj; exact hj
    subst this
    rw [add_zero_at, World.cell?_alloc_at _ _ _ _ rfl]
    rfl
  · rcases h4 with h4 | h4
    · left; rw [← h4]; exact hg'
    · right; rw [h4] at hg'; injection hg' with hg'; rw [← hg', World.size_alloc]; omega
end
theorem IntsB.grown {w w' : World} {b : Nat} {A : Option Addr} {zs : List Int} {row : Option Nat} (h : IntsB w b A zs) (hg : w.grownBy w' row) (hb : b ≤ w.heap.size) (hne : ∀ ad, A = some ad → row ≠ some ad.block) : IntsB w' b A zs := fun hn => by
  obtain ⟨ad, e, hl, hc⟩ := h hn
  exact ⟨ad, e, hl, fun j hj => hg.cell (hc j hj) (by rw [block_add]; exact fun e' => hne ad e e'.symm)⟩
end Go.Proofs.Ytddkedinkgnboaa

namespace Go.Proofs.Ytddkedinkgnboaa
open Go.RowKit
set_option linter.unusedVariables false

/-- the widths of at most j in which the words have a breaking -/
def wdsF (t k : Int) (zs : List Int) : Nat → List Int
  | 0 => []
  | j + 1 => if 0 < wayF ⟨(j : Int) + 1, t, k⟩ zs 0 then wdsF t k zs j ++ [(j : Int) + 1] else wdsF t k zs j
theorem wdsF_len (t k : Int) (zs : List Int) (j : Nat) : (wdsF t k zs j).length ≤ j := by
  induction j with
  | zero => simp [wdsF]
  | succ j ih =>
    rw [wdsF]; split
    · simp; exact ih
    · omega
theorem wdsF_yes {t k : Int} {zs : List Int} {j : Nat} (h : 0 < wayF ⟨(j : Int) + 1, t, k⟩ zs 0) : wdsF t k zs (j + 1) = wdsF t k zs j ++ [(j : Int) + 1] := by rw [wdsF, if_pos h]
theorem wdsF_no {t k : Int} {zs : List Int} {j : Nat} (h : ¬ 0 < wayF ⟨(j : Int) + 1, t, k⟩ zs 0) : wdsF t k zs (j + 1) = wdsF t k zs j := by rw [wdsF, if_neg h]
def wdsB (m : Msr) (zs : List Int) (most : Int) : Bool := okW m zs && inB most 0 300
def wdsA (m : Msr) (zs : List Int) (most : Int) : List Int := if wdsB m zs most then wdsF m.t m.k zs most.toNat else []
theorem wdsA_len (m : Msr) (zs : List Int) (most : Int) : (wdsA m zs most).length ≤ 1048576 := by
  unfold wdsA
  split
  · rename_i h
    unfold wdsB at h
    rw [Bool.and_eq_true] at h
    have h1 := inB_true h.2
    have h2 := wdsF_len m.t m.k zs most.toNat
    omega
  · simp
theorem msrB_other {W t k V : Int} (h : msrB ⟨W, t, k⟩ = true) (h1 : 1 ≤ V) (h2 : V ≤ 2000) : msrB ⟨V, t, k⟩ = true := by
  have h3 := msrB_iff.1 h
  exact msrB_iff.2 ⟨h1, h2, h3.2.2⟩

theorem IntsB.keep3 {w w' : World} {b r : Nat} {A : Option Addr} {zs : List Int} (h : IntsB w b A zs) (hg : w.grownBy w' (some r)) (hr : b ≤ r) : IntsB w' b A zs := fun hn => by
  obtain ⟨ad, e, hl, hc⟩ := h hn
  exact ⟨ad, e, hl, fun j hj => (World.cell?_of_block (hg.block _ (World.block_lt_of_cell? _ _ (hc j hj)) (fun e => by injection e with e; rw [block_add] at e; omega))).trans (hc j hj)⟩

set_option maxRecDepth 100000 in
set_option maxHeartbeats 3200000 in
theorem implWdsFor_any (W t k : Int) (A : Option Addr) (n c : Nat) (zs : List Int) (most : Int) (w : World) (hn : zs.length = n) (hc : n ≤ c) (hcm : c ≤ maxLen) (h : Ints w A zs) :
    Calls Try.prog 31 #[.agg #[.int .i64 W, .int .i64 t, .int .i64 k], .slice A n c, .int .i64 most] w fun e w' => ∃ v, e = .returned v ∧ Own w' w.heap.size v (wdsA ⟨W, t, k⟩ zs most) ∧ Below w.heap.size w w' := by
  have C := fun (w : World) (hI : Ints w A zs) => stOk_any W t k A n c zs w hn (Nat.le_trans hc hcm) hI
  obtain ⟨w0, hw0, hb0, hz0, P⟩ := msWorld w W t k
  have T0 := Lib.hid hb0; have P0 := Lib.hid P; have Z0 := Lib.hid hz0
  have I0 := Lib.hid (h.below hb0)
  have J0 := Lib.hid ((IntsB.of h).keep (Nat.le_refl _) hb0)
  have CC := Lib.hid C; have Hn := Lib.hid hn; have Hc := Lib.hid hc; have Hcm := Lib.hid hcm
  obtain ⟨p0, p1, p2⟩ := P
  clear hb0 hz0 hn h C hc hcm
  cases ho : okW ⟨W, t, k⟩ zs
  · have HR : Hid (wdsA ⟨W, t, k⟩ zs most = []) := by show _ = _; unfold wdsA wdsB; rw [ho]; rfl
    have HO := Lib.hid ho
    clear ho
    go_enter Try.func31, Try.ntmps31
    go_wp2_with fail
    clear hw0
    refine (CC.out _ I0.out).mono ?_
    rintro e w1 ⟨he, hb1⟩
    rw [show (msrB ⟨W, t, k⟩ && textB zs) = false from HO.out] at he; subst he
    have T1 := Lib.hid (T0.out.trans (hb1.mono (B' := w.heap.size) (by have := Z0.out; omega)))
    clear hb1 p0 p1 p2
    go_wp2
    go_ret
    exact ⟨_, rfl, by rw [HR.out]; exact World.ownsRow_nil _ _ _ _, T1.out⟩
  have HO := Lib.hid ho
  have HM := Lib.hid (okW_parts ho)
  obtain ⟨-, hl1, hl2⟩ := textB_parts HM.out.2
  rw [Hn.out] at hl1 hl2
  obtain ⟨ad, rfl⟩ := ints_some I0.out (by rw [Hn.out]; exact hl1)
  cases hi : inB most 0 300
  · have HR : Hid (wdsA ⟨W, t, k⟩ zs most = []) := by show _ = _; unfold wdsA wdsB; rw [hi, Bool.and_false]; rfl
    have HI := Lib.hid hi
    clear ho hi
    go_enter Try.func31, Try.ntmps31
    go_wp2_with fail
    clear hw0
    refine (CC.out _ I0.out).mono ?_
    rintro e w1 ⟨he, hb1⟩
    rw [show (msrB ⟨W, t, k⟩ && textB zs) = true from HO.out] at he; subst he
    have T1 := Lib.hid (T0.out.trans (hb1.mono (B' := w.heap.size) (by have := Z0.out; omega)))
    clear hb1 p0 p1 p2
    go_wp2_with (go_at_call 52; refine (isFrom_any _ _ _ _).mono ?_; rintro e w2 ⟨he, rfl⟩; rw [HI.out] at he; subst he)
    go_ret
    exact ⟨_, rfl, by rw [HR.out]; exact World.ownsRow_nil _ _ _ _, T1.out⟩
  have hi2 := inB_true hi
  obtain ⟨q, rfl⟩ : ∃ q : Nat, most = (q : Int) := ⟨most.toNat, by omega⟩
  have HR : Hid (wdsA ⟨W, t, k⟩ zs (q : Int) = wdsF t k zs q) := by show _ = _; unfold wdsA wdsB; rw [ho, hi, Int.toNat_natCast]; rfl
  have hq : q ≤ 300 := by omega
  have HI := Lib.hid hi
  clear ho hi hi2
  go_enter Try.func31, Try.ntmps31
  go_wp2_with fail
  clear hw0
  refine (CC.out _ I0.out).mono ?_
  rintro e w1 ⟨he, hb1⟩
  rw [show (msrB ⟨W, t, k⟩ && textB zs) = true from HO.out] at he; subst he
  have T1 := Lib.hid (T0.out.trans (hb1.mono (B' := w.heap.size) (by have := Z0.out; omega)))
  have I1 := Lib.hid (I0.out.below hb1)
  have P1 := Lib.hid (hold3 hb1 (by have := Z0.out; omega) P0.out)
  have Z1 : Hid (w.heap.size < w1.heap.size) := by show _ < _; have := Z0.out; have := hb1.size; omega
  have JB := Lib.hid (J0.out.keep (by have := Z0.out; omega) hb1)
  clear p0 p1 p2 hb1 T0 I0 P0 Z0 CC J0
  go_wp2_with (first
    | (go_at_call 52; refine (isFrom_any _ _ _ _).mono ?_; rintro e w2 ⟨he, rfl⟩; rw [HI.out] at he; subst he)
    | (go_at_call 47; refine (counterOfG_any _ _ _ zs _).mono ?_; rintro e w2 ⟨r, rfl, hr, hCM, hb2⟩; have T2 := Lib.hid (T1.out.trans (hb2.mono (B' := w.heap.size) (by have := Z1.out; omega))); have I2 := Lib.hid (I1.out.below hb2); have J2 := Lib.hid (JB.out.keep (by have := Z1.out; omega) hb2); have P2 := Lib.hid (hold3 hb2 Z1.out P1.out); have Z2 : Hid (w1.heap.size ≤ w2.heap.size) := hb2.size; have M2 := Lib.hid hCM; have R2 : Hid (w1.heap.size ≤ r ∧ r < w2.heap.size) := ⟨hr, hCM.lt⟩; clear hb2 hr hCM))
  obtain ⟨B3, hB3⟩ : ∃ b, w2.heap.size = b := ⟨_, rfl⟩
  obtain ⟨w3, hw3⟩ : ∃ w3, w2.alloc (.cells #[.slice (some ad) n c, .map (some r)] 63) = w3 := ⟨_, rfl⟩
  have hb3 : Below w2.heap.size w2 w3 := by rw [← hw3]; exact below_new _ _
  have hz3 : w3.heap.size = B3 + 1 := by rw [← hw3, ← hB3]; simp
  have Q3 : Blk w3 B3 #[.slice (some ad) n c, .map (some r)] 63 := by rw [← hw3, ← hB3]; exact Blk.new _ _ _
  have HQ3 := Lib.hid Q3
  have T3 := Lib.hid (T2.out.trans (hb3.mono (B' := w.heap.size) (by have := Z1.out; have := Z2.out; omega)))
  have J3 := Lib.hid (J2.out.keep (by have := Z1.out; have := Z2.out; omega) hb3)
  have P3 := Lib.hid (hold3 hb3 (by have := Z1.out; have := Z2.out; omega) P2.out)
  have M3 := Lib.hid (((M2.out.kept hb3).anti (G' := fun k => (Value.slice none 0 0).ownBlock = some k) (fun k hk => by cases hk)))
  have hr3 : r < B3 := by have := R2.out; omega
  have hw3r : w.heap.size < r := by have := R2.out; have := Z1.out; omega
  have Z3 := Lib.hid hz3
  have CW := Lib.hid (fun (G : Nat → Prop) (V : Int) (v : World) (hG : ∀ j, G j → j < v.heap.size) (hI : Ints v (some ad) zs) (hV1 : 1 ≤ V) (hV2 : V ≤ 2000) (hr : CMapG v r zs G) => cmWayG0_any G V t k ad n c r zs v hG Hn.out Hc.out Hcm.out hI (msrB_other HM.out.1 hV1 hV2) HM.out.2 hr)
  rw [hw3, hB3]
  clear hw3 hb3 hz3 Q3 M2 P2 T2 I2 T1 I1 P1 Z1 Z2 R2 hB3
  go_loopw [8, 9] (fun u i wr => ∃ (j : Nat) (A : Option Addr) (m d : Nat), j ≤ q ∧ i = .int .i64 ((j : Int) + 1) ∧ u = .slice A m d ∧ Own wr w3.heap.size (.slice A m d) (wdsF t k zs j) ∧ CMapG wr r zs (fun k => (Value.slice A m d).ownBlock = some k) ∧ w3.grownBy wr (some r)) (fun _ i _ => q + 1 - (intOf i).toNat)
  case atStart => exact ⟨0, none, 0, 0, Nat.zero_le _, by go_num, rfl, World.ownsRow_nil _ _ _ _, M3.out, World.grownBy.refl _ _⟩
  case round =>
    obtain ⟨j, A, m, d, hj, rfl, rfl, hO, hM, hg⟩ := hrel
    have HO := Lib.hid hO; have HMr := Lib.hid hM; have HG := Lib.hid hg
    have Pr := Lib.hid (hold3by hg (by omega) P3.out)
    have Qr : wr.heap[B3]? = w3.heap[B3]? := hg.block B3 (by have := Z3.out; omega) (fun e => by cases e; omega)
    have QB : Blk wr B3 #[.slice (some ad) n c, .map (some r)] 63 := by
      have h := HQ3.out
      unfold Blk at h ⊢
      rw [Qr]; exact h
    obtain ⟨q0, q1⟩ := QB.two
    obtain ⟨p0, p1, p2⟩ := Pr.out
    clear hO hM hg Qr QB
    by_cases hlt : j < q
    · have hi1 : (j : Int) + 1 ≤ (q : Int) := by omega
      have hw1 : IntKind.i64.wrap ((j : Int) + 1 + 1) = (j : Int) + 1 + 1 := by rw [IntKind.wrap_i64]; omega
      have hGl : ∀ g, (Value.slice A m d).ownBlock = some g → g < wr.heap.size := fun g hg => (World.ownsRow.lt HO.out g hg).2
      have HGl := Lib.hid hGl
      have HC := Lib.hid (CW.out (fun k => (Value.slice A m d).ownBlock = some k) ((j : Int) + 1) wr hGl ((J3.out.keep3 HG.out (by omega)).ints) (by omega) (by omega) HMr.out)
      have hlen := wdsF_len t k zs j
      obtain ⟨x, hx⟩ : ∃ x, wayF ⟨(j : Int) + 1, t, k⟩ zs 0 = x := ⟨_, rfl⟩
      have HX := Lib.hid hx
      rw [hx] at HC
      obtain ⟨N5, hN5⟩ : ∃ N, (wdsF t k zs j ++ [(j : Int) + 1]).length = N := ⟨_, rfl⟩
      have HN5 := Lib.hid hN5
      clear hGl hx hN5
      have hz3 : w3.heap.size ≤ wr.heap.size := HG.out.size
      by_cases hpos : 0 < x
      · have HS := Lib.hid (wdsF_yes (t := t) (k := k) (zs := zs) (j := j) (by rw [HX.out]; exact hpos))
        go_wp2_with (first
          | (go_at_call 48; refine HC.out.mono ?_; rintro e w4 ⟨rfl, hg4, hM4⟩; have HO4 := Lib.hid (HO.out.grown_lt hg4 (fun k e => by cases e; have := Z3.out; omega)); have HM4 := Lib.hid hM4; have HG4 := Lib.hid (grown_trans HG.out hg4); have hz4 : w3.heap.size ≤ w4.heap.size := HG4.out.size; clear hg4 hM4)
          | (at_builtin; refine wpl_push2 w4 rfl (.tmp 36) (.tmp 38) rfl w3.heap.size _ (wdsF t k zs j) ((j : Int) + 1) rfl rfl HO4.out hz4 (by omega) ?_; intro v5 w5 hO5 hg5 hl5; have HM5 := Lib.hid (HM4.out.pushed hg5 hl5); have HG5 := Lib.hid (Moved.below_base HG4.out ((Below.refl w3.heap.size w4).grown hg5 hz4 (fun g hg => (World.ownsRow.lt HO4.out g hg).1)) (Nat.le_refl _)); obtain ⟨A5, c5, hv5, _⟩ := hO5.form; rw [HN5.out] at hv5; subst hv5; have HO5 := Lib.hid hO5; clear hO5 hg5 hl5 HO4 HM4 HG4))
        go_roundw
        case rel => exact ⟨j + 1, A5, N5, c5, by omega, by go_num, rfl, by rw [HS.out]; exact HO5.out, HM5.out, HG5.out⟩
        case measure => simp [intOf]; omega
      · have HS := Lib.hid (wdsF_no (t := t) (k := k) (zs := zs) (j := j) (by rw [HX.out]; exact hpos))
        have hpos2 : decide (0 < x) = false := decide_eq_false hpos
        clear hpos
        go_wp2_with (first
          | (go_at_call 48; refine HC.out.mono ?_; rintro e w4 ⟨rfl, hg4, hM4⟩; have HO4 := Lib.hid (HO.out.grown_lt hg4 (fun k e => by cases e; have := Z3.out; omega)); have HM4 := Lib.hid hM4; have HG4 := Lib.hid (grown_trans HG.out hg4); clear hg4 hM4))
        go_roundw
        case rel => exact ⟨j + 1, A, m, d, by omega, by go_num, rfl, by rw [HS.out]; exact HO4.out, HM4.out, HG4.out⟩
        case measure => simp [intOf]; omega
    · have hi1 : decide ((j : Int) + 1 ≤ (q : Int)) = false := decide_eq_false (by omega)
      obtain rfl : j = q := by omega
      go_wp2
      go_ret
      exact ⟨_, rfl, by rw [HR.out]; exact own_base2 HO.out (by have := T3.out.size; omega), T3.out.grown HG.out T3.out.size (fun k e => by cases e; omega)⟩
end Go.Proofs.Ytddkedinkgnboaa

namespace Go.Proofs.Ytddkedinkgnboaa
open Go.RowKit
set_option linter.unusedVariables false

theorem run_append_none_int {w : World} (base : Nat) (ty : TypeId) (v : Value) (zs : List Int) (c : Nat) (hown : Own w base v zs) :
    (Builtin.append_ #[25, 25] ty #[v, .slice none 0 c]).run Try.prog w = .ok v w := by
  obtain ⟨i0, hi, hz0, hz1, hz2⟩ := info_parts intInfo
  have hu := Try.underlying25
  rcases hown.2 with ⟨rfl, h0⟩ | ⟨g, cap, cur, rfl, _, _, hnc, _⟩
  · simp [Builtin.append_, run_underlying hu, sizeOf, typeInfo, hi, Builtin.lenOf, Builtin.firstCells]
  · simp [Builtin.append_, run_underlying hu, sizeOf, typeInfo, hi, Builtin.lenOf, Builtin.firstCells, hnc, storeCells]

section
variable {ops : Array Oper} {rest : List Oper} {o : Oper} {a : Act} {Q : Exit → Act → World → Prop}
/-- append(s, xs...) onto a row of the call's own, whatever xs -/
theorem wpl_append_any (w : World) (hg : o.guard = none) (s x : Operand) (ho : o.op = .call { callee := .builtin .append, args := #[s, x], argTypes := #[25, 25] })
    (B : Nat) (v : Value) (zs ys : List Int) (A : Option Addr) (m c : Nat) (hs : a.eval s = v) (hx : a.eval x = .slice A m c) (hm : ys.length = m) (hI : Ints w A ys) (hown : Own w B v zs) (hB : B ≤ w.heap.size) (hlen : zs.length + m ≤ 2097152)
    (hK : ∀ v' w', Own w' B v' (zs ++ ys) → w.grownBy w' v.ownBlock → (v'.ownBlock = v.ownBlock ∨ v'.ownBlock = some w.heap.size) → wpList Try.prog ops Q rest (a.put o.dst v') w') :
    wpList Try.prog ops Q (o :: rest) a w := by
  rcases Nat.eq_zero_or_pos m with h0 | hpos
  · subst h0
    have hy : ys = [] := List.eq_nil_of_length_eq_zero hm
    subst hy
    cases A with
    | none =>
      refine wpList_plain hg fun K hK' => ?_
      have hrun := run_append_none_int (w := w) B o.type v zs c hown
      unfold Oper.wp execOp
      simp only [ho, resolve, invoke, builtin, Sem.run_bind, Sem.run_pure, Result.andThen_ok, List.map_toArray, List.map_cons, List.map_nil, hs, hx, hrun]
      exact hK' _ _ (hK v w (by rw [List.append_nil]; exact hown) (World.grownBy.refl w _) (.inl rfl))
    | some ad =>
      obtain ⟨i0, hi, hz0, hz1, hz2⟩ := info_parts intInfo
      refine wpList_plain hg fun K hK' => ?_
      obtain ⟨v', w', hr, h2, h3, h4⟩ := run_append_own (P := Try.prog) w B 25 o.type 3 i0 (.int .i64 0) 1 8 Try.underlying25 hi hz0 hz1 hz2 rfl (by decide) v zs.length (zs.map (Value.int .i64)) hown ad 0 c [] rfl (fun j u hj => by simp at hj) (fun u hu => by simp at hu) (by unfold maxLen; omega) (by omega) hB
      have hlie := append_lies i0 hi hz0 hz1 hz2 hown ad 0 c (news := []) rfl (fun j u hj => by simp at hj) (fun u hu => by simp at hu) (by omega) hr
      unfold Oper.wp execOp
      simp only [ho, resolve, invoke, builtin, Sem.run_bind, Sem.run_pure, Result.andThen_ok, List.map_toArray, List.map_cons, List.map_nil, hs, hx, hr]
      refine hK' _ _ (hK v' w' ?_ h3 hlie)
      unfold Own
      rw [List.append_nil]
      simpa using h2
  · exact wpl_append2 w hg s x ho B v zs ys A m c hs hx hm hpos hI hown hB hlen hK
end

/-- one of the slices that are laid one behind the other -/
structure Part where
  A : Option Addr
  n : Nat
  c : Nat
  zs : List Int
def flat (ps : List Part) : List Int := ps.flatMap (·.zs)
theorem flat_at {ps : List Part} {k : Nat} {p : Part} (h : ps[k]? = some p) : flat (ps.take (k + 1)) = flat (ps.take k) ++ p.zs := by
  have : ps.take (k + 1) = ps.take k ++ [p] := by rw [List.take_add_one, h]; rfl
  unfold flat
  rw [this, List.flatMap_append]; simp
theorem flat_le (ps : List Part) (k : Nat) : (flat (ps.take k)).length ≤ (flat ps).length := by
  have := congrArg flat (List.take_append_drop k ps)
  unfold flat at *
  rw [List.flatMap_append] at this
  rw [← this, List.length_append]; omega
def PartsAt (w : World) (G : Addr) (b : Nat) (ps : List Part) : Prop := G.block < b ∧ ∀ j p, ps[j]? = some p → w.cell? (G.add j) = some (.slice p.A p.n p.c) ∧ p.zs.length = p.n ∧ IntsB w b p.A p.zs
theorem PartsAt.keep {w w' : World} {G : Addr} {b B : Nat} {ps : List Part} (h : PartsAt w G b ps) (hb : b ≤ B) (hB : Below B w w') : PartsAt w' G b ps :=
  ⟨h.1, fun j p hp => by
    obtain ⟨h1, h2, h3⟩ := h.2 j p hp
    exact ⟨(hB.cell (p := G.add j) (by rw [block_add]; have := h.1; omega)).trans h1, h2, h3.keep hb hB⟩⟩

set_option maxRecDepth 100000 in
set_option maxHeartbeats 1600000 in
/-- slices.Clone -/
theorem clone_any (A : Option Addr) (n c : Nat) (zs : List Int) (w : World) (hn : zs.length = n) (hm : n ≤ 1048576) (h : IntsB w w.heap.size A zs) :
    Calls Try.prog 90 #[.slice A n c] w fun e w' => ∃ v, e = .returned v ∧ Own w' w.heap.size v zs ∧ Below w.heap.size w w' := by
  have Hn := Lib.hid hn
  have H := Lib.hid h
  have heq := fun (wx : World) => Lib.run_eql_slice_nil (P := Try.prog) wx 25 3 A n c 0 0 Try.underlying25
  cases A with
  | none =>
    have hz : zs = [] := by
      cases zs with
      | nil => rfl
      | cons z zs => obtain ⟨ad, e, _⟩ := h (by simp); cases e
    subst hz
    have hn0 : n = 0 := by simpa using hn.symm
    subst hn0
    simp only [Option.isNone_none] at heq
    clear hn h
    go_enter Try.func90, Try.ntmps90
    go_wp2
    go_ret
    exact ⟨_, rfl, ⟨rfl, .inl ⟨rfl, rfl⟩⟩, Below.refl _ _⟩
  | some ad =>
    simp only [Option.isNone_some] at heq
    obtain ⟨w1, hw1⟩ : ∃ w1, w.alloc (.cells #[] 3) = w1 := ⟨_, rfl⟩
    have hb1 : Below w.heap.size w w1 := by rw [← hw1]; exact below_new _ _
    have hO1 : Own w1 w.heap.size (.slice (some ⟨w.heap.size, 0, none⟩) 0 0) [] := by rw [← hw1]; exact World.ownsRow_lit w #[] 0 (Nat.le_refl _) (Nat.zero_le _) rfl
    have B1 := Lib.hid hb1; have O1 := Lib.hid hO1
    have I1 := Lib.hid ((H.out.keep (Nat.le_refl _) hb1).ints)
    have z1 := hb1.size
    clear hn h hb1 hO1
    go_enter Try.func90, Try.ntmps90
    go_wp2_with (at_builtin; refine wpl_append_any _ rfl (.tmp 5) (.tmp 6) rfl w.heap.size _ [] zs (some ad) n c rfl rfl Hn.out I1.out O1.out z1 (by simp; omega) ?_; intro v' w4 hO4 hg4 _)
    rw [List.nil_append] at hO4
    have O4 := Lib.hid hO4; have B4 := Lib.hid (B1.out.trans ((Below.refl w.heap.size w1).grown hg4 z1 (fun g hg => (World.ownsRow.lt O1.out g hg).1)))
    clear hO4 hg4
    go_ret
    exact ⟨_, rfl, O4.out, B4.out⟩
end Go.Proofs.Ytddkedinkgnboaa

namespace Go.Proofs.Ytddkedinkgnboaa
open Go.RowKit Go.Shelf
set_option linter.unusedVariables false

/-- the sum over those ends that lie ahead of lim -/
def sumTo (m : Msr) (zs : List Int) (lim : Nat) (x : Int) (l : List Nat) : Int := l.foldl (fun acc q => if q < lim then wrap64 (acc + wayF m zs q) else acc) x
theorem sumTo_snoc (m : Msr) (zs : List Int) (lim : Nat) (x : Int) (l : List Nat) (q : Nat) : sumTo m zs lim x (l ++ [q]) = if q < lim then wrap64 (sumTo m zs lim x l + wayF m zs q) else sumTo m zs lim x l := by
  unfold sumTo; rw [List.foldl_append]; rfl
theorem sumTo_is {m : Msr} {zs : List Int} (hz : zs.length ≤ 40) {p lim : Nat} {x : Int} (h0 : 0 ≤ x) (h1 : x ≤ 1099511627776) (hp : p ≤ zs.length) (j : Nat) (hj : j ≤ zs.length + 1) (hl : lim ≤ zs.length + 1) : sumTo m zs lim x (endsTo m zs p j) = x + befF m zs p (min j lim) := by
  induction j with
  | zero => rw [endsTo_low (by omega), befF_low (by omega)]; simp [sumTo]
  | succ j ih =>
    have ih := ih (by omega)
    cases hh : (decide (p < j) && lineW m zs p j)
    · rw [endsTo_no hh, ih]
      by_cases hjl : j < lim
      · rw [show min j lim = j by omega, show min (j + 1) lim = j + 1 by omega, befF_no hh]
      · rw [show min j lim = lim by omega, show min (j + 1) lim = lim by omega]
    · rw [Bool.and_eq_true, decide_eq_true_eq] at hh
      rw [endsTo_yes hh.1 hh.2, sumTo_snoc, ih]
      by_cases hjl : j < lim
      · rw [if_pos hjl, show min j lim = j by omega, show min (j + 1) lim = j + 1 by omega, befF_yes hz hh.1 (by omega) hh.2]
        have a := befF_range (m := m) hz hp (show j ≤ zs.length + 1 by omega)
        have b := wayF_range (m := m) hz (show j ≤ zs.length by omega)
        have := IntKind.wrap_i64 (x + befF m zs p j + wayF m zs j)
        unfold wrap64; omega
      · rw [if_neg hjl, show min j lim = lim by omega, show min (j + 1) lim = lim by omega]

/-- the boxes: the measure's (g), the setting's, the counter's, the word's, the sum's; the counter's map; the words and the lines -/
structure IxSt (w : World) (g sb kb fb bb r : Nat) (W t k : Int) (ad : Addr) (n c : Nat) (zs : List Int) (Al : Option Addr) (ls : List Int) (p : Nat) (x : Int) (V : World) : Prop where
  ms : V.cell? ⟨g, 0, none⟩ = some (.int .i64 W) ∧ V.cell? ⟨g, 1, none⟩ = some (.int .i64 t) ∧ V.cell? ⟨g, 2, none⟩ = some (.int .i64 k)
  st : Blk V sb #[.int .i64 W, .int .i64 t, .int .i64 k, .slice (some ad) n c] 59
  co : Blk V kb #[.slice (some ad) n c, .map (some r)] 63
  fr : Blk V fb #[.int .i64 p] 3
  be : Blk V bb #[.int .i64 x] 3
  cm : CMapG V r zs (fun k => k = fb ∨ k = bb)
  wd : IntsB V g (some ad) zs
  li : IntsB V g Al ls
  bl : Below g w V
structure IxOrd (g sb kb fb bb r : Nat) : Prop where
  a : g < sb
  b : sb < r
  c : r < kb
  d : kb < fb
  e : fb < bb
section
variable {w : World} {g sb kb fb bb r : Nat} {W t k : Int} {ad : Addr} {n c : Nat} {zs : List Int} {Al : Option Addr} {ls : List Int} {p : Nat} {x : Int} {V V' : World}
theorem Blk.by_ {w w' : World} {B r : Nat} {cs : Array Value} {T : TypeId} (h : Blk w B cs T) (hg : w.grownBy w' (some r)) (hr : B ≠ r) : Blk w' B cs T := (hg.block B h.lt (fun e => hr (by cases e; rfl))).trans h
theorem IxSt.below (h : IxSt w g sb kb fb bb r W t k ad n c zs Al ls p x V) (ho : IxOrd g sb kb fb bb r) (hb : Below V.heap.size V V') : IxSt w g sb kb fb bb r W t k ad n c zs Al ls p x V' :=
  have hl := h.st.lt
  have := ho.a
  ⟨hold3 hb (by omega) h.ms, h.st.below hb h.st.lt, h.co.below hb h.co.lt, h.fr.below hb h.fr.lt, h.be.below hb h.be.lt, h.cm.below hb, h.wd.keep (by omega) hb, h.li.keep (by omega) hb, h.bl.trans (hb.mono (by omega))⟩
theorem IxSt.by_ (h : IxSt w g sb kb fb bb r W t k ad n c zs Al ls p x V) (ho : IxOrd g sb kb fb bb r) (hg : V.grownBy V' (some r)) (hc : CMapG V' r zs (fun k => k = fb ∨ k = bb)) : IxSt w g sb kb fb bb r W t k ad n c zs Al ls p x V' :=
  have := ho.a; have := ho.b; have := ho.c; have := ho.d; have := ho.e; have hl := h.st.lt
  ⟨hold3by hg (by omega) h.ms, h.st.by_ hg (by omega), h.co.by_ hg (by omega), h.fr.by_ hg (by omega), h.be.by_ hg (by omega), hc, h.wd.keep3 hg (by omega), h.li.keep3 hg (by omega), h.bl.grown hg (by omega) (fun k e => by cases e; omega)⟩
theorem setCell_blk (V : World) (B : Nat) (o : Nat) (u : Value) (k : Nat) (hk : k ≠ B) : (V.setCell ⟨B, o, none⟩ u).heap[k]? = V.heap[k]? := Below.heap_setCell V ⟨B, o, none⟩ u k hk
theorem setCell_size (V : World) (p : Addr) (u : Value) : (V.setCell p u).heap.size = V.heap.size := by simp [World.setCell]
/-- a store into the word's box -/
theorem IxSt.setF (h : IxSt w g sb kb fb bb r W t k ad n c zs Al ls p x V) (ho : IxOrd g sb kb fb bb r) (p' : Nat) : IxSt w g sb kb fb bb r W t k ad n c zs Al ls p' x (V.setCell ⟨fb, 0, none⟩ (.int .i64 p')) :=
  have := ho.a; have := ho.b; have := ho.c; have := ho.d; have := ho.e
  have hb : Below fb V (V.setCell ⟨fb, 0, none⟩ (.int .i64 p')) := (Below.refl fb V).setCell (p := ⟨fb, 0, none⟩) (Nat.le_refl _) _
  ⟨hold3 hb (by omega) h.ms, h.st.other _ _ (by show sb ≠ fb; omega), h.co.other _ _ (by show kb ≠ fb; omega), h.fr.set1 _, h.be.other _ _ (by show bb ≠ fb; omega),
   h.cm.ext (fun k _ hk => setCell_blk V fb 0 _ k (fun e => hk (.inl e))), h.wd.keep (by omega) hb, h.li.keep (by omega) hb, h.bl.trans (hb.mono (by omega))⟩
/-- a store into the sum's box -/
theorem IxSt.setB (h : IxSt w g sb kb fb bb r W t k ad n c zs Al ls p x V) (ho : IxOrd g sb kb fb bb r) (x' : Int) : IxSt w g sb kb fb bb r W t k ad n c zs Al ls p x' (V.setCell ⟨bb, 0, none⟩ (.int .i64 x')) :=
  have := ho.a; have := ho.b; have := ho.c; have := ho.d; have := ho.e
  have hb : Below bb V (V.setCell ⟨bb, 0, none⟩ (.int .i64 x')) := (Below.refl bb V).setCell (p := ⟨bb, 0, none⟩) (Nat.le_refl _) _
  ⟨hold3 hb (by omega) h.ms, h.st.other _ _ (by show sb ≠ bb; omega), h.co.other _ _ (by show kb ≠ bb; omega), h.fr.other _ _ (by show fb ≠ bb; omega), h.be.set1 _,
   h.cm.ext (fun k _ hk => setCell_blk V bb 0 _ k (fun e => hk (.inr e))), h.wd.keep (by omega) hb, h.li.keep (by omega) hb, h.bl.trans (hb.mono (by omega))⟩
theorem IxSt.keptC {row : Option Nat} (h : IxSt w g sb kb fb bb r W t k ad n c zs Al ls p x V) (ho : IxOrd g sb kb fb bb r) (hg : V.grownBy V' row) (hr : ∀ q, row = some q → bb < q ∧ ∃ o : Obj, V.heap[q]? = some o ∧ o.isCells = false) : IxSt w g sb kb fb bb r W t k ad n c zs Al ls p x V' := by
  have := ho.a; have := ho.b; have := ho.c; have := ho.d; have := ho.e
  have hl := h.be.lt
  have hb : Below (bb + 1) V V' := (Below.refl (bb + 1) V).grown hg (by omega) (fun k e => (hr k e).1)
  refine ⟨hold3 hb (by omega) h.ms, h.st.kept hg (fun q e => (hr q e).2), h.co.kept hg (fun q e => (hr q e).2), h.fr.kept hg (fun q e => (hr q e).2), h.be.kept hg (fun q e => (hr q e).2), ?_, h.wd.keep (by omega) hb, h.li.keep (by omega) hb, h.bl.trans (hb.mono (by omega))⟩
  -- the map lies below, the rows hold cells
  obtain ⟨hG, es, clock, h1, h2⟩ := h.cm
  refine ⟨hG, es, clock, (hb.block r (by omega)).trans h1, fun e he => ?_⟩
  obtain ⟨W, t, k, p, a, b, c, g, d⟩ := h2 e he
  exact ⟨W, t, k, p, a, b, c, g, fun hn => by
    obtain ⟨a', e', hc⟩ := d hn
    exact ⟨a', e', fun j hj => cell_kept (hc j hj) hg (fun q e => (hr q e).2)⟩⟩
theorem KpE.by_ {b : Nat} (hg : V.grownBy V' (some r)) (h1 : g ≤ r) (h2 : r < b) : KpE b g V V' := ⟨hg.size, fun p hp hb => World.cell?_of_block (hg.block p.block hb (fun e => by injection e with e; omega))⟩
theorem IxSt.drewN (h : IxSt w g sb kb fb bb r W t k ad n c zs Al ls p x V) (j : Nat) : IxSt w g sb kb fb bb r W t k ad n c zs Al ls p x (V.drewN j) := ⟨h.ms, h.st, h.co, h.fr, h.be, h.cm, h.wd, h.li, below_drewN h.bl j⟩
end
end Go.Proofs.Ytddkedinkgnboaa

namespace Go.Proofs.Ytddkedinkgnboaa
open Go.RowKit
set_option linter.unusedVariables false

set_option maxRecDepth 100000 in
set_option maxHeartbeats 1600000 in
theorem l4Rest_any (W t k : Int) (ad : Addr) (B c : Nat) (ys : List Int) (w : World) (hn : ys.length = B + 1) (h : Ints w (some ad) ys) (hm : msrB ⟨W, t, k⟩ = true) (hy : ∀ x ∈ ys, 1 ≤ x ∧ x ≤ 2000) (hB : B < 40) :
    Calls Try.prog 80 #[.agg #[.int .i64 W, .int .i64 t, .int .i64 k], .slice (some ad) (B + 1) c] w fun e w' => e = .returned (.tuple #[.int .i64 (W - widF (sumL ys) B t), .int .i64 B]) ∧ Below w.heap.size w w' := by
  have hM := msrB_iff.1 hm
  simp only at hM
  obtain ⟨hs0, hs1⟩ := words_sum hy (by omega)
  have hmu := mul_small (B := B) (e := t) (by omega) (by omega) (by omega) (by omega)
  have HL := Lib.hid (words_take hy (by omega))
  have HY := Lib.hid hy
  have Hn := Lib.hid hn
  have HR : Hid (W - widF (sumL ys) B t = W - sumL ys - (B : Int) * t) := by show _ = _; unfold widF; omega
  obtain ⟨w0, hw0, hb0, hz0, P⟩ := msWorld w W t k
  have T0 := Lib.hid hb0; have Z0 := Lib.hid hz0
  have I0 := Lib.hid (h.below hb0)
  obtain ⟨p0, p1, p2⟩ := P
  clear hb0 hz0 hn h hy hm
  obtain ⟨S, hS⟩ : ∃ S, sumL ys = S := ⟨_, rfl⟩
  have HS := Lib.hid hS
  rw [hS] at hs0 hs1 HR
  clear hS
  have e2 : IntKind.i64.wrap ((B : Int) * t) = (B : Int) * t := by rw [IntKind.wrap_i64]; omega
  have e3 : IntKind.i64.wrap (W - S) = W - S := by rw [IntKind.wrap_i64]; omega
  have e4 : IntKind.i64.wrap (W - S - (B : Int) * t) = W - S - (B : Int) * t := by rw [IntKind.wrap_i64]; omega
  go_enter Try.func80, Try.ntmps80
  go_wp2_with fail
  clear hw0
  go_loop [6, 11] (fun s i => ∃ j : Nat, j ≤ B + 1 ∧ i = .int .i64 j ∧ s = .int .i64 (sumL (ys.take j))) (fun _ i => B + 1 - (intOf i).toNat)
  case atStart => exact ⟨0, Nat.zero_le _, rfl, rfl⟩
  case round =>
    obtain ⟨j, hj, rfl, rfl⟩ := hrel
    by_cases hlt : j < B + 1
    · obtain ⟨ad2, x, hade, hx, hcx⟩ := I0.out.at_ (k := j) (by rw [Hn.out]; exact hlt)
      injection hade with hade; subst hade
      have HQ := Lib.hid (sumL_at hx.out)
      have hb1 := HL.out j
      have hx2 := HY.out x (mem_at hx.out)
      obtain ⟨sm, hsm⟩ : ∃ s, sumL (ys.take j) = s := ⟨_, rfl⟩
      rw [hsm] at HQ hb1 ⊢
      clear hsm e2 e3 e4 p0 p1 p2
      go_wp2
      go_round
      case rel => exact ⟨j + 1, by omega, by go_num, by rw [HQ.out]⟩
      case measure => simp [intOf]; omega
    · have hkn : j = B + 1 := by omega
      subst hkn
      rw [take_all Hn.out, HS.out]
      go_wp2
      go_ret2
      refine ⟨?_, T0.out⟩
      rw [HS.out, HR.out]
      rfl

set_option maxRecDepth 100000 in
set_option maxHeartbeats 1600000 in
theorem l4Rise_any (W t k : Int) (ad : Addr) (B c : Nat) (ys : List Int) (w : World) (hn : ys.length = B + 1) (h : Ints w (some ad) ys) (hm : msrB ⟨W, t, k⟩ = true) (hy : ∀ x ∈ ys, 1 ≤ x ∧ x ≤ 2000) (hB : B < 40) (hf : widF (sumL ys) B t ≤ W) :
    Calls Try.prog 64 #[.agg #[.int .i64 W, .int .i64 t, .int .i64 k], .slice (some ad) (B + 1) c] w fun e w' => e = .returned (.int .i64 (riseF ⟨W, t, k⟩ (sumL ys) B)) ∧ Below w.heap.size w w' := by
  have hM := msrB_iff.1 hm
  simp only at hM
  obtain ⟨hs0, hs1⟩ := words_sum hy (by omega)
  have hws := widF_small (L := sumL ys) (B := B) (e := t) hs0 (by omega) (by omega) (by omega) (by omega)
  have C := fun (w : World) (h : Ints w (some ad) ys) => l4Rest_any W t k ad B c ys w hn h hm hy hB
  have HR : Hid (riseF ⟨W, t, k⟩ (sumL ys) B = if B = 0 then 0 else min (k - t) ((W - widF (sumL ys) B t).tdiv B)) := rfl
  obtain ⟨R, hR⟩ : ∃ R, W - widF (sumL ys) B t = R := ⟨_, rfl⟩
  rw [hR] at C HR
  have hR0 : 0 ≤ R := by omega
  have hR1 : R ≤ 2000 := by omega
  have CC := Lib.hid C
  obtain ⟨w0, hw0, hb0, hz0, P⟩ := msWorld w W t k
  have T0 := Lib.hid hb0; have Z0 := Lib.hid hz0; have P0 := Lib.hid P
  have I0 := Lib.hid (h.below hb0)
  obtain ⟨p0, p1, p2⟩ := P
  clear hb0 hz0 hn h hy hm hs0 hs1 hws hf C hR
  go_enter Try.func64, Try.ntmps64
  go_wp2_with fail
  clear hw0 p0 p1 p2
  refine (CC.out _ I0.out).mono ?_
  rintro e w1 ⟨rfl, hb1⟩
  have T1 := Lib.hid (T0.out.trans (hb1.mono (B' := w.heap.size) (by have := Z0.out; omega)))
  obtain ⟨p0, p1, p2⟩ := hold3 hb1 (by have := Z0.out; omega) P0.out
  clear hb1 P0 T0 I0 CC
  by_cases hb : B = 0
  · subst hb
    go_wp2
    go_ret
    exact ⟨ret_int (by rw [HR.out]; simp), T1.out⟩
  · have HR2 : Hid (riseF ⟨W, t, k⟩ (sumL ys) B = min (k - t) (R.tdiv B)) := by show _ = _; rw [HR.out, if_neg hb]
    have hd := tdiv_small (x := R) (b := B) (by omega) (by omega) (by omega)
    obtain ⟨q, hq⟩ : ∃ q, R.tdiv (B : Int) = q := ⟨_, rfl⟩
    rw [hq] at hd HR2
    have hb0 : ((B : Int) == 0) = false := by rw [beq_eq_false_iff_ne]; omega
    have hbx : ¬ ((B : Int) = 0) := by omega
    have e1 : IntKind.i64.wrap (k - t) = k - t := by rw [IntKind.wrap_i64]; omega
    have e3 : IntKind.i64.wrap q = q := by rw [IntKind.wrap_i64]; omega
    clear HR
    go_wp2_with fail
    go_region
    all_goals (try go_wp2)
    all_goals
      go_ret
      refine ⟨ret_int ?_, T1.out.drew⟩
      rw [HR2.out]
      omega
theorem rest_at (m : Msr) (L : Int) (B : Nat) : restF m L B = (m.w - widF L B m.t) - (B : Int) * riseF m L B := by unfold restF widF; rw [Int.mul_add]; omega

set_option maxRecDepth 100000 in
set_option maxHeartbeats 1600000 in
theorem l4Kind_any (W t k : Int) (ad : Addr) (B c : Nat) (ys : List Int) (w : World) (hn : ys.length = B + 1) (h : Ints w (some ad) ys) (hm : msrB ⟨W, t, k⟩ = true) (hy : ∀ x ∈ ys, 1 ≤ x ∧ x ≤ 2000) (hB : B < 40) :
    Calls Try.prog 75 #[.agg #[.int .i64 W, .int .i64 t, .int .i64 k], .slice (some ad) (B + 1) c] w fun e w' => e = .returned (.int .i64 (kindF ⟨W, t, k⟩ (sumL ys) B)) ∧ Below w.heap.size w w' := by
  have hM := msrB_iff.1 hm
  simp only at hM
  obtain ⟨hs0, hs1⟩ := words_sum hy (by omega)
  have hws := widF_small (L := sumL ys) (B := B) (e := t) hs0 (by omega) (by omega) (by omega) (by omega)
  have hrb := riseF_bound (m := ⟨W, t, k⟩) (L := sumL ys) (B := B) hs0 (by omega) (by omega) hm
  have C := fun (w : World) (h : Ints w (some ad) ys) => l4Rest_any W t k ad B c ys w hn h hm hy hB
  have D := fun (w : World) (h : Ints w (some ad) ys) (hf : widF (sumL ys) B t ≤ W) => l4Rise_any W t k ad B c ys w hn h hm hy hB hf
  obtain ⟨r, hr⟩ : ∃ r, riseF ⟨W, t, k⟩ (sumL ys) B = r := ⟨_, rfl⟩
  obtain ⟨R, hR⟩ : ∃ R, W - widF (sumL ys) B t = R := ⟨_, rfl⟩
  have HF : Hid (fullF ⟨W, t, k⟩ (sumL ys) B = (R - (B : Int) * r == 0 || decide (R - (B : Int) * r < B))) := by
    show _ = _
    have e : restF ⟨W, t, k⟩ (sumL ys) B = R - (B : Int) * r := by rw [rest_at, hr]; show W - widF _ _ t - _ = _; rw [hR]
    unfold fullF; rw [e]
  have HS : 0 ≤ R → (0 ≤ r ∧ 0 ≤ (B : Int) * r ∧ (B : Int) * r ≤ R) := fun h0 => by
    have := riseF_spec hm (L := sumL ys) (B := B) (by show widF (sumL ys) B t ≤ W; omega)
    have e : restF ⟨W, t, k⟩ (sumL ys) B = R - (B : Int) * r := by rw [rest_at, hr]; show W - widF _ _ t - _ = _; rw [hR]
    rw [hr, e] at this
    exact ⟨this.1, Int.mul_nonneg (by omega) this.1, by omega⟩
  rw [hR] at C
  rw [hr] at D
  have CC := Lib.hid C
  have DD := Lib.hid (fun w h (h0 : 0 ≤ R) => D w h (by omega))
  have HW : Hid (widF (sumL ys) B t ≤ W ↔ 0 ≤ R) := by show _ ↔ _; omega
  have hR1 : R ≤ 2000 := by omega
  have hR2 : -2000000 ≤ R := by omega
  have HSS := Lib.hid HS
  obtain ⟨w0, hw0, hb0, hz0, P⟩ := msWorld w W t k
  have T0 := Lib.hid hb0; have Z0 := Lib.hid hz0; have P0 := Lib.hid P
  have I0 := Lib.hid (h.below hb0)
  obtain ⟨p0, p1, p2⟩ := P
  clear hb0 hz0 hn h hy hs0 hs1 hws C D hR hr HS hrb
  go_enter Try.func75, Try.ntmps75
  go_wp2_with fail
  clear hw0 p0 p1 p2
  refine (CC.out _ I0.out).mono ?_
  rintro e w1 ⟨rfl, hb1⟩
  have T1 := Lib.hid (T0.out.trans (hb1.mono (B' := w.heap.size) (by have := Z0.out; omega)))
  have I1 := Lib.hid (I0.out.below hb1)
  have Z1 : Hid (w.heap.size ≤ w1.heap.size) := by show _ ≤ _; have := Z0.out; have := hb1.size; omega
  obtain ⟨p0, p1, p2⟩ := hold3 hb1 (by have := Z0.out; omega) P0.out
  clear hb1 P0 T0 I0 CC
  by_cases h0 : 0 ≤ R
  · obtain ⟨g0, g1, g2⟩ := HSS.out h0
    have hf0 : Hid (decide (widF (sumL ys) B t ≤ W) = true) := by show _ = _; exact decide_eq_true (HW.out.2 h0)
    have hnl : ¬ R < 0 := by omega
    have DD2 := Lib.hid (fun w h => DD.out w h h0)
    have e1 : IntKind.i64.wrap ((B : Int) * r) = (B : Int) * r := by rw [IntKind.wrap_i64]; omega
    have e2 : IntKind.i64.wrap (R - (B : Int) * r) = R - (B : Int) * r := by rw [IntKind.wrap_i64]; omega
    clear h0 DD HSS
    go_wp2_with fail
    clear p0 p1 p2
    refine (DD2.out _ I1.out).mono ?_
    rintro e w2 ⟨rfl, hb2⟩
    have T2 := Lib.hid (T1.out.trans (hb2.mono (B' := w.heap.size) Z1.out))
    clear hb2
    obtain ⟨y, hy⟩ : ∃ y, R - (B : Int) * r = y := ⟨_, rfl⟩
    rw [hy] at HF e2
    have HY := Lib.hid hy
    by_cases hz : y = 0
    · subst hz
      have HK : Hid (kindF ⟨W, t, k⟩ (sumL ys) B = 2) := kindF_full (by rw [hf0.out, HF.out]; simp)
      go_wp2
      go_ret
      exact ⟨ret_int HK.out.symm, T2.out⟩
    · have hz0 : (y == 0) = false := by simpa using hz
      by_cases hlt : y < (B : Int)
      · have HK : Hid (kindF ⟨W, t, k⟩ (sumL ys) B = 2) := kindF_full (by rw [hf0.out, HF.out]; simp [hlt])
        go_wp2
        go_ret
        exact ⟨ret_int HK.out.symm, T2.out⟩
      · have HK : Hid (kindF ⟨W, t, k⟩ (sumL ys) B = 1) := kindF_fits (by rw [hf0.out, HF.out]; simp [hlt, hz]) hf0.out
        go_wp2
        go_ret
        exact ⟨ret_int HK.out.symm, T2.out⟩
  · have HK : Hid (kindF ⟨W, t, k⟩ (sumL ys) B = 0) := kindF_no (decide_eq_false (fun hf => h0 (HW.out.1 hf)))
    have hnl : R < 0 := by omega
    clear h0 DD HSS
    go_wp2
    go_ret
    exact ⟨ret_int HK.out.symm, T1.out⟩
end Go.Proofs.Ytddkedinkgnboaa

namespace Go.Proofs.Ytddkedinkgnboaa
open Go.RowKit
set_option linter.unusedVariables false

theorem kindSeg_any (W t k : Int) (ad : Addr) (M cc : Nat) (zs : List Int) (a b : Nat) (w : World) (h : Ints w (some ad) zs) (hm : msrB ⟨W, t, k⟩ = true) (ht : textB zs = true) (hab : a < b) (hb : b ≤ zs.length) (hM : b - a = M) :
    Calls Try.prog 75 #[.agg #[.int .i64 W, .int .i64 t, .int .i64 k], .slice (some (ad.add a)) M cc] w fun e w' => e = .returned (.int .i64 (kindW ⟨W, t, k⟩ zs a b)) ∧ Below w.heap.size w w' := by
  obtain ⟨hz, hl1, hl2⟩ := textB_parts ht
  obtain ⟨B, rfl⟩ : ∃ B, M = B + 1 := ⟨M - 1, by omega⟩
  have := l4Kind_any W t k (ad.add a) B cc (seg zs a b) w (by rw [seg_len hb]; exact hM) (ints_seg h hb) hm (fun x hx => hz x (seg_mem hx)) (by omega)
  unfold kindW
  rw [show b - a - 1 = B by omega]
  exact this
theorem riseSeg_any (W t k : Int) (ad : Addr) (M cc : Nat) (zs : List Int) (a b : Nat) (w : World) (h : Ints w (some ad) zs) (hm : msrB ⟨W, t, k⟩ = true) (ht : textB zs = true) (hab : a < b) (hb : b ≤ zs.length) (hM : b - a = M) (hl : lineW ⟨W, t, k⟩ zs a b = true) :
    Calls Try.prog 64 #[.agg #[.int .i64 W, .int .i64 t, .int .i64 k], .slice (some (ad.add a)) M cc] w fun e w' => e = .returned (.int .i64 (riseW ⟨W, t, k⟩ zs a b)) ∧ Below w.heap.size w w' := by
  obtain ⟨hz, hl1, hl2⟩ := textB_parts ht
  obtain ⟨B, rfl⟩ : ∃ B, M = B + 1 := ⟨M - 1, by omega⟩
  have hf := lineW_fits hl
  rw [show b - a - 1 = B by omega] at hf
  have := l4Rise_any W t k (ad.add a) B cc (seg zs a b) w (by rw [seg_len hb]; exact hM) (ints_seg h hb) hm (fun x hx => hz x (seg_mem hx)) (by omega) hf
  unfold riseW
  rw [show b - a - 1 = B by omega]
  exact this

set_option maxHeartbeats 800000 in
theorem l4Ok_any (W t k : Int) (A : Option Addr) (n c : Nat) (zs : List Int) (w : World) (hn : zs.length = n) (hm : n ≤ maxLen) (h : Ints w A zs) :
    Calls Try.prog 55 #[.agg #[.int .i64 W, .int .i64 t, .int .i64 k], .slice A n c] w fun e w' => e = .returned (.bool (msrB ⟨W, t, k⟩ && textB zs)) ∧ Below w.heap.size w w' := by
  have Hn := Lib.hid hn
  obtain ⟨w0, hw0, hb0, hz0, P⟩ := msWorld w W t k
  have T0 := Lib.hid hb0; have P0 := Lib.hid P; have Z0 := Lib.hid hz0
  have I0 := Lib.hid (h.below hb0)
  obtain ⟨p0, p1, p2⟩ := P
  clear hb0 hz0 hn h
  cases hms : msrB ⟨W, t, k⟩
  · go_enter Try.func55, Try.ntmps55
    go_wp2_with fail
    clear hw0
    refine (specMeasureOk_any W t k _).mono ?_
    rintro e w1 ⟨he, hb1⟩
    rw [hms] at he; subst he
    have T1 := Lib.hid (T0.out.trans (hb1.mono (B' := w.heap.size) (by have := Z0.out; omega)))
    clear hb1 p0 p1 p2 hms
    go_wp2
    go_ret
    exact ⟨rfl, T1.out⟩
  · go_enter Try.func55, Try.ntmps55
    go_wp2_with fail
    clear hw0
    refine (specMeasureOk_any W t k _).mono ?_
    rintro e w1 ⟨he, hb1⟩
    rw [hms] at he; subst he
    have T1 := Lib.hid (T0.out.trans (hb1.mono (B' := w.heap.size) (by have := Z0.out; omega)))
    have I1 := Lib.hid (I0.out.below hb1)
    clear hb1 p0 p1 p2 hms
    go_wp2_with fail
    refine (specTextOk_any A n c zs _ Hn.out hm I1.out).mono ?_
    rintro e w2 ⟨rfl, rfl⟩
    go_wp2
    go_ret
    exact ⟨ret_bool (by simp), T1.out⟩

set_option maxRecDepth 100000 in
set_option maxHeartbeats 1600000 in
theorem l4Goes_any (W t k : Int) (ad : Addr) (n c : Nat) (zs : List Int) (a q : Nat) (w : World) (hn : zs.length = n) (hc : n ≤ c) (hcm : c ≤ maxLen) (h : Ints w (some ad) zs) (hm : msrB ⟨W, t, k⟩ = true) (ht : textB zs = true) (hq : 1 ≤ q) (hb : a + q ≤ n) :
    Calls Try.prog 59 #[.agg #[.int .i64 W, .int .i64 t, .int .i64 k], .slice (some ad) n c, .int .i64 a, .int .i64 q] w fun e w' => e = .returned (.bool (lineW ⟨W, t, k⟩ zs a (a + q))) ∧ Below w.heap.size w w' := by
  obtain ⟨r, hr⟩ : ∃ r, a + q = r := ⟨_, rfl⟩
  have C := fun (w : World) (hI : Ints w (some ad) zs) => kindSeg_any W t k ad q (c - a) zs a r w hI hm ht (by omega) (by omega) (by omega)
  have HR : Hid (lineW ⟨W, t, k⟩ zs a r = (kindW ⟨W, t, k⟩ zs a r == 2 || (kindW ⟨W, t, k⟩ zs a r == 1 && decide (r = n)))) := by show _ = _; unfold lineW; rw [hn]
  obtain ⟨K, hK⟩ : ∃ K, kindW ⟨W, t, k⟩ zs a r = K := ⟨_, rfl⟩
  have hK3 : K = 0 ∨ K = 1 ∨ K = 2 := by rw [← hK]; exact kindF_cases _ _ _
  rw [hK] at C HR
  rw [hr]
  have CC := Lib.hid C
  unfold maxLen at hcm
  have hcast : (a : Int) + (q : Int) = (r : Int) := by omega
  have e2 : IntKind.i64.wrap ((a : Int) + (q : Int)) = (r : Int) := by rw [IntKind.wrap_i64]; obtain ⟨_, _, _⟩ := textB_parts ht; omega
  have hca : ¬ c = a := by omega
  have har : a ≤ r := by omega
  have hrc : r ≤ c := by omega
  have hra : r - a = q := by omega
  have e5 : IntKind.i64.wrap (r : Int) = (r : Int) := by rw [← hcast]; rw [e2]; omega
  have i1 : (0 : Int) ≤ (a : Int) := by omega
  have i2 : (a : Int) ≤ (r : Int) := by omega
  have i3 : (r : Int) ≤ (c : Int) := by omega
  have i4 : (0 : Int) ≤ (r : Int) := by omega
  obtain ⟨w0, hw0, hb0, hz0, P⟩ := msWorld w W t k
  have T0 := Lib.hid hb0; have P0 := Lib.hid P; have Z0 := Lib.hid hz0
  have I0 := Lib.hid (h.below hb0)
  have HN := Lib.hid hn
  obtain ⟨p0, p1, p2⟩ := P
  clear hb0 hn h hc hcm ht hm C hK hr
  go_enter Try.func59, Try.ntmps59
  go_wp2_with fail
  clear hw0
  have hz := Z0.out
  first
    | go_region_held3 (fun w' => w'.cell? ⟨w.heap.size, 0, none⟩ = some (.int .i64 W) ∧ w'.cell? ⟨w.heap.size, 1, none⟩ = some (.int .i64 t) ∧ w'.cell? ⟨w.heap.size, 2, none⟩ = some (.int .i64 k)) (first | go_keep | exact P1.out) (first
        | (go_at_call 75; refine (CC.out _ I0.out.drew).mono ?_; rintro e w1 ⟨rfl, hb1⟩; have hc1 : Below w0.heap.size w0 w1 := undrew hb1; have P1 := Lib.hid (hold3 hc1 (by omega) P0.out); have T1 := Lib.hid (T0.out.trans (hc1.mono (B' := w.heap.size) (by omega))); clear hb1 hc1))
    | fail "the region"
  all_goals
    clear hca har hrc hra i1 i2 i3 i4
    rcases hK3 with rfl | rfl | rfl
    · go_wp2
      go_ret
      exact ⟨ret_bool (by rw [HR.out]; simp), T1.out⟩
    · by_cases hbn : r = n
      · subst hbn
        go_wp2
        go_ret
        exact ⟨ret_bool (by rw [HR.out]; simp), T1.out⟩
      · have hd : ((r : Int) == (n : Int)) = false := by rw [beq_eq_false_iff_ne]; omega
        have hd2 : Hid (decide (r = n) = false) := by show _ = _; exact decide_eq_false hbn
        clear hbn
        go_wp2
        go_ret
        exact ⟨ret_bool (by rw [HR.out, hd2.out]; simp), T1.out⟩
    · go_wp2
      go_ret
      exact ⟨ret_bool (by rw [HR.out]; simp), T1.out⟩
end Go.Proofs.Ytddkedinkgnboaa

namespace Go.Proofs.Ytddkedinkgnboaa
open Go.RowKit
set_option linter.unusedVariables false

theorem rowE_zero {m : Msr} {zs : List Int} {add : Int → Nat → Nat → Int → Int} {e z : Int} (d i : Nat) (h : i + d < zs.length) : (rowE m zs add e z d).getD i 0 = 0 := by
  induction d with
  | zero =>
    rw [rowE]
    simp only [List.getD]
    rw [List.getElem?_append_left (by simpa using h), List.getElem?_replicate, if_pos (by simpa using h)]
    rfl
  | succ d ih => rw [rowE, getD_set_ne (by omega)]; exact ih (by omega)
theorem set_same0 {l : List Int} {i : Nat} (h : i < l.length) (h0 : l.getD i 0 = 0) : l.set i 0 = l := by
  apply List.ext_getElem?
  intro j
  by_cases e : i = j
  · subst e
    rw [List.getElem?_set_self h]
    simp [List.getD, h] at h0
    rw [List.getElem?_eq_getElem h, h0]
  · rw [List.getElem?_set_ne e]

theorem made_own {w : World} {B g n c : Nat} (h : w.ownsRow B 3 1 (.slice (some ⟨g, 0, none⟩) n c) n (List.replicate n (.int .i64 0))) : Own w B (.slice (some ⟨g, 0, none⟩) n c) (List.replicate n 0) := by
  unfold Own
  rw [List.length_replicate, List.map_replicate]
  exact h
theorem below_store {B : Nat} {w w' : World} {g j : Nat} (h : Below B w w') (hg : B ≤ g) (u : Value) : Below B w (w'.setCell ⟨g, j, none⟩ u) := h.setCell (p := ⟨g, j, none⟩) hg u

set_option maxRecDepth 100000 in
set_option maxHeartbeats 6400000 in
theorem l4Ways_any (W t k : Int) (ad : Addr) (n c : Nat) (zs : List Int) (w : World) (hn : zs.length = n) (hc : n ≤ c) (hcm : c ≤ maxLen) (h : Ints w (some ad) zs) (hm : msrB ⟨W, t, k⟩ = true) (ht : textB zs = true) :
    Calls Try.prog 56 #[.agg #[.int .i64 W, .int .i64 t, .int .i64 k], .slice (some ad) n c] w fun e w' => ∃ g N1, N1 = n + 1 ∧ e = .returned (.slice (some ⟨g, 0, none⟩) N1 N1) ∧ w.heap.size ≤ g ∧ Own w' w.heap.size (.slice (some ⟨g, 0, none⟩) N1 N1) (rowE ⟨W, t, k⟩ zs addC 1 0 n) ∧ Below w.heap.size w w' := by
  obtain ⟨hz, hl1, hl2⟩ := textB_parts ht
  rw [hn] at hl1 hl2
  have CG := fun (a q : Nat) (v : World) (hI : Ints v (some ad) zs) (hq : 1 ≤ q) (hb : a + q ≤ n) => l4Goes_any W t k ad n c zs a q v hn hc hcm hI hm ht hq hb
  have HG := Lib.hid CG
  obtain ⟨N1, hN1⟩ : ∃ N1, n + 1 = N1 := ⟨_, rfl⟩
  have Hn := Lib.hid hn; have HN1 := Lib.hid hN1
  have hcast : (n : Int) + 1 = (N1 : Int) := by omega
  have e1 : IntKind.i64.wrap ((n : Int) + 1) = (N1 : Int) := by rw [IntKind.wrap_i64]; omega
  have hw1 : IntKind.i64.wrap ((n : Int) - 1) = (n : Int) - 1 := by rw [IntKind.wrap_i64]; omega
  obtain ⟨w0, hw0, hb0, hz0, P⟩ := msWorld w W t k
  have T0 := Lib.hid hb0; have P0 := Lib.hid P; have Z0 := Lib.hid hz0
  have I0 := Lib.hid ((IntsB.of h).keep (Nat.le_refl _) hb0)
  obtain ⟨p0, p1, p2⟩ := P
  clear hb0 hz0 hn h hm ht hc hcm CG hN1 hz
  go_enter Try.func56, Try.ntmps56
  go_wp2_with (at_make; refine wpl_make_int _ rfl (.tmp 10) rfl N1 _ rfl rfl (by omega) ?_; intro w1 hO0 hb; have hO := made_own hO0; obtain ⟨⟨y0, hy0⟩, hfz, hst⟩ := own_store hO (by simp) (show n < N1 by omega); have S1 := Lib.hid (hst 1); have T1 := Lib.hid (below_store hb (Nat.le_refl _) (j := n) (.int .i64 1)); clear hO0 hO hb hst)
  clear hw0 p0 p1 p2 hy0 hfz
  obtain ⟨g, hg⟩ : ∃ g, w0.heap.size = g := ⟨_, rfl⟩
  rw [hg] at S1 T1 ⊢
  have hz0 : w.heap.size < g := by have := Z0.out; omega
  obtain ⟨w2, hw2⟩ : ∃ w2, w1.setCell ⟨g, n, none⟩ (.int .i64 1) = w2 := ⟨_, rfl⟩
  rw [hw2] at S1 T1 ⊢
  have S2 : Hid (Own w2 g (.slice (some ⟨g, 0, none⟩) N1 N1) (rowE ⟨W, t, k⟩ zs addC 1 0 0)) := by
    show Own _ _ _ _
    rw [rowE, Hn.out, ← row_start, HN1.out]
    exact S1.out
  have HGz := Lib.hid hg
  clear hw2 S1 hg
  go_loopw [6] (fun i wr => ∃ d : Nat, d ≤ n ∧ i = .int .i64 ((n : Int) - 1 - d) ∧ Own wr g (.slice (some ⟨g, 0, none⟩) N1 N1) (rowE ⟨W, t, k⟩ zs addC 1 0 d) ∧ Below g w0 wr) (fun i _ => (intOf i + 1).toNat)
  case atStart => exact ⟨0, Nat.zero_le _, by go_num, S2.out, T1.out⟩
  case round =>
    obtain ⟨d, hd, rfl, hO, hb⟩ := hrel
    have HO := Lib.hid hO; have HB := Lib.hid hb
    clear hO hb S2 T1
    by_cases hlt : d < n
    · obtain ⟨a, ha⟩ : ∃ a : Nat, n - 1 - d = a := ⟨_, rfl⟩
      have han : a < n := by omega
      have HA := Lib.hid ha
      have hai : (n : Int) - 1 - (d : Int) = (a : Int) := by omega
      have hai2 : IntKind.i64.wrap ((a : Int) - 1) = (a : Int) - 1 := by rw [IntKind.wrap_i64]; omega
      rw [hai]
      obtain ⟨row, hrow⟩ : ∃ row, rowE ⟨W, t, k⟩ zs addC 1 0 d = row := ⟨_, rfl⟩
      have hlen : row.length = N1 := by rw [← hrow, rowE_len, Hn.out]; exact HN1.out
      have h0 : row.getD a 0 = 0 := by rw [← hrow]; exact rowE_zero d a (by rw [Hn.out]; omega)
      rw [hrow] at HO
      have HO2 : Hid (Own wr g (.slice (some ⟨g, 0, none⟩) N1 N1) (row.set a (accE addC 0 a row (endsTo ⟨W, t, k⟩ zs a (a + 1))))) := by
        show Own _ _ _ _
        rw [endsTo_low (by omega), show accE addC 0 a row [] = 0 from rfl, set_same0 (by rw [hlen]; omega) h0]
        exact HO.out
      have HRow := Lib.hid hrow; have HLen := Lib.hid hlen
      clear ha hrow hlen h0 HO hd hai
      go_wp2
      rename_i wr1
      go_loopw [7] (fun q wr => ∃ j : Nat, 1 ≤ j ∧ j ≤ n - a + 1 ∧ q = .int .i64 j ∧ Own wr g (.slice (some ⟨g, 0, none⟩) N1 N1) (row.set a (accE addC 0 a row (endsTo ⟨W, t, k⟩ zs a (a + j)))) ∧ Below g w0 wr) (fun q _ => n - a + 1 - (intOf q).toNat)
      case atStart => exact ⟨1, Nat.le_refl _, by omega, by go_num, HO2.out, HB.out⟩
      case round =>
        obtain ⟨j, hj1, hj2, rfl, hO, hb⟩ := hrel
        have HO := Lib.hid hO; have HB2 := Lib.hid hb
        clear hO hb HO2 HB
        have P2 := Lib.hid (hold3 HB2.out (by omega) P0.out)
        have I2 := Lib.hid ((I0.out.keep (by omega) HB2.out).ints)
        have hgz : g < wr.heap.size := by
          obtain ⟨g', m', c', e, -, -, -, -, -, hr⟩ := own_form2 HO.out (by rw [List.length_set, HLen.out]; omega)
          injection e with e1 e2 e3
          injection e1 with e1
          injection e1 with e1
          have := (World.ownsRow.lt hr g' rfl).2
          omega
        obtain ⟨p0, p1, p2⟩ := P2.out
        obtain ⟨r, hr⟩ : ∃ r, a + j = r := ⟨_, rfl⟩
        have hcr : (a : Int) + (j : Int) = (r : Int) := by omega
        have er : IntKind.i64.wrap (r : Int) = (r : Int) := by rw [IntKind.wrap_i64]; omega
        have hwj : IntKind.i64.wrap ((j : Int) + 1) = (j : Int) + 1 := by rw [IntKind.wrap_i64]; omega
        have hr1 : a + (j + 1) = r + 1 := by omega
        have HR := Lib.hid hr; have HR1 := Lib.hid hr1
        by_cases hlr : r ≤ n
        · have hrn : (r : Int) ≤ (n : Int) := by omega
          have HC := Lib.hid (HG.out a j wr I2.out hj1 (by omega))
          rw [hr] at HC HO
          clear hr hr1
          cases hl : lineW ⟨W, t, k⟩ zs a r
          · have HE := Lib.hid (endsTo_no (m := ⟨W, t, k⟩) (zs := zs) (a := a) (p := r) (by rw [hl]; simp))
            have HL := Lib.hid hl
            clear hl
            go_wp2_with (go_at_call 59; refine HC.out.mono ?_; rintro e w3 ⟨he, hb3⟩; rw [HL.out] at he; subst he; have O3 := Lib.hid (HO.out.below hb3); have B3 := Lib.hid (HB2.out.trans (hb3.mono (B' := g) (by omega))); clear hb3)
            go_roundw
            case rel => exact ⟨j + 1, by omega, by omega, by go_num, by rw [HR1.out, HE.out]; exact O3.out, B3.out⟩
            case measure => simp [intOf]; omega
          · have HE := Lib.hid (endsTo_yes (m := ⟨W, t, k⟩) (zs := zs) (a := a) (p := r) (by omega) hl)
            have HL := Lib.hid hl
            clear hl
            go_wp2_with (go_at_call 59; refine HC.out.mono ?_; rintro e w3 ⟨he, hb3⟩; rw [HL.out] at he; subst he; have O3 := Lib.hid (HO.out.below hb3); have B3 := Lib.hid (HB2.out.trans (hb3.mono (B' := g) (by omega))); clear hb3)
            have Hl2 : Hid ((row.set a (accE addC 0 a row (endsTo ⟨W, t, k⟩ zs a r))).length = N1) := by show _ = _; rw [List.length_set]; exact HLen.out
            have haN : a < N1 := by omega
            have hrN : r < N1 := by omega
            obtain ⟨-, hfz, hst⟩ := own_store O3.out Hl2.out haN
            have hca := own_cell O3.out (j := a) (by rw [Hl2.out]; exact haN)
            have hcc := own_cell O3.out (j := r) (by rw [Hl2.out]; exact hrN)
            rw [getD_set_eq (by rw [HLen.out]; exact haN)] at hca
            rw [getD_set_ne (by omega)] at hcc
            have HA2 := Lib.hid (accE_snoc addC 0 a row (endsTo ⟨W, t, k⟩ zs a r) r)
            obtain ⟨acc, hacc⟩ : ∃ acc, accE addC 0 a row (endsTo ⟨W, t, k⟩ zs a r) = acc := ⟨_, rfl⟩
            obtain ⟨y, hy⟩ : ∃ y, row.getD r 0 = y := ⟨_, rfl⟩
            rw [hacc] at hca HA2 hst
            rw [hy] at hcc HA2
            have HS := Lib.hid (hst (addC acc a r y))
            rw [set_set_same] at HS
            have BS := Lib.hid (below_store B3.out (Nat.le_refl _) (j := a) (.int .i64 (addC acc a r y)))
            have i1 : (0 : Int) ≤ (a : Int) := by omega
            have i2 : (a : Int) < (N1 : Int) := by omega
            have i3 : (0 : Int) ≤ (r : Int) := by omega
            have i4 : (r : Int) < (N1 : Int) := by omega
            clear hst hacc hy p0 p1 p2
            go_still_tail 14, (by kernel_rfl)
            go_wp2
            have hW : (w3.setCell { block := g, off := a } (.int .i64 (wrap64 (acc + y)))).drew = w3.drew.setCell ⟨g, a, none⟩ (.int .i64 (addC acc a r y)) := rfl
            go_roundw
            case rel => exact ⟨j + 1, by omega, by omega, by go_num, by rw [HR1.out, HE.out, HA2.out]; exact HS.out.drewN 1, below_drewN BS.out 1⟩
            case measure => simp [intOf]; omega
        · obtain rfl : j = n - a + 1 := by omega
          have HF : Hid (Own wr g (.slice (some ⟨g, 0, none⟩) N1 N1) (rowE ⟨W, t, k⟩ zs addC 1 0 (d + 1))) := by
            show Own _ _ _ _
            have h := HO.out
            rw [show a + (n - a + 1) = n + 1 by omega] at h
            rw [rowE, HRow.out, Hn.out, HA.out]
            exact h
          have hrn : decide ((r : Int) ≤ (n : Int)) = false := decide_eq_false (by omega)
          have hq : (a : Int) - 1 = (n : Int) - 1 - ((d + 1 : Nat) : Int) := by have := HA.out; omega
          have HQ := Lib.hid hq
          clear hr hr1 hq
          go_wp2
          go_roundw
          case rel => exact ⟨d + 1, by omega, by rw [HQ.out], HF.out, HB2.out⟩
          case measure => simp [intOf]
    · obtain rfl : d = n := by omega
      go_wp2
      go_ret
      exact ⟨g, N1, HN1.out.symm, rfl, by omega, own_base2 HO.out (by omega), T0.out.trans (HB.out.mono (by omega))⟩

set_option maxRecDepth 100000 in
set_option maxHeartbeats 3200000 in
theorem specCntB_any (W t k : Int) (A : Option Addr) (n c : Nat) (zs : List Int) (w : World) (hn : zs.length = n) (hc : n ≤ c) (hcm : c ≤ maxLen) (h : Ints w A zs) :
    Calls Try.prog 22 #[.agg #[.int .i64 W, .int .i64 t, .int .i64 k], .slice A n c] w fun e w' => e = .returned (.int .i64 (cntA ⟨W, t, k⟩ zs)) ∧ Below w.heap.size w w' := by
  have C := fun (w : World) (hI : Ints w A zs) => l4Ok_any W t k A n c zs w hn (Nat.le_trans hc hcm) hI
  have D := fun (ad : Addr) (w : World) (hI : Ints w (some ad) zs) (hm : msrB ⟨W, t, k⟩ = true) (ht : textB zs = true) => l4Ways_any W t k ad n c zs w hn hc hcm hI hm ht
  obtain ⟨w0, hw0, hb0, hz0, P⟩ := msWorld w W t k
  have T0 := Lib.hid hb0; have P0 := Lib.hid P; have Z0 := Lib.hid hz0
  have I0 := Lib.hid (h.below hb0)
  have CC := Lib.hid C; have DD := Lib.hid D; have Hn := Lib.hid hn
  obtain ⟨p0, p1, p2⟩ := P
  clear hb0 hz0 hn h C D hc hcm
  cases ho : okW ⟨W, t, k⟩ zs
  · have HR : Hid (cntA ⟨W, t, k⟩ zs = -1) := by show _ = _; unfold cntA; rw [ho]; rfl
    have HO := Lib.hid ho
    clear ho
    go_enter Try.func22, Try.ntmps22
    go_wp2_with fail
    clear hw0
    refine (CC.out _ I0.out).mono ?_
    rintro e w1 ⟨he, hb1⟩
    rw [show (msrB ⟨W, t, k⟩ && textB zs) = false from HO.out] at he; subst he
    have T1 := Lib.hid (T0.out.trans (hb1.mono (B' := w.heap.size) (by have := Z0.out; omega)))
    clear hb1 p0 p1 p2
    go_wp2
    go_ret
    exact ⟨ret_int HR.out.symm, T1.out⟩
  have HR : Hid (cntA ⟨W, t, k⟩ zs = wayF ⟨W, t, k⟩ zs 0) := by show _ = _; unfold cntA; rw [ho]; rfl
  have HO := Lib.hid ho
  have HM := Lib.hid (okW_parts ho)
  obtain ⟨-, hl1, hl2⟩ := textB_parts HM.out.2
  rw [Hn.out] at hl1 hl2
  obtain ⟨ad, rfl⟩ := ints_some I0.out (by rw [Hn.out]; exact hl1)
  have DD2 := Lib.hid (fun w h => DD.out ad w h HM.out.1 HM.out.2)
  clear DD ho
  go_enter Try.func22, Try.ntmps22
  go_wp2_with fail
  clear hw0
  refine (CC.out _ I0.out).mono ?_
  rintro e w1 ⟨he, hb1⟩
  rw [show (msrB ⟨W, t, k⟩ && textB zs) = true from HO.out] at he; subst he
  have T1 := Lib.hid (T0.out.trans (hb1.mono (B' := w.heap.size) (by have := Z0.out; omega)))
  have I1 := Lib.hid (I0.out.below hb1)
  have P1 := Lib.hid (hold3 hb1 (by have := Z0.out; omega) P0.out)
  have Z1 : Hid (w.heap.size < w1.heap.size) := by show _ < _; have := Z0.out; have := hb1.size; omega
  clear p0 p1 p2 hb1 T0 I0 P0 Z0 CC
  obtain ⟨p0, p1, p2⟩ := P1.out
  go_wp2_with fail
  refine (DD2.out _ I1.out).mono ?_
  rintro e w2 ⟨g, N1, hN1, rfl, hg, hO, hb2⟩
  have T2 := Lib.hid (T1.out.trans (hb2.mono (B' := w.heap.size) (by have := Z1.out; omega)))
  have hc0 := own_cell hO (j := 0) (by rw [rowE_len]; omega)
  rw [show (rowE ⟨W, t, k⟩ zs addC 1 0 n).getD 0 0 = wayF ⟨W, t, k⟩ zs 0 from by unfold wayF valE; rw [Hn.out]] at hc0
  have i1 : (0 : Int) < (N1 : Int) := by omega
  clear hN1 hO hb2 p0 p1 p2 hg
  go_wp2
  go_ret
  exact ⟨ret_int HR.out.symm, T2.out⟩
end Go.Proofs.Ytddkedinkgnboaa

namespace Go.Proofs.Ytddkedinkgnboaa
open Go.RowKit
set_option linter.unusedVariables false

set_option maxRecDepth 100000 in
set_option maxHeartbeats 3200000 in
theorem specWdsFor_any (W t k : Int) (A : Option Addr) (n c : Nat) (zs : List Int) (most : Int) (w : World) (hn : zs.length = n) (hc : n ≤ c) (hcm : c ≤ maxLen) (h : Ints w A zs) :
    Calls Try.prog 40 #[.agg #[.int .i64 W, .int .i64 t, .int .i64 k], .slice A n c, .int .i64 most] w fun e w' => ∃ v, e = .returned v ∧ Own w' w.heap.size v (wdsA ⟨W, t, k⟩ zs most) ∧ Below w.heap.size w w' := by
  have C := fun (w : World) (hI : Ints w A zs) => l4Ok_any W t k A n c zs w hn (Nat.le_trans hc hcm) hI
  obtain ⟨w0, hw0, hb0, hz0, P⟩ := msWorld w W t k
  have T0 := Lib.hid hb0; have P0 := Lib.hid P; have Z0 := Lib.hid hz0
  have I0 := Lib.hid (h.below hb0)
  have J0 := Lib.hid ((IntsB.of h).keep (Nat.le_refl _) hb0)
  have CC := Lib.hid C; have Hn := Lib.hid hn; have Hc := Lib.hid hc; have Hcm := Lib.hid hcm
  obtain ⟨p0, p1, p2⟩ := P
  clear hb0 hz0 hn h C hc hcm
  cases ho : okW ⟨W, t, k⟩ zs
  · have HR : Hid (wdsA ⟨W, t, k⟩ zs most = []) := by show _ = _; unfold wdsA wdsB; rw [ho]; rfl
    have HO := Lib.hid ho
    clear ho
    go_enter Try.func40, Try.ntmps40
    go_wp2_with fail
    clear hw0
    refine (CC.out _ I0.out).mono ?_
    rintro e w1 ⟨he, hb1⟩
    rw [show (msrB ⟨W, t, k⟩ && textB zs) = false from HO.out] at he; subst he
    have T1 := Lib.hid (T0.out.trans (hb1.mono (B' := w.heap.size) (by have := Z0.out; omega)))
    clear hb1 p0 p1 p2
    go_wp2
    go_ret
    exact ⟨_, rfl, by rw [HR.out]; exact World.ownsRow_nil _ _ _ _, T1.out⟩
  have HO := Lib.hid ho
  have HM := Lib.hid (okW_parts ho)
  obtain ⟨-, hl1, hl2⟩ := textB_parts HM.out.2
  rw [Hn.out] at hl1 hl2
  obtain ⟨ad, rfl⟩ := ints_some I0.out (by rw [Hn.out]; exact hl1)
  cases hi : inB most 0 300
  · have HR : Hid (wdsA ⟨W, t, k⟩ zs most = []) := by show _ = _; unfold wdsA wdsB; rw [hi, Bool.and_false]; rfl
    have HI := Lib.hid hi
    clear ho hi
    go_enter Try.func40, Try.ntmps40
    go_wp2_with fail
    clear hw0
    refine (CC.out _ I0.out).mono ?_
    rintro e w1 ⟨he, hb1⟩
    rw [show (msrB ⟨W, t, k⟩ && textB zs) = true from HO.out] at he; subst he
    have T1 := Lib.hid (T0.out.trans (hb1.mono (B' := w.heap.size) (by have := Z0.out; omega)))
    clear hb1 p0 p1 p2
    go_wp2_with (go_at_call 49; refine (l1In_any _ _ _ _).mono ?_; rintro e w2 ⟨he, rfl⟩; rw [HI.out] at he; subst he)
    go_ret
    exact ⟨_, rfl, by rw [HR.out]; exact World.ownsRow_nil _ _ _ _, T1.out⟩
  have hi2 := inB_true hi
  obtain ⟨q, rfl⟩ : ∃ q : Nat, most = (q : Int) := ⟨most.toNat, by omega⟩
  have HR : Hid (wdsA ⟨W, t, k⟩ zs (q : Int) = wdsF t k zs q) := by show _ = _; unfold wdsA wdsB; rw [ho, hi, Int.toNat_natCast]; rfl
  have hq : q ≤ 300 := by omega
  have HI := Lib.hid hi
  clear ho hi hi2
  go_enter Try.func40, Try.ntmps40
  go_wp2_with fail
  clear hw0
  refine (CC.out _ I0.out).mono ?_
  rintro e w1 ⟨he, hb1⟩
  rw [show (msrB ⟨W, t, k⟩ && textB zs) = true from HO.out] at he; subst he
  have T1 := Lib.hid (T0.out.trans (hb1.mono (B' := w.heap.size) (by have := Z0.out; omega)))
  have I1 := Lib.hid (I0.out.below hb1)
  have P1 := Lib.hid (hold3 hb1 (by have := Z0.out; omega) P0.out)
  have Z1 : Hid (w.heap.size < w1.heap.size) := by show _ < _; have := Z0.out; have := hb1.size; omega
  have JB := Lib.hid (J0.out.keep (by have := Z0.out; omega) hb1)
  clear p0 p1 p2 hb1 T0 I0 P0 Z0 CC J0
  go_wp2_with (first
    | (go_at_call 49; refine (l1In_any _ _ _ _).mono ?_; rintro e w2 ⟨he, rfl⟩; rw [HI.out] at he; subst he)
)
  obtain ⟨B, hB⟩ : ∃ b, w1.heap.size = b := ⟨_, rfl⟩
  obtain ⟨w3, hw3⟩ : ∃ w3, w1.alloc (.cells #[] 3) = w3 := ⟨_, rfl⟩
  have hb3 : Below B w1 w3 := by rw [← hw3, ← hB]; exact below_new _ _
  have O3 : Hid (Own w3 B (.slice (some ⟨B, 0, none⟩) 0 0) []) := by show Own _ _ _ _; rw [← hw3, ← hB]; exact World.ownsRow_lit w1 #[] 0 (Nat.le_refl _) (Nat.zero_le _) rfl
  have HB3 := Lib.hid hb3; have HBz := Lib.hid hB
  have hz1 : w.heap.size < B := by rw [← hB]; exact Z1.out
  have CW := Lib.hid (fun (V : Int) (v : World) (hI : Ints v (some ad) zs) (hV1 : 1 ≤ V) (hV2 : V ≤ 2000) => l4Ways_any V t k ad n c zs v Hn.out Hc.out Hcm.out hI (msrB_other HM.out.1 hV1 hV2) HM.out.2)
  rw [hw3, hB]
  clear hw3 hb3 hB Z1
  go_loopw [7, 8] (fun u i wr => ∃ (j : Nat) (A : Option Addr) (m d : Nat), j ≤ q ∧ i = .int .i64 ((j : Int) + 1) ∧ u = .slice A m d ∧ Own wr B (.slice A m d) (wdsF t k zs j) ∧ Below B w1 wr) (fun _ i _ => q + 1 - (intOf i).toNat)
  case atStart => exact ⟨0, _, 0, 0, Nat.zero_le _, by go_num, rfl, O3.out, HB3.out⟩
  case round =>
    clear O3 HB3
    obtain ⟨j, A, m, d, hj, rfl, rfl, hO, hb⟩ := hrel
    have HO := Lib.hid hO; have HB := Lib.hid hb
    have hz : B ≤ wr.heap.size := by have := hb.size; have := HBz.out; omega
    have Pr := Lib.hid (hold3 hb hz1 P1.out)
    have Jr := Lib.hid ((JB.out.keep (by omega) hb).ints)
    obtain ⟨p0, p1, p2⟩ := Pr.out
    clear hO hb
    by_cases hlt : j < q
    · have hi1 : (j : Int) + 1 ≤ (q : Int) := by omega
      have hw1 : IntKind.i64.wrap ((j : Int) + 1 + 1) = (j : Int) + 1 + 1 := by rw [IntKind.wrap_i64]; omega
      have HC := Lib.hid (CW.out ((j : Int) + 1) wr Jr.out (by omega) (by omega))
      have hlen := wdsF_len t k zs j
      obtain ⟨x, hx⟩ : ∃ x, wayF ⟨(j : Int) + 1, t, k⟩ zs 0 = x := ⟨_, rfl⟩
      have HX := Lib.hid hx
      have HXR : Hid ((rowE ⟨(j : Int) + 1, t, k⟩ zs addC 1 0 n).getD 0 0 = x) := by show _ = _; rw [← hx]; unfold wayF valE; rw [Hn.out]
      obtain ⟨N5, hN5⟩ : ∃ N, (wdsF t k zs j ++ [(j : Int) + 1]).length = N := ⟨_, rfl⟩
      have HN5 := Lib.hid hN5
      clear hx hN5
      by_cases hpos : 0 < x
      · have HS := Lib.hid (wdsF_yes (t := t) (k := k) (zs := zs) (j := j) (by rw [HX.out]; exact hpos))
        go_wp2_with (first
          | (go_at_call 56; refine HC.out.mono ?_; rintro e w4 ⟨g, N1, hN1, rfl, hg, hO4, hb4⟩; have hc0 := own_cell hO4 (j := 0) (by rw [rowE_len]; omega); rw [HXR.out] at hc0; have i1 : (0 : Int) < (N1 : Int) := (by omega); have HO4 := Lib.hid (HO.out.below hb4); have HB4 := Lib.hid (HB.out.trans (hb4.mono (B' := B) hz)); have hz4 : B ≤ w4.heap.size := Nat.le_trans hz hb4.size; clear hb4 hO4 hN1 hg)
          | (at_builtin; refine wpl_push w4 rfl (.tmp 35) (.tmp 37) rfl B _ (wdsF t k zs j) ((j : Int) + 1) rfl rfl HO4.out hz4 (by omega) ?_; intro v5 w5 hO5 hb5; have HB5 := Lib.hid (HB4.out.trans hb5); obtain ⟨A5, c5, hv5, _⟩ := hO5.form; rw [HN5.out] at hv5; subst hv5; have HO5 := Lib.hid hO5; clear hO5 hb5 HO4 HB4))
        go_roundw
        case rel => exact ⟨j + 1, A5, N5, c5, by omega, by go_num, rfl, by rw [HS.out]; exact HO5.out, HB5.out⟩
        case measure => simp [intOf]; omega
      · have HS := Lib.hid (wdsF_no (t := t) (k := k) (zs := zs) (j := j) (by rw [HX.out]; exact hpos))
        have hpos2 : decide (0 < x) = false := decide_eq_false hpos
        clear hpos
        go_wp2_with (first
          | (go_at_call 56; refine HC.out.mono ?_; rintro e w4 ⟨g, N1, hN1, rfl, hg, hO4, hb4⟩; have hc0 := own_cell hO4 (j := 0) (by rw [rowE_len]; omega); rw [HXR.out] at hc0; have i1 : (0 : Int) < (N1 : Int) := (by omega); have HO4 := Lib.hid (HO.out.below hb4); have HB4 := Lib.hid (HB.out.trans (hb4.mono (B' := B) hz)); clear hb4 hO4 hN1 hg))
        go_roundw
        case rel => exact ⟨j + 1, A, m, d, by omega, by go_num, rfl, by rw [HS.out]; exact HO4.out, HB4.out⟩
        case measure => simp [intOf]; omega
    · have hi1 : decide ((j : Int) + 1 ≤ (q : Int)) = false := decide_eq_false (by omega)
      obtain rfl : j = q := by omega
      go_wp2
      go_ret
      exact ⟨_, rfl, by rw [HR.out]; exact own_base2 HO.out (by omega), T1.out.trans (HB.out.mono (by omega))⟩
end Go.Proofs.Ytddkedinkgnboaa
