/-
  WidthsFor of the program by contract. Conditions: lengths and capacities within the reach of a slice.
-/
import Derived.Test.YtddkedinkgnboaaCnt
import Derived.Test.YtddkedinkgnboaaPush
namespace Go.Proofs.Ytddkedinkgnboaa
open Go.RowKit
set_option linter.unusedVariables false

/-- the widths of at most j in which the words have a breaking -/
def wdsF (t k : Int) (zs : List Int) : Nat → List Int
  | 0 => []
  | j + 1 => if 0 < wayF ⟨(j : Int) + 1, t, k⟩ zs 0 then wdsF t k zs j ++ [(j : Int) + 1] else wdsF t k zs j
theorem wdsF_len (t k : Int) (zs : List Int) (j : Nat) : (wdsF t k zs j).length ≤ j := by
  induction j with
  | zero => simp [wdsF]
  | succ j ih =>
    rw [wdsF]; split
    · simp; exact ih
    · omega
theorem wdsF_yes {t k : Int} {zs : List Int} {j : Nat} (h : 0 < wayF ⟨(j : Int) + 1, t, k⟩ zs 0) : wdsF t k zs (j + 1) = wdsF t k zs j ++ [(j : Int) + 1] := by rw [wdsF, if_pos h]
theorem wdsF_no {t k : Int} {zs : List Int} {j : Nat} (h : ¬ 0 < wayF ⟨(j : Int) + 1, t, k⟩ zs 0) : wdsF t k zs (j + 1) = wdsF t k zs j := by rw [wdsF, if_neg h]
def wdsB (m : Msr) (zs : List Int) (most : Int) : Bool := okW m zs && inB most 0 300
def wdsA (m : Msr) (zs : List Int) (most : Int) : List Int := if wdsB m zs most then wdsF m.t m.k zs most.toNat else []
theorem wdsA_len (m : Msr) (zs : List Int) (most : Int) : (wdsA m zs most).length ≤ 1048576 := by
  unfold wdsA
  split
  · rename_i h
    unfold wdsB at h
    rw [Bool.and_eq_true] at h
    have h1 := inB_true h.2
    have h2 := wdsF_len m.t m.k zs most.toNat
    omega
  · simp
theorem msrB_other {W t k V : Int} (h : msrB ⟨W, t, k⟩ = true) (h1 : 1 ≤ V) (h2 : V ≤ 2000) : msrB ⟨V, t, k⟩ = true := by
  have h3 := msrB_iff.1 h
  exact msrB_iff.2 ⟨h1, h2, h3.2.2⟩

theorem IntsB.keep3 {w w' : World} {b r : Nat} {A : Option Addr} {zs : List Int} (h : IntsB w b A zs) (hg : w.grownBy w' (some r)) (hr : b ≤ r) : IntsB w' b A zs := fun hn => by
  obtain ⟨ad, e, hl, hc⟩ := h hn
  exact ⟨ad, e, hl, fun j hj => (World.cell?_of_block (hg.block _ (World.block_lt_of_cell? _ _ (hc j hj)) (fun e => by injection e with e; rw [block_add] at e; omega))).trans (hc j hj)⟩

set_option maxRecDepth 100000 in
set_option maxHeartbeats 3200000 in
theorem implWidths_any (W t k : Int) (A : Option Addr) (n c : Nat) (zs : List Int) (most : Int) (w : World) (hn : zs.length = n) (hc : n ≤ c) (hcm : c ≤ maxLen) (h : Ints w A zs) :
    Calls Try.prog 31 #[.agg #[.int .i64 W, .int .i64 t, .int .i64 k], .slice A n c, .int .i64 most] w fun e w' => ∃ v, e = .returned v ∧ Own w' w.heap.size v (wdsA ⟨W, t, k⟩ zs most) ∧ Below w.heap.size w w' := by
  have C := fun (w : World) (hI : Ints w A zs) => stOk_any W t k A n c zs w hn (Nat.le_trans hc hcm) hI
  obtain ⟨w0, hw0, hb0, hz0, P⟩ := msWorld w W t k
  have T0 := Lib.hid hb0; have P0 := Lib.hid P; have Z0 := Lib.hid hz0
  have I0 := Lib.hid (h.below hb0)
  have J0 := Lib.hid ((IntsB.of h).keep (Nat.le_refl _) hb0)
  have CC := Lib.hid C; have Hn := Lib.hid hn; have Hc := Lib.hid hc; have Hcm := Lib.hid hcm
  obtain ⟨p0, p1, p2⟩ := P
  clear hb0 hz0 hn h C hc hcm
  cases ho : okW ⟨W, t, k⟩ zs
  · have HR : Hid (wdsA ⟨W, t, k⟩ zs most = []) := by show _ = _; unfold wdsA wdsB; rw [ho]; rfl
    have HO := Lib.hid ho
    clear ho
    go_enter Try.func31, Try.ntmps31
    go_wp2_with fail
    clear hw0
    refine (CC.out _ I0.out).mono ?_
    rintro e w1 ⟨he, hb1⟩
    rw [show (msrB ⟨W, t, k⟩ && textB zs) = false from HO.out] at he; subst he
    have T1 := Lib.hid (T0.out.trans (hb1.mono (B' := w.heap.size) (by have := Z0.out; omega)))
    clear hb1 p0 p1 p2
    go_wp2
    go_ret
    exact ⟨_, rfl, by rw [HR.out]; exact World.ownsRow_nil _ _ _ _, T1.out⟩
  have HO := Lib.hid ho
  have HM := Lib.hid (okW_parts ho)
  obtain ⟨-, hl1, hl2⟩ := textB_parts HM.out.2
  rw [Hn.out] at hl1 hl2
  obtain ⟨ad, rfl⟩ := ints_some I0.out (by rw [Hn.out]; exact hl1)
  cases hi : inB most 0 300
  · have HR : Hid (wdsA ⟨W, t, k⟩ zs most = []) := by show _ = _; unfold wdsA wdsB; rw [hi, Bool.and_false]; rfl
    have HI := Lib.hid hi
    clear ho hi
    go_enter Try.func31, Try.ntmps31
    go_wp2_with fail
    clear hw0
    refine (CC.out _ I0.out).mono ?_
    rintro e w1 ⟨he, hb1⟩
    rw [show (msrB ⟨W, t, k⟩ && textB zs) = true from HO.out] at he; subst he
    have T1 := Lib.hid (T0.out.trans (hb1.mono (B' := w.heap.size) (by have := Z0.out; omega)))
    clear hb1 p0 p1 p2
    go_wp2_with (go_at_call 52; refine (isFrom_any _ _ _ _).mono ?_; rintro e w2 ⟨he, rfl⟩; rw [HI.out] at he; subst he)
    go_ret
    exact ⟨_, rfl, by rw [HR.out]; exact World.ownsRow_nil _ _ _ _, T1.out⟩
  have hi2 := inB_true hi
  obtain ⟨q, rfl⟩ : ∃ q : Nat, most = (q : Int) := ⟨most.toNat, by omega⟩
  have HR : Hid (wdsA ⟨W, t, k⟩ zs (q : Int) = wdsF t k zs q) := by show _ = _; unfold wdsA wdsB; rw [ho, hi, Int.toNat_natCast]; rfl
  have hq : q ≤ 300 := by omega
  have HI := Lib.hid hi
  clear ho hi hi2
  go_enter Try.func31, Try.ntmps31
  go_wp2_with fail
  clear hw0
  refine (CC.out _ I0.out).mono ?_
  rintro e w1 ⟨he, hb1⟩
  rw [show (msrB ⟨W, t, k⟩ && textB zs) = true from HO.out] at he; subst he
  have T1 := Lib.hid (T0.out.trans (hb1.mono (B' := w.heap.size) (by have := Z0.out; omega)))
  have I1 := Lib.hid (I0.out.below hb1)
  have P1 := Lib.hid (hold3 hb1 (by have := Z0.out; omega) P0.out)
  have Z1 : Hid (w.heap.size < w1.heap.size) := by show _ < _; have := Z0.out; have := hb1.size; omega
  have JB := Lib.hid (J0.out.keep (by have := Z0.out; omega) hb1)
  clear p0 p1 p2 hb1 T0 I0 P0 Z0 CC J0
  go_wp2_with (first
    | (go_at_call 52; refine (isFrom_any _ _ _ _).mono ?_; rintro e w2 ⟨he, rfl⟩; rw [HI.out] at he; subst he)
    | (go_at_call 47; refine (counterOfG_any _ _ _ zs _).mono ?_; rintro e w2 ⟨r, rfl, hr, hCM, hb2⟩; have T2 := Lib.hid (T1.out.trans (hb2.mono (B' := w.heap.size) (by have := Z1.out; omega))); have I2 := Lib.hid (I1.out.below hb2); have J2 := Lib.hid (JB.out.keep (by have := Z1.out; omega) hb2); have P2 := Lib.hid (hold3 hb2 Z1.out P1.out); have Z2 : Hid (w1.heap.size ≤ w2.heap.size) := hb2.size; have M2 := Lib.hid hCM; have R2 : Hid (w1.heap.size ≤ r ∧ r < w2.heap.size) := ⟨hr, hCM.lt⟩; clear hb2 hr hCM))
  obtain ⟨B3, hB3⟩ : ∃ b, w2.heap.size = b := ⟨_, rfl⟩
  obtain ⟨w3, hw3⟩ : ∃ w3, w2.alloc (.cells #[.slice (some ad) n c, .map (some r)] 63) = w3 := ⟨_, rfl⟩
  have hb3 : Below w2.heap.size w2 w3 := by rw [← hw3]; exact below_new _ _
  have hz3 : w3.heap.size = B3 + 1 := by rw [← hw3, ← hB3]; simp
  have Q3 : Blk w3 B3 #[.slice (some ad) n c, .map (some r)] 63 := by rw [← hw3, ← hB3]; exact Blk.new _ _ _
  have HQ3 := Lib.hid Q3
  have T3 := Lib.hid (T2.out.trans (hb3.mono (B' := w.heap.size) (by have := Z1.out; have := Z2.out; omega)))
  have J3 := Lib.hid (J2.out.keep (by have := Z1.out; have := Z2.out; omega) hb3)
  have P3 := Lib.hid (hold3 hb3 (by have := Z1.out; have := Z2.out; omega) P2.out)
  have M3 := Lib.hid (((M2.out.kept hb3).anti (G' := fun k => (Value.slice none 0 0).ownBlock = some k) (fun k hk => by cases hk)))
  have hr3 : r < B3 := by have := R2.out; omega
  have hw3r : w.heap.size < r := by have := R2.out; have := Z1.out; omega
  have Z3 := Lib.hid hz3
  have CW := Lib.hid (fun (G : Nat → Prop) (V : Int) (v : World) (hG : ∀ j, G j → j < v.heap.size) (hI : Ints v (some ad) zs) (hV1 : 1 ≤ V) (hV2 : V ≤ 2000) (hr : CMapG v r zs G) => cmWayG0_any G V t k ad n c r zs v hG Hn.out Hc.out Hcm.out hI (msrB_other HM.out.1 hV1 hV2) HM.out.2 hr)
  rw [hw3, hB3]
  clear hw3 hb3 hz3 Q3 M2 P2 T2 I2 T1 I1 P1 Z1 Z2 R2 hB3
  go_loopw [8, 9] (fun u i wr => ∃ (j : Nat) (A : Option Addr) (m d : Nat), j ≤ q ∧ i = .int .i64 ((j : Int) + 1) ∧ u = .slice A m d ∧ Own wr w3.heap.size (.slice A m d) (wdsF t k zs j) ∧ CMapG wr r zs (fun k => (Value.slice A m d).ownBlock = some k) ∧ w3.grownBy wr (some r)) (fun _ i _ => q + 1 - (intOf i).toNat)
  case atStart => exact ⟨0, none, 0, 0, Nat.zero_le _, by go_num, rfl, World.ownsRow_nil _ _ _ _, M3.out, World.grownBy.refl _ _⟩
  case round =>
    obtain ⟨j, A, m, d, hj, rfl, rfl, hO, hM, hg⟩ := hrel
    have HO := Lib.hid hO; have HMr := Lib.hid hM; have HG := Lib.hid hg
    have Pr := Lib.hid (hold3by hg (by omega) P3.out)
    have Qr : wr.heap[B3]? = w3.heap[B3]? := hg.block B3 (by have := Z3.out; omega) (fun e => by cases e; omega)
    have QB : Blk wr B3 #[.slice (some ad) n c, .map (some r)] 63 := by
      have h := HQ3.out
      unfold Blk at h ⊢
      rw [Qr]; exact h
    obtain ⟨q0, q1⟩ := QB.two
    obtain ⟨p0, p1, p2⟩ := Pr.out
    clear hO hM hg Qr QB
    by_cases hlt : j < q
    · have hi1 : (j : Int) + 1 ≤ (q : Int) := by omega
      have hw1 : IntKind.i64.wrap ((j : Int) + 1 + 1) = (j : Int) + 1 + 1 := by rw [IntKind.wrap_i64]; omega
      have hGl : ∀ g, (Value.slice A m d).ownBlock = some g → g < wr.heap.size := fun g hg => (World.ownsRow.lt HO.out g hg).2
      have HGl := Lib.hid hGl
      have HC := Lib.hid (CW.out (fun k => (Value.slice A m d).ownBlock = some k) ((j : Int) + 1) wr hGl ((J3.out.keep3 HG.out (by omega)).ints) (by omega) (by omega) HMr.out)
      have hlen := wdsF_len t k zs j
      obtain ⟨x, hx⟩ : ∃ x, wayF ⟨(j : Int) + 1, t, k⟩ zs 0 = x := ⟨_, rfl⟩
      have HX := Lib.hid hx
      rw [hx] at HC
      obtain ⟨N5, hN5⟩ : ∃ N, (wdsF t k zs j ++ [(j : Int) + 1]).length = N := ⟨_, rfl⟩
      have HN5 := Lib.hid hN5
      clear hGl hx hN5
      have hz3 : w3.heap.size ≤ wr.heap.size := HG.out.size
      by_cases hpos : 0 < x
      · have HS := Lib.hid (wdsF_yes (t := t) (k := k) (zs := zs) (j := j) (by rw [HX.out]; exact hpos))
        go_wp2_with (first
          | (go_at_call 48; refine HC.out.mono ?_; rintro e w4 ⟨rfl, hg4, hM4⟩; have HO4 := Lib.hid (HO.out.grown_lt hg4 (fun k e => by cases e; have := Z3.out; omega)); have HM4 := Lib.hid hM4; have HG4 := Lib.hid (grown_trans HG.out hg4); have hz4 : w3.heap.size ≤ w4.heap.size := HG4.out.size; clear hg4 hM4)
          | (at_builtin; refine wpl_push2 w4 rfl (.tmp 36) (.tmp 38) rfl w3.heap.size _ (wdsF t k zs j) ((j : Int) + 1) rfl rfl HO4.out hz4 (by omega) ?_; intro v5 w5 hO5 hg5 hl5; have HM5 := Lib.hid (HM4.out.pushed hg5 hl5); have HG5 := Lib.hid (Moved.below_base HG4.out ((Below.refl w3.heap.size w4).grown hg5 hz4 (fun g hg => (World.ownsRow.lt HO4.out g hg).1)) (Nat.le_refl _)); obtain ⟨A5, c5, hv5, _⟩ := hO5.form; rw [HN5.out] at hv5; subst hv5; have HO5 := Lib.hid hO5; clear hO5 hg5 hl5 HO4 HM4 HG4))
        go_roundw
        case rel => exact ⟨j + 1, A5, N5, c5, by omega, by go_num, rfl, by rw [HS.out]; exact HO5.out, HM5.out, HG5.out⟩
        case measure => simp [intOf]; omega
      · have HS := Lib.hid (wdsF_no (t := t) (k := k) (zs := zs) (j := j) (by rw [HX.out]; exact hpos))
        have hpos2 : decide (0 < x) = false := decide_eq_false hpos
        clear hpos
        go_wp2_with (first
          | (go_at_call 48; refine HC.out.mono ?_; rintro e w4 ⟨rfl, hg4, hM4⟩; have HO4 := Lib.hid (HO.out.grown_lt hg4 (fun k e => by cases e; have := Z3.out; omega)); have HM4 := Lib.hid hM4; have HG4 := Lib.hid (grown_trans HG.out hg4); clear hg4 hM4))
        go_roundw
        case rel => exact ⟨j + 1, A, m, d, by omega, by go_num, rfl, by rw [HS.out]; exact HO4.out, HM4.out, HG4.out⟩
        case measure => simp [intOf]; omega
    · have hi1 : decide ((j : Int) + 1 ≤ (q : Int)) = false := decide_eq_false (by omega)
      obtain rfl : j = q := by omega
      go_wp2
      go_ret
      exact ⟨_, rfl, by rw [HR.out]; exact own_base2 HO.out (by have := T3.out.size; omega), T3.out.grown HG.out T3.out.size (fun k e => by cases e; omega)⟩
end Go.Proofs.Ytddkedinkgnboaa
