/-
  WidthsFor of the model by contract. Conditions: lengths and capacities within the reach of a slice.
-/
import Derived.Test.YtddkedinkgnboaaWid
import Derived.Test.YtddkedinkgnboaaWaysS
namespace Go.Proofs.Ytddkedinkgnboaa
open Go.RowKit
set_option linter.unusedVariables false

set_option maxRecDepth 100000 in
set_option maxHeartbeats 3200000 in
theorem specWidths_any (W t k : Int) (A : Option Addr) (n c : Nat) (zs : List Int) (most : Int) (w : World) (hn : zs.length = n) (hc : n ≤ c) (hcm : c ≤ maxLen) (h : Ints w A zs) :
    Calls Try.prog 40 #[.agg #[.int .i64 W, .int .i64 t, .int .i64 k], .slice A n c, .int .i64 most] w fun e w' => ∃ v, e = .returned v ∧ Own w' w.heap.size v (wdsA ⟨W, t, k⟩ zs most) ∧ Below w.heap.size w w' := by
  have C := fun (w : World) (hI : Ints w A zs) => l4Ok_any W t k A n c zs w hn (Nat.le_trans hc hcm) hI
  obtain ⟨w0, hw0, hb0, hz0, P⟩ := msWorld w W t k
  have T0 := Lib.hid hb0; have P0 := Lib.hid P; have Z0 := Lib.hid hz0
  have I0 := Lib.hid (h.below hb0)
  have J0 := Lib.hid ((IntsB.of h).keep (Nat.le_refl _) hb0)
  have CC := Lib.hid C; have Hn := Lib.hid hn; have Hc := Lib.hid hc; have Hcm := Lib.hid hcm
  obtain ⟨p0, p1, p2⟩ := P
  clear hb0 hz0 hn h C hc hcm
  cases ho : okW ⟨W, t, k⟩ zs
  · have HR : Hid (wdsA ⟨W, t, k⟩ zs most = []) := by show _ = _; unfold wdsA wdsB; rw [ho]; rfl
    have HO := Lib.hid ho
    clear ho
    go_enter Try.func40, Try.ntmps40
    go_wp2_with fail
    clear hw0
    refine (CC.out _ I0.out).mono ?_
    rintro e w1 ⟨he, hb1⟩
    rw [show (msrB ⟨W, t, k⟩ && textB zs) = false from HO.out] at he; subst he
    have T1 := Lib.hid (T0.out.trans (hb1.mono (B' := w.heap.size) (by have := Z0.out; omega)))
    clear hb1 p0 p1 p2
    go_wp2
    go_ret
    exact ⟨_, rfl, by rw [HR.out]; exact World.ownsRow_nil _ _ _ _, T1.out⟩
  have HO := Lib.hid ho
  have HM := Lib.hid (okW_parts ho)
  obtain ⟨-, hl1, hl2⟩ := textB_parts HM.out.2
  rw [Hn.out] at hl1 hl2
  obtain ⟨ad, rfl⟩ := ints_some I0.out (by rw [Hn.out]; exact hl1)
  cases hi : inB most 0 300
  · have HR : Hid (wdsA ⟨W, t, k⟩ zs most = []) := by show _ = _; unfold wdsA wdsB; rw [hi, Bool.and_false]; rfl
    have HI := Lib.hid hi
    clear ho hi
    go_enter Try.func40, Try.ntmps40
    go_wp2_with fail
    clear hw0
    refine (CC.out _ I0.out).mono ?_
    rintro e w1 ⟨he, hb1⟩
    rw [show (msrB ⟨W, t, k⟩ && textB zs) = true from HO.out] at he; subst he
    have T1 := Lib.hid (T0.out.trans (hb1.mono (B' := w.heap.size) (by have := Z0.out; omega)))
    clear hb1 p0 p1 p2
    go_wp2_with (go_at_call 49; refine (l1In_any _ _ _ _).mono ?_; rintro e w2 ⟨he, rfl⟩; rw [HI.out] at he; subst he)
    go_ret
    exact ⟨_, rfl, by rw [HR.out]; exact World.ownsRow_nil _ _ _ _, T1.out⟩
  have hi2 := inB_true hi
  obtain ⟨q, rfl⟩ : ∃ q : Nat, most = (q : Int) := ⟨most.toNat, by omega⟩
  have HR : Hid (wdsA ⟨W, t, k⟩ zs (q : Int) = wdsF t k zs q) := by show _ = _; unfold wdsA wdsB; rw [ho, hi, Int.toNat_natCast]; rfl
  have hq : q ≤ 300 := by omega
  have HI := Lib.hid hi
  clear ho hi hi2
  go_enter Try.func40, Try.ntmps40
  go_wp2_with fail
  clear hw0
  refine (CC.out _ I0.out).mono ?_
  rintro e w1 ⟨he, hb1⟩
  rw [show (msrB ⟨W, t, k⟩ && textB zs) = true from HO.out] at he; subst he
  have T1 := Lib.hid (T0.out.trans (hb1.mono (B' := w.heap.size) (by have := Z0.out; omega)))
  have I1 := Lib.hid (I0.out.below hb1)
  have P1 := Lib.hid (hold3 hb1 (by have := Z0.out; omega) P0.out)
  have Z1 : Hid (w.heap.size < w1.heap.size) := by show _ < _; have := Z0.out; have := hb1.size; omega
  have JB := Lib.hid (J0.out.keep (by have := Z0.out; omega) hb1)
  clear p0 p1 p2 hb1 T0 I0 P0 Z0 CC J0
  go_wp2_with (first
    | (go_at_call 49; refine (l1In_any _ _ _ _).mono ?_; rintro e w2 ⟨he, rfl⟩; rw [HI.out] at he; subst he)
)
  obtain ⟨B, hB⟩ : ∃ b, w1.heap.size = b := ⟨_, rfl⟩
  obtain ⟨w3, hw3⟩ : ∃ w3, w1.alloc (.cells #[] 3) = w3 := ⟨_, rfl⟩
  have hb3 : Below B w1 w3 := by rw [← hw3, ← hB]; exact below_new _ _
  have O3 : Hid (Own w3 B (.slice (some ⟨B, 0, none⟩) 0 0) []) := by show Own _ _ _ _; rw [← hw3, ← hB]; exact World.ownsRow_lit w1 #[] 0 (Nat.le_refl _) (Nat.zero_le _) rfl
  have HB3 := Lib.hid hb3; have HBz := Lib.hid hB
  have hz1 : w.heap.size < B := by rw [← hB]; exact Z1.out
  have CW := Lib.hid (fun (V : Int) (v : World) (hI : Ints v (some ad) zs) (hV1 : 1 ≤ V) (hV2 : V ≤ 2000) => l4Ways_any V t k ad n c zs v Hn.out Hc.out Hcm.out hI (msrB_other HM.out.1 hV1 hV2) HM.out.2)
  rw [hw3, hB]
  clear hw3 hb3 hB Z1
  go_loopw [7, 8] (fun u i wr => ∃ (j : Nat) (A : Option Addr) (m d : Nat), j ≤ q ∧ i = .int .i64 ((j : Int) + 1) ∧ u = .slice A m d ∧ Own wr B (.slice A m d) (wdsF t k zs j) ∧ Below B w1 wr) (fun _ i _ => q + 1 - (intOf i).toNat)
  case atStart => exact ⟨0, _, 0, 0, Nat.zero_le _, by go_num, rfl, O3.out, HB3.out⟩
  case round =>
    clear O3 HB3
    obtain ⟨j, A, m, d, hj, rfl, rfl, hO, hb⟩ := hrel
    have HO := Lib.hid hO; have HB := Lib.hid hb
    have hz : B ≤ wr.heap.size := by have := hb.size; have := HBz.out; omega
    have Pr := Lib.hid (hold3 hb hz1 P1.out)
    have Jr := Lib.hid ((JB.out.keep (by omega) hb).ints)
    obtain ⟨p0, p1, p2⟩ := Pr.out
    clear hO hb
    by_cases hlt : j < q
    · have hi1 : (j : Int) + 1 ≤ (q : Int) := by omega
      have hw1 : IntKind.i64.wrap ((j : Int) + 1 + 1) = (j : Int) + 1 + 1 := by rw [IntKind.wrap_i64]; omega
      have HC := Lib.hid (CW.out ((j : Int) + 1) wr Jr.out (by omega) (by omega))
      have hlen := wdsF_len t k zs j
      obtain ⟨x, hx⟩ : ∃ x, wayF ⟨(j : Int) + 1, t, k⟩ zs 0 = x := ⟨_, rfl⟩
      have HX := Lib.hid hx
      have HXR : Hid ((rowE ⟨(j : Int) + 1, t, k⟩ zs addC 1 0 n).getD 0 0 = x) := by show _ = _; rw [← hx]; unfold wayF valE; rw [Hn.out]
      obtain ⟨N5, hN5⟩ : ∃ N, (wdsF t k zs j ++ [(j : Int) + 1]).length = N := ⟨_, rfl⟩
      have HN5 := Lib.hid hN5
      clear hx hN5
      by_cases hpos : 0 < x
      · have HS := Lib.hid (wdsF_yes (t := t) (k := k) (zs := zs) (j := j) (by rw [HX.out]; exact hpos))
        go_wp2_with (first
          | (go_at_call 56; refine HC.out.mono ?_; rintro e w4 ⟨g, N1, hN1, rfl, hg, hO4, hb4⟩; have hc0 := own_cell hO4 (j := 0) (by rw [rowE_len]; omega); rw [HXR.out] at hc0; have i1 : (0 : Int) < (N1 : Int) := (by omega); have HO4 := Lib.hid (HO.out.below hb4); have HB4 := Lib.hid (HB.out.trans (hb4.mono (B' := B) hz)); have hz4 : B ≤ w4.heap.size := Nat.le_trans hz hb4.size; clear hb4 hO4 hN1 hg)
          | (at_builtin; refine wpl_push w4 rfl (.tmp 35) (.tmp 37) rfl B _ (wdsF t k zs j) ((j : Int) + 1) rfl rfl HO4.out hz4 (by omega) ?_; intro v5 w5 hO5 hb5; have HB5 := Lib.hid (HB4.out.trans hb5); obtain ⟨A5, c5, hv5, _⟩ := hO5.form; rw [HN5.out] at hv5; subst hv5; have HO5 := Lib.hid hO5; clear hO5 hb5 HO4 HB4))
        go_roundw
        case rel => exact ⟨j + 1, A5, N5, c5, by omega, by go_num, rfl, by rw [HS.out]; exact HO5.out, HB5.out⟩
        case measure => simp [intOf]; omega
      · have HS := Lib.hid (wdsF_no (t := t) (k := k) (zs := zs) (j := j) (by rw [HX.out]; exact hpos))
        have hpos2 : decide (0 < x) = false := decide_eq_false hpos
        clear hpos
        go_wp2_with (first
          | (go_at_call 56; refine HC.out.mono ?_; rintro e w4 ⟨g, N1, hN1, rfl, hg, hO4, hb4⟩; have hc0 := own_cell hO4 (j := 0) (by rw [rowE_len]; omega); rw [HXR.out] at hc0; have i1 : (0 : Int) < (N1 : Int) := (by omega); have HO4 := Lib.hid (HO.out.below hb4); have HB4 := Lib.hid (HB.out.trans (hb4.mono (B' := B) hz)); clear hb4 hO4 hN1 hg))
        go_roundw
        case rel => exact ⟨j + 1, A, m, d, by omega, by go_num, rfl, by rw [HS.out]; exact HO4.out, HB4.out⟩
        case measure => simp [intOf]; omega
    · have hi1 : decide ((j : Int) + 1 ≤ (q : Int)) = false := decide_eq_false (by omega)
      obtain rfl : j = q := by omega
      go_wp2
      go_ret
      exact ⟨_, rfl, by rw [HR.out]; exact own_base2 HO.out (by omega), T1.out.trans (HB.out.mono (by omega))⟩
end Go.Proofs.Ytddkedinkgnboaa
