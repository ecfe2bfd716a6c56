/-
  Lines of words, as the model has them (l4Rest, l4Rise, l4Kind, l4Goes, l4Ok), by contract. Conditions: the measure is one, the words are from 1 to 2000 wide and at most 40; for l4Rise the line fits.
-/
import Derived.Test.YtddkedinkgnboaaSetL
import Derived.Test.YtddkedinkgnboaaFitI
import Derived.Deep.RegionHeld3
namespace Go.Proofs.Ytddkedinkgnboaa
open Go.RowKit
set_option linter.unusedVariables false

set_option maxRecDepth 100000 in
set_option maxHeartbeats 1600000 in
theorem l4Rest_any (W t k : Int) (ad : Addr) (B c : Nat) (ys : List Int) (w : World) (hn : ys.length = B + 1) (h : Ints w (some ad) ys) (hm : msrB ⟨W, t, k⟩ = true) (hy : ∀ x ∈ ys, 1 ≤ x ∧ x ≤ 2000) (hB : B < 40) :
    Calls Try.prog 80 #[.agg #[.int .i64 W, .int .i64 t, .int .i64 k], .slice (some ad) (B + 1) c] w fun e w' => e = .returned (.tuple #[.int .i64 (W - widF (sumL ys) B t), .int .i64 B]) ∧ Below w.heap.size w w' := by
  have hM := msrB_iff.1 hm
  simp only at hM
  obtain ⟨hs0, hs1⟩ := words_sum hy (by omega)
  have hmu := mul_small (B := B) (e := t) (by omega) (by omega) (by omega) (by omega)
  have HL := Lib.hid (words_take hy (by omega))
  have HY := Lib.hid hy
  have Hn := Lib.hid hn
  have HR : Hid (W - widF (sumL ys) B t = W - sumL ys - (B : Int) * t) := by show _ = _; unfold widF; omega
  obtain ⟨w0, hw0, hb0, hz0, P⟩ := msWorld w W t k
  have T0 := Lib.hid hb0; have Z0 := Lib.hid hz0
  have I0 := Lib.hid (h.below hb0)
  obtain ⟨p0, p1, p2⟩ := P
  clear hb0 hz0 hn h hy hm
  obtain ⟨S, hS⟩ : ∃ S, sumL ys = S := ⟨_, rfl⟩
  have HS := Lib.hid hS
  rw [hS] at hs0 hs1 HR
  clear hS
  have e2 : IntKind.i64.wrap ((B : Int) * t) = (B : Int) * t := by rw [IntKind.wrap_i64]; omega
  have e3 : IntKind.i64.wrap (W - S) = W - S := by rw [IntKind.wrap_i64]; omega
  have e4 : IntKind.i64.wrap (W - S - (B : Int) * t) = W - S - (B : Int) * t := by rw [IntKind.wrap_i64]; omega
  go_enter Try.func80, Try.ntmps80
  go_wp2_with fail
  clear hw0
  go_loop [6, 11] (fun s i => ∃ j : Nat, j ≤ B + 1 ∧ i = .int .i64 j ∧ s = .int .i64 (sumL (ys.take j))) (fun _ i => B + 1 - (intOf i).toNat)
  case atStart => exact ⟨0, Nat.zero_le _, rfl, rfl⟩
  case round =>
    obtain ⟨j, hj, rfl, rfl⟩ := hrel
    by_cases hlt : j < B + 1
    · obtain ⟨ad2, x, hade, hx, hcx⟩ := I0.out.at_ (k := j) (by rw [Hn.out]; exact hlt)
      injection hade with hade; subst hade
      have HQ := Lib.hid (sumL_at hx.out)
      have hb1 := HL.out j
      have hx2 := HY.out x (mem_at hx.out)
      obtain ⟨sm, hsm⟩ : ∃ s, sumL (ys.take j) = s := ⟨_, rfl⟩
      rw [hsm] at HQ hb1 ⊢
      clear hsm e2 e3 e4 p0 p1 p2
      go_wp2
      go_round
      case rel => exact ⟨j + 1, by omega, by go_num, by rw [HQ.out]⟩
      case measure => simp [intOf]; omega
    · have hkn : j = B + 1 := by omega
      subst hkn
      rw [take_all Hn.out, HS.out]
      go_wp2
      go_ret2
      refine ⟨?_, T0.out⟩
      rw [HS.out, HR.out]
      rfl

set_option maxRecDepth 100000 in
set_option maxHeartbeats 1600000 in
theorem l4Rise_any (W t k : Int) (ad : Addr) (B c : Nat) (ys : List Int) (w : World) (hn : ys.length = B + 1) (h : Ints w (some ad) ys) (hm : msrB ⟨W, t, k⟩ = true) (hy : ∀ x ∈ ys, 1 ≤ x ∧ x ≤ 2000) (hB : B < 40) (hf : widF (sumL ys) B t ≤ W) :
    Calls Try.prog 64 #[.agg #[.int .i64 W, .int .i64 t, .int .i64 k], .slice (some ad) (B + 1) c] w fun e w' => e = .returned (.int .i64 (riseF ⟨W, t, k⟩ (sumL ys) B)) ∧ Below w.heap.size w w' := by
  have hM := msrB_iff.1 hm
  simp only at hM
  obtain ⟨hs0, hs1⟩ := words_sum hy (by omega)
  have hws := widF_small (L := sumL ys) (B := B) (e := t) hs0 (by omega) (by omega) (by omega) (by omega)
  have C := fun (w : World) (h : Ints w (some ad) ys) => l4Rest_any W t k ad B c ys w hn h hm hy hB
  have HR : Hid (riseF ⟨W, t, k⟩ (sumL ys) B = if B = 0 then 0 else min (k - t) ((W - widF (sumL ys) B t).tdiv B)) := rfl
  obtain ⟨R, hR⟩ : ∃ R, W - widF (sumL ys) B t = R := ⟨_, rfl⟩
  rw [hR] at C HR
  have hR0 : 0 ≤ R := by omega
  have hR1 : R ≤ 2000 := by omega
  have CC := Lib.hid C
  obtain ⟨w0, hw0, hb0, hz0, P⟩ := msWorld w W t k
  have T0 := Lib.hid hb0; have Z0 := Lib.hid hz0; have P0 := Lib.hid P
  have I0 := Lib.hid (h.below hb0)
  obtain ⟨p0, p1, p2⟩ := P
  clear hb0 hz0 hn h hy hm hs0 hs1 hws hf C hR
  go_enter Try.func64, Try.ntmps64
  go_wp2_with fail
  clear hw0 p0 p1 p2
  refine (CC.out _ I0.out).mono ?_
  rintro e w1 ⟨rfl, hb1⟩
  have T1 := Lib.hid (T0.out.trans (hb1.mono (B' := w.heap.size) (by have := Z0.out; omega)))
  obtain ⟨p0, p1, p2⟩ := hold3 hb1 (by have := Z0.out; omega) P0.out
  clear hb1 P0 T0 I0 CC
  by_cases hb : B = 0
  · subst hb
    go_wp2
    go_ret
    exact ⟨ret_int (by rw [HR.out]; simp), T1.out⟩
  · have HR2 : Hid (riseF ⟨W, t, k⟩ (sumL ys) B = min (k - t) (R.tdiv B)) := by show _ = _; rw [HR.out, if_neg hb]
    have hd := tdiv_small (x := R) (b := B) (by omega) (by omega) (by omega)
    obtain ⟨q, hq⟩ : ∃ q, R.tdiv (B : Int) = q := ⟨_, rfl⟩
    rw [hq] at hd HR2
    have hb0 : ((B : Int) == 0) = false := by rw [beq_eq_false_iff_ne]; omega
    have hbx : ¬ ((B : Int) = 0) := by omega
    have e1 : IntKind.i64.wrap (k - t) = k - t := by rw [IntKind.wrap_i64]; omega
    have e3 : IntKind.i64.wrap q = q := by rw [IntKind.wrap_i64]; omega
    clear HR
    go_wp2_with fail
    go_region
    all_goals (try go_wp2)
    all_goals
      go_ret
      refine ⟨ret_int ?_, T1.out.drew⟩
      rw [HR2.out]
      omega
theorem rest_at (m : Msr) (L : Int) (B : Nat) : restF m L B = (m.w - widF L B m.t) - (B : Int) * riseF m L B := by unfold restF widF; rw [Int.mul_add]; omega

set_option maxRecDepth 100000 in
set_option maxHeartbeats 1600000 in
theorem l4Kind_any (W t k : Int) (ad : Addr) (B c : Nat) (ys : List Int) (w : World) (hn : ys.length = B + 1) (h : Ints w (some ad) ys) (hm : msrB ⟨W, t, k⟩ = true) (hy : ∀ x ∈ ys, 1 ≤ x ∧ x ≤ 2000) (hB : B < 40) :
    Calls Try.prog 75 #[.agg #[.int .i64 W, .int .i64 t, .int .i64 k], .slice (some ad) (B + 1) c] w fun e w' => e = .returned (.int .i64 (kindF ⟨W, t, k⟩ (sumL ys) B)) ∧ Below w.heap.size w w' := by
  have hM := msrB_iff.1 hm
  simp only at hM
  obtain ⟨hs0, hs1⟩ := words_sum hy (by omega)
  have hws := widF_small (L := sumL ys) (B := B) (e := t) hs0 (by omega) (by omega) (by omega) (by omega)
  have hrb := riseF_bound (m := ⟨W, t, k⟩) (L := sumL ys) (B := B) hs0 (by omega) (by omega) hm
  have C := fun (w : World) (h : Ints w (some ad) ys) => l4Rest_any W t k ad B c ys w hn h hm hy hB
  have D := fun (w : World) (h : Ints w (some ad) ys) (hf : widF (sumL ys) B t ≤ W) => l4Rise_any W t k ad B c ys w hn h hm hy hB hf
  obtain ⟨r, hr⟩ : ∃ r, riseF ⟨W, t, k⟩ (sumL ys) B = r := ⟨_, rfl⟩
  obtain ⟨R, hR⟩ : ∃ R, W - widF (sumL ys) B t = R := ⟨_, rfl⟩
  have HF : Hid (fullF ⟨W, t, k⟩ (sumL ys) B = (R - (B : Int) * r == 0 || decide (R - (B : Int) * r < B))) := by
    show _ = _
    have e : restF ⟨W, t, k⟩ (sumL ys) B = R - (B : Int) * r := by rw [rest_at, hr]; show W - widF _ _ t - _ = _; rw [hR]
    unfold fullF; rw [e]
  have HS : 0 ≤ R → (0 ≤ r ∧ 0 ≤ (B : Int) * r ∧ (B : Int) * r ≤ R) := fun h0 => by
    have := riseF_spec hm (L := sumL ys) (B := B) (by show widF (sumL ys) B t ≤ W; omega)
    have e : restF ⟨W, t, k⟩ (sumL ys) B = R - (B : Int) * r := by rw [rest_at, hr]; show W - widF _ _ t - _ = _; rw [hR]
    rw [hr, e] at this
    exact ⟨this.1, Int.mul_nonneg (by omega) this.1, by omega⟩
  rw [hR] at C
  rw [hr] at D
  have CC := Lib.hid C
  have DD := Lib.hid (fun w h (h0 : 0 ≤ R) => D w h (by omega))
  have HW : Hid (widF (sumL ys) B t ≤ W ↔ 0 ≤ R) := by show _ ↔ _; omega
  have hR1 : R ≤ 2000 := by omega
  have hR2 : -2000000 ≤ R := by omega
  have HSS := Lib.hid HS
  obtain ⟨w0, hw0, hb0, hz0, P⟩ := msWorld w W t k
  have T0 := Lib.hid hb0; have Z0 := Lib.hid hz0; have P0 := Lib.hid P
  have I0 := Lib.hid (h.below hb0)
  obtain ⟨p0, p1, p2⟩ := P
  clear hb0 hz0 hn h hy hs0 hs1 hws C D hR hr HS hrb
  go_enter Try.func75, Try.ntmps75
  go_wp2_with fail
  clear hw0 p0 p1 p2
  refine (CC.out _ I0.out).mono ?_
  rintro e w1 ⟨rfl, hb1⟩
  have T1 := Lib.hid (T0.out.trans (hb1.mono (B' := w.heap.size) (by have := Z0.out; omega)))
  have I1 := Lib.hid (I0.out.below hb1)
  have Z1 : Hid (w.heap.size ≤ w1.heap.size) := by show _ ≤ _; have := Z0.out; have := hb1.size; omega
  obtain ⟨p0, p1, p2⟩ := hold3 hb1 (by have := Z0.out; omega) P0.out
  clear hb1 P0 T0 I0 CC
  by_cases h0 : 0 ≤ R
  · obtain ⟨g0, g1, g2⟩ := HSS.out h0
    have hf0 : Hid (decide (widF (sumL ys) B t ≤ W) = true) := by show _ = _; exact decide_eq_true (HW.out.2 h0)
    have hnl : ¬ R < 0 := by omega
    have DD2 := Lib.hid (fun w h => DD.out w h h0)
    have e1 : IntKind.i64.wrap ((B : Int) * r) = (B : Int) * r := by rw [IntKind.wrap_i64]; omega
    have e2 : IntKind.i64.wrap (R - (B : Int) * r) = R - (B : Int) * r := by rw [IntKind.wrap_i64]; omega
    clear h0 DD HSS
    go_wp2_with fail
    clear p0 p1 p2
    refine (DD2.out _ I1.out).mono ?_
    rintro e w2 ⟨rfl, hb2⟩
    have T2 := Lib.hid (T1.out.trans (hb2.mono (B' := w.heap.size) Z1.out))
    clear hb2
    obtain ⟨y, hy⟩ : ∃ y, R - (B : Int) * r = y := ⟨_, rfl⟩
    rw [hy] at HF e2
    have HY := Lib.hid hy
    by_cases hz : y = 0
    · subst hz
      have HK : Hid (kindF ⟨W, t, k⟩ (sumL ys) B = 2) := kindF_full (by rw [hf0.out, HF.out]; simp)
      go_wp2
      go_ret
      exact ⟨ret_int HK.out.symm, T2.out⟩
    · have hz0 : (y == 0) = false := by simpa using hz
      by_cases hlt : y < (B : Int)
      · have HK : Hid (kindF ⟨W, t, k⟩ (sumL ys) B = 2) := kindF_full (by rw [hf0.out, HF.out]; simp [hlt])
        go_wp2
        go_ret
        exact ⟨ret_int HK.out.symm, T2.out⟩
      · have HK : Hid (kindF ⟨W, t, k⟩ (sumL ys) B = 1) := kindF_fits (by rw [hf0.out, HF.out]; simp [hlt, hz]) hf0.out
        go_wp2
        go_ret
        exact ⟨ret_int HK.out.symm, T2.out⟩
  · have HK : Hid (kindF ⟨W, t, k⟩ (sumL ys) B = 0) := kindF_no (decide_eq_false (fun hf => h0 (HW.out.1 hf)))
    have hnl : R < 0 := by omega
    clear h0 DD HSS
    go_wp2
    go_ret
    exact ⟨ret_int HK.out.symm, T1.out⟩
end Go.Proofs.Ytddkedinkgnboaa
