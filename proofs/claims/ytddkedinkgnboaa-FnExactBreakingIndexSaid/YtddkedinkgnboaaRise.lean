/-
  The methods of the type load by contract: fits, rise, rest, isFull. Conditions: the letters are at most 1000000 wide, the bands at most 120, the measure is one.
-/
import Derived.Test.YtddkedinkgnboaaLoad
namespace Go.Proofs.Ytddkedinkgnboaa
open Go.RowKit
set_option linter.unusedVariables false

/-- the world in which a method of load begins -/
theorem ldWorld (w : World) (L B W t k : Int) : ∃ w0, (w.alloc (.cells #[.int .i64 L, .int .i64 B] 90)).alloc (.cells #[.int .i64 W, .int .i64 t, .int .i64 k] 24) = w0 ∧ Below w.heap.size w w0 ∧ w0.heap.size = w.heap.size + 2 ∧
    (w0.cell? ⟨w.heap.size, 0, none⟩ = some (.int .i64 L) ∧ w0.cell? ⟨w.heap.size, 1, none⟩ = some (.int .i64 B)) ∧
    (w0.cell? ⟨w.heap.size + 1, 0, none⟩ = some (.int .i64 W) ∧ w0.cell? ⟨w.heap.size + 1, 1, none⟩ = some (.int .i64 t) ∧ w0.cell? ⟨w.heap.size + 1, 2, none⟩ = some (.int .i64 k)) := by
  refine ⟨_, rfl, (below_new _ _).trans ((below_new _ _).mono (by simp)), by simp, ?_, ?_⟩
  · exact hold2 (below_new _ _) (by simp) (lay2 w (.int .i64 L) (.int .i64 B) 90)
  · have := lay3 (w.alloc (.cells #[.int .i64 L, .int .i64 B] 90)) (.int .i64 W) (.int .i64 t) (.int .i64 k) 24
    rw [World.size_alloc] at this
    exact this

set_option maxRecDepth 100000 in
set_option maxHeartbeats 1600000 in
theorem ldFits_any (L : Int) (B : Nat) (W t k : Int) (w : World) (h0 : 0 ≤ L) (h1 : L ≤ 1000000) (h3 : B ≤ 120) (hm : msrB ⟨W, t, k⟩ = true) :
    Calls Try.prog 88 #[.agg #[.int .i64 L, .int .i64 B], .agg #[.int .i64 W, .int .i64 t, .int .i64 k]] w fun e w' => e = .returned (.bool (decide (widF L B t ≤ W))) ∧ Below w.heap.size w w' := by
  have hM := msrB_iff.1 hm
  simp only at hM
  obtain ⟨w0, hw0, hb0, hz0, X, P⟩ := ldWorld w L B W t k
  have T0 := Lib.hid hb0; have X0 := Lib.hid X; have P0 := Lib.hid P; have Z0 := Lib.hid hz0
  clear hb0 hz0 X P
  go_enter Try.func88, Try.ntmps88
  go_wp2_with fail
  clear hw0
  obtain ⟨q0, q1⟩ := X0.out
  obtain ⟨p0, p1, p2⟩ := P0.out
  have hz := Z0.out
  go_region_held3 (fun w' => (w'.cell? ⟨w.heap.size, 0, none⟩ = some (.int .i64 L) ∧ w'.cell? ⟨w.heap.size, 1, none⟩ = some (.int .i64 B)) ∧ (w'.cell? ⟨w.heap.size + 1, 0, none⟩ = some (.int .i64 W) ∧ w'.cell? ⟨w.heap.size + 1, 1, none⟩ = some (.int .i64 t) ∧ w'.cell? ⟨w.heap.size + 1, 2, none⟩ = some (.int .i64 k)))
    (first | go_keep | exact ⟨X1.out, P1.out⟩)
    (first
      | (go_at_call 89; refine (ldWidth_any L B t _ h0 h1 (by omega) (by omega) (by omega) (by omega)).mono ?_; rintro e w1 ⟨rfl, hb1⟩; have hb01 : Below w0.heap.size w0 w1 := undrew hb1; have X1 := Lib.hid (hold2 hb01 (by omega) X0.out); have P1 := Lib.hid (hold3 hb01 (by omega) P0.out); have T1 := Lib.hid (T0.out.trans (hb01.mono (B' := w.heap.size) (by omega))); clear hb1 hb01))
  go_wp2
  go_ret
  exact ⟨rfl, T1.out⟩

theorem tdiv_small {x b : Int} (h0 : -4000000 ≤ x) (h1 : x ≤ 4000000) (hb : 0 < b) : -4000000 ≤ x.tdiv b ∧ x.tdiv b ≤ 4000000 := by
  by_cases hx : 0 ≤ x
  · rw [Int.tdiv_eq_ediv_of_nonneg hx]
    have e1 : 0 ≤ x / b := Int.ediv_nonneg hx (by omega)
    have e2 : x / b ≤ x := Int.ediv_le_self b hx
    omega
  · obtain ⟨y, rfl⟩ : ∃ y, x = -y := ⟨-x, by omega⟩
    rw [Int.neg_tdiv, Int.tdiv_eq_ediv_of_nonneg (by omega)]
    have e1 : 0 ≤ y / b := Int.ediv_nonneg (by omega) (by omega)
    have e2 : y / b ≤ y := Int.ediv_le_self b (by omega)
    omega
theorem widF_small {L : Int} {B : Nat} {e : Int} (h0 : 0 ≤ L) (h1 : L ≤ 1000000) (h3 : B ≤ 120) (h4 : 0 ≤ e) (h5 : e ≤ 101) : 0 ≤ widF L B e ∧ widF L B e ≤ 1012120 := by
  have := mul_small (B := B) (by omega) (by omega) h4 h5
  unfold widF; omega
theorem riseF_bound {m : Msr} {L : Int} {B : Nat} (h0 : 0 ≤ L) (h1 : L ≤ 1000000) (h3 : B ≤ 120) (hm : msrB m = true) : -2000000 ≤ riseF m L B ∧ riseF m L B ≤ 100 := by
  have hM := msrB_iff.1 hm
  have hw := widF_small (e := m.t) h0 h1 h3 (by omega) (by omega)
  unfold riseF
  split
  · omega
  · have hx0 : -1100000 ≤ m.w - widF L B m.t := by omega
    have : -1100000 ≤ (m.w - widF L B m.t).tdiv (B : Int) := by
      by_cases hx : 0 ≤ m.w - widF L B m.t
      · rw [Int.tdiv_eq_ediv_of_nonneg hx]
        have : 0 ≤ (m.w - widF L B m.t) / (B : Int) := Int.ediv_nonneg hx (by omega)
        omega
      · obtain ⟨y, hy⟩ : ∃ y, m.w - widF L B m.t = -y := ⟨-(m.w - widF L B m.t), by omega⟩
        rw [hy, Int.neg_tdiv, Int.tdiv_eq_ediv_of_nonneg (by omega)]
        have : y / (B : Int) ≤ y := Int.ediv_le_self _ (by omega)
        omega
    omega

set_option maxRecDepth 100000 in
set_option maxHeartbeats 1600000 in
theorem ldRise_any (L : Int) (B : Nat) (W t k : Int) (w : World) (h0 : 0 ≤ L) (h1 : L ≤ 1000000) (h3 : B ≤ 120) (hm : msrB ⟨W, t, k⟩ = true) :
    Calls Try.prog 79 #[.agg #[.int .i64 L, .int .i64 B], .agg #[.int .i64 W, .int .i64 t, .int .i64 k]] w fun e w' => e = .returned (.int .i64 (riseF ⟨W, t, k⟩ L B)) ∧ Below w.heap.size w w' := by
  have hM := msrB_iff.1 hm
  simp only at hM
  obtain ⟨w0, hw0, hb0, hz0, X, P⟩ := ldWorld w L B W t k
  have T0 := Lib.hid hb0; have X0 := Lib.hid X; have P0 := Lib.hid P; have Z0 := Lib.hid hz0
  clear hb0 hz0 X P
  by_cases hB : B = 0
  · subst hB
    have HR : Hid (riseF ⟨W, t, k⟩ L 0 = 0) := by show _ = _; unfold riseF; rw [if_pos rfl]
    obtain ⟨q0, q1⟩ := X0.out
    go_enter Try.func79, Try.ntmps79
    go_wp2
    go_ret
    exact ⟨ret_int HR.out.symm, by have := T0.out; rw [← hw0] at this; exact this⟩
  have hw := widF_small (e := t) h0 h1 h3 (by omega) (by omega)
  have hd := tdiv_small (x := W - widF L B t) (b := B) (by omega) (by omega) (by omega)
  have HR : Hid (riseF ⟨W, t, k⟩ L B = min (k - t) ((W - widF L B t).tdiv B)) := by show _ = _; unfold riseF; rw [if_neg hB]
  obtain ⟨q, hq⟩ : ∃ q, (W - (L + B * t)).tdiv (B : Int) = q := ⟨_, rfl⟩
  have HQ : Hid ((W - widF L B t).tdiv (B : Int) = q) := hq
  rw [HQ.out] at hd HR
  have hb0 : ((B : Int) == 0) = false := by rw [beq_eq_false_iff_ne]; omega
  have hbx : ¬ ((B : Int) = 0) := by omega
  have hwx := mul_small (B := B) (e := t) (by omega) (by omega) (by omega) (by omega)
  go_enter Try.func79, Try.ntmps79
  obtain ⟨q0, q1⟩ := X0.out
  obtain ⟨p0, p1, p2⟩ := P0.out
  go_wp2_with fail
  clear hw0
  have hz := Z0.out
  go_region_held3 (fun w' => (w'.cell? ⟨w.heap.size, 0, none⟩ = some (.int .i64 L) ∧ w'.cell? ⟨w.heap.size, 1, none⟩ = some (.int .i64 B)) ∧ (w'.cell? ⟨w.heap.size + 1, 0, none⟩ = some (.int .i64 W) ∧ w'.cell? ⟨w.heap.size + 1, 1, none⟩ = some (.int .i64 t) ∧ w'.cell? ⟨w.heap.size + 1, 2, none⟩ = some (.int .i64 k)))
    (first | go_keep | exact ⟨X1.out, P1.out⟩)
    (first
      | (go_at_call 89; refine (ldWidth_any L B t _ h0 h1 (by omega) (by omega) (by omega) (by omega)).mono ?_; rintro e w1 ⟨rfl, hb1⟩; have hc1 : Below w0.heap.size w0 w1 := undrew hb1; have X1 := Lib.hid (hold2 hc1 (by omega) X0.out); have P1 := Lib.hid (hold3 hc1 (by omega) P0.out); have T1 := Lib.hid (T0.out.trans (hc1.mono (B' := w.heap.size) (by omega))); have z1 := hc1.size; clear hb1 hc1))
  have e1 : IntKind.i64.wrap (k - t) = k - t := by rw [IntKind.wrap_i64]; omega
  have e2 : IntKind.i64.wrap (W - (L + B * t)) = W - (L + B * t) := by rw [IntKind.wrap_i64]; omega
  have e3 : IntKind.i64.wrap q = q := by rw [IntKind.wrap_i64]; omega
  go_wp2
  all_goals
    go_ret
    refine ⟨ret_int ?_, T1.out⟩
    rw [HR.out]
    omega

set_option maxRecDepth 100000 in
set_option maxHeartbeats 1600000 in
theorem ldRest_any (L : Int) (B : Nat) (W t k : Int) (w : World) (h0 : 0 ≤ L) (h1 : L ≤ 1000000) (h3 : B ≤ 120) (hm : msrB ⟨W, t, k⟩ = true) :
    Calls Try.prog 91 #[.agg #[.int .i64 L, .int .i64 B], .agg #[.int .i64 W, .int .i64 t, .int .i64 k]] w fun e w' => e = .returned (.int .i64 (restF ⟨W, t, k⟩ L B)) ∧ Below w.heap.size w w' := by
  have hM := msrB_iff.1 hm
  simp only at hM
  obtain ⟨w0, hw0, hb0, hz0, X, P⟩ := ldWorld w L B W t k
  have T0 := Lib.hid hb0; have X0 := Lib.hid X; have P0 := Lib.hid P; have Z0 := Lib.hid hz0
  clear hb0 hz0 X P
  have hr := riseF_bound h0 h1 h3 hm
  have hr1 : riseF ⟨W, t, k⟩ L B ≤ k - t := by
    unfold riseF; split
    · show (0 : Int) ≤ k - t; omega
    · exact Int.min_le_left _ _
  have HR : Hid (restF ⟨W, t, k⟩ L B = W - (L + B * (t + riseF ⟨W, t, k⟩ L B))) := rfl
  obtain ⟨r, hre⟩ : ∃ r, riseF ⟨W, t, k⟩ L B = r := ⟨_, rfl⟩
  have HRe := Lib.hid hre
  rw [hre] at hr hr1 HR
  clear hre
  have hwx := mul_wide (B := B) (e := t + r) (by omega) (by omega) (by omega) (by omega)
  have e1 : IntKind.i64.wrap (t + r) = t + r := by rw [IntKind.wrap_i64]; omega
  have e2 : IntKind.i64.wrap (W - (L + B * (t + r))) = W - (L + B * (t + r)) := by rw [IntKind.wrap_i64]; omega
  obtain ⟨q0, q1⟩ := X0.out
  obtain ⟨p0, p1, p2⟩ := P0.out
  go_enter Try.func91, Try.ntmps91
  go_wp2_with fail
  clear hw0
  have hz := Z0.out
  go_region_held3 (fun w' => (w'.cell? ⟨w.heap.size, 0, none⟩ = some (.int .i64 L) ∧ w'.cell? ⟨w.heap.size, 1, none⟩ = some (.int .i64 B)) ∧ (w'.cell? ⟨w.heap.size + 1, 0, none⟩ = some (.int .i64 W) ∧ w'.cell? ⟨w.heap.size + 1, 1, none⟩ = some (.int .i64 t) ∧ w'.cell? ⟨w.heap.size + 1, 2, none⟩ = some (.int .i64 k)))
    (first | go_keep | exact ⟨X1.out, P1.out⟩ | exact ⟨X2.out, P2.out⟩)
    (first
      | (go_at_call 79; refine (ldRise_any L B W t k _ h0 h1 h3 hm).mono ?_; rintro e w1 ⟨he, hb1⟩; rw [HRe.out] at he; subst he; have hc1 : Below w0.heap.size w0 w1 := undrew hb1; have X1 := Lib.hid (hold2 hc1 (by omega) X0.out); have P1 := Lib.hid (hold3 hc1 (by omega) P0.out); have T1 := Lib.hid (T0.out.trans (hc1.mono (B' := w.heap.size) (by omega))); have z1 := hc1.size; clear hb1 hc1)
      | (go_at_call 89; (try rw [e1]); refine (ldWidth_any L B (t + r) _ h0 h1 (by omega) (by omega) (by omega) (by omega)).mono ?_; rintro e w2 ⟨rfl, hb2⟩; have hc2 : Below w1.heap.size w1 w2 := hb2; have X2 := Lib.hid (hold2 hc2 (by omega) X1.out); have P2 := Lib.hid (hold3 hc2 (by omega) P1.out); have T2 := Lib.hid (T1.out.trans (hc2.mono (B' := w.heap.size) (by omega))); have z2 := hc2.size; clear hb2 hc2))
  go_wp2
  go_ret
  exact ⟨ret_int (by rw [HR.out]), T2.out⟩

set_option maxRecDepth 100000 in
set_option maxHeartbeats 1600000 in
theorem ldFull_any (L : Int) (B : Nat) (W t k : Int) (w : World) (h0 : 0 ≤ L) (h1 : L ≤ 1000000) (h3 : B ≤ 120) (hm : msrB ⟨W, t, k⟩ = true) :
    Calls Try.prog 87 #[.agg #[.int .i64 L, .int .i64 B], .agg #[.int .i64 W, .int .i64 t, .int .i64 k]] w fun e w' => e = .returned (.bool (decide (widF L B t ≤ W) && fullF ⟨W, t, k⟩ L B)) ∧ Below w.heap.size w w' := by
  obtain ⟨w0, hw0, hb0, hz0, X, P⟩ := ldWorld w L B W t k
  have T0 := Lib.hid hb0; have X0 := Lib.hid X; have P0 := Lib.hid P; have Z0 := Lib.hid hz0
  clear hb0 hz0 X P
  obtain ⟨r, hre⟩ : ∃ r, restF ⟨W, t, k⟩ L B = r := ⟨_, rfl⟩
  have HRe := Lib.hid hre
  clear hre
  obtain ⟨q0, q1⟩ := X0.out
  obtain ⟨p0, p1, p2⟩ := P0.out
  go_enter Try.func87, Try.ntmps87
  go_wp2_with fail
  clear hw0
  have hz := Z0.out
  refine (ldRest_any L B W t k _ h0 h1 h3 hm).mono ?_
  rintro e w1 ⟨rfl, hb1⟩
  rw [HRe.out]
  have X1 := Lib.hid (hold2 hb1 (by omega) X0.out); have P1 := Lib.hid (hold3 hb1 (by omega) P0.out); have T1 := Lib.hid (T0.out.trans (hb1.mono (B' := w.heap.size) (by omega))); have z1 := hb1.size
  clear hb1 q0 q1 p0 p1 p2
  obtain ⟨q0, q1⟩ := X1.out
  obtain ⟨p0, p1, p2⟩ := P1.out
  go_wp2_with fail
  refine (ldFits_any L B W t k _ h0 h1 h3 hm).mono ?_
  rintro e w2 ⟨rfl, hb2⟩
  have X2 := Lib.hid (hold2 hb2 (by omega) X1.out); have P2 := Lib.hid (hold3 hb2 (by omega) P1.out); have T2 := Lib.hid (T1.out.trans (hb2.mono (B' := w.heap.size) (by omega))); have z2 := hb2.size
  clear hb2 q0 q1 p0 p1 p2
  obtain ⟨q0, q1⟩ := X2.out
  obtain ⟨p0, p1, p2⟩ := P2.out
  have HF : Hid (fullF ⟨W, t, k⟩ L B = (r == 0 || decide (r < (B : Int)))) := by show _ = _; unfold fullF; rw [HRe.out]
  cases hd : decide (widF L B t ≤ W)
  · go_wp2
    go_ret
    exact ⟨ret_bool (by simp only [hd, Bool.false_and]), T2.out⟩
  · cases hr : (r == 0)
    · go_wp2
      go_ret
      exact ⟨ret_bool (by simp only [HF.out, hd, hr, Bool.true_and, Bool.false_or]), T2.out⟩
    · go_wp2
      go_ret
      exact ⟨ret_bool (by simp only [HF.out, hd, hr, Bool.true_and, Bool.true_or]), T2.out⟩
end Go.Proofs.Ytddkedinkgnboaa
