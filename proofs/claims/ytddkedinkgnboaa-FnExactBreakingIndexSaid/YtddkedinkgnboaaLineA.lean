/-
  The leaves of chapter 4 by contract, model and program: measures, items, lines. No conditions but lengths within the reach of a slice.
-/
import Derived.Test.YtddkedinkgnboaaList
import Derived.Test.YtddkedinkgnboaaLineM
namespace Go.Proofs.Ytddkedinkgnboaa
open Go.RowKit
set_option linter.unusedVariables false

theorem isFrom_any (a x b : Int) (w : World) : Calls Try.prog 52 #[.int .i64 a, .int .i64 x, .int .i64 b] w fun e w' => e = .returned (.bool (inB x a b)) ∧ w = w' := by
  by_cases h1 : a ≤ x
  · by_cases h2 : x ≤ b
    · have hr : inB x a b = true := by simp [inB, h1, h2]
      rw [hr]; clear hr
      go_enter Try.func52, Try.ntmps52
      go_wp2
      go_ret
      exact ⟨rfl, rfl⟩
    · have hr : inB x a b = false := by simp [inB, h2]
      rw [hr]; clear hr
      go_enter Try.func52, Try.ntmps52
      go_wp2
      go_ret
      exact ⟨rfl, rfl⟩
  · have hr : inB x a b = false := by simp [inB, h1]
    rw [hr]; clear hr
    go_enter Try.func52, Try.ntmps52
    go_wp2
    go_ret
    exact ⟨rfl, rfl⟩

theorem lineB_is {zs : List Int} {n : Nat} (hn : zs.length = n) : lineB zs = (inB n 0 120 && zs.all itemB) := by
  unfold lineB itemsB inB
  rw [hn, Bool.and_comm]
  congr 1
  rw [Bool.eq_iff_iff, decide_eq_true_eq, decide_eq_true_eq]
  omega

set_option maxHeartbeats 800000 in
theorem specMeasureOk_any (W t k : Int) (w : World) : Calls Try.prog 16 #[.agg #[.int .i64 W, .int .i64 t, .int .i64 k]] w fun e w' => e = .returned (.bool (msrB ⟨W, t, k⟩)) ∧ Below w.heap.size w w' := by
  have HW := Lib.hid (show Below w.heap.size w (w.alloc (.cells #[.int .i64 W, .int .i64 t, .int .i64 k] 24)) from (Below.refl _ _).alloc (Nat.le_refl _) _)
  cases h1 : inB W 1 2000
  · have HR : Hid (msrB ⟨W, t, k⟩ = false) := by show _ = _; unfold msrB; rw [h1]; rfl
    go_enter Try.func16, Try.ntmps16
    go_wp2_with (go_at_call 49; refine (l1In_any _ _ _ _).mono ?_; rintro e w' ⟨rfl, rfl⟩)
    go_ret
    exact ⟨ret_bool HR.out.symm, HW.out⟩
  cases h2 : inB t 1 100
  · have HR : Hid (msrB ⟨W, t, k⟩ = false) := by show _ = _; unfold msrB; rw [h1, h2]; rfl
    go_enter Try.func16, Try.ntmps16
    go_wp2_with (go_at_call 49; refine (l1In_any _ _ _ _).mono ?_; rintro e w' ⟨rfl, rfl⟩)
    go_ret
    exact ⟨ret_bool HR.out.symm, HW.out⟩
  have HR : Hid (msrB ⟨W, t, k⟩ = inB k t 100) := by show _ = _; unfold msrB; rw [h1, h2]; rfl
  go_enter Try.func16, Try.ntmps16
  go_wp2_with (go_at_call 49; refine (l1In_any _ _ _ _).mono ?_; rintro e w' ⟨rfl, rfl⟩)
  go_ret
  exact ⟨ret_bool HR.out.symm, HW.out⟩

set_option maxHeartbeats 800000 in
theorem implMeasureOk_any (W t k : Int) (w : World) : Calls Try.prog 69 #[.agg #[.int .i64 W, .int .i64 t, .int .i64 k]] w fun e w' => e = .returned (.bool (msrB ⟨W, t, k⟩)) ∧ Below w.heap.size w w' := by
  have HW := Lib.hid (show Below w.heap.size w (w.alloc (.cells #[.int .i64 W, .int .i64 t, .int .i64 k] 24)) from (Below.refl _ _).alloc (Nat.le_refl _) _)
  cases h1 : inB W 1 2000
  · have HR : Hid (msrB ⟨W, t, k⟩ = false) := by show _ = _; unfold msrB; rw [h1]; rfl
    go_enter Try.func69, Try.ntmps69
    go_wp2_with (go_at_call 52; refine (isFrom_any _ _ _ _).mono ?_; rintro e w' ⟨rfl, rfl⟩)
    go_ret
    exact ⟨ret_bool HR.out.symm, HW.out⟩
  cases h2 : inB t 1 100
  · have HR : Hid (msrB ⟨W, t, k⟩ = false) := by show _ = _; unfold msrB; rw [h1, h2]; rfl
    go_enter Try.func69, Try.ntmps69
    go_wp2_with (go_at_call 52; refine (isFrom_any _ _ _ _).mono ?_; rintro e w' ⟨rfl, rfl⟩)
    go_ret
    exact ⟨ret_bool HR.out.symm, HW.out⟩
  have HR : Hid (msrB ⟨W, t, k⟩ = inB k t 100) := by show _ = _; unfold msrB; rw [h1, h2]; rfl
  go_enter Try.func69, Try.ntmps69
  go_wp2_with (go_at_call 52; refine (isFrom_any _ _ _ _).mono ?_; rintro e w' ⟨rfl, rfl⟩)
  go_ret
  exact ⟨ret_bool HR.out.symm, HW.out⟩
end Go.Proofs.Ytddkedinkgnboaa
