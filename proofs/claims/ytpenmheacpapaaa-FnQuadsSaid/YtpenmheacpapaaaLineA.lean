/-
  The leaves of chapter 4 by contract, model and program: measures, items, lines. No conditions but lengths within the reach of a slice.
-/
import Derived.Test.YtpenmheacpapaaaList
import Derived.Test.YtpenmheacpapaaaLineM
namespace Go.Proofs.Ytpenmheacpapaaa
open Go.RowKit
set_option linter.unusedVariables false

theorem isFrom_any (a x b : Int) (w : World) : Calls Try.prog 74 #[.int .i64 a, .int .i64 x, .int .i64 b] w fun e w' => e = .returned (.bool (inB x a b)) ∧ w = w' := by
  by_cases h1 : a ≤ x
  · by_cases h2 : x ≤ b
    · have hr : inB x a b = true := by simp [inB, h1, h2]
      rw [hr]; clear hr
      go_enter Try.func74, Try.ntmps74
      go_wp2
      go_ret
      exact ⟨rfl, rfl⟩
    · have hr : inB x a b = false := by simp [inB, h2]
      rw [hr]; clear hr
      go_enter Try.func74, Try.ntmps74
      go_wp2
      go_ret
      exact ⟨rfl, rfl⟩
  · have hr : inB x a b = false := by simp [inB, h1]
    rw [hr]; clear hr
    go_enter Try.func74, Try.ntmps74
    go_wp2
    go_ret
    exact ⟨rfl, rfl⟩

theorem isItem_any (x : Int) (w : World) : Calls Try.prog 118 #[.int .i64 x] w fun e w' => e = .returned (.bool (itemB x)) ∧ w = w' := by
  by_cases h0 : x = 0
  · subst h0
    go_enter Try.func118, Try.ntmps118
    go_wp2
    go_ret
    exact ⟨rfl, rfl⟩
  · have hr : Hid (itemB x = inB x 1 60) := by
      show _ = _
      unfold itemB inB
      congr 1
      apply propext
      omega
    have h1 : (x == 0) = false := by simpa using h0
    clear h0
    go_enter Try.func118, Try.ntmps118
    go_wp2_with (go_at_call 129; refine (isWidth_any _ _).mono ?_; rintro e w' ⟨rfl, rfl⟩)
    go_ret
    exact ⟨ret_bool hr.out.symm, rfl⟩

theorem isItem_enter (args : Array Value) (w : World) : Sem.run Try.prog (callFunc 118 args) w = .ok (.enter 118 args) w := by kernel_rfl
theorem lineB_is {zs : List Int} {n : Nat} (hn : zs.length = n) : lineB zs = (inB n 0 120 && zs.all itemB) := by
  unfold lineB itemsB inB
  rw [hn, Bool.and_comm]
  congr 1
  rw [Bool.eq_iff_iff, decide_eq_true_eq, decide_eq_true_eq]
  omega

theorem implLineOk_any (A : Option Addr) (n c : Nat) (zs : List Int) (w : World) (hn : zs.length = n) (hm : n ≤ maxLen) (h : Ints w A zs) :
    Calls Try.prog 91 #[.slice A n c] w fun e w' => e = .returned (.bool (lineB zs)) ∧ w = w' := by
  have Hn := Lib.hid hn; clear hn
  go_enter Try.func91, Try.ntmps91
  go_wp2_with fail
  refine (isListOf_any 118 isItem_enter itemB isItem_any _ _ _ zs _ _ _ Hn.out hm h).mono ?_
  rintro e w' ⟨rfl, rfl⟩
  go_wp2
  go_ret
  exact ⟨ret_bool (lineB_is Hn.out).symm, rfl⟩

set_option maxHeartbeats 400000 in
theorem specLineOk_any (A : Option Addr) (n c : Nat) (zs : List Int) (w : World) (hn : zs.length = n) (hm : n ≤ maxLen) (h : Ints w A zs) :
    Calls Try.prog 38 #[.slice A n c] w fun e w' => e = .returned (.bool (lineB zs)) ∧ w = w' := by
  unfold maxLen at hm
  have Hn := Lib.hid hn; clear hn
  go_enter Try.func38, Try.ntmps38
  go_wp2
  go_loop [7] (fun i => ∃ k : Nat, k ≤ n ∧ i = .int .i64 k ∧ itemsB (zs.take k) = true) (fun i => n - (intOf i).toNat)
  case atStart => exact ⟨0, Nat.zero_le _, rfl, rfl⟩
  case round =>
    obtain ⟨k, hk, rfl, hall⟩ := hrel
    have Hall := Lib.hid hall; clear hall
    by_cases hlt : k < n
    · obtain ⟨ad, x, rfl, hx, hc⟩ := h.at_ (k := k) (by rw [Hn.out]; exact hlt)
      cases hs : inB x 0 60
      · have Hb := Lib.hid (itemsB_bad hx.out hs)
        go_wp2_with (go_at_call 71; refine (l1In_any _ _ _ _).mono ?_; rintro e w' ⟨rfl, rfl⟩)
        go_ret
        exact ⟨ret_bool (by unfold lineB; rw [Hb.out]; rfl), rfl⟩
      · have Hs := Lib.hid (itemsB_take hx.out)
        have HX : Hid (itemB x = true) := hs
        go_wp2_with (go_at_call 71; refine (l1In_any _ _ _ _).mono ?_; rintro e w' ⟨rfl, rfl⟩)
        go_round
        case rel => exact ⟨k + 1, by omega, by go_num, by rw [Hs.out, Hall.out, HX.out]; rfl⟩
        case measure => simp [intOf]; omega
    · have hkn : k = n := by omega
      subst hkn
      go_wp2
      go_ret
      refine ⟨ret_bool ?_, rfl⟩
      have := Hall.out
      rw [take_all Hn.out] at this
      unfold lineB
      rw [this, Hn.out]
      simp only [Bool.true_and]
      rw [Bool.eq_iff_iff]
      simp only [decide_eq_true_eq]
      omega

set_option maxHeartbeats 800000 in
theorem specMeasureOk_any (W t k : Int) (w : World) : Calls Try.prog 22 #[.agg #[.int .i64 W, .int .i64 t, .int .i64 k]] w fun e w' => e = .returned (.bool (msrB ⟨W, t, k⟩)) ∧ Below w.heap.size w w' := by
  have HW := Lib.hid (show Below w.heap.size w (w.alloc (.cells #[.int .i64 W, .int .i64 t, .int .i64 k] 24)) from (Below.refl _ _).alloc (Nat.le_refl _) _)
  cases h1 : inB W 1 2000
  · have HR : Hid (msrB ⟨W, t, k⟩ = false) := by show _ = _; unfold msrB; rw [h1]; rfl
    go_enter Try.func22, Try.ntmps22
    go_wp2_with (go_at_call 71; refine (l1In_any _ _ _ _).mono ?_; rintro e w' ⟨rfl, rfl⟩)
    go_ret
    exact ⟨ret_bool HR.out.symm, HW.out⟩
  cases h2 : inB t 1 100
  · have HR : Hid (msrB ⟨W, t, k⟩ = false) := by show _ = _; unfold msrB; rw [h1, h2]; rfl
    go_enter Try.func22, Try.ntmps22
    go_wp2_with (go_at_call 71; refine (l1In_any _ _ _ _).mono ?_; rintro e w' ⟨rfl, rfl⟩)
    go_ret
    exact ⟨ret_bool HR.out.symm, HW.out⟩
  have HR : Hid (msrB ⟨W, t, k⟩ = inB k t 100) := by show _ = _; unfold msrB; rw [h1, h2]; rfl
  go_enter Try.func22, Try.ntmps22
  go_wp2_with (go_at_call 71; refine (l1In_any _ _ _ _).mono ?_; rintro e w' ⟨rfl, rfl⟩)
  go_ret
  exact ⟨ret_bool HR.out.symm, HW.out⟩

set_option maxHeartbeats 800000 in
theorem implMeasureOk_any (W t k : Int) (w : World) : Calls Try.prog 90 #[.agg #[.int .i64 W, .int .i64 t, .int .i64 k]] w fun e w' => e = .returned (.bool (msrB ⟨W, t, k⟩)) ∧ Below w.heap.size w w' := by
  have HW := Lib.hid (show Below w.heap.size w (w.alloc (.cells #[.int .i64 W, .int .i64 t, .int .i64 k] 24)) from (Below.refl _ _).alloc (Nat.le_refl _) _)
  cases h1 : inB W 1 2000
  · have HR : Hid (msrB ⟨W, t, k⟩ = false) := by show _ = _; unfold msrB; rw [h1]; rfl
    go_enter Try.func90, Try.ntmps90
    go_wp2_with (go_at_call 74; refine (isFrom_any _ _ _ _).mono ?_; rintro e w' ⟨rfl, rfl⟩)
    go_ret
    exact ⟨ret_bool HR.out.symm, HW.out⟩
  cases h2 : inB t 1 100
  · have HR : Hid (msrB ⟨W, t, k⟩ = false) := by show _ = _; unfold msrB; rw [h1, h2]; rfl
    go_enter Try.func90, Try.ntmps90
    go_wp2_with (go_at_call 74; refine (isFrom_any _ _ _ _).mono ?_; rintro e w' ⟨rfl, rfl⟩)
    go_ret
    exact ⟨ret_bool HR.out.symm, HW.out⟩
  have HR : Hid (msrB ⟨W, t, k⟩ = inB k t 100) := by show _ = _; unfold msrB; rw [h1, h2]; rfl
  go_enter Try.func90, Try.ntmps90
  go_wp2_with (go_at_call 74; refine (isFrom_any _ _ _ _).mono ?_; rintro e w' ⟨rfl, rfl⟩)
  go_ret
  exact ⟨ret_bool HR.out.symm, HW.out⟩
end Go.Proofs.Ytpenmheacpapaaa
