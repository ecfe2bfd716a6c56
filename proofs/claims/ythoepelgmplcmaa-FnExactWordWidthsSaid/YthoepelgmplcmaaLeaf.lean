/-
  The leaves of chapter 2, model and program: each returns what its plain function says and leaves the world as it was. No conditions but those in each theorem's premises.
-/
import Derived.Test.YthoepelgmplcmaaPkA
import Derived.WalkKit
import Derived.WalkSpells
import Derived.BigQuiet
namespace Go.Proofs.Ythoepelgmplcmaa
open Go.RowKit

/-- 0 ≤ s ≤ 127 -/
def setB (s : Int) : Bool := decide (0 ≤ s ∧ s ≤ 127)
theorem l1Set_any (s : Int) (w : World) : Calls Try.prog 155 #[.int .i64 s] w fun e w' => e = .returned (.bool (setB s)) ∧ w = w' := by
  go_enter Try.func155, Try.ntmps155
  go_wp2_with (go_at_call 80; refine (l1In_any _ _ _ _).mono ?_; rintro e w' ⟨rfl, rfl⟩)
  go_ret
  exact ⟨rfl, rfl⟩

theorem isSet_any (s : Int) (w : World) : Calls Try.prog 207 #[.int .i64 s] w fun e w' => e = .returned (.bool (setB s)) ∧ w = w' := by
  by_cases h1 : 0 ≤ s
  · by_cases h2 : s ≤ 127
    · have hr : setB s = true := by simp [setB, h1, h2]
      rw [hr]; clear hr
      go_enter Try.func207, Try.ntmps207
      go_wp2
      go_ret
      exact ⟨rfl, rfl⟩
    · have hr : setB s = false := by simp [setB, h2]
      rw [hr]; clear hr
      go_enter Try.func207, Try.ntmps207
      go_wp2
      go_ret
      exact ⟨rfl, rfl⟩
  · have hr : setB s = false := by simp [setB, h1]
    rw [hr]; clear hr
    go_enter Try.func207, Try.ntmps207
    go_wp2
    go_ret
    exact ⟨rfl, rfl⟩
end Go.Proofs.Ythoepelgmplcmaa
