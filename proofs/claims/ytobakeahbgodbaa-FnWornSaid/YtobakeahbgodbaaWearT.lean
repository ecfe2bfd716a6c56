/-
  WearMatrix of the model by contract. Condition: lengths of at most 2^20.
-/
import Derived.Test.YtobakeahbgodbaaWearS
namespace Go.Proofs.Ytobakeahbgodbaa
open Go.RowKit
set_option linter.unusedVariables false

theorem shr_zero (t : Int) (h0 : 0 ≤ t) (h1 : t ≤ 6) (x : Int) (hx0 : 0 ≤ x) (hx1 : x ≤ 127) : bt x t.toNat = false → (bits .and .i64 (x / 2 ^ t.toNat) 1 == 0) = true := by
  rcases tooth_cases h0 h1 with rfl | rfl | rfl | rfl | rfl | rfl | rfl
  all_goals (revert x; exact all128 _ (by decide +kernel))
end Go.Proofs.Ytobakeahbgodbaa
