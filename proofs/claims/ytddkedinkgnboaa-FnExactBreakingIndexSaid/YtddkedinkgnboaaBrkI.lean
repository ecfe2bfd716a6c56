/-
  LineKind, IsBreaking, CostOf of the program by contract. Conditions: lengths and capacities within the reach of a slice.
-/
import Derived.Test.YtddkedinkgnboaaBrkM
import Derived.Test.YtddkedinkgnboaaFitI
namespace Go.Proofs.Ytddkedinkgnboaa
open Go.RowKit
set_option linter.unusedVariables false

/-- the world in which a function begins that boxes a measure and lays a setting -/
theorem msStWorld (w : World) (W t k : Int) (s : Value) : ∃ w0, (w.alloc (.cells #[.int .i64 W, .int .i64 t, .int .i64 k] 24)).alloc (.cells #[.int .i64 W, .int .i64 t, .int .i64 k, s] 59) = w0 ∧ Below w.heap.size w w0 ∧ w0.heap.size = w.heap.size + 2 ∧ St w0 (w.heap.size + 1) W t k s := by
  refine ⟨_, rfl, (below_new _ _).trans ((below_new _ _).mono (by simp)), by simp, ?_⟩
  have := stWorld (w.alloc (.cells #[.int .i64 W, .int .i64 t, .int .i64 k] 24)) W t k s
  obtain ⟨w0, h0, _, _, h⟩ := this
  rw [h0]
  rwa [World.size_alloc] at h

end Go.Proofs.Ytddkedinkgnboaa
