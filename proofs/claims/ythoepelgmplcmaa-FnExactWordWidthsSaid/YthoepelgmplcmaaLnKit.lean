/-
  toMeasure by contract, and the world in which a law over a measure begins. No condition.
-/
import Derived.Test.YthoepelgmplcmaaPkA
namespace Go.Proofs.Ythoepelgmplcmaa
open Go.RowKit
set_option linter.unusedVariables false

set_option maxHeartbeats 400000 in
theorem toMeasure_any (W t k : Int) (w : World) :
    Calls Try.prog 40 #[.agg #[.int .i64 W, .int .i64 t, .int .i64 k]] w fun e w' => e = .returned (.agg #[.int .i64 W, .int .i64 t, .int .i64 k]) ∧ Below w.heap.size w w' := by
  go_enter Try.func40, Try.ntmps40
  go_wp2
  refine bodyPost_ret (v := .agg #[.int .i64 W, .int .i64 t, .int .i64 k]) (by simp [results, Try.results40, go_sem]) rfl ⟨rfl, ?_⟩
  exact (((Below.refl _ _).alloc (Nat.le_refl _) _).alloc (by simp) _).alloc (by simp <;> omega) _
theorem lmWorld (w : World) (W t k : Int) : ∃ w0, w.alloc (.cells #[.int .i64 W, .int .i64 t, .int .i64 k] 53) = w0 ∧ Below w.heap.size w w0 ∧ w0.heap.size = w.heap.size + 1 ∧
    (w0.cell? ⟨w.heap.size, 0, none⟩ = some (.int .i64 W) ∧ w0.cell? ⟨w.heap.size, 1, none⟩ = some (.int .i64 t) ∧ w0.cell? ⟨w.heap.size, 2, none⟩ = some (.int .i64 k)) :=
  ⟨_, rfl, below_new _ _, by simp, lay3 w (.int .i64 W) (.int .i64 t) (.int .i64 k) 53⟩
end Go.Proofs.Ythoepelgmplcmaa
