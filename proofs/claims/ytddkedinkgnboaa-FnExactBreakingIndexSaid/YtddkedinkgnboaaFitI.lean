/-
  isFitting, WidthsOf, SpreadLine, IsFull of the program by contract. Condition: lengths of at most 2^20.
-/
import Derived.Test.YtddkedinkgnboaaRise
import Derived.Deep.RegionWith
namespace Go.Proofs.Ytddkedinkgnboaa
open Go.RowKit
set_option linter.unusedVariables false

/-- the world in which a function over a measure begins -/
theorem msWorld (w : World) (W t k : Int) : ∃ w0, w.alloc (.cells #[.int .i64 W, .int .i64 t, .int .i64 k] 24) = w0 ∧ Below w.heap.size w w0 ∧ w0.heap.size = w.heap.size + 1 ∧
    (w0.cell? ⟨w.heap.size, 0, none⟩ = some (.int .i64 W) ∧ w0.cell? ⟨w.heap.size, 1, none⟩ = some (.int .i64 t) ∧ w0.cell? ⟨w.heap.size, 2, none⟩ = some (.int .i64 k)) :=
  ⟨_, rfl, below_new _ _, by simp, lay3 w (.int .i64 W) (.int .i64 t) (.int .i64 k) 24⟩
theorem good_no {m : Msr} {zs : List Int} (h : msrB m = false) : goodB m zs = false := by unfold goodB; rw [h]; rfl
theorem good_line {m : Msr} {zs : List Int} (h : lineB zs = false) : goodB m zs = false := by unfold goodB fitsB; rw [h]; simp
theorem good_is {m : Msr} {zs : List Int} (h : msrB m = true) (h2 : lineB zs = true) : goodB m zs = decide (widF (sumL zs) (bandsN zs) m.t ≤ m.w) := by
  unfold goodB fitsB fitL widL; rw [h, h2]; simp

end Go.Proofs.Ytddkedinkgnboaa
