/-
  isFitting, WidthsOf, SpreadLine, IsFull of the program by contract. Condition: lengths of at most 2^20.
-/
import Derived.Test.YtdijlofcgcikjaaDoorPkA
import Derived.Deep.RegionWith
namespace Go.Proofs.YtdijlofcgcikjaaDoor
open Go.RowKit
set_option linter.unusedVariables false

theorem good_no {m : Msr} {zs : List Int} (h : msrB m = false) : goodB m zs = false := by unfold goodB; rw [h]; rfl
theorem good_line {m : Msr} {zs : List Int} (h : lineB zs = false) : goodB m zs = false := by unfold goodB fitsB; rw [h]; simp
theorem good_is {m : Msr} {zs : List Int} (h : msrB m = true) (h2 : lineB zs = true) : goodB m zs = decide (widF (sumL zs) (bandsN zs) m.t ≤ m.w) := by
  unfold goodB fitsB fitL widL; rw [h, h2]; simp

end Go.Proofs.YtdijlofcgcikjaaDoor
