/-
  Chapter 4 of the model by contract: l3Sum, l3Fits, l3Spread, WidthsOf, SpreadLine, IsFull. Conditions: lengths within the reach of a slice; for l3Fits and l3Spread the measure is one.
-/
import Derived.Test.YtdijlofcgcikjaaDoorFitI
namespace Go.Proofs.YtdijlofcgcikjaaDoor
open Go.RowKit
set_option linter.unusedVariables false

end Go.Proofs.YtdijlofcgcikjaaDoor
