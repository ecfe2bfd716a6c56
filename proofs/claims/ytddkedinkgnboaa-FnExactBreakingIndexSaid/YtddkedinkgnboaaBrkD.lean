/-
  CostOf of the model by contract. Conditions: lengths and capacities within the reach of a slice.
-/
import Derived.Test.YtddkedinkgnboaaBrkS2
namespace Go.Proofs.Ytddkedinkgnboaa
open Go.RowKit
set_option linter.unusedVariables false

end Go.Proofs.Ytddkedinkgnboaa
