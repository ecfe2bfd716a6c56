/-
  The draws of chapter 4 that return a measure and a line: l3Row, l3Both and those that call it. Condition: the cursor is whole.
-/
import Derived.Test.YtddkedinkgnboaaDrawN
namespace Go.Proofs.Ytddkedinkgnboaa
open Go.RowKit
set_option linter.unusedVariables false

end Go.Proofs.Ytddkedinkgnboaa
