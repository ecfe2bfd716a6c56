/-
  BandWidths and PlacesOf of the program by contract. Condition: lengths within the reach of a slice.
-/
import Derived.Test.YtpenmheacpapaaaBandI
import Derived.Test.YtpenmheacpapaaaPush
namespace Go.Proofs.Ytpenmheacpapaaa
open Go.RowKit
set_option linter.unusedVariables false

theorem more_is {m : Msr} {zs : List Int} : moreF m (sumL zs) (bandsN zs) = moreL m zs := rfl

/-- the address of band b on: where its slice is not empty -/
def BandsAt (w : World) (g b r : Nat) (A : Option Addr) (zs : List Int) : Prop := 0 < r → A = some ⟨g, b, none⟩ ∧ ∀ j x, zs[j]? = some x → w.cell? ⟨g, j, none⟩ = some (.int .i64 x)

end Go.Proofs.Ytpenmheacpapaaa
