/-
  DERIVED. GIVEN WITH THE SEED: THE CARDS: each row of YtdijlofcgcikjaaDoorRows.lean that lists a variable, with what it lists TIED to the program's text (the seventh form; the later family's looks); each row that meets fmt, with fmt's text TOLD by the authors' own Lean function (tested against real Go, not proved from fmt's source: count such statements apart). THE CARD IS WHAT COUNTS. Prove the row's statement (the work); the ties are given (YtdijlofcgcikjaaDoorTie.lean); close each card by the builder's one call (the guide's Derived/Test/ToyasCard.lean, 'card_holds'). Laid BY PROGRAM, IN A SANDBOX (cutbox-door.mjs). By AI agents, Wed Nov 11 2026. No macro, syntax, notation, axiom, sorry.
-/
import Derived.Test.YtdijlofcgcikjaaDoorRows
import GoSem.ClaimSeven
namespace Go.Proofs.YtdijlofcgcikjaaDoor
namespace Rows

/-- THE TIED CARD OF 'laws.FnRound'. -/
def fnRoundCard : Claim7 := { stood := { row := fnRoundRow, standIns := [], harness := (true, "eda066d298679ca481e033201bd2c9e12f72956716c69cbd346604faa8f50fc6"), looks := true }, kinds := [], alts := [], laidByText := true, laidKinds := [.handle, .sentinel, .sentinel], laidTests := true, laidLooks := .later }
def FnRoundCardSaid : Prop := Claim7.holds Tryd.pinned (.plain (OpenSpec.ofChange fnRoundSpec)) fnRoundCard

/-- THE TIED CARD OF 'laws.FnSwept'. -/
def fnSweptCard : Claim7 := { stood := { row := fnSweptRow, standIns := [], harness := (true, "eda066d298679ca481e033201bd2c9e12f72956716c69cbd346604faa8f50fc6"), looks := true }, kinds := [], alts := [], laidByText := true, laidKinds := [.handle, .sentinel], laidTests := true, laidLooks := .later }
def FnSweptCardSaid : Prop := Claim7.holds Tryd.pinned (.plain (OpenSpec.ofChange fnSweptSpec)) fnSweptCard

/-- THE TIED CARD OF 'laws.FnExactTakeMatrix'. -/
def fnExactTakeMatrixCard : Claim7 := { stood := { row := fnExactTakeMatrixRow, standIns := [], harness := (true, "eda066d298679ca481e033201bd2c9e12f72956716c69cbd346604faa8f50fc6"), looks := true }, kinds := [], alts := [], laidByText := true, laidKinds := [.handle, .sentinel], laidTests := true, laidLooks := .later }
def FnExactTakeMatrixCardSaid : Prop := Claim7.holds Tryd.pinned (.plain (OpenSpec.ofChange fnExactTakeMatrixSpec)) fnExactTakeMatrixCard

/-- THE TIED CARD OF 'laws.FnExactDropMatrix'. -/
def fnExactDropMatrixCard : Claim7 := { stood := { row := fnExactDropMatrixRow, standIns := [], harness := (true, "eda066d298679ca481e033201bd2c9e12f72956716c69cbd346604faa8f50fc6"), looks := true }, kinds := [], alts := [], laidByText := true, laidKinds := [.handle, .sentinel], laidTests := true, laidLooks := .later }
def FnExactDropMatrixCardSaid : Prop := Claim7.holds Tryd.pinned (.plain (OpenSpec.ofChange fnExactDropMatrixSpec)) fnExactDropMatrixCard

/-- THE TIED CARD OF 'laws.FnExactSweepMagazine'. -/
def fnExactSweepMagazineCard : Claim7 := { stood := { row := fnExactSweepMagazineRow, standIns := [], harness := (true, "eda066d298679ca481e033201bd2c9e12f72956716c69cbd346604faa8f50fc6"), looks := true }, kinds := [], alts := [], laidByText := true, laidKinds := [.handle, .sentinel], laidTests := true, laidLooks := .later }
def FnExactSweepMagazineCardSaid : Prop := Claim7.holds Tryd.pinned (.plain (OpenSpec.ofChange fnExactSweepMagazineSpec)) fnExactSweepMagazineCard

/-- THE SECOND FORM's CARD OF 'laws.FnRound'. -/
def fnRoundUptoCard : Claim7 := { stood := { row := fnRoundUptoRow, standIns := [], harness := (true, "eda066d298679ca481e033201bd2c9e12f72956716c69cbd346604faa8f50fc6"), looks := true }, kinds := [], alts := [], laidByText := true, laidKinds := [.handle, .sentinel, .sentinel], laidTests := true, laidLooks := .later }
def FnRoundUptoCardSaid : Prop := Claim7.holds Tryd.pinned (.plain (OpenSpec.upto fnRoundSpec)) fnRoundUptoCard

/-- THE SECOND FORM's CARD OF 'laws.FnSwept'. -/
def fnSweptUptoCard : Claim7 := { stood := { row := fnSweptUptoRow, standIns := [], harness := (true, "eda066d298679ca481e033201bd2c9e12f72956716c69cbd346604faa8f50fc6"), looks := true }, kinds := [], alts := [], laidByText := true, laidKinds := [.handle, .sentinel], laidTests := true, laidLooks := .later }
def FnSweptUptoCardSaid : Prop := Claim7.holds Tryd.pinned (.plain (OpenSpec.upto fnSweptSpec)) fnSweptUptoCard

/-- THE SECOND FORM's CARD OF 'laws.FnExactTakeMatrix'. -/
def fnExactTakeMatrixUptoCard : Claim7 := { stood := { row := fnExactTakeMatrixUptoRow, standIns := [], harness := (true, "eda066d298679ca481e033201bd2c9e12f72956716c69cbd346604faa8f50fc6"), looks := true }, kinds := [], alts := [], laidByText := true, laidKinds := [.handle, .sentinel], laidTests := true, laidLooks := .later }
def FnExactTakeMatrixUptoCardSaid : Prop := Claim7.holds Tryd.pinned (.plain (OpenSpec.upto fnExactTakeMatrixSpec)) fnExactTakeMatrixUptoCard

/-- THE SECOND FORM's CARD OF 'laws.FnExactDropMatrix'. -/
def fnExactDropMatrixUptoCard : Claim7 := { stood := { row := fnExactDropMatrixUptoRow, standIns := [], harness := (true, "eda066d298679ca481e033201bd2c9e12f72956716c69cbd346604faa8f50fc6"), looks := true }, kinds := [], alts := [], laidByText := true, laidKinds := [.handle, .sentinel], laidTests := true, laidLooks := .later }
def FnExactDropMatrixUptoCardSaid : Prop := Claim7.holds Tryd.pinned (.plain (OpenSpec.upto fnExactDropMatrixSpec)) fnExactDropMatrixUptoCard

/-- THE SECOND FORM's CARD OF 'laws.FnExactSweepMagazine'. -/
def fnExactSweepMagazineUptoCard : Claim7 := { stood := { row := fnExactSweepMagazineUptoRow, standIns := [], harness := (true, "eda066d298679ca481e033201bd2c9e12f72956716c69cbd346604faa8f50fc6"), looks := true }, kinds := [], alts := [], laidByText := true, laidKinds := [.handle, .sentinel], laidTests := true, laidLooks := .later }
def FnExactSweepMagazineUptoCardSaid : Prop := Claim7.holds Tryd.pinned (.plain (OpenSpec.upto fnExactSweepMagazineSpec)) fnExactSweepMagazineUptoCard
end Rows
end Go.Proofs.YtdijlofcgcikjaaDoor
