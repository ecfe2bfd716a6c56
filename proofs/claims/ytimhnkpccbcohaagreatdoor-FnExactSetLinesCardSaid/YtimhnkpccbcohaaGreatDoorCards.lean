/-
  DERIVED. GIVEN WITH THE SEED: THE CARDS: each row of YtimhnkpccbcohaaGreatDoorRows.lean that lists a variable, with what it lists TIED to the program's text (the seventh form; the later family's looks); each row that meets fmt, with fmt's text TOLD by the authors' own Lean function (tested against real Go, not proved from fmt's source: count such statements apart). THE CARD IS WHAT COUNTS. Prove the row's statement (the work); the ties are given (YtimhnkpccbcohaaGreatDoorTie.lean); close each card by the builder's one call (the guide's Derived/Test/ToyasCard.lean, 'card_holds'). Laid BY PROGRAM, IN A SANDBOX (cutbox-door.mjs). By AI agents, Wed Nov 11 2026. No macro, syntax, notation, axiom, sorry.
-/
import Derived.Test.YtimhnkpccbcohaaGreatDoorRows
import GoSem.ClaimSeven
namespace Go.Proofs.YtimhnkpccbcohaaGreatDoor
namespace Rows

/-- THE TIED CARD OF 'laws.FnExactDropWaiting'. -/
def fnExactDropWaitingCard : Claim7 := { stood := { row := fnExactDropWaitingRow, standIns := [], harness := (true, "a1268c2cf0564d4868527c63b4e324605ef11df2c7d321a8a99f62c6c819bc97"), looks := true }, kinds := [], alts := [], laidByText := true, laidKinds := [.sentinel], laidTests := true, laidLooks := .later }
def FnExactDropWaitingCardSaid : Prop := Claim7.holds Tryz.pinned (.plain (OpenSpec.ofChange fnExactDropWaitingSpec)) fnExactDropWaitingCard

/-- THE TIED CARD OF 'laws.FnExactCastLine'. -/
def fnExactCastLineCard : Claim7 := { stood := { row := fnExactCastLineRow, standIns := [], harness := (true, "a1268c2cf0564d4868527c63b4e324605ef11df2c7d321a8a99f62c6c819bc97"), looks := true }, kinds := [], alts := [], laidByText := true, laidKinds := [.sentinel, .sentinel, .sentinel], laidTests := true, laidLooks := .later }
def FnExactCastLineCardSaid : Prop := Claim7.holds Tryz.pinned (.plain (OpenSpec.ofChange fnExactCastLineSpec)) fnExactCastLineCard

/-- THE TIED CARD OF 'laws.FnExactKeyText'. -/
def fnExactKeyTextCard : Claim7 := { stood := { row := fnExactKeyTextRow, standIns := [], harness := (true, "a1268c2cf0564d4868527c63b4e324605ef11df2c7d321a8a99f62c6c819bc97"), looks := true }, kinds := [], alts := [], laidByText := true, laidKinds := [.handle, .sentinel, .sentinel, .sentinel, .sentinel], laidTests := true, laidLooks := .later }
def FnExactKeyTextCardSaid : Prop := Claim7.holds Tryz.pinned (.plain (OpenSpec.ofChange fnExactKeyTextSpec)) fnExactKeyTextCard

/-- THE TIED CARD OF 'laws.FnExactSetLines'. -/
def fnExactSetLinesCard : Claim7 := { stood := { row := fnExactSetLinesRow, standIns := [], harness := (true, "a1268c2cf0564d4868527c63b4e324605ef11df2c7d321a8a99f62c6c819bc97"), looks := true }, kinds := [], alts := [], laidByText := true, laidKinds := [.sentinel, .sentinel, .sentinel, .sentinel, .sentinel, .sentinel, .sentinel, .sentinel], laidTests := true, laidLooks := .later }
def FnExactSetLinesCardSaid : Prop := Claim7.holds Tryz.pinned (.plain (OpenSpec.ofChange fnExactSetLinesSpec)) fnExactSetLinesCard

/-- THE SECOND FORM's CARD OF 'laws.FnExactDropWaiting'. -/
def fnExactDropWaitingUptoCard : Claim7 := { stood := { row := fnExactDropWaitingUptoRow, standIns := [], harness := (true, "a1268c2cf0564d4868527c63b4e324605ef11df2c7d321a8a99f62c6c819bc97"), looks := true }, kinds := [], alts := [], laidByText := true, laidKinds := [.sentinel], laidTests := true, laidLooks := .later }
def FnExactDropWaitingUptoCardSaid : Prop := Claim7.holds Tryz.pinned (.plain (OpenSpec.upto fnExactDropWaitingSpec)) fnExactDropWaitingUptoCard

/-- THE SECOND FORM's CARD OF 'laws.FnExactCastLine'. -/
def fnExactCastLineUptoCard : Claim7 := { stood := { row := fnExactCastLineUptoRow, standIns := [], harness := (true, "a1268c2cf0564d4868527c63b4e324605ef11df2c7d321a8a99f62c6c819bc97"), looks := true }, kinds := [], alts := [], laidByText := true, laidKinds := [.sentinel, .sentinel, .sentinel], laidTests := true, laidLooks := .later }
def FnExactCastLineUptoCardSaid : Prop := Claim7.holds Tryz.pinned (.plain (OpenSpec.upto fnExactCastLineSpec)) fnExactCastLineUptoCard

/-- THE SECOND FORM's CARD OF 'laws.FnExactKeyText'. -/
def fnExactKeyTextUptoCard : Claim7 := { stood := { row := fnExactKeyTextUptoRow, standIns := [], harness := (true, "a1268c2cf0564d4868527c63b4e324605ef11df2c7d321a8a99f62c6c819bc97"), looks := true }, kinds := [], alts := [], laidByText := true, laidKinds := [.handle, .sentinel, .sentinel, .sentinel, .sentinel], laidTests := true, laidLooks := .later }
def FnExactKeyTextUptoCardSaid : Prop := Claim7.holds Tryz.pinned (.plain (OpenSpec.upto fnExactKeyTextSpec)) fnExactKeyTextUptoCard

/-- THE SECOND FORM's CARD OF 'laws.FnExactSetLines'. -/
def fnExactSetLinesUptoCard : Claim7 := { stood := { row := fnExactSetLinesUptoRow, standIns := [], harness := (true, "a1268c2cf0564d4868527c63b4e324605ef11df2c7d321a8a99f62c6c819bc97"), looks := true }, kinds := [], alts := [], laidByText := true, laidKinds := [.sentinel, .sentinel, .sentinel, .sentinel, .sentinel, .sentinel, .sentinel, .sentinel], laidTests := true, laidLooks := .later }
def FnExactSetLinesUptoCardSaid : Prop := Claim7.holds Tryz.pinned (.plain (OpenSpec.upto fnExactSetLinesSpec)) fnExactSetLinesUptoCard
end Rows
end Go.Proofs.YtimhnkpccbcohaaGreatDoor
