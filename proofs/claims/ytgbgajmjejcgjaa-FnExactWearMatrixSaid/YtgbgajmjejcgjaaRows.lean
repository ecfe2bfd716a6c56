/-
  No cell of these rows narrows 'for every input' (looked for: loops, veiled, ifaces, maps, wideKeys, modest, calm, conditions, laid).
  DERIVED. THE GIVEN ROWS OF THIS SEAT. 27 by the template 'for every input the law returns true; each argument reads behind the call as it read before'; 0 by the template 'total and deterministic' (their statements: YtgbgajmjejcgjaaTotals.lean).
  GIVEN WITH THE SEED: the statements are not yours to turn. If you find one false, say at which input.
  Laid BY PROGRAM, IN A SANDBOX (cutbox-rows.mjs): the forced cells as the released guide's own fill.sh prints them over the translation 18e5321bdc22e29e… (all of the seat's roots in one cut). By AI agents, Wed Nov 11 2026. No macro, syntax, notation, axiom, sorry.
-/
import Derived.Test.YtgbgajmjejcgjaaChecked
import GoSem.Claim
import GoSem.ClaimJoined
import GoSem.ClaimMapViews
import Derived.JoinedTies
import Derived.KernelRfl
namespace Go.Proofs.Ytgbgajmjejcgjaa
/- THE CELL 'sum', in the pinned program and in every row, IS THE sha256 OF THE DUMP (.gsa) THAT YtgbgajmjejcgjaaProg.lean LOADS. Nothing in Lean hashes anything: it is a label: what it is worth is what the hold of that sum in a sandbox is worth. -/
noncomputable def Try.pinned : Pinned := { name := "ytgbgajmjejcgjaa", sum := "18e5321bdc22e29e679a92b000e4931c0e696d25dfcece5e2576955d8c7cb63b", checked := Try.checked }
namespace Rows
def none {H : Type} : Left H := { results := [], args := [] }

/-- 'laws.FnSorted': WHATEVER THE INPUT: true; the input reads as it did. -/
def fnSortedSpec : ChangeSpec := { name := "fnSorted", fn := fun _ => fun
  | [d] => { results := [.lit (.bool true)], args := [d] }
  | _ => none }
def fnSortedRow : OpenClaim := { program := "ytgbgajmjejcgjaa", sum := "18e5321bdc22e29e679a92b000e4931c0e696d25dfcece5e2576955d8c7cb63b", func := "loop.example/g03230/laws.FnSorted", spec := "fnSorted", apart := false }
def FnSortedSaid : Prop := fnSortedRow.holds Try.pinned (OpenSpec.ofChange fnSortedSpec)

/-- ITS FALSE NEIGHBOUR: 'it returns false'. Refute it at one input. -/
def fnSortedWrong : ChangeSpec := { name := "fnSorted", fn := fun _ => fun
  | [d] => { results := [.lit (.bool false)], args := [d] }
  | _ => none }
def FnSortedWrongFalsely : Prop := fnSortedRow.holds Try.pinned (OpenSpec.ofChange fnSortedWrong)

/-- 'laws.FnLighter': WHATEVER THE INPUT: true; the input reads as it did. -/
def fnLighterSpec : ChangeSpec := { name := "fnLighter", fn := fun _ => fun
  | [d] => { results := [.lit (.bool true)], args := [d] }
  | _ => none }
def fnLighterRow : OpenClaim := { program := "ytgbgajmjejcgjaa", sum := "18e5321bdc22e29e679a92b000e4931c0e696d25dfcece5e2576955d8c7cb63b", func := "loop.example/g03230/laws.FnLighter", spec := "fnLighter", apart := false }
def FnLighterSaid : Prop := fnLighterRow.holds Try.pinned (OpenSpec.ofChange fnLighterSpec)

/-- ITS FALSE NEIGHBOUR: 'it returns false'. Refute it at one input. -/
def fnLighterWrong : ChangeSpec := { name := "fnLighter", fn := fun _ => fun
  | [d] => { results := [.lit (.bool false)], args := [d] }
  | _ => none }
def FnLighterWrongFalsely : Prop := fnLighterRow.holds Try.pinned (OpenSpec.ofChange fnLighterWrong)

/-- 'laws.FnBroken': WHATEVER THE INPUT: true; the input reads as it did. -/
def fnBrokenSpec : ChangeSpec := { name := "fnBroken", fn := fun _ => fun
  | [d] => { results := [.lit (.bool true)], args := [d] }
  | _ => none }
def fnBrokenRow : OpenClaim := { program := "ytgbgajmjejcgjaa", sum := "18e5321bdc22e29e679a92b000e4931c0e696d25dfcece5e2576955d8c7cb63b", func := "loop.example/g03230/laws.FnBroken", spec := "fnBroken", apart := false }
def FnBrokenSaid : Prop := fnBrokenRow.holds Try.pinned (OpenSpec.ofChange fnBrokenSpec)

/-- ITS FALSE NEIGHBOUR: 'it returns false'. Refute it at one input. -/
def fnBrokenWrong : ChangeSpec := { name := "fnBroken", fn := fun _ => fun
  | [d] => { results := [.lit (.bool false)], args := [d] }
  | _ => none }
def FnBrokenWrongFalsely : Prop := fnBrokenRow.holds Try.pinned (OpenSpec.ofChange fnBrokenWrong)

/-- 'laws.FnLoss': WHATEVER THE INPUT: true; the input reads as it did. -/
def fnLossSpec : ChangeSpec := { name := "fnLoss", fn := fun _ => fun
  | [d] => { results := [.lit (.bool true)], args := [d] }
  | _ => none }
def fnLossRow : OpenClaim := { program := "ytgbgajmjejcgjaa", sum := "18e5321bdc22e29e679a92b000e4931c0e696d25dfcece5e2576955d8c7cb63b", func := "loop.example/g03230/laws.FnLoss", spec := "fnLoss", apart := false }
def FnLossSaid : Prop := fnLossRow.holds Try.pinned (OpenSpec.ofChange fnLossSpec)

/-- ITS FALSE NEIGHBOUR: 'it returns false'. Refute it at one input. -/
def fnLossWrong : ChangeSpec := { name := "fnLoss", fn := fun _ => fun
  | [d] => { results := [.lit (.bool false)], args := [d] }
  | _ => none }
def FnLossWrongFalsely : Prop := fnLossRow.holds Try.pinned (OpenSpec.ofChange fnLossWrong)

/-- 'laws.FnReached': WHATEVER THE INPUT: true; the input reads as it did. -/
def fnReachedSpec : ChangeSpec := { name := "fnReached", fn := fun _ => fun
  | [d] => { results := [.lit (.bool true)], args := [d] }
  | _ => none }
def fnReachedRow : OpenClaim := { program := "ytgbgajmjejcgjaa", sum := "18e5321bdc22e29e679a92b000e4931c0e696d25dfcece5e2576955d8c7cb63b", func := "loop.example/g03230/laws.FnReached", spec := "fnReached", apart := false }
def FnReachedSaid : Prop := fnReachedRow.holds Try.pinned (OpenSpec.ofChange fnReachedSpec)

/-- ITS FALSE NEIGHBOUR: 'it returns false'. Refute it at one input. -/
def fnReachedWrong : ChangeSpec := { name := "fnReached", fn := fun _ => fun
  | [d] => { results := [.lit (.bool false)], args := [d] }
  | _ => none }
def FnReachedWrongFalsely : Prop := fnReachedRow.holds Try.pinned (OpenSpec.ofChange fnReachedWrong)

/-- 'laws.FnOrders': WHATEVER THE INPUT: true; the input reads as it did. -/
def fnOrdersSpec : ChangeSpec := { name := "fnOrders", fn := fun _ => fun
  | [d] => { results := [.lit (.bool true)], args := [d] }
  | _ => none }
def fnOrdersRow : OpenClaim := { program := "ytgbgajmjejcgjaa", sum := "18e5321bdc22e29e679a92b000e4931c0e696d25dfcece5e2576955d8c7cb63b", func := "loop.example/g03230/laws.FnOrders", spec := "fnOrders", apart := false }
def FnOrdersSaid : Prop := fnOrdersRow.holds Try.pinned (OpenSpec.ofChange fnOrdersSpec)

/-- ITS FALSE NEIGHBOUR: 'it returns false'. Refute it at one input. -/
def fnOrdersWrong : ChangeSpec := { name := "fnOrders", fn := fun _ => fun
  | [d] => { results := [.lit (.bool false)], args := [d] }
  | _ => none }
def FnOrdersWrongFalsely : Prop := fnOrdersRow.holds Try.pinned (OpenSpec.ofChange fnOrdersWrong)

/-- 'laws.FnExactIsBar': WHATEVER THE INPUT: true; the input reads as it did. -/
def fnExactIsBarSpec : ChangeSpec := { name := "fnExactIsBar", fn := fun _ => fun
  | [d] => { results := [.lit (.bool true)], args := [d] }
  | _ => none }
def fnExactIsBarRow : OpenClaim := { program := "ytgbgajmjejcgjaa", sum := "18e5321bdc22e29e679a92b000e4931c0e696d25dfcece5e2576955d8c7cb63b", func := "loop.example/g03230/laws.FnExactIsBar", spec := "fnExactIsBar", apart := false }
def FnExactIsBarSaid : Prop := fnExactIsBarRow.holds Try.pinned (OpenSpec.ofChange fnExactIsBarSpec)

/-- ITS FALSE NEIGHBOUR: 'it returns false'. Refute it at one input. -/
def fnExactIsBarWrong : ChangeSpec := { name := "fnExactIsBar", fn := fun _ => fun
  | [d] => { results := [.lit (.bool false)], args := [d] }
  | _ => none }
def FnExactIsBarWrongFalsely : Prop := fnExactIsBarRow.holds Try.pinned (OpenSpec.ofChange fnExactIsBarWrong)

/-- 'laws.FnExactCountTeeth': WHATEVER THE INPUT: true; the input reads as it did. -/
def fnExactCountTeethSpec : ChangeSpec := { name := "fnExactCountTeeth", fn := fun _ => fun
  | [d] => { results := [.lit (.bool true)], args := [d] }
  | _ => none }
def fnExactCountTeethRow : OpenClaim := { program := "ytgbgajmjejcgjaa", sum := "18e5321bdc22e29e679a92b000e4931c0e696d25dfcece5e2576955d8c7cb63b", func := "loop.example/g03230/laws.FnExactCountTeeth", spec := "fnExactCountTeeth", apart := false }
def FnExactCountTeethSaid : Prop := fnExactCountTeethRow.holds Try.pinned (OpenSpec.ofChange fnExactCountTeethSpec)

/-- ITS FALSE NEIGHBOUR: 'it returns false'. Refute it at one input. -/
def fnExactCountTeethWrong : ChangeSpec := { name := "fnExactCountTeeth", fn := fun _ => fun
  | [d] => { results := [.lit (.bool false)], args := [d] }
  | _ => none }
def FnExactCountTeethWrongFalsely : Prop := fnExactCountTeethRow.holds Try.pinned (OpenSpec.ofChange fnExactCountTeethWrong)

/-- 'laws.FnExactFallOf': WHATEVER THE INPUT: true; the input reads as it did. -/
def fnExactFallOfSpec : ChangeSpec := { name := "fnExactFallOf", fn := fun _ => fun
  | [d1, d2] => { results := [.lit (.bool true)], args := [d1, d2] }
  | _ => none }
def fnExactFallOfRow : OpenClaim := { program := "ytgbgajmjejcgjaa", sum := "18e5321bdc22e29e679a92b000e4931c0e696d25dfcece5e2576955d8c7cb63b", func := "loop.example/g03230/laws.FnExactFallOf", spec := "fnExactFallOf", apart := false }
def FnExactFallOfSaid : Prop := fnExactFallOfRow.holds Try.pinned (OpenSpec.ofChange fnExactFallOfSpec)

/-- ITS FALSE NEIGHBOUR: 'it returns false'. Refute it at one input. -/
def fnExactFallOfWrong : ChangeSpec := { name := "fnExactFallOf", fn := fun _ => fun
  | [d1, d2] => { results := [.lit (.bool false)], args := [d1, d2] }
  | _ => none }
def FnExactFallOfWrongFalsely : Prop := fnExactFallOfRow.holds Try.pinned (OpenSpec.ofChange fnExactFallOfWrong)

/-- 'laws.FnExactSortsAll': WHATEVER THE INPUT: true; the input reads as it did. -/
def fnExactSortsAllSpec : ChangeSpec := { name := "fnExactSortsAll", fn := fun _ => fun
  | [d] => { results := [.lit (.bool true)], args := [d] }
  | _ => none }
def fnExactSortsAllRow : OpenClaim := { program := "ytgbgajmjejcgjaa", sum := "18e5321bdc22e29e679a92b000e4931c0e696d25dfcece5e2576955d8c7cb63b", func := "loop.example/g03230/laws.FnExactSortsAll", spec := "fnExactSortsAll", apart := false }
def FnExactSortsAllSaid : Prop := fnExactSortsAllRow.holds Try.pinned (OpenSpec.ofChange fnExactSortsAllSpec)

/-- ITS FALSE NEIGHBOUR: 'it returns false'. Refute it at one input. -/
def fnExactSortsAllWrong : ChangeSpec := { name := "fnExactSortsAll", fn := fun _ => fun
  | [d] => { results := [.lit (.bool false)], args := [d] }
  | _ => none }
def FnExactSortsAllWrongFalsely : Prop := fnExactSortsAllRow.holds Try.pinned (OpenSpec.ofChange fnExactSortsAllWrong)

/-- 'laws.FnExactOrderBar': WHATEVER THE INPUT: true; the input reads as it did. -/
def fnExactOrderBarSpec : ChangeSpec := { name := "fnExactOrderBar", fn := fun _ => fun
  | [d] => { results := [.lit (.bool true)], args := [d] }
  | _ => none }
def fnExactOrderBarRow : OpenClaim := { program := "ytgbgajmjejcgjaa", sum := "18e5321bdc22e29e679a92b000e4931c0e696d25dfcece5e2576955d8c7cb63b", func := "loop.example/g03230/laws.FnExactOrderBar", spec := "fnExactOrderBar", apart := false }
def FnExactOrderBarSaid : Prop := fnExactOrderBarRow.holds Try.pinned (OpenSpec.ofChange fnExactOrderBarSpec)

/-- ITS FALSE NEIGHBOUR: 'it returns false'. Refute it at one input. -/
def fnExactOrderBarWrong : ChangeSpec := { name := "fnExactOrderBar", fn := fun _ => fun
  | [d] => { results := [.lit (.bool false)], args := [d] }
  | _ => none }
def FnExactOrderBarWrongFalsely : Prop := fnExactOrderBarRow.holds Try.pinned (OpenSpec.ofChange fnExactOrderBarWrong)

/-- 'laws.FnExactCountOrders': WHATEVER THE INPUT: true; the input reads as it did. -/
def fnExactCountOrdersSpec : ChangeSpec := { name := "fnExactCountOrders", fn := fun _ => fun
  | [d] => { results := [.lit (.bool true)], args := [d] }
  | _ => none }
def fnExactCountOrdersRow : OpenClaim := { program := "ytgbgajmjejcgjaa", sum := "18e5321bdc22e29e679a92b000e4931c0e696d25dfcece5e2576955d8c7cb63b", func := "loop.example/g03230/laws.FnExactCountOrders", spec := "fnExactCountOrders", apart := false }
def FnExactCountOrdersSaid : Prop := fnExactCountOrdersRow.holds Try.pinned (OpenSpec.ofChange fnExactCountOrdersSpec)

/-- ITS FALSE NEIGHBOUR: 'it returns false'. Refute it at one input. -/
def fnExactCountOrdersWrong : ChangeSpec := { name := "fnExactCountOrders", fn := fun _ => fun
  | [d] => { results := [.lit (.bool false)], args := [d] }
  | _ => none }
def FnExactCountOrdersWrongFalsely : Prop := fnExactCountOrdersRow.holds Try.pinned (OpenSpec.ofChange fnExactCountOrdersWrong)

/-- 'laws.FnExactBreakRail': WHATEVER THE INPUT: true; the input reads as it did. -/
def fnExactBreakRailSpec : ChangeSpec := { name := "fnExactBreakRail", fn := fun _ => fun
  | [d1, d2, d3] => { results := [.lit (.bool true)], args := [d1, d2, d3] }
  | _ => none }
def fnExactBreakRailRow : OpenClaim := { program := "ytgbgajmjejcgjaa", sum := "18e5321bdc22e29e679a92b000e4931c0e696d25dfcece5e2576955d8c7cb63b", func := "loop.example/g03230/laws.FnExactBreakRail", spec := "fnExactBreakRail", apart := false }
def FnExactBreakRailSaid : Prop := fnExactBreakRailRow.holds Try.pinned (OpenSpec.ofChange fnExactBreakRailSpec)

/-- ITS FALSE NEIGHBOUR: 'it returns false'. Refute it at one input. -/
def fnExactBreakRailWrong : ChangeSpec := { name := "fnExactBreakRail", fn := fun _ => fun
  | [d1, d2, d3] => { results := [.lit (.bool false)], args := [d1, d2, d3] }
  | _ => none }
def FnExactBreakRailWrongFalsely : Prop := fnExactBreakRailRow.holds Try.pinned (OpenSpec.ofChange fnExactBreakRailWrong)

/-- 'laws.FnExactLossBefore': WHATEVER THE INPUT: true; the input reads as it did. -/
def fnExactLossBeforeSpec : ChangeSpec := { name := "fnExactLossBefore", fn := fun _ => fun
  | [d1, d2] => { results := [.lit (.bool true)], args := [d1, d2] }
  | _ => none }
def fnExactLossBeforeRow : OpenClaim := { program := "ytgbgajmjejcgjaa", sum := "18e5321bdc22e29e679a92b000e4931c0e696d25dfcece5e2576955d8c7cb63b", func := "loop.example/g03230/laws.FnExactLossBefore", spec := "fnExactLossBefore", apart := false }
def FnExactLossBeforeSaid : Prop := fnExactLossBeforeRow.holds Try.pinned (OpenSpec.ofChange fnExactLossBeforeSpec)

/-- ITS FALSE NEIGHBOUR: 'it returns false'. Refute it at one input. -/
def fnExactLossBeforeWrong : ChangeSpec := { name := "fnExactLossBefore", fn := fun _ => fun
  | [d1, d2] => { results := [.lit (.bool false)], args := [d1, d2] }
  | _ => none }
def FnExactLossBeforeWrongFalsely : Prop := fnExactLossBeforeRow.holds Try.pinned (OpenSpec.ofChange fnExactLossBeforeWrong)

/-- 'laws.FnExactReachOf': WHATEVER THE INPUT: true; the input reads as it did. -/
def fnExactReachOfSpec : ChangeSpec := { name := "fnExactReachOf", fn := fun _ => fun
  | [d1, d2] => { results := [.lit (.bool true)], args := [d1, d2] }
  | _ => none }
def fnExactReachOfRow : OpenClaim := { program := "ytgbgajmjejcgjaa", sum := "18e5321bdc22e29e679a92b000e4931c0e696d25dfcece5e2576955d8c7cb63b", func := "loop.example/g03230/laws.FnExactReachOf", spec := "fnExactReachOf", apart := false }
def FnExactReachOfSaid : Prop := fnExactReachOfRow.holds Try.pinned (OpenSpec.ofChange fnExactReachOfSpec)

/-- ITS FALSE NEIGHBOUR: 'it returns false'. Refute it at one input. -/
def fnExactReachOfWrong : ChangeSpec := { name := "fnExactReachOf", fn := fun _ => fun
  | [d1, d2] => { results := [.lit (.bool false)], args := [d1, d2] }
  | _ => none }
def FnExactReachOfWrongFalsely : Prop := fnExactReachOfRow.holds Try.pinned (OpenSpec.ofChange fnExactReachOfWrong)

/-- 'laws.FnWorn': WHATEVER THE INPUT: true; the input reads as it did. -/
def fnWornSpec : ChangeSpec := { name := "fnWorn", fn := fun _ => fun
  | [d] => { results := [.lit (.bool true)], args := [d] }
  | _ => none }
def fnWornRow : OpenClaim := { program := "ytgbgajmjejcgjaa", sum := "18e5321bdc22e29e679a92b000e4931c0e696d25dfcece5e2576955d8c7cb63b", func := "loop.example/g03230/laws.FnWorn", spec := "fnWorn", unfollowed := true, recurses := true, apart := false }
def FnWornSaid : Prop := fnWornRow.holds Try.pinned (OpenSpec.ofChange fnWornSpec)

/-- ITS FALSE NEIGHBOUR: 'it returns false'. Refute it at one input. -/
def fnWornWrong : ChangeSpec := { name := "fnWorn", fn := fun _ => fun
  | [d] => { results := [.lit (.bool false)], args := [d] }
  | _ => none }
def FnWornWrongFalsely : Prop := fnWornRow.holds Try.pinned (OpenSpec.ofChange fnWornWrong)

/-- 'laws.FnStocked': WHATEVER THE INPUT: true; the input reads as it did. -/
def fnStockedSpec : ChangeSpec := { name := "fnStocked", fn := fun _ => fun
  | [d] => { results := [.lit (.bool true)], args := [d] }
  | _ => none }
def fnStockedRow : OpenClaim := { program := "ytgbgajmjejcgjaa", sum := "18e5321bdc22e29e679a92b000e4931c0e696d25dfcece5e2576955d8c7cb63b", func := "loop.example/g03230/laws.FnStocked", spec := "fnStocked", unfollowed := true, recurses := true, apart := false }
def FnStockedSaid : Prop := fnStockedRow.holds Try.pinned (OpenSpec.ofChange fnStockedSpec)

/-- ITS FALSE NEIGHBOUR: 'it returns false'. Refute it at one input. -/
def fnStockedWrong : ChangeSpec := { name := "fnStocked", fn := fun _ => fun
  | [d] => { results := [.lit (.bool false)], args := [d] }
  | _ => none }
def FnStockedWrongFalsely : Prop := fnStockedRow.holds Try.pinned (OpenSpec.ofChange fnStockedWrong)

/-- 'laws.FnExactFontOk': WHATEVER THE INPUT: true; the input reads as it did. -/
def fnExactFontOkSpec : ChangeSpec := { name := "fnExactFontOk", fn := fun _ => fun
  | [d] => { results := [.lit (.bool true)], args := [d] }
  | _ => none }
def fnExactFontOkRow : OpenClaim := { program := "ytgbgajmjejcgjaa", sum := "18e5321bdc22e29e679a92b000e4931c0e696d25dfcece5e2576955d8c7cb63b", func := "loop.example/g03230/laws.FnExactFontOk", spec := "fnExactFontOk", apart := false }
def FnExactFontOkSaid : Prop := fnExactFontOkRow.holds Try.pinned (OpenSpec.ofChange fnExactFontOkSpec)

/-- ITS FALSE NEIGHBOUR: 'it returns false'. Refute it at one input. -/
def fnExactFontOkWrong : ChangeSpec := { name := "fnExactFontOk", fn := fun _ => fun
  | [d] => { results := [.lit (.bool false)], args := [d] }
  | _ => none }
def FnExactFontOkWrongFalsely : Prop := fnExactFontOkRow.holds Try.pinned (OpenSpec.ofChange fnExactFontOkWrong)

/-- 'laws.FnExactKeyOf': WHATEVER THE INPUT: true; the input reads as it did. -/
def fnExactKeyOfSpec : ChangeSpec := { name := "fnExactKeyOf", fn := fun _ => fun
  | [d1, d2] => { results := [.lit (.bool true)], args := [d1, d2] }
  | _ => none }
def fnExactKeyOfRow : OpenClaim := { program := "ytgbgajmjejcgjaa", sum := "18e5321bdc22e29e679a92b000e4931c0e696d25dfcece5e2576955d8c7cb63b", func := "loop.example/g03230/laws.FnExactKeyOf", spec := "fnExactKeyOf", apart := false }
def FnExactKeyOfSaid : Prop := fnExactKeyOfRow.holds Try.pinned (OpenSpec.ofChange fnExactKeyOfSpec)

/-- ITS FALSE NEIGHBOUR: 'it returns false'. Refute it at one input. -/
def fnExactKeyOfWrong : ChangeSpec := { name := "fnExactKeyOf", fn := fun _ => fun
  | [d1, d2] => { results := [.lit (.bool false)], args := [d1, d2] }
  | _ => none }
def FnExactKeyOfWrongFalsely : Prop := fnExactKeyOfRow.holds Try.pinned (OpenSpec.ofChange fnExactKeyOfWrong)

/-- 'laws.FnExactMatrixOk': WHATEVER THE INPUT: true; the input reads as it did. -/
def fnExactMatrixOkSpec : ChangeSpec := { name := "fnExactMatrixOk", fn := fun _ => fun
  | [d1, d2] => { results := [.lit (.bool true)], args := [d1, d2] }
  | _ => none }
def fnExactMatrixOkRow : OpenClaim := { program := "ytgbgajmjejcgjaa", sum := "18e5321bdc22e29e679a92b000e4931c0e696d25dfcece5e2576955d8c7cb63b", func := "loop.example/g03230/laws.FnExactMatrixOk", spec := "fnExactMatrixOk", apart := false }
def FnExactMatrixOkSaid : Prop := fnExactMatrixOkRow.holds Try.pinned (OpenSpec.ofChange fnExactMatrixOkSpec)

/-- ITS FALSE NEIGHBOUR: 'it returns false'. Refute it at one input. -/
def fnExactMatrixOkWrong : ChangeSpec := { name := "fnExactMatrixOk", fn := fun _ => fun
  | [d1, d2] => { results := [.lit (.bool false)], args := [d1, d2] }
  | _ => none }
def FnExactMatrixOkWrongFalsely : Prop := fnExactMatrixOkRow.holds Try.pinned (OpenSpec.ofChange fnExactMatrixOkWrong)

/-- 'laws.FnExactMagazineOk': WHATEVER THE INPUT: true; the input reads as it did. -/
def fnExactMagazineOkSpec : ChangeSpec := { name := "fnExactMagazineOk", fn := fun _ => fun
  | [d1, d2] => { results := [.lit (.bool true)], args := [d1, d2] }
  | _ => none }
def fnExactMagazineOkRow : OpenClaim := { program := "ytgbgajmjejcgjaa", sum := "18e5321bdc22e29e679a92b000e4931c0e696d25dfcece5e2576955d8c7cb63b", func := "loop.example/g03230/laws.FnExactMagazineOk", spec := "fnExactMagazineOk", apart := false }
def FnExactMagazineOkSaid : Prop := fnExactMagazineOkRow.holds Try.pinned (OpenSpec.ofChange fnExactMagazineOkSpec)

/-- ITS FALSE NEIGHBOUR: 'it returns false'. Refute it at one input. -/
def fnExactMagazineOkWrong : ChangeSpec := { name := "fnExactMagazineOk", fn := fun _ => fun
  | [d1, d2] => { results := [.lit (.bool false)], args := [d1, d2] }
  | _ => none }
def FnExactMagazineOkWrongFalsely : Prop := fnExactMagazineOkRow.holds Try.pinned (OpenSpec.ofChange fnExactMagazineOkWrong)

/-- 'laws.FnExactFillMagazine': WHATEVER THE INPUT: true; the input reads as it did. -/
def fnExactFillMagazineSpec : ChangeSpec := { name := "fnExactFillMagazine", fn := fun _ => fun
  | [d1, d2] => { results := [.lit (.bool true)], args := [d1, d2] }
  | _ => none }
def fnExactFillMagazineRow : OpenClaim := { program := "ytgbgajmjejcgjaa", sum := "18e5321bdc22e29e679a92b000e4931c0e696d25dfcece5e2576955d8c7cb63b", func := "loop.example/g03230/laws.FnExactFillMagazine", spec := "fnExactFillMagazine", apart := false }
def FnExactFillMagazineSaid : Prop := fnExactFillMagazineRow.holds Try.pinned (OpenSpec.ofChange fnExactFillMagazineSpec)

/-- ITS FALSE NEIGHBOUR: 'it returns false'. Refute it at one input. -/
def fnExactFillMagazineWrong : ChangeSpec := { name := "fnExactFillMagazine", fn := fun _ => fun
  | [d1, d2] => { results := [.lit (.bool false)], args := [d1, d2] }
  | _ => none }
def FnExactFillMagazineWrongFalsely : Prop := fnExactFillMagazineRow.holds Try.pinned (OpenSpec.ofChange fnExactFillMagazineWrong)

/-- 'laws.FnExactWearMatrix': WHATEVER THE INPUT: true; the input reads as it did. -/
def fnExactWearMatrixSpec : ChangeSpec := { name := "fnExactWearMatrix", fn := fun _ => fun
  | [d1, d2, d3, d4, d5] => { results := [.lit (.bool true)], args := [d1, d2, d3, d4, d5] }
  | _ => none }
def fnExactWearMatrixRow : OpenClaim := { program := "ytgbgajmjejcgjaa", sum := "18e5321bdc22e29e679a92b000e4931c0e696d25dfcece5e2576955d8c7cb63b", func := "loop.example/g03230/laws.FnExactWearMatrix", spec := "fnExactWearMatrix", apart := false }
def FnExactWearMatrixSaid : Prop := fnExactWearMatrixRow.holds Try.pinned (OpenSpec.ofChange fnExactWearMatrixSpec)

/-- ITS FALSE NEIGHBOUR: 'it returns false'. Refute it at one input. -/
def fnExactWearMatrixWrong : ChangeSpec := { name := "fnExactWearMatrix", fn := fun _ => fun
  | [d1, d2, d3, d4, d5] => { results := [.lit (.bool false)], args := [d1, d2, d3, d4, d5] }
  | _ => none }
def FnExactWearMatrixWrongFalsely : Prop := fnExactWearMatrixRow.holds Try.pinned (OpenSpec.ofChange fnExactWearMatrixWrong)

/-- 'laws.FnExactKindCounts': WHATEVER THE INPUT: true; the input reads as it did. -/
def fnExactKindCountsSpec : ChangeSpec := { name := "fnExactKindCounts", fn := fun _ => fun
  | [d1, d2] => { results := [.lit (.bool true)], args := [d1, d2] }
  | _ => none }
def fnExactKindCountsRow : OpenClaim := { program := "ytgbgajmjejcgjaa", sum := "18e5321bdc22e29e679a92b000e4931c0e696d25dfcece5e2576955d8c7cb63b", func := "loop.example/g03230/laws.FnExactKindCounts", spec := "fnExactKindCounts", apart := false }
def FnExactKindCountsSaid : Prop := fnExactKindCountsRow.holds Try.pinned (OpenSpec.ofChange fnExactKindCountsSpec)

/-- ITS FALSE NEIGHBOUR: 'it returns false'. Refute it at one input. -/
def fnExactKindCountsWrong : ChangeSpec := { name := "fnExactKindCounts", fn := fun _ => fun
  | [d1, d2] => { results := [.lit (.bool false)], args := [d1, d2] }
  | _ => none }
def FnExactKindCountsWrongFalsely : Prop := fnExactKindCountsRow.holds Try.pinned (OpenSpec.ofChange fnExactKindCountsWrong)

/-- 'laws.FnExactCountStrays': WHATEVER THE INPUT: true; the input reads as it did. -/
def fnExactCountStraysSpec : ChangeSpec := { name := "fnExactCountStrays", fn := fun _ => fun
  | [d1, d2] => { results := [.lit (.bool true)], args := [d1, d2] }
  | _ => none }
def fnExactCountStraysRow : OpenClaim := { program := "ytgbgajmjejcgjaa", sum := "18e5321bdc22e29e679a92b000e4931c0e696d25dfcece5e2576955d8c7cb63b", func := "loop.example/g03230/laws.FnExactCountStrays", spec := "fnExactCountStrays", unfollowed := true, recurses := true, apart := false }
def FnExactCountStraysSaid : Prop := fnExactCountStraysRow.holds Try.pinned (OpenSpec.ofChange fnExactCountStraysSpec)

/-- ITS FALSE NEIGHBOUR: 'it returns false'. Refute it at one input. -/
def fnExactCountStraysWrong : ChangeSpec := { name := "fnExactCountStrays", fn := fun _ => fun
  | [d1, d2] => { results := [.lit (.bool false)], args := [d1, d2] }
  | _ => none }
def FnExactCountStraysWrongFalsely : Prop := fnExactCountStraysRow.holds Try.pinned (OpenSpec.ofChange fnExactCountStraysWrong)

/-- 'laws.FnExactCountWorn': WHATEVER THE INPUT: true; the input reads as it did. -/
def fnExactCountWornSpec : ChangeSpec := { name := "fnExactCountWorn", fn := fun _ => fun
  | [d1, d2] => { results := [.lit (.bool true)], args := [d1, d2] }
  | _ => none }
def fnExactCountWornRow : OpenClaim := { program := "ytgbgajmjejcgjaa", sum := "18e5321bdc22e29e679a92b000e4931c0e696d25dfcece5e2576955d8c7cb63b", func := "loop.example/g03230/laws.FnExactCountWorn", spec := "fnExactCountWorn", unfollowed := true, recurses := true, apart := false }
def FnExactCountWornSaid : Prop := fnExactCountWornRow.holds Try.pinned (OpenSpec.ofChange fnExactCountWornSpec)

/-- ITS FALSE NEIGHBOUR: 'it returns false'. Refute it at one input. -/
def fnExactCountWornWrong : ChangeSpec := { name := "fnExactCountWorn", fn := fun _ => fun
  | [d1, d2] => { results := [.lit (.bool false)], args := [d1, d2] }
  | _ => none }
def FnExactCountWornWrongFalsely : Prop := fnExactCountWornRow.holds Try.pinned (OpenSpec.ofChange fnExactCountWornWrong)

/-- 'laws.FnExactLettersOf': WHATEVER THE INPUT: true; the input reads as it did. -/
def fnExactLettersOfSpec : ChangeSpec := { name := "fnExactLettersOf", fn := fun _ => fun
  | [d1, d2] => { results := [.lit (.bool true)], args := [d1, d2] }
  | _ => none }
def fnExactLettersOfRow : OpenClaim := { program := "ytgbgajmjejcgjaa", sum := "18e5321bdc22e29e679a92b000e4931c0e696d25dfcece5e2576955d8c7cb63b", func := "loop.example/g03230/laws.FnExactLettersOf", spec := "fnExactLettersOf", apart := false }
def FnExactLettersOfSaid : Prop := fnExactLettersOfRow.holds Try.pinned (OpenSpec.ofChange fnExactLettersOfSpec)

/-- ITS FALSE NEIGHBOUR: 'it returns false'. Refute it at one input. -/
def fnExactLettersOfWrong : ChangeSpec := { name := "fnExactLettersOf", fn := fun _ => fun
  | [d1, d2] => { results := [.lit (.bool false)], args := [d1, d2] }
  | _ => none }
def FnExactLettersOfWrongFalsely : Prop := fnExactLettersOfRow.holds Try.pinned (OpenSpec.ofChange fnExactLettersOfWrong)

/- THE SECOND FORM. 'bulk': how many values and letters a reading holds, each counted each time it is reached (what is shared counts as often as it is met; a slice's spare places count too). A statement '..UptoSaid' is the law's where the arguments, and the package variables that the reading takes, are together of bulk at most 1048576: NARROWER than '..Said'. Prove '..Said' where nothing that the law and all that it calls make is longer than what came in: it says more and counts as full. Else prove '..UptoSaid'. A law counts once. -/
mutual
def uptoBulk {H : Type} : DataW H → Nat
  | .lit (.string bytes) => bytes.length + 1
  | .lit _ => 1
  | .nil => 1
  | .ptr d => uptoBulk d + 1
  | .slice elems spare => uptoBulkAll elems + uptoBulkAll spare + 1
  | .agg parts => uptoBulkAll parts + 1
  | .iface _ d => uptoBulk d + 1
  | .map entries => uptoBulkEntries entries + 1
  | .held _ => 1
def uptoBulkAll {H : Type} : List (DataW H) → Nat
  | [] => 0
  | d :: r => uptoBulk d + uptoBulkAll r
def uptoBulkEntries {H : Type} : List (Lit × DataW H) → Nat
  | [] => 0
  | x :: r => uptoBulkEntry x + uptoBulkEntries r
def uptoBulkEntry {H : Type} : Lit × DataW H → Nat
  | (.string bytes, d) => bytes.length + uptoBulk d + 1
  | (_, d) => uptoBulk d + 1
 end
def uptoSmall : (H : Type) → List (DataW H) → Bool := fun _ ds => decide (uptoBulkAll ds ≤ 1048576)
def OpenSpec.upto (s : _root_.Go.ChangeSpec) : _root_.Go.OpenSpec := { _root_.Go.OpenSpec.ofChange s with cond := some uptoSmall }

/-- 'laws.FnSorted', WHERE WHAT IT READS IS OF BULK AT MOST 1048576: true; the input reads as it did. -/
def fnSortedUptoRow : OpenClaim := { program := "ytgbgajmjejcgjaa", sum := "18e5321bdc22e29e679a92b000e4931c0e696d25dfcece5e2576955d8c7cb63b", func := "loop.example/g03230/laws.FnSorted", spec := "fnSorted", apart := false, narrowed := true }
def FnSortedUptoSaid : Prop := fnSortedUptoRow.holds Try.pinned (OpenSpec.upto fnSortedSpec)

/-- 'laws.FnLighter', WHERE WHAT IT READS IS OF BULK AT MOST 1048576: true; the input reads as it did. -/
def fnLighterUptoRow : OpenClaim := { program := "ytgbgajmjejcgjaa", sum := "18e5321bdc22e29e679a92b000e4931c0e696d25dfcece5e2576955d8c7cb63b", func := "loop.example/g03230/laws.FnLighter", spec := "fnLighter", apart := false, narrowed := true }
def FnLighterUptoSaid : Prop := fnLighterUptoRow.holds Try.pinned (OpenSpec.upto fnLighterSpec)

/-- 'laws.FnBroken', WHERE WHAT IT READS IS OF BULK AT MOST 1048576: true; the input reads as it did. -/
def fnBrokenUptoRow : OpenClaim := { program := "ytgbgajmjejcgjaa", sum := "18e5321bdc22e29e679a92b000e4931c0e696d25dfcece5e2576955d8c7cb63b", func := "loop.example/g03230/laws.FnBroken", spec := "fnBroken", apart := false, narrowed := true }
def FnBrokenUptoSaid : Prop := fnBrokenUptoRow.holds Try.pinned (OpenSpec.upto fnBrokenSpec)

/-- 'laws.FnLoss', WHERE WHAT IT READS IS OF BULK AT MOST 1048576: true; the input reads as it did. -/
def fnLossUptoRow : OpenClaim := { program := "ytgbgajmjejcgjaa", sum := "18e5321bdc22e29e679a92b000e4931c0e696d25dfcece5e2576955d8c7cb63b", func := "loop.example/g03230/laws.FnLoss", spec := "fnLoss", apart := false, narrowed := true }
def FnLossUptoSaid : Prop := fnLossUptoRow.holds Try.pinned (OpenSpec.upto fnLossSpec)

/-- 'laws.FnReached', WHERE WHAT IT READS IS OF BULK AT MOST 1048576: true; the input reads as it did. -/
def fnReachedUptoRow : OpenClaim := { program := "ytgbgajmjejcgjaa", sum := "18e5321bdc22e29e679a92b000e4931c0e696d25dfcece5e2576955d8c7cb63b", func := "loop.example/g03230/laws.FnReached", spec := "fnReached", apart := false, narrowed := true }
def FnReachedUptoSaid : Prop := fnReachedUptoRow.holds Try.pinned (OpenSpec.upto fnReachedSpec)

/-- 'laws.FnOrders', WHERE WHAT IT READS IS OF BULK AT MOST 1048576: true; the input reads as it did. -/
def fnOrdersUptoRow : OpenClaim := { program := "ytgbgajmjejcgjaa", sum := "18e5321bdc22e29e679a92b000e4931c0e696d25dfcece5e2576955d8c7cb63b", func := "loop.example/g03230/laws.FnOrders", spec := "fnOrders", apart := false, narrowed := true }
def FnOrdersUptoSaid : Prop := fnOrdersUptoRow.holds Try.pinned (OpenSpec.upto fnOrdersSpec)

/-- 'laws.FnExactIsBar', WHERE WHAT IT READS IS OF BULK AT MOST 1048576: true; the input reads as it did. -/
def fnExactIsBarUptoRow : OpenClaim := { program := "ytgbgajmjejcgjaa", sum := "18e5321bdc22e29e679a92b000e4931c0e696d25dfcece5e2576955d8c7cb63b", func := "loop.example/g03230/laws.FnExactIsBar", spec := "fnExactIsBar", apart := false, narrowed := true }
def FnExactIsBarUptoSaid : Prop := fnExactIsBarUptoRow.holds Try.pinned (OpenSpec.upto fnExactIsBarSpec)

/-- 'laws.FnExactCountTeeth', WHERE WHAT IT READS IS OF BULK AT MOST 1048576: true; the input reads as it did. -/
def fnExactCountTeethUptoRow : OpenClaim := { program := "ytgbgajmjejcgjaa", sum := "18e5321bdc22e29e679a92b000e4931c0e696d25dfcece5e2576955d8c7cb63b", func := "loop.example/g03230/laws.FnExactCountTeeth", spec := "fnExactCountTeeth", apart := false, narrowed := true }
def FnExactCountTeethUptoSaid : Prop := fnExactCountTeethUptoRow.holds Try.pinned (OpenSpec.upto fnExactCountTeethSpec)

/-- 'laws.FnExactFallOf', WHERE WHAT IT READS IS OF BULK AT MOST 1048576: true; the input reads as it did. -/
def fnExactFallOfUptoRow : OpenClaim := { program := "ytgbgajmjejcgjaa", sum := "18e5321bdc22e29e679a92b000e4931c0e696d25dfcece5e2576955d8c7cb63b", func := "loop.example/g03230/laws.FnExactFallOf", spec := "fnExactFallOf", apart := false, narrowed := true }
def FnExactFallOfUptoSaid : Prop := fnExactFallOfUptoRow.holds Try.pinned (OpenSpec.upto fnExactFallOfSpec)

/-- 'laws.FnExactSortsAll', WHERE WHAT IT READS IS OF BULK AT MOST 1048576: true; the input reads as it did. -/
def fnExactSortsAllUptoRow : OpenClaim := { program := "ytgbgajmjejcgjaa", sum := "18e5321bdc22e29e679a92b000e4931c0e696d25dfcece5e2576955d8c7cb63b", func := "loop.example/g03230/laws.FnExactSortsAll", spec := "fnExactSortsAll", apart := false, narrowed := true }
def FnExactSortsAllUptoSaid : Prop := fnExactSortsAllUptoRow.holds Try.pinned (OpenSpec.upto fnExactSortsAllSpec)

/-- 'laws.FnExactOrderBar', WHERE WHAT IT READS IS OF BULK AT MOST 1048576: true; the input reads as it did. -/
def fnExactOrderBarUptoRow : OpenClaim := { program := "ytgbgajmjejcgjaa", sum := "18e5321bdc22e29e679a92b000e4931c0e696d25dfcece5e2576955d8c7cb63b", func := "loop.example/g03230/laws.FnExactOrderBar", spec := "fnExactOrderBar", apart := false, narrowed := true }
def FnExactOrderBarUptoSaid : Prop := fnExactOrderBarUptoRow.holds Try.pinned (OpenSpec.upto fnExactOrderBarSpec)

/-- 'laws.FnExactCountOrders', WHERE WHAT IT READS IS OF BULK AT MOST 1048576: true; the input reads as it did. -/
def fnExactCountOrdersUptoRow : OpenClaim := { program := "ytgbgajmjejcgjaa", sum := "18e5321bdc22e29e679a92b000e4931c0e696d25dfcece5e2576955d8c7cb63b", func := "loop.example/g03230/laws.FnExactCountOrders", spec := "fnExactCountOrders", apart := false, narrowed := true }
def FnExactCountOrdersUptoSaid : Prop := fnExactCountOrdersUptoRow.holds Try.pinned (OpenSpec.upto fnExactCountOrdersSpec)

/-- 'laws.FnExactBreakRail', WHERE WHAT IT READS IS OF BULK AT MOST 1048576: true; the input reads as it did. -/
def fnExactBreakRailUptoRow : OpenClaim := { program := "ytgbgajmjejcgjaa", sum := "18e5321bdc22e29e679a92b000e4931c0e696d25dfcece5e2576955d8c7cb63b", func := "loop.example/g03230/laws.FnExactBreakRail", spec := "fnExactBreakRail", apart := false, narrowed := true }
def FnExactBreakRailUptoSaid : Prop := fnExactBreakRailUptoRow.holds Try.pinned (OpenSpec.upto fnExactBreakRailSpec)

/-- 'laws.FnExactLossBefore', WHERE WHAT IT READS IS OF BULK AT MOST 1048576: true; the input reads as it did. -/
def fnExactLossBeforeUptoRow : OpenClaim := { program := "ytgbgajmjejcgjaa", sum := "18e5321bdc22e29e679a92b000e4931c0e696d25dfcece5e2576955d8c7cb63b", func := "loop.example/g03230/laws.FnExactLossBefore", spec := "fnExactLossBefore", apart := false, narrowed := true }
def FnExactLossBeforeUptoSaid : Prop := fnExactLossBeforeUptoRow.holds Try.pinned (OpenSpec.upto fnExactLossBeforeSpec)

/-- 'laws.FnExactReachOf', WHERE WHAT IT READS IS OF BULK AT MOST 1048576: true; the input reads as it did. -/
def fnExactReachOfUptoRow : OpenClaim := { program := "ytgbgajmjejcgjaa", sum := "18e5321bdc22e29e679a92b000e4931c0e696d25dfcece5e2576955d8c7cb63b", func := "loop.example/g03230/laws.FnExactReachOf", spec := "fnExactReachOf", apart := false, narrowed := true }
def FnExactReachOfUptoSaid : Prop := fnExactReachOfUptoRow.holds Try.pinned (OpenSpec.upto fnExactReachOfSpec)

/-- 'laws.FnWorn', WHERE WHAT IT READS IS OF BULK AT MOST 1048576: true; the input reads as it did. -/
def fnWornUptoRow : OpenClaim := { program := "ytgbgajmjejcgjaa", sum := "18e5321bdc22e29e679a92b000e4931c0e696d25dfcece5e2576955d8c7cb63b", func := "loop.example/g03230/laws.FnWorn", spec := "fnWorn", unfollowed := true, recurses := true, apart := false, narrowed := true }
def FnWornUptoSaid : Prop := fnWornUptoRow.holds Try.pinned (OpenSpec.upto fnWornSpec)

/-- 'laws.FnStocked', WHERE WHAT IT READS IS OF BULK AT MOST 1048576: true; the input reads as it did. -/
def fnStockedUptoRow : OpenClaim := { program := "ytgbgajmjejcgjaa", sum := "18e5321bdc22e29e679a92b000e4931c0e696d25dfcece5e2576955d8c7cb63b", func := "loop.example/g03230/laws.FnStocked", spec := "fnStocked", unfollowed := true, recurses := true, apart := false, narrowed := true }
def FnStockedUptoSaid : Prop := fnStockedUptoRow.holds Try.pinned (OpenSpec.upto fnStockedSpec)

/-- 'laws.FnExactFontOk', WHERE WHAT IT READS IS OF BULK AT MOST 1048576: true; the input reads as it did. -/
def fnExactFontOkUptoRow : OpenClaim := { program := "ytgbgajmjejcgjaa", sum := "18e5321bdc22e29e679a92b000e4931c0e696d25dfcece5e2576955d8c7cb63b", func := "loop.example/g03230/laws.FnExactFontOk", spec := "fnExactFontOk", apart := false, narrowed := true }
def FnExactFontOkUptoSaid : Prop := fnExactFontOkUptoRow.holds Try.pinned (OpenSpec.upto fnExactFontOkSpec)

/-- 'laws.FnExactKeyOf', WHERE WHAT IT READS IS OF BULK AT MOST 1048576: true; the input reads as it did. -/
def fnExactKeyOfUptoRow : OpenClaim := { program := "ytgbgajmjejcgjaa", sum := "18e5321bdc22e29e679a92b000e4931c0e696d25dfcece5e2576955d8c7cb63b", func := "loop.example/g03230/laws.FnExactKeyOf", spec := "fnExactKeyOf", apart := false, narrowed := true }
def FnExactKeyOfUptoSaid : Prop := fnExactKeyOfUptoRow.holds Try.pinned (OpenSpec.upto fnExactKeyOfSpec)

/-- 'laws.FnExactMatrixOk', WHERE WHAT IT READS IS OF BULK AT MOST 1048576: true; the input reads as it did. -/
def fnExactMatrixOkUptoRow : OpenClaim := { program := "ytgbgajmjejcgjaa", sum := "18e5321bdc22e29e679a92b000e4931c0e696d25dfcece5e2576955d8c7cb63b", func := "loop.example/g03230/laws.FnExactMatrixOk", spec := "fnExactMatrixOk", apart := false, narrowed := true }
def FnExactMatrixOkUptoSaid : Prop := fnExactMatrixOkUptoRow.holds Try.pinned (OpenSpec.upto fnExactMatrixOkSpec)

/-- 'laws.FnExactMagazineOk', WHERE WHAT IT READS IS OF BULK AT MOST 1048576: true; the input reads as it did. -/
def fnExactMagazineOkUptoRow : OpenClaim := { program := "ytgbgajmjejcgjaa", sum := "18e5321bdc22e29e679a92b000e4931c0e696d25dfcece5e2576955d8c7cb63b", func := "loop.example/g03230/laws.FnExactMagazineOk", spec := "fnExactMagazineOk", apart := false, narrowed := true }
def FnExactMagazineOkUptoSaid : Prop := fnExactMagazineOkUptoRow.holds Try.pinned (OpenSpec.upto fnExactMagazineOkSpec)

/-- 'laws.FnExactFillMagazine', WHERE WHAT IT READS IS OF BULK AT MOST 1048576: true; the input reads as it did. -/
def fnExactFillMagazineUptoRow : OpenClaim := { program := "ytgbgajmjejcgjaa", sum := "18e5321bdc22e29e679a92b000e4931c0e696d25dfcece5e2576955d8c7cb63b", func := "loop.example/g03230/laws.FnExactFillMagazine", spec := "fnExactFillMagazine", apart := false, narrowed := true }
def FnExactFillMagazineUptoSaid : Prop := fnExactFillMagazineUptoRow.holds Try.pinned (OpenSpec.upto fnExactFillMagazineSpec)

/-- 'laws.FnExactWearMatrix', WHERE WHAT IT READS IS OF BULK AT MOST 1048576: true; the input reads as it did. -/
def fnExactWearMatrixUptoRow : OpenClaim := { program := "ytgbgajmjejcgjaa", sum := "18e5321bdc22e29e679a92b000e4931c0e696d25dfcece5e2576955d8c7cb63b", func := "loop.example/g03230/laws.FnExactWearMatrix", spec := "fnExactWearMatrix", apart := false, narrowed := true }
def FnExactWearMatrixUptoSaid : Prop := fnExactWearMatrixUptoRow.holds Try.pinned (OpenSpec.upto fnExactWearMatrixSpec)

/-- 'laws.FnExactKindCounts', WHERE WHAT IT READS IS OF BULK AT MOST 1048576: true; the input reads as it did. -/
def fnExactKindCountsUptoRow : OpenClaim := { program := "ytgbgajmjejcgjaa", sum := "18e5321bdc22e29e679a92b000e4931c0e696d25dfcece5e2576955d8c7cb63b", func := "loop.example/g03230/laws.FnExactKindCounts", spec := "fnExactKindCounts", apart := false, narrowed := true }
def FnExactKindCountsUptoSaid : Prop := fnExactKindCountsUptoRow.holds Try.pinned (OpenSpec.upto fnExactKindCountsSpec)

/-- 'laws.FnExactCountStrays', WHERE WHAT IT READS IS OF BULK AT MOST 1048576: true; the input reads as it did. -/
def fnExactCountStraysUptoRow : OpenClaim := { program := "ytgbgajmjejcgjaa", sum := "18e5321bdc22e29e679a92b000e4931c0e696d25dfcece5e2576955d8c7cb63b", func := "loop.example/g03230/laws.FnExactCountStrays", spec := "fnExactCountStrays", unfollowed := true, recurses := true, apart := false, narrowed := true }
def FnExactCountStraysUptoSaid : Prop := fnExactCountStraysUptoRow.holds Try.pinned (OpenSpec.upto fnExactCountStraysSpec)

/-- 'laws.FnExactCountWorn', WHERE WHAT IT READS IS OF BULK AT MOST 1048576: true; the input reads as it did. -/
def fnExactCountWornUptoRow : OpenClaim := { program := "ytgbgajmjejcgjaa", sum := "18e5321bdc22e29e679a92b000e4931c0e696d25dfcece5e2576955d8c7cb63b", func := "loop.example/g03230/laws.FnExactCountWorn", spec := "fnExactCountWorn", unfollowed := true, recurses := true, apart := false, narrowed := true }
def FnExactCountWornUptoSaid : Prop := fnExactCountWornUptoRow.holds Try.pinned (OpenSpec.upto fnExactCountWornSpec)

/-- 'laws.FnExactLettersOf', WHERE WHAT IT READS IS OF BULK AT MOST 1048576: true; the input reads as it did. -/
def fnExactLettersOfUptoRow : OpenClaim := { program := "ytgbgajmjejcgjaa", sum := "18e5321bdc22e29e679a92b000e4931c0e696d25dfcece5e2576955d8c7cb63b", func := "loop.example/g03230/laws.FnExactLettersOf", spec := "fnExactLettersOf", apart := false, narrowed := true }
def FnExactLettersOfUptoSaid : Prop := fnExactLettersOfUptoRow.holds Try.pinned (OpenSpec.upto fnExactLettersOfSpec)

end Rows
end Go.Proofs.Ytgbgajmjejcgjaa
