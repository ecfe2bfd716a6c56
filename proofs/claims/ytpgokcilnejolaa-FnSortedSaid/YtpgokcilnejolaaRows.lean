/-
  No cell of these rows narrows 'for every input' (looked for: loops, veiled, ifaces, maps, wideKeys, modest, calm, conditions, laid).
  DERIVED. THE GIVEN ROWS OF THIS SEAT. 15 by the template 'for every input the law returns true; each argument reads behind the call as it read before'; 0 by the template 'total and deterministic' (their statements: YtpgokcilnejolaaTotals.lean).
  GIVEN WITH THE SEED: the statements are not yours to turn. If you find one false, say at which input.
  Laid BY PROGRAM, IN A SANDBOX (cutbox-rows.mjs): the forced cells as the released guide's own fill.sh prints them over the translation 7bbcc2f9e047aeb1… (all of the seat's roots in one cut). By AI agents, Wed Nov 11 2026. No macro, syntax, notation, axiom, sorry.
-/
import Derived.Test.YtpgokcilnejolaaChecked
import GoSem.Claim
import GoSem.ClaimJoined
import GoSem.ClaimMapViews
import Derived.JoinedTies
import Derived.KernelRfl
namespace Go.Proofs.Ytpgokcilnejolaa
/- THE CELL 'sum', in the pinned program and in every row, IS THE sha256 OF THE DUMP (.gsa) THAT YtpgokcilnejolaaProg.lean LOADS. Nothing in Lean hashes anything: it is a label: what it is worth is what the hold of that sum in a sandbox is worth. -/
noncomputable def Try.pinned : Pinned := { name := "ytpgokcilnejolaa", sum := "7bbcc2f9e047aeb1a356c1fbeb6f648d76969518211bcc2faeb12e5da36eada7", checked := Try.checked }
namespace Rows
def none {H : Type} : Left H := { results := [], args := [] }

/-- 'laws.FnSorted': WHATEVER THE INPUT: true; the input reads as it did. -/
def fnSortedSpec : ChangeSpec := { name := "fnSorted", fn := fun _ => fun
  | [d] => { results := [.lit (.bool true)], args := [d] }
  | _ => none }
def fnSortedRow : OpenClaim := { program := "ytpgokcilnejolaa", sum := "7bbcc2f9e047aeb1a356c1fbeb6f648d76969518211bcc2faeb12e5da36eada7", func := "loop.example/g03230/laws.FnSorted", spec := "fnSorted", unfollowed := true, recurses := true, apart := false }
def FnSortedSaid : Prop := fnSortedRow.holds Try.pinned (OpenSpec.ofChange fnSortedSpec)

/-- ITS FALSE NEIGHBOUR: 'it returns false'. Refute it at one input. -/
def fnSortedWrong : ChangeSpec := { name := "fnSorted", fn := fun _ => fun
  | [d] => { results := [.lit (.bool false)], args := [d] }
  | _ => none }
def FnSortedWrongFalsely : Prop := fnSortedRow.holds Try.pinned (OpenSpec.ofChange fnSortedWrong)

/-- 'laws.FnLighter': WHATEVER THE INPUT: true; the input reads as it did. -/
def fnLighterSpec : ChangeSpec := { name := "fnLighter", fn := fun _ => fun
  | [d] => { results := [.lit (.bool true)], args := [d] }
  | _ => none }
def fnLighterRow : OpenClaim := { program := "ytpgokcilnejolaa", sum := "7bbcc2f9e047aeb1a356c1fbeb6f648d76969518211bcc2faeb12e5da36eada7", func := "loop.example/g03230/laws.FnLighter", spec := "fnLighter", unfollowed := true, recurses := true, apart := false }
def FnLighterSaid : Prop := fnLighterRow.holds Try.pinned (OpenSpec.ofChange fnLighterSpec)

/-- ITS FALSE NEIGHBOUR: 'it returns false'. Refute it at one input. -/
def fnLighterWrong : ChangeSpec := { name := "fnLighter", fn := fun _ => fun
  | [d] => { results := [.lit (.bool false)], args := [d] }
  | _ => none }
def FnLighterWrongFalsely : Prop := fnLighterRow.holds Try.pinned (OpenSpec.ofChange fnLighterWrong)

/-- 'laws.FnBroken': WHATEVER THE INPUT: true; the input reads as it did. -/
def fnBrokenSpec : ChangeSpec := { name := "fnBroken", fn := fun _ => fun
  | [d] => { results := [.lit (.bool true)], args := [d] }
  | _ => none }
def fnBrokenRow : OpenClaim := { program := "ytpgokcilnejolaa", sum := "7bbcc2f9e047aeb1a356c1fbeb6f648d76969518211bcc2faeb12e5da36eada7", func := "loop.example/g03230/laws.FnBroken", spec := "fnBroken", unfollowed := true, recurses := true, apart := false }
def FnBrokenSaid : Prop := fnBrokenRow.holds Try.pinned (OpenSpec.ofChange fnBrokenSpec)

/-- ITS FALSE NEIGHBOUR: 'it returns false'. Refute it at one input. -/
def fnBrokenWrong : ChangeSpec := { name := "fnBroken", fn := fun _ => fun
  | [d] => { results := [.lit (.bool false)], args := [d] }
  | _ => none }
def FnBrokenWrongFalsely : Prop := fnBrokenRow.holds Try.pinned (OpenSpec.ofChange fnBrokenWrong)

/-- 'laws.FnLoss': WHATEVER THE INPUT: true; the input reads as it did. -/
def fnLossSpec : ChangeSpec := { name := "fnLoss", fn := fun _ => fun
  | [d] => { results := [.lit (.bool true)], args := [d] }
  | _ => none }
def fnLossRow : OpenClaim := { program := "ytpgokcilnejolaa", sum := "7bbcc2f9e047aeb1a356c1fbeb6f648d76969518211bcc2faeb12e5da36eada7", func := "loop.example/g03230/laws.FnLoss", spec := "fnLoss", unfollowed := true, recurses := true, apart := false }
def FnLossSaid : Prop := fnLossRow.holds Try.pinned (OpenSpec.ofChange fnLossSpec)

/-- ITS FALSE NEIGHBOUR: 'it returns false'. Refute it at one input. -/
def fnLossWrong : ChangeSpec := { name := "fnLoss", fn := fun _ => fun
  | [d] => { results := [.lit (.bool false)], args := [d] }
  | _ => none }
def FnLossWrongFalsely : Prop := fnLossRow.holds Try.pinned (OpenSpec.ofChange fnLossWrong)

/-- 'laws.FnReached': WHATEVER THE INPUT: true; the input reads as it did. -/
def fnReachedSpec : ChangeSpec := { name := "fnReached", fn := fun _ => fun
  | [d] => { results := [.lit (.bool true)], args := [d] }
  | _ => none }
def fnReachedRow : OpenClaim := { program := "ytpgokcilnejolaa", sum := "7bbcc2f9e047aeb1a356c1fbeb6f648d76969518211bcc2faeb12e5da36eada7", func := "loop.example/g03230/laws.FnReached", spec := "fnReached", unfollowed := true, recurses := true, apart := false }
def FnReachedSaid : Prop := fnReachedRow.holds Try.pinned (OpenSpec.ofChange fnReachedSpec)

/-- ITS FALSE NEIGHBOUR: 'it returns false'. Refute it at one input. -/
def fnReachedWrong : ChangeSpec := { name := "fnReached", fn := fun _ => fun
  | [d] => { results := [.lit (.bool false)], args := [d] }
  | _ => none }
def FnReachedWrongFalsely : Prop := fnReachedRow.holds Try.pinned (OpenSpec.ofChange fnReachedWrong)

/-- 'laws.FnOrders': WHATEVER THE INPUT: true; the input reads as it did. -/
def fnOrdersSpec : ChangeSpec := { name := "fnOrders", fn := fun _ => fun
  | [d] => { results := [.lit (.bool true)], args := [d] }
  | _ => none }
def fnOrdersRow : OpenClaim := { program := "ytpgokcilnejolaa", sum := "7bbcc2f9e047aeb1a356c1fbeb6f648d76969518211bcc2faeb12e5da36eada7", func := "loop.example/g03230/laws.FnOrders", spec := "fnOrders", unfollowed := true, recurses := true, apart := false }
def FnOrdersSaid : Prop := fnOrdersRow.holds Try.pinned (OpenSpec.ofChange fnOrdersSpec)

/-- ITS FALSE NEIGHBOUR: 'it returns false'. Refute it at one input. -/
def fnOrdersWrong : ChangeSpec := { name := "fnOrders", fn := fun _ => fun
  | [d] => { results := [.lit (.bool false)], args := [d] }
  | _ => none }
def FnOrdersWrongFalsely : Prop := fnOrdersRow.holds Try.pinned (OpenSpec.ofChange fnOrdersWrong)

/-- 'laws.FnExactIsBar': WHATEVER THE INPUT: true; the input reads as it did. -/
def fnExactIsBarSpec : ChangeSpec := { name := "fnExactIsBar", fn := fun _ => fun
  | [d] => { results := [.lit (.bool true)], args := [d] }
  | _ => none }
def fnExactIsBarRow : OpenClaim := { program := "ytpgokcilnejolaa", sum := "7bbcc2f9e047aeb1a356c1fbeb6f648d76969518211bcc2faeb12e5da36eada7", func := "loop.example/g03230/laws.FnExactIsBar", spec := "fnExactIsBar", unfollowed := true, recurses := true, apart := false }
def FnExactIsBarSaid : Prop := fnExactIsBarRow.holds Try.pinned (OpenSpec.ofChange fnExactIsBarSpec)

/-- ITS FALSE NEIGHBOUR: 'it returns false'. Refute it at one input. -/
def fnExactIsBarWrong : ChangeSpec := { name := "fnExactIsBar", fn := fun _ => fun
  | [d] => { results := [.lit (.bool false)], args := [d] }
  | _ => none }
def FnExactIsBarWrongFalsely : Prop := fnExactIsBarRow.holds Try.pinned (OpenSpec.ofChange fnExactIsBarWrong)

/-- 'laws.FnExactCountTeeth': WHATEVER THE INPUT: true; the input reads as it did. -/
def fnExactCountTeethSpec : ChangeSpec := { name := "fnExactCountTeeth", fn := fun _ => fun
  | [d] => { results := [.lit (.bool true)], args := [d] }
  | _ => none }
def fnExactCountTeethRow : OpenClaim := { program := "ytpgokcilnejolaa", sum := "7bbcc2f9e047aeb1a356c1fbeb6f648d76969518211bcc2faeb12e5da36eada7", func := "loop.example/g03230/laws.FnExactCountTeeth", spec := "fnExactCountTeeth", apart := false }
def FnExactCountTeethSaid : Prop := fnExactCountTeethRow.holds Try.pinned (OpenSpec.ofChange fnExactCountTeethSpec)

/-- ITS FALSE NEIGHBOUR: 'it returns false'. Refute it at one input. -/
def fnExactCountTeethWrong : ChangeSpec := { name := "fnExactCountTeeth", fn := fun _ => fun
  | [d] => { results := [.lit (.bool false)], args := [d] }
  | _ => none }
def FnExactCountTeethWrongFalsely : Prop := fnExactCountTeethRow.holds Try.pinned (OpenSpec.ofChange fnExactCountTeethWrong)

/-- 'laws.FnExactFallOf': WHATEVER THE INPUT: true; the input reads as it did. -/
def fnExactFallOfSpec : ChangeSpec := { name := "fnExactFallOf", fn := fun _ => fun
  | [d1, d2] => { results := [.lit (.bool true)], args := [d1, d2] }
  | _ => none }
def fnExactFallOfRow : OpenClaim := { program := "ytpgokcilnejolaa", sum := "7bbcc2f9e047aeb1a356c1fbeb6f648d76969518211bcc2faeb12e5da36eada7", func := "loop.example/g03230/laws.FnExactFallOf", spec := "fnExactFallOf", unfollowed := true, recurses := true, apart := false }
def FnExactFallOfSaid : Prop := fnExactFallOfRow.holds Try.pinned (OpenSpec.ofChange fnExactFallOfSpec)

/-- ITS FALSE NEIGHBOUR: 'it returns false'. Refute it at one input. -/
def fnExactFallOfWrong : ChangeSpec := { name := "fnExactFallOf", fn := fun _ => fun
  | [d1, d2] => { results := [.lit (.bool false)], args := [d1, d2] }
  | _ => none }
def FnExactFallOfWrongFalsely : Prop := fnExactFallOfRow.holds Try.pinned (OpenSpec.ofChange fnExactFallOfWrong)

/-- 'laws.FnExactSortsAll': WHATEVER THE INPUT: true; the input reads as it did. -/
def fnExactSortsAllSpec : ChangeSpec := { name := "fnExactSortsAll", fn := fun _ => fun
  | [d] => { results := [.lit (.bool true)], args := [d] }
  | _ => none }
def fnExactSortsAllRow : OpenClaim := { program := "ytpgokcilnejolaa", sum := "7bbcc2f9e047aeb1a356c1fbeb6f648d76969518211bcc2faeb12e5da36eada7", func := "loop.example/g03230/laws.FnExactSortsAll", spec := "fnExactSortsAll", unfollowed := true, recurses := true, apart := false }
def FnExactSortsAllSaid : Prop := fnExactSortsAllRow.holds Try.pinned (OpenSpec.ofChange fnExactSortsAllSpec)

/-- ITS FALSE NEIGHBOUR: 'it returns false'. Refute it at one input. -/
def fnExactSortsAllWrong : ChangeSpec := { name := "fnExactSortsAll", fn := fun _ => fun
  | [d] => { results := [.lit (.bool false)], args := [d] }
  | _ => none }
def FnExactSortsAllWrongFalsely : Prop := fnExactSortsAllRow.holds Try.pinned (OpenSpec.ofChange fnExactSortsAllWrong)

/-- 'laws.FnExactOrderBar': WHATEVER THE INPUT: true; the input reads as it did. -/
def fnExactOrderBarSpec : ChangeSpec := { name := "fnExactOrderBar", fn := fun _ => fun
  | [d] => { results := [.lit (.bool true)], args := [d] }
  | _ => none }
def fnExactOrderBarRow : OpenClaim := { program := "ytpgokcilnejolaa", sum := "7bbcc2f9e047aeb1a356c1fbeb6f648d76969518211bcc2faeb12e5da36eada7", func := "loop.example/g03230/laws.FnExactOrderBar", spec := "fnExactOrderBar", unfollowed := true, recurses := true, apart := false }
def FnExactOrderBarSaid : Prop := fnExactOrderBarRow.holds Try.pinned (OpenSpec.ofChange fnExactOrderBarSpec)

/-- ITS FALSE NEIGHBOUR: 'it returns false'. Refute it at one input. -/
def fnExactOrderBarWrong : ChangeSpec := { name := "fnExactOrderBar", fn := fun _ => fun
  | [d] => { results := [.lit (.bool false)], args := [d] }
  | _ => none }
def FnExactOrderBarWrongFalsely : Prop := fnExactOrderBarRow.holds Try.pinned (OpenSpec.ofChange fnExactOrderBarWrong)

/-- 'laws.FnExactCountOrders': WHATEVER THE INPUT: true; the input reads as it did. -/
def fnExactCountOrdersSpec : ChangeSpec := { name := "fnExactCountOrders", fn := fun _ => fun
  | [d] => { results := [.lit (.bool true)], args := [d] }
  | _ => none }
def fnExactCountOrdersRow : OpenClaim := { program := "ytpgokcilnejolaa", sum := "7bbcc2f9e047aeb1a356c1fbeb6f648d76969518211bcc2faeb12e5da36eada7", func := "loop.example/g03230/laws.FnExactCountOrders", spec := "fnExactCountOrders", unfollowed := true, recurses := true, apart := false }
def FnExactCountOrdersSaid : Prop := fnExactCountOrdersRow.holds Try.pinned (OpenSpec.ofChange fnExactCountOrdersSpec)

/-- ITS FALSE NEIGHBOUR: 'it returns false'. Refute it at one input. -/
def fnExactCountOrdersWrong : ChangeSpec := { name := "fnExactCountOrders", fn := fun _ => fun
  | [d] => { results := [.lit (.bool false)], args := [d] }
  | _ => none }
def FnExactCountOrdersWrongFalsely : Prop := fnExactCountOrdersRow.holds Try.pinned (OpenSpec.ofChange fnExactCountOrdersWrong)

/-- 'laws.FnExactBreakRail': WHATEVER THE INPUT: true; the input reads as it did. -/
def fnExactBreakRailSpec : ChangeSpec := { name := "fnExactBreakRail", fn := fun _ => fun
  | [d1, d2, d3] => { results := [.lit (.bool true)], args := [d1, d2, d3] }
  | _ => none }
def fnExactBreakRailRow : OpenClaim := { program := "ytpgokcilnejolaa", sum := "7bbcc2f9e047aeb1a356c1fbeb6f648d76969518211bcc2faeb12e5da36eada7", func := "loop.example/g03230/laws.FnExactBreakRail", spec := "fnExactBreakRail", unfollowed := true, recurses := true, apart := false }
def FnExactBreakRailSaid : Prop := fnExactBreakRailRow.holds Try.pinned (OpenSpec.ofChange fnExactBreakRailSpec)

/-- ITS FALSE NEIGHBOUR: 'it returns false'. Refute it at one input. -/
def fnExactBreakRailWrong : ChangeSpec := { name := "fnExactBreakRail", fn := fun _ => fun
  | [d1, d2, d3] => { results := [.lit (.bool false)], args := [d1, d2, d3] }
  | _ => none }
def FnExactBreakRailWrongFalsely : Prop := fnExactBreakRailRow.holds Try.pinned (OpenSpec.ofChange fnExactBreakRailWrong)

/-- 'laws.FnExactLossBefore': WHATEVER THE INPUT: true; the input reads as it did. -/
def fnExactLossBeforeSpec : ChangeSpec := { name := "fnExactLossBefore", fn := fun _ => fun
  | [d1, d2] => { results := [.lit (.bool true)], args := [d1, d2] }
  | _ => none }
def fnExactLossBeforeRow : OpenClaim := { program := "ytpgokcilnejolaa", sum := "7bbcc2f9e047aeb1a356c1fbeb6f648d76969518211bcc2faeb12e5da36eada7", func := "loop.example/g03230/laws.FnExactLossBefore", spec := "fnExactLossBefore", unfollowed := true, recurses := true, apart := false }
def FnExactLossBeforeSaid : Prop := fnExactLossBeforeRow.holds Try.pinned (OpenSpec.ofChange fnExactLossBeforeSpec)

/-- ITS FALSE NEIGHBOUR: 'it returns false'. Refute it at one input. -/
def fnExactLossBeforeWrong : ChangeSpec := { name := "fnExactLossBefore", fn := fun _ => fun
  | [d1, d2] => { results := [.lit (.bool false)], args := [d1, d2] }
  | _ => none }
def FnExactLossBeforeWrongFalsely : Prop := fnExactLossBeforeRow.holds Try.pinned (OpenSpec.ofChange fnExactLossBeforeWrong)

/-- 'laws.FnExactReachOf': WHATEVER THE INPUT: true; the input reads as it did. -/
def fnExactReachOfSpec : ChangeSpec := { name := "fnExactReachOf", fn := fun _ => fun
  | [d1, d2] => { results := [.lit (.bool true)], args := [d1, d2] }
  | _ => none }
def fnExactReachOfRow : OpenClaim := { program := "ytpgokcilnejolaa", sum := "7bbcc2f9e047aeb1a356c1fbeb6f648d76969518211bcc2faeb12e5da36eada7", func := "loop.example/g03230/laws.FnExactReachOf", spec := "fnExactReachOf", unfollowed := true, recurses := true, apart := false }
def FnExactReachOfSaid : Prop := fnExactReachOfRow.holds Try.pinned (OpenSpec.ofChange fnExactReachOfSpec)

/-- ITS FALSE NEIGHBOUR: 'it returns false'. Refute it at one input. -/
def fnExactReachOfWrong : ChangeSpec := { name := "fnExactReachOf", fn := fun _ => fun
  | [d1, d2] => { results := [.lit (.bool false)], args := [d1, d2] }
  | _ => none }
def FnExactReachOfWrongFalsely : Prop := fnExactReachOfRow.holds Try.pinned (OpenSpec.ofChange fnExactReachOfWrong)

/- THE SECOND FORM. 'bulk': how many values and letters a reading holds, each counted each time it is reached (what is shared counts as often as it is met; a slice's spare places count too). A statement '..UptoSaid' is the law's where the arguments, and the package variables that the reading takes, are together of bulk at most 1048576: NARROWER than '..Said'. Prove '..Said' where nothing that the law and all that it calls make is longer than what came in: it says more and counts as full. Else prove '..UptoSaid'. A law counts once. -/
mutual
def uptoBulk {H : Type} : DataW H → Nat
  | .lit (.string bytes) => bytes.length + 1
  | .lit _ => 1
  | .nil => 1
  | .ptr d => uptoBulk d + 1
  | .slice elems spare => uptoBulkAll elems + uptoBulkAll spare + 1
  | .agg parts => uptoBulkAll parts + 1
  | .iface _ d => uptoBulk d + 1
  | .map entries => uptoBulkEntries entries + 1
  | .held _ => 1
def uptoBulkAll {H : Type} : List (DataW H) → Nat
  | [] => 0
  | d :: r => uptoBulk d + uptoBulkAll r
def uptoBulkEntries {H : Type} : List (Lit × DataW H) → Nat
  | [] => 0
  | x :: r => uptoBulkEntry x + uptoBulkEntries r
def uptoBulkEntry {H : Type} : Lit × DataW H → Nat
  | (.string bytes, d) => bytes.length + uptoBulk d + 1
  | (_, d) => uptoBulk d + 1
 end
def uptoSmall : (H : Type) → List (DataW H) → Bool := fun _ ds => decide (uptoBulkAll ds ≤ 1048576)
def OpenSpec.upto (s : _root_.Go.ChangeSpec) : _root_.Go.OpenSpec := { _root_.Go.OpenSpec.ofChange s with cond := some uptoSmall }

/-- 'laws.FnSorted', WHERE WHAT IT READS IS OF BULK AT MOST 1048576: true; the input reads as it did. -/
def fnSortedUptoRow : OpenClaim := { program := "ytpgokcilnejolaa", sum := "7bbcc2f9e047aeb1a356c1fbeb6f648d76969518211bcc2faeb12e5da36eada7", func := "loop.example/g03230/laws.FnSorted", spec := "fnSorted", unfollowed := true, recurses := true, apart := false, narrowed := true }
def FnSortedUptoSaid : Prop := fnSortedUptoRow.holds Try.pinned (OpenSpec.upto fnSortedSpec)

/-- 'laws.FnLighter', WHERE WHAT IT READS IS OF BULK AT MOST 1048576: true; the input reads as it did. -/
def fnLighterUptoRow : OpenClaim := { program := "ytpgokcilnejolaa", sum := "7bbcc2f9e047aeb1a356c1fbeb6f648d76969518211bcc2faeb12e5da36eada7", func := "loop.example/g03230/laws.FnLighter", spec := "fnLighter", unfollowed := true, recurses := true, apart := false, narrowed := true }
def FnLighterUptoSaid : Prop := fnLighterUptoRow.holds Try.pinned (OpenSpec.upto fnLighterSpec)

/-- 'laws.FnBroken', WHERE WHAT IT READS IS OF BULK AT MOST 1048576: true; the input reads as it did. -/
def fnBrokenUptoRow : OpenClaim := { program := "ytpgokcilnejolaa", sum := "7bbcc2f9e047aeb1a356c1fbeb6f648d76969518211bcc2faeb12e5da36eada7", func := "loop.example/g03230/laws.FnBroken", spec := "fnBroken", unfollowed := true, recurses := true, apart := false, narrowed := true }
def FnBrokenUptoSaid : Prop := fnBrokenUptoRow.holds Try.pinned (OpenSpec.upto fnBrokenSpec)

/-- 'laws.FnLoss', WHERE WHAT IT READS IS OF BULK AT MOST 1048576: true; the input reads as it did. -/
def fnLossUptoRow : OpenClaim := { program := "ytpgokcilnejolaa", sum := "7bbcc2f9e047aeb1a356c1fbeb6f648d76969518211bcc2faeb12e5da36eada7", func := "loop.example/g03230/laws.FnLoss", spec := "fnLoss", unfollowed := true, recurses := true, apart := false, narrowed := true }
def FnLossUptoSaid : Prop := fnLossUptoRow.holds Try.pinned (OpenSpec.upto fnLossSpec)

/-- 'laws.FnReached', WHERE WHAT IT READS IS OF BULK AT MOST 1048576: true; the input reads as it did. -/
def fnReachedUptoRow : OpenClaim := { program := "ytpgokcilnejolaa", sum := "7bbcc2f9e047aeb1a356c1fbeb6f648d76969518211bcc2faeb12e5da36eada7", func := "loop.example/g03230/laws.FnReached", spec := "fnReached", unfollowed := true, recurses := true, apart := false, narrowed := true }
def FnReachedUptoSaid : Prop := fnReachedUptoRow.holds Try.pinned (OpenSpec.upto fnReachedSpec)

/-- 'laws.FnOrders', WHERE WHAT IT READS IS OF BULK AT MOST 1048576: true; the input reads as it did. -/
def fnOrdersUptoRow : OpenClaim := { program := "ytpgokcilnejolaa", sum := "7bbcc2f9e047aeb1a356c1fbeb6f648d76969518211bcc2faeb12e5da36eada7", func := "loop.example/g03230/laws.FnOrders", spec := "fnOrders", unfollowed := true, recurses := true, apart := false, narrowed := true }
def FnOrdersUptoSaid : Prop := fnOrdersUptoRow.holds Try.pinned (OpenSpec.upto fnOrdersSpec)

/-- 'laws.FnExactIsBar', WHERE WHAT IT READS IS OF BULK AT MOST 1048576: true; the input reads as it did. -/
def fnExactIsBarUptoRow : OpenClaim := { program := "ytpgokcilnejolaa", sum := "7bbcc2f9e047aeb1a356c1fbeb6f648d76969518211bcc2faeb12e5da36eada7", func := "loop.example/g03230/laws.FnExactIsBar", spec := "fnExactIsBar", unfollowed := true, recurses := true, apart := false, narrowed := true }
def FnExactIsBarUptoSaid : Prop := fnExactIsBarUptoRow.holds Try.pinned (OpenSpec.upto fnExactIsBarSpec)

/-- 'laws.FnExactCountTeeth', WHERE WHAT IT READS IS OF BULK AT MOST 1048576: true; the input reads as it did. -/
def fnExactCountTeethUptoRow : OpenClaim := { program := "ytpgokcilnejolaa", sum := "7bbcc2f9e047aeb1a356c1fbeb6f648d76969518211bcc2faeb12e5da36eada7", func := "loop.example/g03230/laws.FnExactCountTeeth", spec := "fnExactCountTeeth", apart := false, narrowed := true }
def FnExactCountTeethUptoSaid : Prop := fnExactCountTeethUptoRow.holds Try.pinned (OpenSpec.upto fnExactCountTeethSpec)

/-- 'laws.FnExactFallOf', WHERE WHAT IT READS IS OF BULK AT MOST 1048576: true; the input reads as it did. -/
def fnExactFallOfUptoRow : OpenClaim := { program := "ytpgokcilnejolaa", sum := "7bbcc2f9e047aeb1a356c1fbeb6f648d76969518211bcc2faeb12e5da36eada7", func := "loop.example/g03230/laws.FnExactFallOf", spec := "fnExactFallOf", unfollowed := true, recurses := true, apart := false, narrowed := true }
def FnExactFallOfUptoSaid : Prop := fnExactFallOfUptoRow.holds Try.pinned (OpenSpec.upto fnExactFallOfSpec)

/-- 'laws.FnExactSortsAll', WHERE WHAT IT READS IS OF BULK AT MOST 1048576: true; the input reads as it did. -/
def fnExactSortsAllUptoRow : OpenClaim := { program := "ytpgokcilnejolaa", sum := "7bbcc2f9e047aeb1a356c1fbeb6f648d76969518211bcc2faeb12e5da36eada7", func := "loop.example/g03230/laws.FnExactSortsAll", spec := "fnExactSortsAll", unfollowed := true, recurses := true, apart := false, narrowed := true }
def FnExactSortsAllUptoSaid : Prop := fnExactSortsAllUptoRow.holds Try.pinned (OpenSpec.upto fnExactSortsAllSpec)

/-- 'laws.FnExactOrderBar', WHERE WHAT IT READS IS OF BULK AT MOST 1048576: true; the input reads as it did. -/
def fnExactOrderBarUptoRow : OpenClaim := { program := "ytpgokcilnejolaa", sum := "7bbcc2f9e047aeb1a356c1fbeb6f648d76969518211bcc2faeb12e5da36eada7", func := "loop.example/g03230/laws.FnExactOrderBar", spec := "fnExactOrderBar", unfollowed := true, recurses := true, apart := false, narrowed := true }
def FnExactOrderBarUptoSaid : Prop := fnExactOrderBarUptoRow.holds Try.pinned (OpenSpec.upto fnExactOrderBarSpec)

/-- 'laws.FnExactCountOrders', WHERE WHAT IT READS IS OF BULK AT MOST 1048576: true; the input reads as it did. -/
def fnExactCountOrdersUptoRow : OpenClaim := { program := "ytpgokcilnejolaa", sum := "7bbcc2f9e047aeb1a356c1fbeb6f648d76969518211bcc2faeb12e5da36eada7", func := "loop.example/g03230/laws.FnExactCountOrders", spec := "fnExactCountOrders", unfollowed := true, recurses := true, apart := false, narrowed := true }
def FnExactCountOrdersUptoSaid : Prop := fnExactCountOrdersUptoRow.holds Try.pinned (OpenSpec.upto fnExactCountOrdersSpec)

/-- 'laws.FnExactBreakRail', WHERE WHAT IT READS IS OF BULK AT MOST 1048576: true; the input reads as it did. -/
def fnExactBreakRailUptoRow : OpenClaim := { program := "ytpgokcilnejolaa", sum := "7bbcc2f9e047aeb1a356c1fbeb6f648d76969518211bcc2faeb12e5da36eada7", func := "loop.example/g03230/laws.FnExactBreakRail", spec := "fnExactBreakRail", unfollowed := true, recurses := true, apart := false, narrowed := true }
def FnExactBreakRailUptoSaid : Prop := fnExactBreakRailUptoRow.holds Try.pinned (OpenSpec.upto fnExactBreakRailSpec)

/-- 'laws.FnExactLossBefore', WHERE WHAT IT READS IS OF BULK AT MOST 1048576: true; the input reads as it did. -/
def fnExactLossBeforeUptoRow : OpenClaim := { program := "ytpgokcilnejolaa", sum := "7bbcc2f9e047aeb1a356c1fbeb6f648d76969518211bcc2faeb12e5da36eada7", func := "loop.example/g03230/laws.FnExactLossBefore", spec := "fnExactLossBefore", unfollowed := true, recurses := true, apart := false, narrowed := true }
def FnExactLossBeforeUptoSaid : Prop := fnExactLossBeforeUptoRow.holds Try.pinned (OpenSpec.upto fnExactLossBeforeSpec)

/-- 'laws.FnExactReachOf', WHERE WHAT IT READS IS OF BULK AT MOST 1048576: true; the input reads as it did. -/
def fnExactReachOfUptoRow : OpenClaim := { program := "ytpgokcilnejolaa", sum := "7bbcc2f9e047aeb1a356c1fbeb6f648d76969518211bcc2faeb12e5da36eada7", func := "loop.example/g03230/laws.FnExactReachOf", spec := "fnExactReachOf", unfollowed := true, recurses := true, apart := false, narrowed := true }
def FnExactReachOfUptoSaid : Prop := fnExactReachOfUptoRow.holds Try.pinned (OpenSpec.upto fnExactReachOfSpec)

end Rows
end Go.Proofs.Ytpgokcilnejolaa
