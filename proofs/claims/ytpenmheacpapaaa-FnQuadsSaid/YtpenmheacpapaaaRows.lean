/-
  No cell of these rows narrows 'for every input' (looked for: loops, veiled, ifaces, maps, wideKeys, modest, calm, conditions, laid).
  DERIVED. THE GIVEN ROWS OF THIS SEAT. 17 by the template 'for every input the law returns true; each argument reads behind the call as it read before'; 0 by the template 'total and deterministic' (their statements: YtpenmheacpapaaaTotals.lean).
  GIVEN WITH THE SEED: the statements are not yours to turn. If you find one false, say at which input.
  Laid BY PROGRAM, IN A SANDBOX (cutbox-rows.mjs): the forced cells as the released guide's own fill.sh prints them over the translation 1e6c440b9e9f92c9… (all of the seat's roots in one cut). By AI agents, Wed Nov 11 2026. No macro, syntax, notation, axiom, sorry.
-/
import Derived.Test.YtpenmheacpapaaaChecked
import GoSem.Claim
import GoSem.ClaimJoined
import GoSem.ClaimMapViews
import Derived.JoinedTies
import Derived.KernelRfl
namespace Go.Proofs.Ytpenmheacpapaaa
/- THE CELL 'sum', in the pinned program and in every row, IS THE sha256 OF THE DUMP (.gsa) THAT YtpenmheacpapaaaProg.lean LOADS. Nothing in Lean hashes anything: it is a label: what it is worth is what the hold of that sum in a sandbox is worth. -/
noncomputable def Try.pinned : Pinned := { name := "ytpenmheacpapaaa", sum := "1e6c440b9e9f92c9f79dd51001b1fac781d6fa33aa0851935e5ddfe1c64c76ec", checked := Try.checked }
namespace Rows
def none {H : Type} : Left H := { results := [], args := [] }

/-- 'laws.FnIndexed': WHATEVER THE INPUT: true; the input reads as it did. -/
def fnIndexedSpec : ChangeSpec := { name := "fnIndexed", fn := fun _ => fun
  | [d] => { results := [.lit (.bool true)], args := [d] }
  | _ => none }
def fnIndexedRow : OpenClaim := { program := "ytpenmheacpapaaa", sum := "1e6c440b9e9f92c9f79dd51001b1fac781d6fa33aa0851935e5ddfe1c64c76ec", func := "loop.example/g03230/laws.FnIndexed", spec := "fnIndexed", unfollowed := true, recurses := true, plainKeys := false, apart := false }
def FnIndexedSaid : Prop := fnIndexedRow.holds Try.pinned (OpenSpec.ofChange fnIndexedSpec)

/-- ITS FALSE NEIGHBOUR: 'it returns false'. Refute it at one input. -/
def fnIndexedWrong : ChangeSpec := { name := "fnIndexed", fn := fun _ => fun
  | [d] => { results := [.lit (.bool false)], args := [d] }
  | _ => none }
def FnIndexedWrongFalsely : Prop := fnIndexedRow.holds Try.pinned (OpenSpec.ofChange fnIndexedWrong)

/-- 'laws.FnAscending': WHATEVER THE INPUT: true; the input reads as it did. -/
def fnAscendingSpec : ChangeSpec := { name := "fnAscending", fn := fun _ => fun
  | [d] => { results := [.lit (.bool true)], args := [d] }
  | _ => none }
def fnAscendingRow : OpenClaim := { program := "ytpenmheacpapaaa", sum := "1e6c440b9e9f92c9f79dd51001b1fac781d6fa33aa0851935e5ddfe1c64c76ec", func := "loop.example/g03230/laws.FnAscending", spec := "fnAscending", unfollowed := true, recurses := true, plainKeys := false, apart := false }
def FnAscendingSaid : Prop := fnAscendingRow.holds Try.pinned (OpenSpec.ofChange fnAscendingSpec)

/-- ITS FALSE NEIGHBOUR: 'it returns false'. Refute it at one input. -/
def fnAscendingWrong : ChangeSpec := { name := "fnAscending", fn := fun _ => fun
  | [d] => { results := [.lit (.bool false)], args := [d] }
  | _ => none }
def FnAscendingWrongFalsely : Prop := fnAscendingRow.holds Try.pinned (OpenSpec.ofChange fnAscendingWrong)

/-- 'laws.FnGreedy': WHATEVER THE INPUT: true; the input reads as it did. -/
def fnGreedySpec : ChangeSpec := { name := "fnGreedy", fn := fun _ => fun
  | [d] => { results := [.lit (.bool true)], args := [d] }
  | _ => none }
def fnGreedyRow : OpenClaim := { program := "ytpenmheacpapaaa", sum := "1e6c440b9e9f92c9f79dd51001b1fac781d6fa33aa0851935e5ddfe1c64c76ec", func := "loop.example/g03230/laws.FnGreedy", spec := "fnGreedy", unfollowed := true, recurses := true, plainKeys := false, apart := false }
def FnGreedySaid : Prop := fnGreedyRow.holds Try.pinned (OpenSpec.ofChange fnGreedySpec)

/-- ITS FALSE NEIGHBOUR: 'it returns false'. Refute it at one input. -/
def fnGreedyWrong : ChangeSpec := { name := "fnGreedy", fn := fun _ => fun
  | [d] => { results := [.lit (.bool false)], args := [d] }
  | _ => none }
def FnGreedyWrongFalsely : Prop := fnGreedyRow.holds Try.pinned (OpenSpec.ofChange fnGreedyWrong)

/-- 'laws.FnBest': WHATEVER THE INPUT: true; the input reads as it did. -/
def fnBestSpec : ChangeSpec := { name := "fnBest", fn := fun _ => fun
  | [d] => { results := [.lit (.bool true)], args := [d] }
  | _ => none }
def fnBestRow : OpenClaim := { program := "ytpenmheacpapaaa", sum := "1e6c440b9e9f92c9f79dd51001b1fac781d6fa33aa0851935e5ddfe1c64c76ec", func := "loop.example/g03230/laws.FnBest", spec := "fnBest", unfollowed := true, recurses := true, plainKeys := false, apart := false }
def FnBestSaid : Prop := fnBestRow.holds Try.pinned (OpenSpec.ofChange fnBestSpec)

/-- ITS FALSE NEIGHBOUR: 'it returns false'. Refute it at one input. -/
def fnBestWrong : ChangeSpec := { name := "fnBest", fn := fun _ => fun
  | [d] => { results := [.lit (.bool false)], args := [d] }
  | _ => none }
def FnBestWrongFalsely : Prop := fnBestRow.holds Try.pinned (OpenSpec.ofChange fnBestWrong)

/-- 'laws.FnLetters': WHATEVER THE INPUT: true; the input reads as it did. -/
def fnLettersSpec : ChangeSpec := { name := "fnLetters", fn := fun _ => fun
  | [d] => { results := [.lit (.bool true)], args := [d] }
  | _ => none }
def fnLettersRow : OpenClaim := { program := "ytpenmheacpapaaa", sum := "1e6c440b9e9f92c9f79dd51001b1fac781d6fa33aa0851935e5ddfe1c64c76ec", func := "loop.example/g03230/laws.FnLetters", spec := "fnLetters", unfollowed := true, recurses := true, plainKeys := false, apart := false }
def FnLettersSaid : Prop := fnLettersRow.holds Try.pinned (OpenSpec.ofChange fnLettersSpec)

/-- ITS FALSE NEIGHBOUR: 'it returns false'. Refute it at one input. -/
def fnLettersWrong : ChangeSpec := { name := "fnLetters", fn := fun _ => fun
  | [d] => { results := [.lit (.bool false)], args := [d] }
  | _ => none }
def FnLettersWrongFalsely : Prop := fnLettersRow.holds Try.pinned (OpenSpec.ofChange fnLettersWrong)

/-- 'laws.FnWidths': WHATEVER THE INPUT: true; the input reads as it did. -/
def fnWidthsSpec : ChangeSpec := { name := "fnWidths", fn := fun _ => fun
  | [d] => { results := [.lit (.bool true)], args := [d] }
  | _ => none }
def fnWidthsRow : OpenClaim := { program := "ytpenmheacpapaaa", sum := "1e6c440b9e9f92c9f79dd51001b1fac781d6fa33aa0851935e5ddfe1c64c76ec", func := "loop.example/g03230/laws.FnWidths", spec := "fnWidths", unfollowed := true, recurses := true, plainKeys := false, apart := false }
def FnWidthsSaid : Prop := fnWidthsRow.holds Try.pinned (OpenSpec.ofChange fnWidthsSpec)

/-- ITS FALSE NEIGHBOUR: 'it returns false'. Refute it at one input. -/
def fnWidthsWrong : ChangeSpec := { name := "fnWidths", fn := fun _ => fun
  | [d] => { results := [.lit (.bool false)], args := [d] }
  | _ => none }
def FnWidthsWrongFalsely : Prop := fnWidthsRow.holds Try.pinned (OpenSpec.ofChange fnWidthsWrong)

/-- 'laws.FnExactTextOk': WHATEVER THE INPUT: true; the input reads as it did. -/
def fnExactTextOkSpec : ChangeSpec := { name := "fnExactTextOk", fn := fun _ => fun
  | [d] => { results := [.lit (.bool true)], args := [d] }
  | _ => none }
def fnExactTextOkRow : OpenClaim := { program := "ytpenmheacpapaaa", sum := "1e6c440b9e9f92c9f79dd51001b1fac781d6fa33aa0851935e5ddfe1c64c76ec", func := "loop.example/g03230/laws.FnExactTextOk", spec := "fnExactTextOk", unfollowed := true, recurses := true, plainKeys := false, apart := false }
def FnExactTextOkSaid : Prop := fnExactTextOkRow.holds Try.pinned (OpenSpec.ofChange fnExactTextOkSpec)

/-- ITS FALSE NEIGHBOUR: 'it returns false'. Refute it at one input. -/
def fnExactTextOkWrong : ChangeSpec := { name := "fnExactTextOk", fn := fun _ => fun
  | [d] => { results := [.lit (.bool false)], args := [d] }
  | _ => none }
def FnExactTextOkWrongFalsely : Prop := fnExactTextOkRow.holds Try.pinned (OpenSpec.ofChange fnExactTextOkWrong)

/-- 'laws.FnExactLineKind': WHATEVER THE INPUT: true; the input reads as it did. -/
def fnExactLineKindSpec : ChangeSpec := { name := "fnExactLineKind", fn := fun _ => fun
  | [d1, d2, d3, d4] => { results := [.lit (.bool true)], args := [d1, d2, d3, d4] }
  | _ => none }
def fnExactLineKindRow : OpenClaim := { program := "ytpenmheacpapaaa", sum := "1e6c440b9e9f92c9f79dd51001b1fac781d6fa33aa0851935e5ddfe1c64c76ec", func := "loop.example/g03230/laws.FnExactLineKind", spec := "fnExactLineKind", unfollowed := true, recurses := true, plainKeys := false, apart := false }
def FnExactLineKindSaid : Prop := fnExactLineKindRow.holds Try.pinned (OpenSpec.ofChange fnExactLineKindSpec)

/-- ITS FALSE NEIGHBOUR: 'it returns false'. Refute it at one input. -/
def fnExactLineKindWrong : ChangeSpec := { name := "fnExactLineKind", fn := fun _ => fun
  | [d1, d2, d3, d4] => { results := [.lit (.bool false)], args := [d1, d2, d3, d4] }
  | _ => none }
def FnExactLineKindWrongFalsely : Prop := fnExactLineKindRow.holds Try.pinned (OpenSpec.ofChange fnExactLineKindWrong)

/-- 'laws.FnExactIsBreaking': WHATEVER THE INPUT: true; the input reads as it did. -/
def fnExactIsBreakingSpec : ChangeSpec := { name := "fnExactIsBreaking", fn := fun _ => fun
  | [d1, d2, d3] => { results := [.lit (.bool true)], args := [d1, d2, d3] }
  | _ => none }
def fnExactIsBreakingRow : OpenClaim := { program := "ytpenmheacpapaaa", sum := "1e6c440b9e9f92c9f79dd51001b1fac781d6fa33aa0851935e5ddfe1c64c76ec", func := "loop.example/g03230/laws.FnExactIsBreaking", spec := "fnExactIsBreaking", unfollowed := true, recurses := true, plainKeys := false, apart := false }
def FnExactIsBreakingSaid : Prop := fnExactIsBreakingRow.holds Try.pinned (OpenSpec.ofChange fnExactIsBreakingSpec)

/-- ITS FALSE NEIGHBOUR: 'it returns false'. Refute it at one input. -/
def fnExactIsBreakingWrong : ChangeSpec := { name := "fnExactIsBreaking", fn := fun _ => fun
  | [d1, d2, d3] => { results := [.lit (.bool false)], args := [d1, d2, d3] }
  | _ => none }
def FnExactIsBreakingWrongFalsely : Prop := fnExactIsBreakingRow.holds Try.pinned (OpenSpec.ofChange fnExactIsBreakingWrong)

/-- 'laws.FnExactCostOf': WHATEVER THE INPUT: true; the input reads as it did. -/
def fnExactCostOfSpec : ChangeSpec := { name := "fnExactCostOf", fn := fun _ => fun
  | [d1, d2, d3] => { results := [.lit (.bool true)], args := [d1, d2, d3] }
  | _ => none }
def fnExactCostOfRow : OpenClaim := { program := "ytpenmheacpapaaa", sum := "1e6c440b9e9f92c9f79dd51001b1fac781d6fa33aa0851935e5ddfe1c64c76ec", func := "loop.example/g03230/laws.FnExactCostOf", spec := "fnExactCostOf", unfollowed := true, recurses := true, plainKeys := false, apart := false }
def FnExactCostOfSaid : Prop := fnExactCostOfRow.holds Try.pinned (OpenSpec.ofChange fnExactCostOfSpec)

/-- ITS FALSE NEIGHBOUR: 'it returns false'. Refute it at one input. -/
def fnExactCostOfWrong : ChangeSpec := { name := "fnExactCostOf", fn := fun _ => fun
  | [d1, d2, d3] => { results := [.lit (.bool false)], args := [d1, d2, d3] }
  | _ => none }
def FnExactCostOfWrongFalsely : Prop := fnExactCostOfRow.holds Try.pinned (OpenSpec.ofChange fnExactCostOfWrong)

/-- 'laws.FnExactCountBreakings': WHATEVER THE INPUT: true; the input reads as it did. -/
def fnExactCountBreakingsSpec : ChangeSpec := { name := "fnExactCountBreakings", fn := fun _ => fun
  | [d1, d2] => { results := [.lit (.bool true)], args := [d1, d2] }
  | _ => none }
def fnExactCountBreakingsRow : OpenClaim := { program := "ytpenmheacpapaaa", sum := "1e6c440b9e9f92c9f79dd51001b1fac781d6fa33aa0851935e5ddfe1c64c76ec", func := "loop.example/g03230/laws.FnExactCountBreakings", spec := "fnExactCountBreakings", unfollowed := true, recurses := true, plainKeys := false, apart := false }
def FnExactCountBreakingsSaid : Prop := fnExactCountBreakingsRow.holds Try.pinned (OpenSpec.ofChange fnExactCountBreakingsSpec)

/-- ITS FALSE NEIGHBOUR: 'it returns false'. Refute it at one input. -/
def fnExactCountBreakingsWrong : ChangeSpec := { name := "fnExactCountBreakings", fn := fun _ => fun
  | [d1, d2] => { results := [.lit (.bool false)], args := [d1, d2] }
  | _ => none }
def FnExactCountBreakingsWrongFalsely : Prop := fnExactCountBreakingsRow.holds Try.pinned (OpenSpec.ofChange fnExactCountBreakingsWrong)

/-- 'laws.FnExactGreedyBreaking': WHATEVER THE INPUT: true; the input reads as it did. -/
def fnExactGreedyBreakingSpec : ChangeSpec := { name := "fnExactGreedyBreaking", fn := fun _ => fun
  | [d1, d2] => { results := [.lit (.bool true)], args := [d1, d2] }
  | _ => none }
def fnExactGreedyBreakingRow : OpenClaim := { program := "ytpenmheacpapaaa", sum := "1e6c440b9e9f92c9f79dd51001b1fac781d6fa33aa0851935e5ddfe1c64c76ec", func := "loop.example/g03230/laws.FnExactGreedyBreaking", spec := "fnExactGreedyBreaking", unfollowed := true, recurses := true, plainKeys := false, apart := false }
def FnExactGreedyBreakingSaid : Prop := fnExactGreedyBreakingRow.holds Try.pinned (OpenSpec.ofChange fnExactGreedyBreakingSpec)

/-- ITS FALSE NEIGHBOUR: 'it returns false'. Refute it at one input. -/
def fnExactGreedyBreakingWrong : ChangeSpec := { name := "fnExactGreedyBreaking", fn := fun _ => fun
  | [d1, d2] => { results := [.lit (.bool false)], args := [d1, d2] }
  | _ => none }
def FnExactGreedyBreakingWrongFalsely : Prop := fnExactGreedyBreakingRow.holds Try.pinned (OpenSpec.ofChange fnExactGreedyBreakingWrong)

/-- 'laws.FnExactBreakingAt': WHATEVER THE INPUT: true; the input reads as it did. -/
def fnExactBreakingAtSpec : ChangeSpec := { name := "fnExactBreakingAt", fn := fun _ => fun
  | [d1, d2, d3] => { results := [.lit (.bool true)], args := [d1, d2, d3] }
  | _ => none }
def fnExactBreakingAtRow : OpenClaim := { program := "ytpenmheacpapaaa", sum := "1e6c440b9e9f92c9f79dd51001b1fac781d6fa33aa0851935e5ddfe1c64c76ec", func := "loop.example/g03230/laws.FnExactBreakingAt", spec := "fnExactBreakingAt", unfollowed := true, recurses := true, plainKeys := false, apart := false }
def FnExactBreakingAtSaid : Prop := fnExactBreakingAtRow.holds Try.pinned (OpenSpec.ofChange fnExactBreakingAtSpec)

/-- ITS FALSE NEIGHBOUR: 'it returns false'. Refute it at one input. -/
def fnExactBreakingAtWrong : ChangeSpec := { name := "fnExactBreakingAt", fn := fun _ => fun
  | [d1, d2, d3] => { results := [.lit (.bool false)], args := [d1, d2, d3] }
  | _ => none }
def FnExactBreakingAtWrongFalsely : Prop := fnExactBreakingAtRow.holds Try.pinned (OpenSpec.ofChange fnExactBreakingAtWrong)

/-- 'laws.FnExactBreakingIndex': WHATEVER THE INPUT: true; the input reads as it did. -/
def fnExactBreakingIndexSpec : ChangeSpec := { name := "fnExactBreakingIndex", fn := fun _ => fun
  | [d1, d2, d3] => { results := [.lit (.bool true)], args := [d1, d2, d3] }
  | _ => none }
def fnExactBreakingIndexRow : OpenClaim := { program := "ytpenmheacpapaaa", sum := "1e6c440b9e9f92c9f79dd51001b1fac781d6fa33aa0851935e5ddfe1c64c76ec", func := "loop.example/g03230/laws.FnExactBreakingIndex", spec := "fnExactBreakingIndex", unfollowed := true, recurses := true, plainKeys := false, apart := false }
def FnExactBreakingIndexSaid : Prop := fnExactBreakingIndexRow.holds Try.pinned (OpenSpec.ofChange fnExactBreakingIndexSpec)

/-- ITS FALSE NEIGHBOUR: 'it returns false'. Refute it at one input. -/
def fnExactBreakingIndexWrong : ChangeSpec := { name := "fnExactBreakingIndex", fn := fun _ => fun
  | [d1, d2, d3] => { results := [.lit (.bool false)], args := [d1, d2, d3] }
  | _ => none }
def FnExactBreakingIndexWrongFalsely : Prop := fnExactBreakingIndexRow.holds Try.pinned (OpenSpec.ofChange fnExactBreakingIndexWrong)

/-- 'laws.FnExactBestBreaking': WHATEVER THE INPUT: true; the input reads as it did. -/
def fnExactBestBreakingSpec : ChangeSpec := { name := "fnExactBestBreaking", fn := fun _ => fun
  | [d1, d2] => { results := [.lit (.bool true)], args := [d1, d2] }
  | _ => none }
def fnExactBestBreakingRow : OpenClaim := { program := "ytpenmheacpapaaa", sum := "1e6c440b9e9f92c9f79dd51001b1fac781d6fa33aa0851935e5ddfe1c64c76ec", func := "loop.example/g03230/laws.FnExactBestBreaking", spec := "fnExactBestBreaking", unfollowed := true, recurses := true, plainKeys := false, apart := false }
def FnExactBestBreakingSaid : Prop := fnExactBestBreakingRow.holds Try.pinned (OpenSpec.ofChange fnExactBestBreakingSpec)

/-- ITS FALSE NEIGHBOUR: 'it returns false'. Refute it at one input. -/
def fnExactBestBreakingWrong : ChangeSpec := { name := "fnExactBestBreaking", fn := fun _ => fun
  | [d1, d2] => { results := [.lit (.bool false)], args := [d1, d2] }
  | _ => none }
def FnExactBestBreakingWrongFalsely : Prop := fnExactBestBreakingRow.holds Try.pinned (OpenSpec.ofChange fnExactBestBreakingWrong)

/-- 'laws.FnExactWidthsFor': WHATEVER THE INPUT: true; the input reads as it did. -/
def fnExactWidthsForSpec : ChangeSpec := { name := "fnExactWidthsFor", fn := fun _ => fun
  | [d1, d2, d3] => { results := [.lit (.bool true)], args := [d1, d2, d3] }
  | _ => none }
def fnExactWidthsForRow : OpenClaim := { program := "ytpenmheacpapaaa", sum := "1e6c440b9e9f92c9f79dd51001b1fac781d6fa33aa0851935e5ddfe1c64c76ec", func := "loop.example/g03230/laws.FnExactWidthsFor", spec := "fnExactWidthsFor", unfollowed := true, recurses := true, plainKeys := false, apart := false }
def FnExactWidthsForSaid : Prop := fnExactWidthsForRow.holds Try.pinned (OpenSpec.ofChange fnExactWidthsForSpec)

/-- ITS FALSE NEIGHBOUR: 'it returns false'. Refute it at one input. -/
def fnExactWidthsForWrong : ChangeSpec := { name := "fnExactWidthsFor", fn := fun _ => fun
  | [d1, d2, d3] => { results := [.lit (.bool false)], args := [d1, d2, d3] }
  | _ => none }
def FnExactWidthsForWrongFalsely : Prop := fnExactWidthsForRow.holds Try.pinned (OpenSpec.ofChange fnExactWidthsForWrong)

/-- 'laws.FnQuads': WHATEVER THE INPUT: true; the input reads as it did. -/
def fnQuadsSpec : ChangeSpec := { name := "fnQuads", fn := fun _ => fun
  | [d] => { results := [.lit (.bool true)], args := [d] }
  | _ => none }
def fnQuadsRow : OpenClaim := { program := "ytpenmheacpapaaa", sum := "1e6c440b9e9f92c9f79dd51001b1fac781d6fa33aa0851935e5ddfe1c64c76ec", func := "loop.example/g03230/laws.FnQuads", spec := "fnQuads", unfollowed := true, recurses := true, plainKeys := false, apart := false }
def FnQuadsSaid : Prop := fnQuadsRow.holds Try.pinned (OpenSpec.ofChange fnQuadsSpec)

/-- ITS FALSE NEIGHBOUR: 'it returns false'. Refute it at one input. -/
def fnQuadsWrong : ChangeSpec := { name := "fnQuads", fn := fun _ => fun
  | [d] => { results := [.lit (.bool false)], args := [d] }
  | _ => none }
def FnQuadsWrongFalsely : Prop := fnQuadsRow.holds Try.pinned (OpenSpec.ofChange fnQuadsWrong)

/- THE SECOND FORM. 'bulk': how many values and letters a reading holds, each counted each time it is reached (what is shared counts as often as it is met; a slice's spare places count too). A statement '..UptoSaid' is the law's where the arguments, and the package variables that the reading takes, are together of bulk at most 1048576: NARROWER than '..Said'. Prove '..Said' where nothing that the law and all that it calls make is longer than what came in: it says more and counts as full. Else prove '..UptoSaid'. A law counts once. -/
mutual
def uptoBulk {H : Type} : DataW H → Nat
  | .lit (.string bytes) => bytes.length + 1
  | .lit _ => 1
  | .nil => 1
  | .ptr d => uptoBulk d + 1
  | .slice elems spare => uptoBulkAll elems + uptoBulkAll spare + 1
  | .agg parts => uptoBulkAll parts + 1
  | .iface _ d => uptoBulk d + 1
  | .map entries => uptoBulkEntries entries + 1
  | .held _ => 1
def uptoBulkAll {H : Type} : List (DataW H) → Nat
  | [] => 0
  | d :: r => uptoBulk d + uptoBulkAll r
def uptoBulkEntries {H : Type} : List (Lit × DataW H) → Nat
  | [] => 0
  | x :: r => uptoBulkEntry x + uptoBulkEntries r
def uptoBulkEntry {H : Type} : Lit × DataW H → Nat
  | (.string bytes, d) => bytes.length + uptoBulk d + 1
  | (_, d) => uptoBulk d + 1
 end
def uptoSmall : (H : Type) → List (DataW H) → Bool := fun _ ds => decide (uptoBulkAll ds ≤ 1048576)
def OpenSpec.upto (s : _root_.Go.ChangeSpec) : _root_.Go.OpenSpec := { _root_.Go.OpenSpec.ofChange s with cond := some uptoSmall }

/-- 'laws.FnIndexed', WHERE WHAT IT READS IS OF BULK AT MOST 1048576: true; the input reads as it did. -/
def fnIndexedUptoRow : OpenClaim := { program := "ytpenmheacpapaaa", sum := "1e6c440b9e9f92c9f79dd51001b1fac781d6fa33aa0851935e5ddfe1c64c76ec", func := "loop.example/g03230/laws.FnIndexed", spec := "fnIndexed", unfollowed := true, recurses := true, plainKeys := false, apart := false, narrowed := true }
def FnIndexedUptoSaid : Prop := fnIndexedUptoRow.holds Try.pinned (OpenSpec.upto fnIndexedSpec)

/-- 'laws.FnAscending', WHERE WHAT IT READS IS OF BULK AT MOST 1048576: true; the input reads as it did. -/
def fnAscendingUptoRow : OpenClaim := { program := "ytpenmheacpapaaa", sum := "1e6c440b9e9f92c9f79dd51001b1fac781d6fa33aa0851935e5ddfe1c64c76ec", func := "loop.example/g03230/laws.FnAscending", spec := "fnAscending", unfollowed := true, recurses := true, plainKeys := false, apart := false, narrowed := true }
def FnAscendingUptoSaid : Prop := fnAscendingUptoRow.holds Try.pinned (OpenSpec.upto fnAscendingSpec)

/-- 'laws.FnGreedy', WHERE WHAT IT READS IS OF BULK AT MOST 1048576: true; the input reads as it did. -/
def fnGreedyUptoRow : OpenClaim := { program := "ytpenmheacpapaaa", sum := "1e6c440b9e9f92c9f79dd51001b1fac781d6fa33aa0851935e5ddfe1c64c76ec", func := "loop.example/g03230/laws.FnGreedy", spec := "fnGreedy", unfollowed := true, recurses := true, plainKeys := false, apart := false, narrowed := true }
def FnGreedyUptoSaid : Prop := fnGreedyUptoRow.holds Try.pinned (OpenSpec.upto fnGreedySpec)

/-- 'laws.FnBest', WHERE WHAT IT READS IS OF BULK AT MOST 1048576: true; the input reads as it did. -/
def fnBestUptoRow : OpenClaim := { program := "ytpenmheacpapaaa", sum := "1e6c440b9e9f92c9f79dd51001b1fac781d6fa33aa0851935e5ddfe1c64c76ec", func := "loop.example/g03230/laws.FnBest", spec := "fnBest", unfollowed := true, recurses := true, plainKeys := false, apart := false, narrowed := true }
def FnBestUptoSaid : Prop := fnBestUptoRow.holds Try.pinned (OpenSpec.upto fnBestSpec)

/-- 'laws.FnLetters', WHERE WHAT IT READS IS OF BULK AT MOST 1048576: true; the input reads as it did. -/
def fnLettersUptoRow : OpenClaim := { program := "ytpenmheacpapaaa", sum := "1e6c440b9e9f92c9f79dd51001b1fac781d6fa33aa0851935e5ddfe1c64c76ec", func := "loop.example/g03230/laws.FnLetters", spec := "fnLetters", unfollowed := true, recurses := true, plainKeys := false, apart := false, narrowed := true }
def FnLettersUptoSaid : Prop := fnLettersUptoRow.holds Try.pinned (OpenSpec.upto fnLettersSpec)

/-- 'laws.FnWidths', WHERE WHAT IT READS IS OF BULK AT MOST 1048576: true; the input reads as it did. -/
def fnWidthsUptoRow : OpenClaim := { program := "ytpenmheacpapaaa", sum := "1e6c440b9e9f92c9f79dd51001b1fac781d6fa33aa0851935e5ddfe1c64c76ec", func := "loop.example/g03230/laws.FnWidths", spec := "fnWidths", unfollowed := true, recurses := true, plainKeys := false, apart := false, narrowed := true }
def FnWidthsUptoSaid : Prop := fnWidthsUptoRow.holds Try.pinned (OpenSpec.upto fnWidthsSpec)

/-- 'laws.FnExactTextOk', WHERE WHAT IT READS IS OF BULK AT MOST 1048576: true; the input reads as it did. -/
def fnExactTextOkUptoRow : OpenClaim := { program := "ytpenmheacpapaaa", sum := "1e6c440b9e9f92c9f79dd51001b1fac781d6fa33aa0851935e5ddfe1c64c76ec", func := "loop.example/g03230/laws.FnExactTextOk", spec := "fnExactTextOk", unfollowed := true, recurses := true, plainKeys := false, apart := false, narrowed := true }
def FnExactTextOkUptoSaid : Prop := fnExactTextOkUptoRow.holds Try.pinned (OpenSpec.upto fnExactTextOkSpec)

/-- 'laws.FnExactLineKind', WHERE WHAT IT READS IS OF BULK AT MOST 1048576: true; the input reads as it did. -/
def fnExactLineKindUptoRow : OpenClaim := { program := "ytpenmheacpapaaa", sum := "1e6c440b9e9f92c9f79dd51001b1fac781d6fa33aa0851935e5ddfe1c64c76ec", func := "loop.example/g03230/laws.FnExactLineKind", spec := "fnExactLineKind", unfollowed := true, recurses := true, plainKeys := false, apart := false, narrowed := true }
def FnExactLineKindUptoSaid : Prop := fnExactLineKindUptoRow.holds Try.pinned (OpenSpec.upto fnExactLineKindSpec)

/-- 'laws.FnExactIsBreaking', WHERE WHAT IT READS IS OF BULK AT MOST 1048576: true; the input reads as it did. -/
def fnExactIsBreakingUptoRow : OpenClaim := { program := "ytpenmheacpapaaa", sum := "1e6c440b9e9f92c9f79dd51001b1fac781d6fa33aa0851935e5ddfe1c64c76ec", func := "loop.example/g03230/laws.FnExactIsBreaking", spec := "fnExactIsBreaking", unfollowed := true, recurses := true, plainKeys := false, apart := false, narrowed := true }
def FnExactIsBreakingUptoSaid : Prop := fnExactIsBreakingUptoRow.holds Try.pinned (OpenSpec.upto fnExactIsBreakingSpec)

/-- 'laws.FnExactCostOf', WHERE WHAT IT READS IS OF BULK AT MOST 1048576: true; the input reads as it did. -/
def fnExactCostOfUptoRow : OpenClaim := { program := "ytpenmheacpapaaa", sum := "1e6c440b9e9f92c9f79dd51001b1fac781d6fa33aa0851935e5ddfe1c64c76ec", func := "loop.example/g03230/laws.FnExactCostOf", spec := "fnExactCostOf", unfollowed := true, recurses := true, plainKeys := false, apart := false, narrowed := true }
def FnExactCostOfUptoSaid : Prop := fnExactCostOfUptoRow.holds Try.pinned (OpenSpec.upto fnExactCostOfSpec)

/-- 'laws.FnExactCountBreakings', WHERE WHAT IT READS IS OF BULK AT MOST 1048576: true; the input reads as it did. -/
def fnExactCountBreakingsUptoRow : OpenClaim := { program := "ytpenmheacpapaaa", sum := "1e6c440b9e9f92c9f79dd51001b1fac781d6fa33aa0851935e5ddfe1c64c76ec", func := "loop.example/g03230/laws.FnExactCountBreakings", spec := "fnExactCountBreakings", unfollowed := true, recurses := true, plainKeys := false, apart := false, narrowed := true }
def FnExactCountBreakingsUptoSaid : Prop := fnExactCountBreakingsUptoRow.holds Try.pinned (OpenSpec.upto fnExactCountBreakingsSpec)

/-- 'laws.FnExactGreedyBreaking', WHERE WHAT IT READS IS OF BULK AT MOST 1048576: true; the input reads as it did. -/
def fnExactGreedyBreakingUptoRow : OpenClaim := { program := "ytpenmheacpapaaa", sum := "1e6c440b9e9f92c9f79dd51001b1fac781d6fa33aa0851935e5ddfe1c64c76ec", func := "loop.example/g03230/laws.FnExactGreedyBreaking", spec := "fnExactGreedyBreaking", unfollowed := true, recurses := true, plainKeys := false, apart := false, narrowed := true }
def FnExactGreedyBreakingUptoSaid : Prop := fnExactGreedyBreakingUptoRow.holds Try.pinned (OpenSpec.upto fnExactGreedyBreakingSpec)

/-- 'laws.FnExactBreakingAt', WHERE WHAT IT READS IS OF BULK AT MOST 1048576: true; the input reads as it did. -/
def fnExactBreakingAtUptoRow : OpenClaim := { program := "ytpenmheacpapaaa", sum := "1e6c440b9e9f92c9f79dd51001b1fac781d6fa33aa0851935e5ddfe1c64c76ec", func := "loop.example/g03230/laws.FnExactBreakingAt", spec := "fnExactBreakingAt", unfollowed := true, recurses := true, plainKeys := false, apart := false, narrowed := true }
def FnExactBreakingAtUptoSaid : Prop := fnExactBreakingAtUptoRow.holds Try.pinned (OpenSpec.upto fnExactBreakingAtSpec)

/-- 'laws.FnExactBreakingIndex', WHERE WHAT IT READS IS OF BULK AT MOST 1048576: true; the input reads as it did. -/
def fnExactBreakingIndexUptoRow : OpenClaim := { program := "ytpenmheacpapaaa", sum := "1e6c440b9e9f92c9f79dd51001b1fac781d6fa33aa0851935e5ddfe1c64c76ec", func := "loop.example/g03230/laws.FnExactBreakingIndex", spec := "fnExactBreakingIndex", unfollowed := true, recurses := true, plainKeys := false, apart := false, narrowed := true }
def FnExactBreakingIndexUptoSaid : Prop := fnExactBreakingIndexUptoRow.holds Try.pinned (OpenSpec.upto fnExactBreakingIndexSpec)

/-- 'laws.FnExactBestBreaking', WHERE WHAT IT READS IS OF BULK AT MOST 1048576: true; the input reads as it did. -/
def fnExactBestBreakingUptoRow : OpenClaim := { program := "ytpenmheacpapaaa", sum := "1e6c440b9e9f92c9f79dd51001b1fac781d6fa33aa0851935e5ddfe1c64c76ec", func := "loop.example/g03230/laws.FnExactBestBreaking", spec := "fnExactBestBreaking", unfollowed := true, recurses := true, plainKeys := false, apart := false, narrowed := true }
def FnExactBestBreakingUptoSaid : Prop := fnExactBestBreakingUptoRow.holds Try.pinned (OpenSpec.upto fnExactBestBreakingSpec)

/-- 'laws.FnExactWidthsFor', WHERE WHAT IT READS IS OF BULK AT MOST 1048576: true; the input reads as it did. -/
def fnExactWidthsForUptoRow : OpenClaim := { program := "ytpenmheacpapaaa", sum := "1e6c440b9e9f92c9f79dd51001b1fac781d6fa33aa0851935e5ddfe1c64c76ec", func := "loop.example/g03230/laws.FnExactWidthsFor", spec := "fnExactWidthsFor", unfollowed := true, recurses := true, plainKeys := false, apart := false, narrowed := true }
def FnExactWidthsForUptoSaid : Prop := fnExactWidthsForUptoRow.holds Try.pinned (OpenSpec.upto fnExactWidthsForSpec)

/-- 'laws.FnQuads', WHERE WHAT IT READS IS OF BULK AT MOST 1048576: true; the input reads as it did. -/
def fnQuadsUptoRow : OpenClaim := { program := "ytpenmheacpapaaa", sum := "1e6c440b9e9f92c9f79dd51001b1fac781d6fa33aa0851935e5ddfe1c64c76ec", func := "loop.example/g03230/laws.FnQuads", spec := "fnQuads", unfollowed := true, recurses := true, plainKeys := false, apart := false, narrowed := true }
def FnQuadsUptoSaid : Prop := fnQuadsUptoRow.holds Try.pinned (OpenSpec.upto fnQuadsSpec)

end Rows
end Go.Proofs.Ytpenmheacpapaaa
