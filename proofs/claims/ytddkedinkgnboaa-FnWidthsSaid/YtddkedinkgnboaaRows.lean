/-
  No cell of these rows narrows 'for every input' (looked for: loops, veiled, ifaces, maps, wideKeys, modest, calm, conditions, laid).
  DERIVED. THE GIVEN ROWS OF THIS SEAT. 11 by the template 'for every input the law returns true; each argument reads behind the call as it read before'; 0 by the template 'total and deterministic' (their statements: YtddkedinkgnboaaTotals.lean).
  GIVEN WITH THE SEED: the statements are not yours to turn. If you find one false, say at which input.
  Laid BY PROGRAM, IN A SANDBOX (cutbox-rows.mjs): the forced cells as the released guide's own fill.sh prints them over the translation 6a70eeaa84f70611… (all of the seat's roots in one cut). By AI agents, Wed Nov 11 2026. No macro, syntax, notation, axiom, sorry.
-/
import Derived.Test.YtddkedinkgnboaaChecked
import GoSem.Claim
import GoSem.ClaimJoined
import GoSem.ClaimMapViews
import Derived.JoinedTies
import Derived.KernelRfl
namespace Go.Proofs.Ytddkedinkgnboaa
/- THE CELL 'sum', in the pinned program and in every row, IS THE sha256 OF THE DUMP (.gsa) THAT YtddkedinkgnboaaProg.lean LOADS. Nothing in Lean hashes anything: it is a label: what it is worth is what the hold of that sum in a sandbox is worth. -/
noncomputable def Try.pinned : Pinned := { name := "ytddkedinkgnboaa", sum := "6a70eeaa84f7061177b7bdb92525ccd2258bddace78001d261b54378a216c8cb", checked := Try.checked }
namespace Rows
def none {H : Type} : Left H := { results := [], args := [] }

/-- 'laws.FnIndexed': WHATEVER THE INPUT: true; the input reads as it did. -/
def fnIndexedSpec : ChangeSpec := { name := "fnIndexed", fn := fun _ => fun
  | [d] => { results := [.lit (.bool true)], args := [d] }
  | _ => none }
def fnIndexedRow : OpenClaim := { program := "ytddkedinkgnboaa", sum := "6a70eeaa84f7061177b7bdb92525ccd2258bddace78001d261b54378a216c8cb", func := "loop.example/g03230/laws.FnIndexed", spec := "fnIndexed", unfollowed := true, recurses := true, plainKeys := false, apart := false }
def FnIndexedSaid : Prop := fnIndexedRow.holds Try.pinned (OpenSpec.ofChange fnIndexedSpec)

/-- ITS FALSE NEIGHBOUR: 'it returns false'. Refute it at one input. -/
def fnIndexedWrong : ChangeSpec := { name := "fnIndexed", fn := fun _ => fun
  | [d] => { results := [.lit (.bool false)], args := [d] }
  | _ => none }
def FnIndexedWrongFalsely : Prop := fnIndexedRow.holds Try.pinned (OpenSpec.ofChange fnIndexedWrong)

/-- 'laws.FnAscending': WHATEVER THE INPUT: true; the input reads as it did. -/
def fnAscendingSpec : ChangeSpec := { name := "fnAscending", fn := fun _ => fun
  | [d] => { results := [.lit (.bool true)], args := [d] }
  | _ => none }
def fnAscendingRow : OpenClaim := { program := "ytddkedinkgnboaa", sum := "6a70eeaa84f7061177b7bdb92525ccd2258bddace78001d261b54378a216c8cb", func := "loop.example/g03230/laws.FnAscending", spec := "fnAscending", unfollowed := true, recurses := true, plainKeys := false, apart := false }
def FnAscendingSaid : Prop := fnAscendingRow.holds Try.pinned (OpenSpec.ofChange fnAscendingSpec)

/-- ITS FALSE NEIGHBOUR: 'it returns false'. Refute it at one input. -/
def fnAscendingWrong : ChangeSpec := { name := "fnAscending", fn := fun _ => fun
  | [d] => { results := [.lit (.bool false)], args := [d] }
  | _ => none }
def FnAscendingWrongFalsely : Prop := fnAscendingRow.holds Try.pinned (OpenSpec.ofChange fnAscendingWrong)

/-- 'laws.FnGreedy': WHATEVER THE INPUT: true; the input reads as it did. -/
def fnGreedySpec : ChangeSpec := { name := "fnGreedy", fn := fun _ => fun
  | [d] => { results := [.lit (.bool true)], args := [d] }
  | _ => none }
def fnGreedyRow : OpenClaim := { program := "ytddkedinkgnboaa", sum := "6a70eeaa84f7061177b7bdb92525ccd2258bddace78001d261b54378a216c8cb", func := "loop.example/g03230/laws.FnGreedy", spec := "fnGreedy", unfollowed := true, recurses := true, plainKeys := false, apart := false }
def FnGreedySaid : Prop := fnGreedyRow.holds Try.pinned (OpenSpec.ofChange fnGreedySpec)

/-- ITS FALSE NEIGHBOUR: 'it returns false'. Refute it at one input. -/
def fnGreedyWrong : ChangeSpec := { name := "fnGreedy", fn := fun _ => fun
  | [d] => { results := [.lit (.bool false)], args := [d] }
  | _ => none }
def FnGreedyWrongFalsely : Prop := fnGreedyRow.holds Try.pinned (OpenSpec.ofChange fnGreedyWrong)

/-- 'laws.FnBest': WHATEVER THE INPUT: true; the input reads as it did. -/
def fnBestSpec : ChangeSpec := { name := "fnBest", fn := fun _ => fun
  | [d] => { results := [.lit (.bool true)], args := [d] }
  | _ => none }
def fnBestRow : OpenClaim := { program := "ytddkedinkgnboaa", sum := "6a70eeaa84f7061177b7bdb92525ccd2258bddace78001d261b54378a216c8cb", func := "loop.example/g03230/laws.FnBest", spec := "fnBest", unfollowed := true, recurses := true, plainKeys := false, apart := false }
def FnBestSaid : Prop := fnBestRow.holds Try.pinned (OpenSpec.ofChange fnBestSpec)

/-- ITS FALSE NEIGHBOUR: 'it returns false'. Refute it at one input. -/
def fnBestWrong : ChangeSpec := { name := "fnBest", fn := fun _ => fun
  | [d] => { results := [.lit (.bool false)], args := [d] }
  | _ => none }
def FnBestWrongFalsely : Prop := fnBestRow.holds Try.pinned (OpenSpec.ofChange fnBestWrong)

/-- 'laws.FnWidths': WHATEVER THE INPUT: true; the input reads as it did. -/
def fnWidthsSpec : ChangeSpec := { name := "fnWidths", fn := fun _ => fun
  | [d] => { results := [.lit (.bool true)], args := [d] }
  | _ => none }
def fnWidthsRow : OpenClaim := { program := "ytddkedinkgnboaa", sum := "6a70eeaa84f7061177b7bdb92525ccd2258bddace78001d261b54378a216c8cb", func := "loop.example/g03230/laws.FnWidths", spec := "fnWidths", unfollowed := true, recurses := true, plainKeys := false, apart := false }
def FnWidthsSaid : Prop := fnWidthsRow.holds Try.pinned (OpenSpec.ofChange fnWidthsSpec)

/-- ITS FALSE NEIGHBOUR: 'it returns false'. Refute it at one input. -/
def fnWidthsWrong : ChangeSpec := { name := "fnWidths", fn := fun _ => fun
  | [d] => { results := [.lit (.bool false)], args := [d] }
  | _ => none }
def FnWidthsWrongFalsely : Prop := fnWidthsRow.holds Try.pinned (OpenSpec.ofChange fnWidthsWrong)

/-- 'laws.FnExactCountBreakings': WHATEVER THE INPUT: true; the input reads as it did. -/
def fnExactCountBreakingsSpec : ChangeSpec := { name := "fnExactCountBreakings", fn := fun _ => fun
  | [d1, d2] => { results := [.lit (.bool true)], args := [d1, d2] }
  | _ => none }
def fnExactCountBreakingsRow : OpenClaim := { program := "ytddkedinkgnboaa", sum := "6a70eeaa84f7061177b7bdb92525ccd2258bddace78001d261b54378a216c8cb", func := "loop.example/g03230/laws.FnExactCountBreakings", spec := "fnExactCountBreakings", unfollowed := true, recurses := true, plainKeys := false, apart := false }
def FnExactCountBreakingsSaid : Prop := fnExactCountBreakingsRow.holds Try.pinned (OpenSpec.ofChange fnExactCountBreakingsSpec)

/-- ITS FALSE NEIGHBOUR: 'it returns false'. Refute it at one input. -/
def fnExactCountBreakingsWrong : ChangeSpec := { name := "fnExactCountBreakings", fn := fun _ => fun
  | [d1, d2] => { results := [.lit (.bool false)], args := [d1, d2] }
  | _ => none }
def FnExactCountBreakingsWrongFalsely : Prop := fnExactCountBreakingsRow.holds Try.pinned (OpenSpec.ofChange fnExactCountBreakingsWrong)

/-- 'laws.FnExactGreedyBreaking': WHATEVER THE INPUT: true; the input reads as it did. -/
def fnExactGreedyBreakingSpec : ChangeSpec := { name := "fnExactGreedyBreaking", fn := fun _ => fun
  | [d1, d2] => { results := [.lit (.bool true)], args := [d1, d2] }
  | _ => none }
def fnExactGreedyBreakingRow : OpenClaim := { program := "ytddkedinkgnboaa", sum := "6a70eeaa84f7061177b7bdb92525ccd2258bddace78001d261b54378a216c8cb", func := "loop.example/g03230/laws.FnExactGreedyBreaking", spec := "fnExactGreedyBreaking", unfollowed := true, recurses := true, plainKeys := false, apart := false }
def FnExactGreedyBreakingSaid : Prop := fnExactGreedyBreakingRow.holds Try.pinned (OpenSpec.ofChange fnExactGreedyBreakingSpec)

/-- ITS FALSE NEIGHBOUR: 'it returns false'. Refute it at one input. -/
def fnExactGreedyBreakingWrong : ChangeSpec := { name := "fnExactGreedyBreaking", fn := fun _ => fun
  | [d1, d2] => { results := [.lit (.bool false)], args := [d1, d2] }
  | _ => none }
def FnExactGreedyBreakingWrongFalsely : Prop := fnExactGreedyBreakingRow.holds Try.pinned (OpenSpec.ofChange fnExactGreedyBreakingWrong)

/-- 'laws.FnExactBreakingAt': WHATEVER THE INPUT: true; the input reads as it did. -/
def fnExactBreakingAtSpec : ChangeSpec := { name := "fnExactBreakingAt", fn := fun _ => fun
  | [d1, d2, d3] => { results := [.lit (.bool true)], args := [d1, d2, d3] }
  | _ => none }
def fnExactBreakingAtRow : OpenClaim := { program := "ytddkedinkgnboaa", sum := "6a70eeaa84f7061177b7bdb92525ccd2258bddace78001d261b54378a216c8cb", func := "loop.example/g03230/laws.FnExactBreakingAt", spec := "fnExactBreakingAt", unfollowed := true, recurses := true, plainKeys := false, apart := false }
def FnExactBreakingAtSaid : Prop := fnExactBreakingAtRow.holds Try.pinned (OpenSpec.ofChange fnExactBreakingAtSpec)

/-- ITS FALSE NEIGHBOUR: 'it returns false'. Refute it at one input. -/
def fnExactBreakingAtWrong : ChangeSpec := { name := "fnExactBreakingAt", fn := fun _ => fun
  | [d1, d2, d3] => { results := [.lit (.bool false)], args := [d1, d2, d3] }
  | _ => none }
def FnExactBreakingAtWrongFalsely : Prop := fnExactBreakingAtRow.holds Try.pinned (OpenSpec.ofChange fnExactBreakingAtWrong)

/-- 'laws.FnExactBreakingIndex': WHATEVER THE INPUT: true; the input reads as it did. -/
def fnExactBreakingIndexSpec : ChangeSpec := { name := "fnExactBreakingIndex", fn := fun _ => fun
  | [d1, d2, d3] => { results := [.lit (.bool true)], args := [d1, d2, d3] }
  | _ => none }
def fnExactBreakingIndexRow : OpenClaim := { program := "ytddkedinkgnboaa", sum := "6a70eeaa84f7061177b7bdb92525ccd2258bddace78001d261b54378a216c8cb", func := "loop.example/g03230/laws.FnExactBreakingIndex", spec := "fnExactBreakingIndex", unfollowed := true, recurses := true, plainKeys := false, apart := false }
def FnExactBreakingIndexSaid : Prop := fnExactBreakingIndexRow.holds Try.pinned (OpenSpec.ofChange fnExactBreakingIndexSpec)

/-- ITS FALSE NEIGHBOUR: 'it returns false'. Refute it at one input. -/
def fnExactBreakingIndexWrong : ChangeSpec := { name := "fnExactBreakingIndex", fn := fun _ => fun
  | [d1, d2, d3] => { results := [.lit (.bool false)], args := [d1, d2, d3] }
  | _ => none }
def FnExactBreakingIndexWrongFalsely : Prop := fnExactBreakingIndexRow.holds Try.pinned (OpenSpec.ofChange fnExactBreakingIndexWrong)

/-- 'laws.FnExactBestBreaking': WHATEVER THE INPUT: true; the input reads as it did. -/
def fnExactBestBreakingSpec : ChangeSpec := { name := "fnExactBestBreaking", fn := fun _ => fun
  | [d1, d2] => { results := [.lit (.bool true)], args := [d1, d2] }
  | _ => none }
def fnExactBestBreakingRow : OpenClaim := { program := "ytddkedinkgnboaa", sum := "6a70eeaa84f7061177b7bdb92525ccd2258bddace78001d261b54378a216c8cb", func := "loop.example/g03230/laws.FnExactBestBreaking", spec := "fnExactBestBreaking", unfollowed := true, recurses := true, plainKeys := false, apart := false }
def FnExactBestBreakingSaid : Prop := fnExactBestBreakingRow.holds Try.pinned (OpenSpec.ofChange fnExactBestBreakingSpec)

/-- ITS FALSE NEIGHBOUR: 'it returns false'. Refute it at one input. -/
def fnExactBestBreakingWrong : ChangeSpec := { name := "fnExactBestBreaking", fn := fun _ => fun
  | [d1, d2] => { results := [.lit (.bool false)], args := [d1, d2] }
  | _ => none }
def FnExactBestBreakingWrongFalsely : Prop := fnExactBestBreakingRow.holds Try.pinned (OpenSpec.ofChange fnExactBestBreakingWrong)

/-- 'laws.FnExactWidthsFor': WHATEVER THE INPUT: true; the input reads as it did. -/
def fnExactWidthsForSpec : ChangeSpec := { name := "fnExactWidthsFor", fn := fun _ => fun
  | [d1, d2, d3] => { results := [.lit (.bool true)], args := [d1, d2, d3] }
  | _ => none }
def fnExactWidthsForRow : OpenClaim := { program := "ytddkedinkgnboaa", sum := "6a70eeaa84f7061177b7bdb92525ccd2258bddace78001d261b54378a216c8cb", func := "loop.example/g03230/laws.FnExactWidthsFor", spec := "fnExactWidthsFor", unfollowed := true, recurses := true, plainKeys := false, apart := false }
def FnExactWidthsForSaid : Prop := fnExactWidthsForRow.holds Try.pinned (OpenSpec.ofChange fnExactWidthsForSpec)

/-- ITS FALSE NEIGHBOUR: 'it returns false'. Refute it at one input. -/
def fnExactWidthsForWrong : ChangeSpec := { name := "fnExactWidthsFor", fn := fun _ => fun
  | [d1, d2, d3] => { results := [.lit (.bool false)], args := [d1, d2, d3] }
  | _ => none }
def FnExactWidthsForWrongFalsely : Prop := fnExactWidthsForRow.holds Try.pinned (OpenSpec.ofChange fnExactWidthsForWrong)

/- THE SECOND FORM. 'bulk': how many values and letters a reading holds, each counted each time it is reached (what is shared counts as often as it is met; a slice's spare places count too). A statement '..UptoSaid' is the law's where the arguments, and the package variables that the reading takes, are together of bulk at most 1048576: NARROWER than '..Said'. Prove '..Said' where nothing that the law and all that it calls make is longer than what came in: it says more and counts as full. Else prove '..UptoSaid'. A law counts once. -/
mutual
def uptoBulk {H : Type} : DataW H → Nat
  | .lit (.string bytes) => bytes.length + 1
  | .lit _ => 1
  | .nil => 1
  | .ptr d => uptoBulk d + 1
  | .slice elems spare => uptoBulkAll elems + uptoBulkAll spare + 1
  | .agg parts => uptoBulkAll parts + 1
  | .iface _ d => uptoBulk d + 1
  | .map entries => uptoBulkEntries entries + 1
  | .held _ => 1
def uptoBulkAll {H : Type} : List (DataW H) → Nat
  | [] => 0
  | d :: r => uptoBulk d + uptoBulkAll r
def uptoBulkEntries {H : Type} : List (Lit × DataW H) → Nat
  | [] => 0
  | x :: r => uptoBulkEntry x + uptoBulkEntries r
def uptoBulkEntry {H : Type} : Lit × DataW H → Nat
  | (.string bytes, d) => bytes.length + uptoBulk d + 1
  | (_, d) => uptoBulk d + 1
 end
def uptoSmall : (H : Type) → List (DataW H) → Bool := fun _ ds => decide (uptoBulkAll ds ≤ 1048576)
def OpenSpec.upto (s : _root_.Go.ChangeSpec) : _root_.Go.OpenSpec := { _root_.Go.OpenSpec.ofChange s with cond := some uptoSmall }

/-- 'laws.FnIndexed', WHERE WHAT IT READS IS OF BULK AT MOST 1048576: true; the input reads as it did. -/
def fnIndexedUptoRow : OpenClaim := { program := "ytddkedinkgnboaa", sum := "6a70eeaa84f7061177b7bdb92525ccd2258bddace78001d261b54378a216c8cb", func := "loop.example/g03230/laws.FnIndexed", spec := "fnIndexed", unfollowed := true, recurses := true, plainKeys := false, apart := false, narrowed := true }
def FnIndexedUptoSaid : Prop := fnIndexedUptoRow.holds Try.pinned (OpenSpec.upto fnIndexedSpec)

/-- 'laws.FnAscending', WHERE WHAT IT READS IS OF BULK AT MOST 1048576: true; the input reads as it did. -/
def fnAscendingUptoRow : OpenClaim := { program := "ytddkedinkgnboaa", sum := "6a70eeaa84f7061177b7bdb92525ccd2258bddace78001d261b54378a216c8cb", func := "loop.example/g03230/laws.FnAscending", spec := "fnAscending", unfollowed := true, recurses := true, plainKeys := false, apart := false, narrowed := true }
def FnAscendingUptoSaid : Prop := fnAscendingUptoRow.holds Try.pinned (OpenSpec.upto fnAscendingSpec)

/-- 'laws.FnGreedy', WHERE WHAT IT READS IS OF BULK AT MOST 1048576: true; the input reads as it did. -/
def fnGreedyUptoRow : OpenClaim := { program := "ytddkedinkgnboaa", sum := "6a70eeaa84f7061177b7bdb92525ccd2258bddace78001d261b54378a216c8cb", func := "loop.example/g03230/laws.FnGreedy", spec := "fnGreedy", unfollowed := true, recurses := true, plainKeys := false, apart := false, narrowed := true }
def FnGreedyUptoSaid : Prop := fnGreedyUptoRow.holds Try.pinned (OpenSpec.upto fnGreedySpec)

/-- 'laws.FnBest', WHERE WHAT IT READS IS OF BULK AT MOST 1048576: true; the input reads as it did. -/
def fnBestUptoRow : OpenClaim := { program := "ytddkedinkgnboaa", sum := "6a70eeaa84f7061177b7bdb92525ccd2258bddace78001d261b54378a216c8cb", func := "loop.example/g03230/laws.FnBest", spec := "fnBest", unfollowed := true, recurses := true, plainKeys := false, apart := false, narrowed := true }
def FnBestUptoSaid : Prop := fnBestUptoRow.holds Try.pinned (OpenSpec.upto fnBestSpec)

/-- 'laws.FnWidths', WHERE WHAT IT READS IS OF BULK AT MOST 1048576: true; the input reads as it did. -/
def fnWidthsUptoRow : OpenClaim := { program := "ytddkedinkgnboaa", sum := "6a70eeaa84f7061177b7bdb92525ccd2258bddace78001d261b54378a216c8cb", func := "loop.example/g03230/laws.FnWidths", spec := "fnWidths", unfollowed := true, recurses := true, plainKeys := false, apart := false, narrowed := true }
def FnWidthsUptoSaid : Prop := fnWidthsUptoRow.holds Try.pinned (OpenSpec.upto fnWidthsSpec)

/-- 'laws.FnExactCountBreakings', WHERE WHAT IT READS IS OF BULK AT MOST 1048576: true; the input reads as it did. -/
def fnExactCountBreakingsUptoRow : OpenClaim := { program := "ytddkedinkgnboaa", sum := "6a70eeaa84f7061177b7bdb92525ccd2258bddace78001d261b54378a216c8cb", func := "loop.example/g03230/laws.FnExactCountBreakings", spec := "fnExactCountBreakings", unfollowed := true, recurses := true, plainKeys := false, apart := false, narrowed := true }
def FnExactCountBreakingsUptoSaid : Prop := fnExactCountBreakingsUptoRow.holds Try.pinned (OpenSpec.upto fnExactCountBreakingsSpec)

/-- 'laws.FnExactGreedyBreaking', WHERE WHAT IT READS IS OF BULK AT MOST 1048576: true; the input reads as it did. -/
def fnExactGreedyBreakingUptoRow : OpenClaim := { program := "ytddkedinkgnboaa", sum := "6a70eeaa84f7061177b7bdb92525ccd2258bddace78001d261b54378a216c8cb", func := "loop.example/g03230/laws.FnExactGreedyBreaking", spec := "fnExactGreedyBreaking", unfollowed := true, recurses := true, plainKeys := false, apart := false, narrowed := true }
def FnExactGreedyBreakingUptoSaid : Prop := fnExactGreedyBreakingUptoRow.holds Try.pinned (OpenSpec.upto fnExactGreedyBreakingSpec)

/-- 'laws.FnExactBreakingAt', WHERE WHAT IT READS IS OF BULK AT MOST 1048576: true; the input reads as it did. -/
def fnExactBreakingAtUptoRow : OpenClaim := { program := "ytddkedinkgnboaa", sum := "6a70eeaa84f7061177b7bdb92525ccd2258bddace78001d261b54378a216c8cb", func := "loop.example/g03230/laws.FnExactBreakingAt", spec := "fnExactBreakingAt", unfollowed := true, recurses := true, plainKeys := false, apart := false, narrowed := true }
def FnExactBreakingAtUptoSaid : Prop := fnExactBreakingAtUptoRow.holds Try.pinned (OpenSpec.upto fnExactBreakingAtSpec)

/-- 'laws.FnExactBreakingIndex', WHERE WHAT IT READS IS OF BULK AT MOST 1048576: true; the input reads as it did. -/
def fnExactBreakingIndexUptoRow : OpenClaim := { program := "ytddkedinkgnboaa", sum := "6a70eeaa84f7061177b7bdb92525ccd2258bddace78001d261b54378a216c8cb", func := "loop.example/g03230/laws.FnExactBreakingIndex", spec := "fnExactBreakingIndex", unfollowed := true, recurses := true, plainKeys := false, apart := false, narrowed := true }
def FnExactBreakingIndexUptoSaid : Prop := fnExactBreakingIndexUptoRow.holds Try.pinned (OpenSpec.upto fnExactBreakingIndexSpec)

/-- 'laws.FnExactBestBreaking', WHERE WHAT IT READS IS OF BULK AT MOST 1048576: true; the input reads as it did. -/
def fnExactBestBreakingUptoRow : OpenClaim := { program := "ytddkedinkgnboaa", sum := "6a70eeaa84f7061177b7bdb92525ccd2258bddace78001d261b54378a216c8cb", func := "loop.example/g03230/laws.FnExactBestBreaking", spec := "fnExactBestBreaking", unfollowed := true, recurses := true, plainKeys := false, apart := false, narrowed := true }
def FnExactBestBreakingUptoSaid : Prop := fnExactBestBreakingUptoRow.holds Try.pinned (OpenSpec.upto fnExactBestBreakingSpec)

/-- 'laws.FnExactWidthsFor', WHERE WHAT IT READS IS OF BULK AT MOST 1048576: true; the input reads as it did. -/
def fnExactWidthsForUptoRow : OpenClaim := { program := "ytddkedinkgnboaa", sum := "6a70eeaa84f7061177b7bdb92525ccd2258bddace78001d261b54378a216c8cb", func := "loop.example/g03230/laws.FnExactWidthsFor", spec := "fnExactWidthsFor", unfollowed := true, recurses := true, plainKeys := false, apart := false, narrowed := true }
def FnExactWidthsForUptoSaid : Prop := fnExactWidthsForUptoRow.holds Try.pinned (OpenSpec.upto fnExactWidthsForSpec)

end Rows
end Go.Proofs.Ytddkedinkgnboaa
