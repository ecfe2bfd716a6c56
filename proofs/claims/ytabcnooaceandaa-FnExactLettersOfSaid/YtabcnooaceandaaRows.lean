/-
  No cell of these rows narrows 'for every input' (looked for: loops, veiled, ifaces, maps, wideKeys, modest, calm, conditions, laid).
  DERIVED. THE GIVEN ROWS OF THIS SEAT. 12 by the template 'for every input the law returns true; each argument reads behind the call as it read before'; 0 by the template 'total and deterministic' (their statements: YtabcnooaceandaaTotals.lean).
  GIVEN WITH THE SEED: the statements are not yours to turn. If you find one false, say at which input.
  Laid BY PROGRAM, IN A SANDBOX (cutbox-rows.mjs): the forced cells as the released guide's own fill.sh prints them over the translation 9c4378b502beb3c9… (all of the seat's roots in one cut). By AI agents, Wed Nov 11 2026. No macro, syntax, notation, axiom, sorry.
-/
import Derived.Test.YtabcnooaceandaaChecked
import GoSem.Claim
import GoSem.ClaimJoined
import GoSem.ClaimMapViews
import Derived.JoinedTies
import Derived.KernelRfl
namespace Go.Proofs.Ytabcnooaceandaa
/- THE CELL 'sum', in the pinned program and in every row, IS THE sha256 OF THE DUMP (.gsa) THAT YtabcnooaceandaaProg.lean LOADS. Nothing in Lean hashes anything: it is a label: what it is worth is what the hold of that sum in a sandbox is worth. -/
noncomputable def Try.pinned : Pinned := { name := "ytabcnooaceandaa", sum := "9c4378b502beb3c9c75ffa26e4d7b65717f4b02bb61cf6143a9e91abd280027e", checked := Try.checked }
namespace Rows
def none {H : Type} : Left H := { results := [], args := [] }

/-- 'laws.FnWorn': WHATEVER THE INPUT: true; the input reads as it did. -/
def fnWornSpec : ChangeSpec := { name := "fnWorn", fn := fun _ => fun
  | [d] => { results := [.lit (.bool true)], args := [d] }
  | _ => none }
def fnWornRow : OpenClaim := { program := "ytabcnooaceandaa", sum := "9c4378b502beb3c9c75ffa26e4d7b65717f4b02bb61cf6143a9e91abd280027e", func := "loop.example/g03230/laws.FnWorn", spec := "fnWorn", unfollowed := true, recurses := true, apart := false }
def FnWornSaid : Prop := fnWornRow.holds Try.pinned (OpenSpec.ofChange fnWornSpec)

/-- ITS FALSE NEIGHBOUR: 'it returns false'. Refute it at one input. -/
def fnWornWrong : ChangeSpec := { name := "fnWorn", fn := fun _ => fun
  | [d] => { results := [.lit (.bool false)], args := [d] }
  | _ => none }
def FnWornWrongFalsely : Prop := fnWornRow.holds Try.pinned (OpenSpec.ofChange fnWornWrong)

/-- 'laws.FnStocked': WHATEVER THE INPUT: true; the input reads as it did. -/
def fnStockedSpec : ChangeSpec := { name := "fnStocked", fn := fun _ => fun
  | [d] => { results := [.lit (.bool true)], args := [d] }
  | _ => none }
def fnStockedRow : OpenClaim := { program := "ytabcnooaceandaa", sum := "9c4378b502beb3c9c75ffa26e4d7b65717f4b02bb61cf6143a9e91abd280027e", func := "loop.example/g03230/laws.FnStocked", spec := "fnStocked", unfollowed := true, recurses := true, apart := false }
def FnStockedSaid : Prop := fnStockedRow.holds Try.pinned (OpenSpec.ofChange fnStockedSpec)

/-- ITS FALSE NEIGHBOUR: 'it returns false'. Refute it at one input. -/
def fnStockedWrong : ChangeSpec := { name := "fnStocked", fn := fun _ => fun
  | [d] => { results := [.lit (.bool false)], args := [d] }
  | _ => none }
def FnStockedWrongFalsely : Prop := fnStockedRow.holds Try.pinned (OpenSpec.ofChange fnStockedWrong)

/-- 'laws.FnExactFontOk': WHATEVER THE INPUT: true; the input reads as it did. -/
def fnExactFontOkSpec : ChangeSpec := { name := "fnExactFontOk", fn := fun _ => fun
  | [d] => { results := [.lit (.bool true)], args := [d] }
  | _ => none }
def fnExactFontOkRow : OpenClaim := { program := "ytabcnooaceandaa", sum := "9c4378b502beb3c9c75ffa26e4d7b65717f4b02bb61cf6143a9e91abd280027e", func := "loop.example/g03230/laws.FnExactFontOk", spec := "fnExactFontOk", unfollowed := true, recurses := true, apart := false }
def FnExactFontOkSaid : Prop := fnExactFontOkRow.holds Try.pinned (OpenSpec.ofChange fnExactFontOkSpec)

/-- ITS FALSE NEIGHBOUR: 'it returns false'. Refute it at one input. -/
def fnExactFontOkWrong : ChangeSpec := { name := "fnExactFontOk", fn := fun _ => fun
  | [d] => { results := [.lit (.bool false)], args := [d] }
  | _ => none }
def FnExactFontOkWrongFalsely : Prop := fnExactFontOkRow.holds Try.pinned (OpenSpec.ofChange fnExactFontOkWrong)

/-- 'laws.FnExactKeyOf': WHATEVER THE INPUT: true; the input reads as it did. -/
def fnExactKeyOfSpec : ChangeSpec := { name := "fnExactKeyOf", fn := fun _ => fun
  | [d1, d2] => { results := [.lit (.bool true)], args := [d1, d2] }
  | _ => none }
def fnExactKeyOfRow : OpenClaim := { program := "ytabcnooaceandaa", sum := "9c4378b502beb3c9c75ffa26e4d7b65717f4b02bb61cf6143a9e91abd280027e", func := "loop.example/g03230/laws.FnExactKeyOf", spec := "fnExactKeyOf", unfollowed := true, recurses := true, apart := false }
def FnExactKeyOfSaid : Prop := fnExactKeyOfRow.holds Try.pinned (OpenSpec.ofChange fnExactKeyOfSpec)

/-- ITS FALSE NEIGHBOUR: 'it returns false'. Refute it at one input. -/
def fnExactKeyOfWrong : ChangeSpec := { name := "fnExactKeyOf", fn := fun _ => fun
  | [d1, d2] => { results := [.lit (.bool false)], args := [d1, d2] }
  | _ => none }
def FnExactKeyOfWrongFalsely : Prop := fnExactKeyOfRow.holds Try.pinned (OpenSpec.ofChange fnExactKeyOfWrong)

/-- 'laws.FnExactMatrixOk': WHATEVER THE INPUT: true; the input reads as it did. -/
def fnExactMatrixOkSpec : ChangeSpec := { name := "fnExactMatrixOk", fn := fun _ => fun
  | [d1, d2] => { results := [.lit (.bool true)], args := [d1, d2] }
  | _ => none }
def fnExactMatrixOkRow : OpenClaim := { program := "ytabcnooaceandaa", sum := "9c4378b502beb3c9c75ffa26e4d7b65717f4b02bb61cf6143a9e91abd280027e", func := "loop.example/g03230/laws.FnExactMatrixOk", spec := "fnExactMatrixOk", unfollowed := true, recurses := true, apart := false }
def FnExactMatrixOkSaid : Prop := fnExactMatrixOkRow.holds Try.pinned (OpenSpec.ofChange fnExactMatrixOkSpec)

/-- ITS FALSE NEIGHBOUR: 'it returns false'. Refute it at one input. -/
def fnExactMatrixOkWrong : ChangeSpec := { name := "fnExactMatrixOk", fn := fun _ => fun
  | [d1, d2] => { results := [.lit (.bool false)], args := [d1, d2] }
  | _ => none }
def FnExactMatrixOkWrongFalsely : Prop := fnExactMatrixOkRow.holds Try.pinned (OpenSpec.ofChange fnExactMatrixOkWrong)

/-- 'laws.FnExactMagazineOk': WHATEVER THE INPUT: true; the input reads as it did. -/
def fnExactMagazineOkSpec : ChangeSpec := { name := "fnExactMagazineOk", fn := fun _ => fun
  | [d1, d2] => { results := [.lit (.bool true)], args := [d1, d2] }
  | _ => none }
def fnExactMagazineOkRow : OpenClaim := { program := "ytabcnooaceandaa", sum := "9c4378b502beb3c9c75ffa26e4d7b65717f4b02bb61cf6143a9e91abd280027e", func := "loop.example/g03230/laws.FnExactMagazineOk", spec := "fnExactMagazineOk", unfollowed := true, recurses := true, apart := false }
def FnExactMagazineOkSaid : Prop := fnExactMagazineOkRow.holds Try.pinned (OpenSpec.ofChange fnExactMagazineOkSpec)

/-- ITS FALSE NEIGHBOUR: 'it returns false'. Refute it at one input. -/
def fnExactMagazineOkWrong : ChangeSpec := { name := "fnExactMagazineOk", fn := fun _ => fun
  | [d1, d2] => { results := [.lit (.bool false)], args := [d1, d2] }
  | _ => none }
def FnExactMagazineOkWrongFalsely : Prop := fnExactMagazineOkRow.holds Try.pinned (OpenSpec.ofChange fnExactMagazineOkWrong)

/-- 'laws.FnExactFillMagazine': WHATEVER THE INPUT: true; the input reads as it did. -/
def fnExactFillMagazineSpec : ChangeSpec := { name := "fnExactFillMagazine", fn := fun _ => fun
  | [d1, d2] => { results := [.lit (.bool true)], args := [d1, d2] }
  | _ => none }
def fnExactFillMagazineRow : OpenClaim := { program := "ytabcnooaceandaa", sum := "9c4378b502beb3c9c75ffa26e4d7b65717f4b02bb61cf6143a9e91abd280027e", func := "loop.example/g03230/laws.FnExactFillMagazine", spec := "fnExactFillMagazine", unfollowed := true, recurses := true, apart := false }
def FnExactFillMagazineSaid : Prop := fnExactFillMagazineRow.holds Try.pinned (OpenSpec.ofChange fnExactFillMagazineSpec)

/-- ITS FALSE NEIGHBOUR: 'it returns false'. Refute it at one input. -/
def fnExactFillMagazineWrong : ChangeSpec := { name := "fnExactFillMagazine", fn := fun _ => fun
  | [d1, d2] => { results := [.lit (.bool false)], args := [d1, d2] }
  | _ => none }
def FnExactFillMagazineWrongFalsely : Prop := fnExactFillMagazineRow.holds Try.pinned (OpenSpec.ofChange fnExactFillMagazineWrong)

/-- 'laws.FnExactWearMatrix': WHATEVER THE INPUT: true; the input reads as it did. -/
def fnExactWearMatrixSpec : ChangeSpec := { name := "fnExactWearMatrix", fn := fun _ => fun
  | [d1, d2, d3, d4, d5] => { results := [.lit (.bool true)], args := [d1, d2, d3, d4, d5] }
  | _ => none }
def fnExactWearMatrixRow : OpenClaim := { program := "ytabcnooaceandaa", sum := "9c4378b502beb3c9c75ffa26e4d7b65717f4b02bb61cf6143a9e91abd280027e", func := "loop.example/g03230/laws.FnExactWearMatrix", spec := "fnExactWearMatrix", unfollowed := true, recurses := true, apart := false }
def FnExactWearMatrixSaid : Prop := fnExactWearMatrixRow.holds Try.pinned (OpenSpec.ofChange fnExactWearMatrixSpec)

/-- ITS FALSE NEIGHBOUR: 'it returns false'. Refute it at one input. -/
def fnExactWearMatrixWrong : ChangeSpec := { name := "fnExactWearMatrix", fn := fun _ => fun
  | [d1, d2, d3, d4, d5] => { results := [.lit (.bool false)], args := [d1, d2, d3, d4, d5] }
  | _ => none }
def FnExactWearMatrixWrongFalsely : Prop := fnExactWearMatrixRow.holds Try.pinned (OpenSpec.ofChange fnExactWearMatrixWrong)

/-- 'laws.FnExactKindCounts': WHATEVER THE INPUT: true; the input reads as it did. -/
def fnExactKindCountsSpec : ChangeSpec := { name := "fnExactKindCounts", fn := fun _ => fun
  | [d1, d2] => { results := [.lit (.bool true)], args := [d1, d2] }
  | _ => none }
def fnExactKindCountsRow : OpenClaim := { program := "ytabcnooaceandaa", sum := "9c4378b502beb3c9c75ffa26e4d7b65717f4b02bb61cf6143a9e91abd280027e", func := "loop.example/g03230/laws.FnExactKindCounts", spec := "fnExactKindCounts", unfollowed := true, recurses := true, apart := false }
def FnExactKindCountsSaid : Prop := fnExactKindCountsRow.holds Try.pinned (OpenSpec.ofChange fnExactKindCountsSpec)

/-- ITS FALSE NEIGHBOUR: 'it returns false'. Refute it at one input. -/
def fnExactKindCountsWrong : ChangeSpec := { name := "fnExactKindCounts", fn := fun _ => fun
  | [d1, d2] => { results := [.lit (.bool false)], args := [d1, d2] }
  | _ => none }
def FnExactKindCountsWrongFalsely : Prop := fnExactKindCountsRow.holds Try.pinned (OpenSpec.ofChange fnExactKindCountsWrong)

/-- 'laws.FnExactCountStrays': WHATEVER THE INPUT: true; the input reads as it did. -/
def fnExactCountStraysSpec : ChangeSpec := { name := "fnExactCountStrays", fn := fun _ => fun
  | [d1, d2] => { results := [.lit (.bool true)], args := [d1, d2] }
  | _ => none }
def fnExactCountStraysRow : OpenClaim := { program := "ytabcnooaceandaa", sum := "9c4378b502beb3c9c75ffa26e4d7b65717f4b02bb61cf6143a9e91abd280027e", func := "loop.example/g03230/laws.FnExactCountStrays", spec := "fnExactCountStrays", unfollowed := true, recurses := true, apart := false }
def FnExactCountStraysSaid : Prop := fnExactCountStraysRow.holds Try.pinned (OpenSpec.ofChange fnExactCountStraysSpec)

/-- ITS FALSE NEIGHBOUR: 'it returns false'. Refute it at one input. -/
def fnExactCountStraysWrong : ChangeSpec := { name := "fnExactCountStrays", fn := fun _ => fun
  | [d1, d2] => { results := [.lit (.bool false)], args := [d1, d2] }
  | _ => none }
def FnExactCountStraysWrongFalsely : Prop := fnExactCountStraysRow.holds Try.pinned (OpenSpec.ofChange fnExactCountStraysWrong)

/-- 'laws.FnExactCountWorn': WHATEVER THE INPUT: true; the input reads as it did. -/
def fnExactCountWornSpec : ChangeSpec := { name := "fnExactCountWorn", fn := fun _ => fun
  | [d1, d2] => { results := [.lit (.bool true)], args := [d1, d2] }
  | _ => none }
def fnExactCountWornRow : OpenClaim := { program := "ytabcnooaceandaa", sum := "9c4378b502beb3c9c75ffa26e4d7b65717f4b02bb61cf6143a9e91abd280027e", func := "loop.example/g03230/laws.FnExactCountWorn", spec := "fnExactCountWorn", unfollowed := true, recurses := true, apart := false }
def FnExactCountWornSaid : Prop := fnExactCountWornRow.holds Try.pinned (OpenSpec.ofChange fnExactCountWornSpec)

/-- ITS FALSE NEIGHBOUR: 'it returns false'. Refute it at one input. -/
def fnExactCountWornWrong : ChangeSpec := { name := "fnExactCountWorn", fn := fun _ => fun
  | [d1, d2] => { results := [.lit (.bool false)], args := [d1, d2] }
  | _ => none }
def FnExactCountWornWrongFalsely : Prop := fnExactCountWornRow.holds Try.pinned (OpenSpec.ofChange fnExactCountWornWrong)

/-- 'laws.FnExactLettersOf': WHATEVER THE INPUT: true; the input reads as it did. -/
def fnExactLettersOfSpec : ChangeSpec := { name := "fnExactLettersOf", fn := fun _ => fun
  | [d1, d2] => { results := [.lit (.bool true)], args := [d1, d2] }
  | _ => none }
def fnExactLettersOfRow : OpenClaim := { program := "ytabcnooaceandaa", sum := "9c4378b502beb3c9c75ffa26e4d7b65717f4b02bb61cf6143a9e91abd280027e", func := "loop.example/g03230/laws.FnExactLettersOf", spec := "fnExactLettersOf", unfollowed := true, recurses := true, apart := false }
def FnExactLettersOfSaid : Prop := fnExactLettersOfRow.holds Try.pinned (OpenSpec.ofChange fnExactLettersOfSpec)

/-- ITS FALSE NEIGHBOUR: 'it returns false'. Refute it at one input. -/
def fnExactLettersOfWrong : ChangeSpec := { name := "fnExactLettersOf", fn := fun _ => fun
  | [d1, d2] => { results := [.lit (.bool false)], args := [d1, d2] }
  | _ => none }
def FnExactLettersOfWrongFalsely : Prop := fnExactLettersOfRow.holds Try.pinned (OpenSpec.ofChange fnExactLettersOfWrong)

/- THE SECOND FORM. 'bulk': how many values and letters a reading holds, each counted each time it is reached (what is shared counts as often as it is met; a slice's spare places count too). A statement '..UptoSaid' is the law's where the arguments, and the package variables that the reading takes, are together of bulk at most 1048576: NARROWER than '..Said'. Prove '..Said' where nothing that the law and all that it calls make is longer than what came in: it says more and counts as full. Else prove '..UptoSaid'. A law counts once. -/
mutual
def uptoBulk {H : Type} : DataW H → Nat
  | .lit (.string bytes) => bytes.length + 1
  | .lit _ => 1
  | .nil => 1
  | .ptr d => uptoBulk d + 1
  | .slice elems spare => uptoBulkAll elems + uptoBulkAll spare + 1
  | .agg parts => uptoBulkAll parts + 1
  | .iface _ d => uptoBulk d + 1
  | .map entries => uptoBulkEntries entries + 1
  | .held _ => 1
def uptoBulkAll {H : Type} : List (DataW H) → Nat
  | [] => 0
  | d :: r => uptoBulk d + uptoBulkAll r
def uptoBulkEntries {H : Type} : List (Lit × DataW H) → Nat
  | [] => 0
  | x :: r => uptoBulkEntry x + uptoBulkEntries r
def uptoBulkEntry {H : Type} : Lit × DataW H → Nat
  | (.string bytes, d) => bytes.length + uptoBulk d + 1
  | (_, d) => uptoBulk d + 1
 end
def uptoSmall : (H : Type) → List (DataW H) → Bool := fun _ ds => decide (uptoBulkAll ds ≤ 1048576)
def OpenSpec.upto (s : _root_.Go.ChangeSpec) : _root_.Go.OpenSpec := { _root_.Go.OpenSpec.ofChange s with cond := some uptoSmall }

/-- 'laws.FnWorn', WHERE WHAT IT READS IS OF BULK AT MOST 1048576: true; the input reads as it did. -/
def fnWornUptoRow : OpenClaim := { program := "ytabcnooaceandaa", sum := "9c4378b502beb3c9c75ffa26e4d7b65717f4b02bb61cf6143a9e91abd280027e", func := "loop.example/g03230/laws.FnWorn", spec := "fnWorn", unfollowed := true, recurses := true, apart := false, narrowed := true }
def FnWornUptoSaid : Prop := fnWornUptoRow.holds Try.pinned (OpenSpec.upto fnWornSpec)

/-- 'laws.FnStocked', WHERE WHAT IT READS IS OF BULK AT MOST 1048576: true; the input reads as it did. -/
def fnStockedUptoRow : OpenClaim := { program := "ytabcnooaceandaa", sum := "9c4378b502beb3c9c75ffa26e4d7b65717f4b02bb61cf6143a9e91abd280027e", func := "loop.example/g03230/laws.FnStocked", spec := "fnStocked", unfollowed := true, recurses := true, apart := false, narrowed := true }
def FnStockedUptoSaid : Prop := fnStockedUptoRow.holds Try.pinned (OpenSpec.upto fnStockedSpec)

/-- 'laws.FnExactFontOk', WHERE WHAT IT READS IS OF BULK AT MOST 1048576: true; the input reads as it did. -/
def fnExactFontOkUptoRow : OpenClaim := { program := "ytabcnooaceandaa", sum := "9c4378b502beb3c9c75ffa26e4d7b65717f4b02bb61cf6143a9e91abd280027e", func := "loop.example/g03230/laws.FnExactFontOk", spec := "fnExactFontOk", unfollowed := true, recurses := true, apart := false, narrowed := true }
def FnExactFontOkUptoSaid : Prop := fnExactFontOkUptoRow.holds Try.pinned (OpenSpec.upto fnExactFontOkSpec)

/-- 'laws.FnExactKeyOf', WHERE WHAT IT READS IS OF BULK AT MOST 1048576: true; the input reads as it did. -/
def fnExactKeyOfUptoRow : OpenClaim := { program := "ytabcnooaceandaa", sum := "9c4378b502beb3c9c75ffa26e4d7b65717f4b02bb61cf6143a9e91abd280027e", func := "loop.example/g03230/laws.FnExactKeyOf", spec := "fnExactKeyOf", unfollowed := true, recurses := true, apart := false, narrowed := true }
def FnExactKeyOfUptoSaid : Prop := fnExactKeyOfUptoRow.holds Try.pinned (OpenSpec.upto fnExactKeyOfSpec)

/-- 'laws.FnExactMatrixOk', WHERE WHAT IT READS IS OF BULK AT MOST 1048576: true; the input reads as it did. -/
def fnExactMatrixOkUptoRow : OpenClaim := { program := "ytabcnooaceandaa", sum := "9c4378b502beb3c9c75ffa26e4d7b65717f4b02bb61cf6143a9e91abd280027e", func := "loop.example/g03230/laws.FnExactMatrixOk", spec := "fnExactMatrixOk", unfollowed := true, recurses := true, apart := false, narrowed := true }
def FnExactMatrixOkUptoSaid : Prop := fnExactMatrixOkUptoRow.holds Try.pinned (OpenSpec.upto fnExactMatrixOkSpec)

/-- 'laws.FnExactMagazineOk', WHERE WHAT IT READS IS OF BULK AT MOST 1048576: true; the input reads as it did. -/
def fnExactMagazineOkUptoRow : OpenClaim := { program := "ytabcnooaceandaa", sum := "9c4378b502beb3c9c75ffa26e4d7b65717f4b02bb61cf6143a9e91abd280027e", func := "loop.example/g03230/laws.FnExactMagazineOk", spec := "fnExactMagazineOk", unfollowed := true, recurses := true, apart := false, narrowed := true }
def FnExactMagazineOkUptoSaid : Prop := fnExactMagazineOkUptoRow.holds Try.pinned (OpenSpec.upto fnExactMagazineOkSpec)

/-- 'laws.FnExactFillMagazine', WHERE WHAT IT READS IS OF BULK AT MOST 1048576: true; the input reads as it did. -/
def fnExactFillMagazineUptoRow : OpenClaim := { program := "ytabcnooaceandaa", sum := "9c4378b502beb3c9c75ffa26e4d7b65717f4b02bb61cf6143a9e91abd280027e", func := "loop.example/g03230/laws.FnExactFillMagazine", spec := "fnExactFillMagazine", unfollowed := true, recurses := true, apart := false, narrowed := true }
def FnExactFillMagazineUptoSaid : Prop := fnExactFillMagazineUptoRow.holds Try.pinned (OpenSpec.upto fnExactFillMagazineSpec)

/-- 'laws.FnExactWearMatrix', WHERE WHAT IT READS IS OF BULK AT MOST 1048576: true; the input reads as it did. -/
def fnExactWearMatrixUptoRow : OpenClaim := { program := "ytabcnooaceandaa", sum := "9c4378b502beb3c9c75ffa26e4d7b65717f4b02bb61cf6143a9e91abd280027e", func := "loop.example/g03230/laws.FnExactWearMatrix", spec := "fnExactWearMatrix", unfollowed := true, recurses := true, apart := false, narrowed := true }
def FnExactWearMatrixUptoSaid : Prop := fnExactWearMatrixUptoRow.holds Try.pinned (OpenSpec.upto fnExactWearMatrixSpec)

/-- 'laws.FnExactKindCounts', WHERE WHAT IT READS IS OF BULK AT MOST 1048576: true; the input reads as it did. -/
def fnExactKindCountsUptoRow : OpenClaim := { program := "ytabcnooaceandaa", sum := "9c4378b502beb3c9c75ffa26e4d7b65717f4b02bb61cf6143a9e91abd280027e", func := "loop.example/g03230/laws.FnExactKindCounts", spec := "fnExactKindCounts", unfollowed := true, recurses := true, apart := false, narrowed := true }
def FnExactKindCountsUptoSaid : Prop := fnExactKindCountsUptoRow.holds Try.pinned (OpenSpec.upto fnExactKindCountsSpec)

/-- 'laws.FnExactCountStrays', WHERE WHAT IT READS IS OF BULK AT MOST 1048576: true; the input reads as it did. -/
def fnExactCountStraysUptoRow : OpenClaim := { program := "ytabcnooaceandaa", sum := "9c4378b502beb3c9c75ffa26e4d7b65717f4b02bb61cf6143a9e91abd280027e", func := "loop.example/g03230/laws.FnExactCountStrays", spec := "fnExactCountStrays", unfollowed := true, recurses := true, apart := false, narrowed := true }
def FnExactCountStraysUptoSaid : Prop := fnExactCountStraysUptoRow.holds Try.pinned (OpenSpec.upto fnExactCountStraysSpec)

/-- 'laws.FnExactCountWorn', WHERE WHAT IT READS IS OF BULK AT MOST 1048576: true; the input reads as it did. -/
def fnExactCountWornUptoRow : OpenClaim := { program := "ytabcnooaceandaa", sum := "9c4378b502beb3c9c75ffa26e4d7b65717f4b02bb61cf6143a9e91abd280027e", func := "loop.example/g03230/laws.FnExactCountWorn", spec := "fnExactCountWorn", unfollowed := true, recurses := true, apart := false, narrowed := true }
def FnExactCountWornUptoSaid : Prop := fnExactCountWornUptoRow.holds Try.pinned (OpenSpec.upto fnExactCountWornSpec)

/-- 'laws.FnExactLettersOf', WHERE WHAT IT READS IS OF BULK AT MOST 1048576: true; the input reads as it did. -/
def fnExactLettersOfUptoRow : OpenClaim := { program := "ytabcnooaceandaa", sum := "9c4378b502beb3c9c75ffa26e4d7b65717f4b02bb61cf6143a9e91abd280027e", func := "loop.example/g03230/laws.FnExactLettersOf", spec := "fnExactLettersOf", unfollowed := true, recurses := true, apart := false, narrowed := true }
def FnExactLettersOfUptoSaid : Prop := fnExactLettersOfUptoRow.holds Try.pinned (OpenSpec.upto fnExactLettersOfSpec)

end Rows
end Go.Proofs.Ytabcnooaceandaa
