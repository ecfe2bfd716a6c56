/-
  No cell of these rows narrows 'for every input' (looked for: loops, veiled, ifaces, maps, wideKeys, modest, calm, conditions, laid).
  DERIVED. THE GIVEN ROWS OF THIS SEAT. 8 by the template 'for every input the law returns true; each argument reads behind the call as it read before'; 0 by the template 'total and deterministic' (their statements: YtgngekolnlbddaaTotals.lean).
  GIVEN WITH THE SEED: the statements are not yours to turn. If you find one false, say at which input.
  Laid BY PROGRAM, IN A SANDBOX (cutbox-rows.mjs): the forced cells as the released guide's own fill.sh prints them over the translation c5c807d5433082fc… (all of the seat's roots in one cut). By AI agents, Wed Nov 11 2026. No macro, syntax, notation, axiom, sorry.
-/
import Derived.Test.YtgngekolnlbddaaChecked
import GoSem.Claim
import GoSem.ClaimJoined
import GoSem.ClaimMapViews
import Derived.JoinedTies
import Derived.KernelRfl
namespace Go.Proofs.Ytgngekolnlbddaa
/- THE CELL 'sum', in the pinned program and in every row, IS THE sha256 OF THE DUMP (.gsa) THAT YtgngekolnlbddaaProg.lean LOADS. Nothing in Lean hashes anything: it is a label: what it is worth is what the hold of that sum in a sandbox is worth. -/
noncomputable def Try.pinned : Pinned := { name := "ytgngekolnlbddaa", sum := "c5c807d5433082fccc0024b82f0c5e6028b4d9d3afac7eaac07894e5ecd137fc", checked := Try.checked }
namespace Rows
def none {H : Type} : Left H := { results := [], args := [] }

/-- 'laws.FnFaults': WHATEVER THE INPUT: true; the input reads as it did. -/
def fnFaultsSpec : ChangeSpec := { name := "fnFaults", fn := fun _ => fun
  | [d] => { results := [.lit (.bool true)], args := [d] }
  | _ => none }
def fnFaultsRow : OpenClaim := { program := "ytgngekolnlbddaa", sum := "c5c807d5433082fccc0024b82f0c5e6028b4d9d3afac7eaac07894e5ecd137fc", func := "loop.example/g03230/laws.FnFaults", spec := "fnFaults", apart := false }
def FnFaultsSaid : Prop := fnFaultsRow.holds Try.pinned (OpenSpec.ofChange fnFaultsSpec)

/-- ITS FALSE NEIGHBOUR: 'it returns false'. Refute it at one input. -/
def fnFaultsWrong : ChangeSpec := { name := "fnFaults", fn := fun _ => fun
  | [d] => { results := [.lit (.bool false)], args := [d] }
  | _ => none }
def FnFaultsWrongFalsely : Prop := fnFaultsRow.holds Try.pinned (OpenSpec.ofChange fnFaultsWrong)

/-- 'laws.FnReset': WHATEVER THE INPUT: true; the input reads as it did. -/
def fnResetSpec : ChangeSpec := { name := "fnReset", fn := fun _ => fun
  | [d] => { results := [.lit (.bool true)], args := [d] }
  | _ => none }
def fnResetRow : OpenClaim := { program := "ytgngekolnlbddaa", sum := "c5c807d5433082fccc0024b82f0c5e6028b4d9d3afac7eaac07894e5ecd137fc", func := "loop.example/g03230/laws.FnReset", spec := "fnReset", apart := false }
def FnResetSaid : Prop := fnResetRow.holds Try.pinned (OpenSpec.ofChange fnResetSpec)

/-- ITS FALSE NEIGHBOUR: 'it returns false'. Refute it at one input. -/
def fnResetWrong : ChangeSpec := { name := "fnReset", fn := fun _ => fun
  | [d] => { results := [.lit (.bool false)], args := [d] }
  | _ => none }
def FnResetWrongFalsely : Prop := fnResetRow.holds Try.pinned (OpenSpec.ofChange fnResetWrong)

/-- 'laws.FnMarks': WHATEVER THE INPUT: true; the input reads as it did. -/
def fnMarksSpec : ChangeSpec := { name := "fnMarks", fn := fun _ => fun
  | [d] => { results := [.lit (.bool true)], args := [d] }
  | _ => none }
def fnMarksRow : OpenClaim := { program := "ytgngekolnlbddaa", sum := "c5c807d5433082fccc0024b82f0c5e6028b4d9d3afac7eaac07894e5ecd137fc", func := "loop.example/g03230/laws.FnMarks", spec := "fnMarks", inPlace := ["internal/abi.NoEscape", "internal/bytealg.MakeNoZero"], apart := false }
def FnMarksSaid : Prop := fnMarksRow.holds Try.pinned (OpenSpec.ofChange fnMarksSpec)

/-- ITS FALSE NEIGHBOUR: 'it returns false'. Refute it at one input. -/
def fnMarksWrong : ChangeSpec := { name := "fnMarks", fn := fun _ => fun
  | [d] => { results := [.lit (.bool false)], args := [d] }
  | _ => none }
def FnMarksWrongFalsely : Prop := fnMarksRow.holds Try.pinned (OpenSpec.ofChange fnMarksWrong)

/-- 'laws.FnExactFaultsOf': WHATEVER THE INPUT: true; the input reads as it did. -/
def fnExactFaultsOfSpec : ChangeSpec := { name := "fnExactFaultsOf", fn := fun _ => fun
  | [d1, d2] => { results := [.lit (.bool true)], args := [d1, d2] }
  | _ => none }
def fnExactFaultsOfRow : OpenClaim := { program := "ytgngekolnlbddaa", sum := "c5c807d5433082fccc0024b82f0c5e6028b4d9d3afac7eaac07894e5ecd137fc", func := "loop.example/g03230/laws.FnExactFaultsOf", spec := "fnExactFaultsOf", apart := false }
def FnExactFaultsOfSaid : Prop := fnExactFaultsOfRow.holds Try.pinned (OpenSpec.ofChange fnExactFaultsOfSpec)

/-- ITS FALSE NEIGHBOUR: 'it returns false'. Refute it at one input. -/
def fnExactFaultsOfWrong : ChangeSpec := { name := "fnExactFaultsOf", fn := fun _ => fun
  | [d1, d2] => { results := [.lit (.bool false)], args := [d1, d2] }
  | _ => none }
def FnExactFaultsOfWrongFalsely : Prop := fnExactFaultsOfRow.holds Try.pinned (OpenSpec.ofChange fnExactFaultsOfWrong)

/-- 'laws.FnExactResetOf': WHATEVER THE INPUT: true; the input reads as it did. -/
def fnExactResetOfSpec : ChangeSpec := { name := "fnExactResetOf", fn := fun _ => fun
  | [d1, d2] => { results := [.lit (.bool true)], args := [d1, d2] }
  | _ => none }
def fnExactResetOfRow : OpenClaim := { program := "ytgngekolnlbddaa", sum := "c5c807d5433082fccc0024b82f0c5e6028b4d9d3afac7eaac07894e5ecd137fc", func := "loop.example/g03230/laws.FnExactResetOf", spec := "fnExactResetOf", apart := false }
def FnExactResetOfSaid : Prop := fnExactResetOfRow.holds Try.pinned (OpenSpec.ofChange fnExactResetOfSpec)

/-- ITS FALSE NEIGHBOUR: 'it returns false'. Refute it at one input. -/
def fnExactResetOfWrong : ChangeSpec := { name := "fnExactResetOf", fn := fun _ => fun
  | [d1, d2] => { results := [.lit (.bool false)], args := [d1, d2] }
  | _ => none }
def FnExactResetOfWrongFalsely : Prop := fnExactResetOfRow.holds Try.pinned (OpenSpec.ofChange fnExactResetOfWrong)

/-- 'laws.FnExactApplyReset': WHATEVER THE INPUT: true; the input reads as it did. -/
def fnExactApplyResetSpec : ChangeSpec := { name := "fnExactApplyReset", fn := fun _ => fun
  | [d1, d2, d3, d4] => { results := [.lit (.bool true)], args := [d1, d2, d3, d4] }
  | _ => none }
def fnExactApplyResetRow : OpenClaim := { program := "ytgngekolnlbddaa", sum := "c5c807d5433082fccc0024b82f0c5e6028b4d9d3afac7eaac07894e5ecd137fc", func := "loop.example/g03230/laws.FnExactApplyReset", spec := "fnExactApplyReset", apart := false }
def FnExactApplyResetSaid : Prop := fnExactApplyResetRow.holds Try.pinned (OpenSpec.ofChange fnExactApplyResetSpec)

/-- ITS FALSE NEIGHBOUR: 'it returns false'. Refute it at one input. -/
def fnExactApplyResetWrong : ChangeSpec := { name := "fnExactApplyReset", fn := fun _ => fun
  | [d1, d2, d3, d4] => { results := [.lit (.bool false)], args := [d1, d2, d3, d4] }
  | _ => none }
def FnExactApplyResetWrongFalsely : Prop := fnExactApplyResetRow.holds Try.pinned (OpenSpec.ofChange fnExactApplyResetWrong)

/-- 'laws.FnExactMarksOf': WHATEVER THE INPUT: true; the input reads as it did. -/
def fnExactMarksOfSpec : ChangeSpec := { name := "fnExactMarksOf", fn := fun _ => fun
  | [d1, d2] => { results := [.lit (.bool true)], args := [d1, d2] }
  | _ => none }
def fnExactMarksOfRow : OpenClaim := { program := "ytgngekolnlbddaa", sum := "c5c807d5433082fccc0024b82f0c5e6028b4d9d3afac7eaac07894e5ecd137fc", func := "loop.example/g03230/laws.FnExactMarksOf", spec := "fnExactMarksOf", inPlace := ["internal/abi.NoEscape", "internal/bytealg.MakeNoZero"], apart := false }
def FnExactMarksOfSaid : Prop := fnExactMarksOfRow.holds Try.pinned (OpenSpec.ofChange fnExactMarksOfSpec)

/-- ITS FALSE NEIGHBOUR: 'it returns false'. Refute it at one input. -/
def fnExactMarksOfWrong : ChangeSpec := { name := "fnExactMarksOf", fn := fun _ => fun
  | [d1, d2] => { results := [.lit (.bool false)], args := [d1, d2] }
  | _ => none }
def FnExactMarksOfWrongFalsely : Prop := fnExactMarksOfRow.holds Try.pinned (OpenSpec.ofChange fnExactMarksOfWrong)

/-- 'laws.FnExactGalleyText': WHATEVER THE INPUT: true; the input reads as it did. -/
def fnExactGalleyTextSpec : ChangeSpec := { name := "fnExactGalleyText", fn := fun _ => fun
  | [d] => { results := [.lit (.bool true)], args := [d] }
  | _ => none }
def fnExactGalleyTextRow : OpenClaim := { program := "ytgngekolnlbddaa", sum := "c5c807d5433082fccc0024b82f0c5e6028b4d9d3afac7eaac07894e5ecd137fc", func := "loop.example/g03230/laws.FnExactGalleyText", spec := "fnExactGalleyText", inPlace := ["internal/abi.NoEscape", "internal/bytealg.MakeNoZero"], apart := false }
def FnExactGalleyTextSaid : Prop := fnExactGalleyTextRow.holds Try.pinned (OpenSpec.ofChange fnExactGalleyTextSpec)

/-- ITS FALSE NEIGHBOUR: 'it returns false'. Refute it at one input. -/
def fnExactGalleyTextWrong : ChangeSpec := { name := "fnExactGalleyText", fn := fun _ => fun
  | [d] => { results := [.lit (.bool false)], args := [d] }
  | _ => none }
def FnExactGalleyTextWrongFalsely : Prop := fnExactGalleyTextRow.holds Try.pinned (OpenSpec.ofChange fnExactGalleyTextWrong)

/- THE SECOND FORM. 'bulk': how many values and letters a reading holds, each counted each time it is reached (what is shared counts as often as it is met; a slice's spare places count too). A statement '..UptoSaid' is the law's where the arguments, and the package variables that the reading takes, are together of bulk at most 1048576: NARROWER than '..Said'. Prove '..Said' where nothing that the law and all that it calls make is longer than what came in: it says more and counts as full. Else prove '..UptoSaid'. A law counts once. -/
mutual
def uptoBulk {H : Type} : DataW H → Nat
  | .lit (.string bytes) => bytes.length + 1
  | .lit _ => 1
  | .nil => 1
  | .ptr d => uptoBulk d + 1
  | .slice elems spare => uptoBulkAll elems + uptoBulkAll spare + 1
  | .agg parts => uptoBulkAll parts + 1
  | .iface _ d => uptoBulk d + 1
  | .map entries => uptoBulkEntries entries + 1
  | .held _ => 1
def uptoBulkAll {H : Type} : List (DataW H) → Nat
  | [] => 0
  | d :: r => uptoBulk d + uptoBulkAll r
def uptoBulkEntries {H : Type} : List (Lit × DataW H) → Nat
  | [] => 0
  | x :: r => uptoBulkEntry x + uptoBulkEntries r
def uptoBulkEntry {H : Type} : Lit × DataW H → Nat
  | (.string bytes, d) => bytes.length + uptoBulk d + 1
  | (_, d) => uptoBulk d + 1
 end
def uptoSmall : (H : Type) → List (DataW H) → Bool := fun _ ds => decide (uptoBulkAll ds ≤ 1048576)
def OpenSpec.upto (s : _root_.Go.ChangeSpec) : _root_.Go.OpenSpec := { _root_.Go.OpenSpec.ofChange s with cond := some uptoSmall }

/-- 'laws.FnFaults', WHERE WHAT IT READS IS OF BULK AT MOST 1048576: true; the input reads as it did. -/
def fnFaultsUptoRow : OpenClaim := { program := "ytgngekolnlbddaa", sum := "c5c807d5433082fccc0024b82f0c5e6028b4d9d3afac7eaac07894e5ecd137fc", func := "loop.example/g03230/laws.FnFaults", spec := "fnFaults", apart := false, narrowed := true }
def FnFaultsUptoSaid : Prop := fnFaultsUptoRow.holds Try.pinned (OpenSpec.upto fnFaultsSpec)

/-- 'laws.FnReset', WHERE WHAT IT READS IS OF BULK AT MOST 1048576: true; the input reads as it did. -/
def fnResetUptoRow : OpenClaim := { program := "ytgngekolnlbddaa", sum := "c5c807d5433082fccc0024b82f0c5e6028b4d9d3afac7eaac07894e5ecd137fc", func := "loop.example/g03230/laws.FnReset", spec := "fnReset", apart := false, narrowed := true }
def FnResetUptoSaid : Prop := fnResetUptoRow.holds Try.pinned (OpenSpec.upto fnResetSpec)

/-- 'laws.FnMarks', WHERE WHAT IT READS IS OF BULK AT MOST 1048576: true; the input reads as it did. -/
def fnMarksUptoRow : OpenClaim := { program := "ytgngekolnlbddaa", sum := "c5c807d5433082fccc0024b82f0c5e6028b4d9d3afac7eaac07894e5ecd137fc", func := "loop.example/g03230/laws.FnMarks", spec := "fnMarks", inPlace := ["internal/abi.NoEscape", "internal/bytealg.MakeNoZero"], apart := false, narrowed := true }
def FnMarksUptoSaid : Prop := fnMarksUptoRow.holds Try.pinned (OpenSpec.upto fnMarksSpec)

/-- 'laws.FnExactFaultsOf', WHERE WHAT IT READS IS OF BULK AT MOST 1048576: true; the input reads as it did. -/
def fnExactFaultsOfUptoRow : OpenClaim := { program := "ytgngekolnlbddaa", sum := "c5c807d5433082fccc0024b82f0c5e6028b4d9d3afac7eaac07894e5ecd137fc", func := "loop.example/g03230/laws.FnExactFaultsOf", spec := "fnExactFaultsOf", apart := false, narrowed := true }
def FnExactFaultsOfUptoSaid : Prop := fnExactFaultsOfUptoRow.holds Try.pinned (OpenSpec.upto fnExactFaultsOfSpec)

/-- 'laws.FnExactResetOf', WHERE WHAT IT READS IS OF BULK AT MOST 1048576: true; the input reads as it did. -/
def fnExactResetOfUptoRow : OpenClaim := { program := "ytgngekolnlbddaa", sum := "c5c807d5433082fccc0024b82f0c5e6028b4d9d3afac7eaac07894e5ecd137fc", func := "loop.example/g03230/laws.FnExactResetOf", spec := "fnExactResetOf", apart := false, narrowed := true }
def FnExactResetOfUptoSaid : Prop := fnExactResetOfUptoRow.holds Try.pinned (OpenSpec.upto fnExactResetOfSpec)

/-- 'laws.FnExactApplyReset', WHERE WHAT IT READS IS OF BULK AT MOST 1048576: true; the input reads as it did. -/
def fnExactApplyResetUptoRow : OpenClaim := { program := "ytgngekolnlbddaa", sum := "c5c807d5433082fccc0024b82f0c5e6028b4d9d3afac7eaac07894e5ecd137fc", func := "loop.example/g03230/laws.FnExactApplyReset", spec := "fnExactApplyReset", apart := false, narrowed := true }
def FnExactApplyResetUptoSaid : Prop := fnExactApplyResetUptoRow.holds Try.pinned (OpenSpec.upto fnExactApplyResetSpec)

/-- 'laws.FnExactMarksOf', WHERE WHAT IT READS IS OF BULK AT MOST 1048576: true; the input reads as it did. -/
def fnExactMarksOfUptoRow : OpenClaim := { program := "ytgngekolnlbddaa", sum := "c5c807d5433082fccc0024b82f0c5e6028b4d9d3afac7eaac07894e5ecd137fc", func := "loop.example/g03230/laws.FnExactMarksOf", spec := "fnExactMarksOf", inPlace := ["internal/abi.NoEscape", "internal/bytealg.MakeNoZero"], apart := false, narrowed := true }
def FnExactMarksOfUptoSaid : Prop := fnExactMarksOfUptoRow.holds Try.pinned (OpenSpec.upto fnExactMarksOfSpec)

/-- 'laws.FnExactGalleyText', WHERE WHAT IT READS IS OF BULK AT MOST 1048576: true; the input reads as it did. -/
def fnExactGalleyTextUptoRow : OpenClaim := { program := "ytgngekolnlbddaa", sum := "c5c807d5433082fccc0024b82f0c5e6028b4d9d3afac7eaac07894e5ecd137fc", func := "loop.example/g03230/laws.FnExactGalleyText", spec := "fnExactGalleyText", inPlace := ["internal/abi.NoEscape", "internal/bytealg.MakeNoZero"], apart := false, narrowed := true }
def FnExactGalleyTextUptoSaid : Prop := fnExactGalleyTextUptoRow.holds Try.pinned (OpenSpec.upto fnExactGalleyTextSpec)

end Rows
end Go.Proofs.Ytgngekolnlbddaa
