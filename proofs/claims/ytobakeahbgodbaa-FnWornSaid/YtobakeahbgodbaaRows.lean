/-
  No cell of these rows narrows 'for every input' (looked for: loops, veiled, ifaces, maps, wideKeys, modest, calm, conditions, laid).
  DERIVED. THE GIVEN ROWS OF THIS SEAT. 6 by the template 'for every input the law returns true; each argument reads behind the call as it read before'; 0 by the template 'total and deterministic' (their statements: YtobakeahbgodbaaTotals.lean).
  GIVEN WITH THE SEED: the statements are not yours to turn. If you find one false, say at which input.
  Laid BY PROGRAM, IN A SANDBOX (cutbox-rows.mjs): the forced cells as the released guide's own fill.sh prints them over the translation 06b68c1b368d519b… (all of the seat's roots in one cut). By AI agents, Wed Nov 11 2026. No macro, syntax, notation, axiom, sorry.
-/
import Derived.Test.YtobakeahbgodbaaChecked
import GoSem.Claim
import GoSem.ClaimJoined
import GoSem.ClaimMapViews
import Derived.JoinedTies
import Derived.KernelRfl
namespace Go.Proofs.Ytobakeahbgodbaa
/- THE CELL 'sum', in the pinned program and in every row, IS THE sha256 OF THE DUMP (.gsa) THAT YtobakeahbgodbaaProg.lean LOADS. Nothing in Lean hashes anything: it is a label: what it is worth is what the hold of that sum in a sandbox is worth. -/
noncomputable def Try.pinned : Pinned := { name := "ytobakeahbgodbaa", sum := "06b68c1b368d519bb9415c8782db3ea6c25ad411063165a4c3d62dae0d6a58ef", checked := Try.checked }
namespace Rows
def none {H : Type} : Left H := { results := [], args := [] }

/-- 'laws.FnWorn': WHATEVER THE INPUT: true; the input reads as it did. -/
def fnWornSpec : ChangeSpec := { name := "fnWorn", fn := fun _ => fun
  | [d] => { results := [.lit (.bool true)], args := [d] }
  | _ => none }
def fnWornRow : OpenClaim := { program := "ytobakeahbgodbaa", sum := "06b68c1b368d519bb9415c8782db3ea6c25ad411063165a4c3d62dae0d6a58ef", func := "loop.example/g03230/laws.FnWorn", spec := "fnWorn", unfollowed := true, recurses := true, apart := false }
def FnWornSaid : Prop := fnWornRow.holds Try.pinned (OpenSpec.ofChange fnWornSpec)

/-- ITS FALSE NEIGHBOUR: 'it returns false'. Refute it at one input. -/
def fnWornWrong : ChangeSpec := { name := "fnWorn", fn := fun _ => fun
  | [d] => { results := [.lit (.bool false)], args := [d] }
  | _ => none }
def FnWornWrongFalsely : Prop := fnWornRow.holds Try.pinned (OpenSpec.ofChange fnWornWrong)

/-- 'laws.FnStocked': WHATEVER THE INPUT: true; the input reads as it did. -/
def fnStockedSpec : ChangeSpec := { name := "fnStocked", fn := fun _ => fun
  | [d] => { results := [.lit (.bool true)], args := [d] }
  | _ => none }
def fnStockedRow : OpenClaim := { program := "ytobakeahbgodbaa", sum := "06b68c1b368d519bb9415c8782db3ea6c25ad411063165a4c3d62dae0d6a58ef", func := "loop.example/g03230/laws.FnStocked", spec := "fnStocked", unfollowed := true, recurses := true, apart := false }
def FnStockedSaid : Prop := fnStockedRow.holds Try.pinned (OpenSpec.ofChange fnStockedSpec)

/-- ITS FALSE NEIGHBOUR: 'it returns false'. Refute it at one input. -/
def fnStockedWrong : ChangeSpec := { name := "fnStocked", fn := fun _ => fun
  | [d] => { results := [.lit (.bool false)], args := [d] }
  | _ => none }
def FnStockedWrongFalsely : Prop := fnStockedRow.holds Try.pinned (OpenSpec.ofChange fnStockedWrong)

/-- 'laws.FnFaults': WHATEVER THE INPUT: true; the input reads as it did. -/
def fnFaultsSpec : ChangeSpec := { name := "fnFaults", fn := fun _ => fun
  | [d] => { results := [.lit (.bool true)], args := [d] }
  | _ => none }
def fnFaultsRow : OpenClaim := { program := "ytobakeahbgodbaa", sum := "06b68c1b368d519bb9415c8782db3ea6c25ad411063165a4c3d62dae0d6a58ef", func := "loop.example/g03230/laws.FnFaults", spec := "fnFaults", apart := false }
def FnFaultsSaid : Prop := fnFaultsRow.holds Try.pinned (OpenSpec.ofChange fnFaultsSpec)

/-- ITS FALSE NEIGHBOUR: 'it returns false'. Refute it at one input. -/
def fnFaultsWrong : ChangeSpec := { name := "fnFaults", fn := fun _ => fun
  | [d] => { results := [.lit (.bool false)], args := [d] }
  | _ => none }
def FnFaultsWrongFalsely : Prop := fnFaultsRow.holds Try.pinned (OpenSpec.ofChange fnFaultsWrong)

/-- 'laws.FnGalley': WHATEVER THE INPUT: true; the input reads as it did. -/
def fnGalleySpec : ChangeSpec := { name := "fnGalley", fn := fun _ => fun
  | [d] => { results := [.lit (.bool true)], args := [d] }
  | _ => none }
def fnGalleyRow : OpenClaim := { program := "ytobakeahbgodbaa", sum := "06b68c1b368d519bb9415c8782db3ea6c25ad411063165a4c3d62dae0d6a58ef", func := "loop.example/g03230/laws.FnGalley", spec := "fnGalley", inPlace := ["internal/abi.NoEscape", "internal/bytealg.MakeNoZero"], unfollowed := true, recurses := true, apart := false }
def FnGalleySaid : Prop := fnGalleyRow.holds Try.pinned (OpenSpec.ofChange fnGalleySpec)

/-- ITS FALSE NEIGHBOUR: 'it returns false'. Refute it at one input. -/
def fnGalleyWrong : ChangeSpec := { name := "fnGalley", fn := fun _ => fun
  | [d] => { results := [.lit (.bool false)], args := [d] }
  | _ => none }
def FnGalleyWrongFalsely : Prop := fnGalleyRow.holds Try.pinned (OpenSpec.ofChange fnGalleyWrong)

/-- 'laws.FnExactSetGalley': WHATEVER THE INPUT: true; the input reads as it did. -/
def fnExactSetGalleySpec : ChangeSpec := { name := "fnExactSetGalley", fn := fun _ => fun
  | [d1, d2, d3] => { results := [.lit (.bool true)], args := [d1, d2, d3] }
  | _ => none }
def fnExactSetGalleyRow : OpenClaim := { program := "ytobakeahbgodbaa", sum := "06b68c1b368d519bb9415c8782db3ea6c25ad411063165a4c3d62dae0d6a58ef", func := "loop.example/g03230/laws.FnExactSetGalley", spec := "fnExactSetGalley", inPlace := ["internal/abi.NoEscape", "internal/bytealg.MakeNoZero"], unfollowed := true, recurses := true, apart := false }
def FnExactSetGalleySaid : Prop := fnExactSetGalleyRow.holds Try.pinned (OpenSpec.ofChange fnExactSetGalleySpec)

/-- ITS FALSE NEIGHBOUR: 'it returns false'. Refute it at one input. -/
def fnExactSetGalleyWrong : ChangeSpec := { name := "fnExactSetGalley", fn := fun _ => fun
  | [d1, d2, d3] => { results := [.lit (.bool false)], args := [d1, d2, d3] }
  | _ => none }
def FnExactSetGalleyWrongFalsely : Prop := fnExactSetGalleyRow.holds Try.pinned (OpenSpec.ofChange fnExactSetGalleyWrong)

/-- 'laws.FnExactGalleyOk': WHATEVER THE INPUT: true; the input reads as it did. -/
def fnExactGalleyOkSpec : ChangeSpec := { name := "fnExactGalleyOk", fn := fun _ => fun
  | [d1, d2, d3] => { results := [.lit (.bool true)], args := [d1, d2, d3] }
  | _ => none }
def fnExactGalleyOkRow : OpenClaim := { program := "ytobakeahbgodbaa", sum := "06b68c1b368d519bb9415c8782db3ea6c25ad411063165a4c3d62dae0d6a58ef", func := "loop.example/g03230/laws.FnExactGalleyOk", spec := "fnExactGalleyOk", inPlace := ["internal/abi.NoEscape", "internal/bytealg.MakeNoZero"], unfollowed := true, recurses := true, apart := false }
def FnExactGalleyOkSaid : Prop := fnExactGalleyOkRow.holds Try.pinned (OpenSpec.ofChange fnExactGalleyOkSpec)

/-- ITS FALSE NEIGHBOUR: 'it returns false'. Refute it at one input. -/
def fnExactGalleyOkWrong : ChangeSpec := { name := "fnExactGalleyOk", fn := fun _ => fun
  | [d1, d2, d3] => { results := [.lit (.bool false)], args := [d1, d2, d3] }
  | _ => none }
def FnExactGalleyOkWrongFalsely : Prop := fnExactGalleyOkRow.holds Try.pinned (OpenSpec.ofChange fnExactGalleyOkWrong)

/- THE SECOND FORM. 'bulk': how many values and letters a reading holds, each counted each time it is reached (what is shared counts as often as it is met; a slice's spare places count too). A statement '..UptoSaid' is the law's where the arguments, and the package variables that the reading takes, are together of bulk at most 1048576: NARROWER than '..Said'. Prove '..Said' where nothing that the law and all that it calls make is longer than what came in: it says more and counts as full. Else prove '..UptoSaid'. A law counts once. -/
mutual
def uptoBulk {H : Type} : DataW H → Nat
  | .lit (.string bytes) => bytes.length + 1
  | .lit _ => 1
  | .nil => 1
  | .ptr d => uptoBulk d + 1
  | .slice elems spare => uptoBulkAll elems + uptoBulkAll spare + 1
  | .agg parts => uptoBulkAll parts + 1
  | .iface _ d => uptoBulk d + 1
  | .map entries => uptoBulkEntries entries + 1
  | .held _ => 1
def uptoBulkAll {H : Type} : List (DataW H) → Nat
  | [] => 0
  | d :: r => uptoBulk d + uptoBulkAll r
def uptoBulkEntries {H : Type} : List (Lit × DataW H) → Nat
  | [] => 0
  | x :: r => uptoBulkEntry x + uptoBulkEntries r
def uptoBulkEntry {H : Type} : Lit × DataW H → Nat
  | (.string bytes, d) => bytes.length + uptoBulk d + 1
  | (_, d) => uptoBulk d + 1
 end
def uptoSmall : (H : Type) → List (DataW H) → Bool := fun _ ds => decide (uptoBulkAll ds ≤ 1048576)
def OpenSpec.upto (s : _root_.Go.ChangeSpec) : _root_.Go.OpenSpec := { _root_.Go.OpenSpec.ofChange s with cond := some uptoSmall }

/-- 'laws.FnWorn', WHERE WHAT IT READS IS OF BULK AT MOST 1048576: true; the input reads as it did. -/
def fnWornUptoRow : OpenClaim := { program := "ytobakeahbgodbaa", sum := "06b68c1b368d519bb9415c8782db3ea6c25ad411063165a4c3d62dae0d6a58ef", func := "loop.example/g03230/laws.FnWorn", spec := "fnWorn", unfollowed := true, recurses := true, apart := false, narrowed := true }
def FnWornUptoSaid : Prop := fnWornUptoRow.holds Try.pinned (OpenSpec.upto fnWornSpec)

/-- 'laws.FnStocked', WHERE WHAT IT READS IS OF BULK AT MOST 1048576: true; the input reads as it did. -/
def fnStockedUptoRow : OpenClaim := { program := "ytobakeahbgodbaa", sum := "06b68c1b368d519bb9415c8782db3ea6c25ad411063165a4c3d62dae0d6a58ef", func := "loop.example/g03230/laws.FnStocked", spec := "fnStocked", unfollowed := true, recurses := true, apart := false, narrowed := true }
def FnStockedUptoSaid : Prop := fnStockedUptoRow.holds Try.pinned (OpenSpec.upto fnStockedSpec)

/-- 'laws.FnFaults', WHERE WHAT IT READS IS OF BULK AT MOST 1048576: true; the input reads as it did. -/
def fnFaultsUptoRow : OpenClaim := { program := "ytobakeahbgodbaa", sum := "06b68c1b368d519bb9415c8782db3ea6c25ad411063165a4c3d62dae0d6a58ef", func := "loop.example/g03230/laws.FnFaults", spec := "fnFaults", apart := false, narrowed := true }
def FnFaultsUptoSaid : Prop := fnFaultsUptoRow.holds Try.pinned (OpenSpec.upto fnFaultsSpec)

/-- 'laws.FnGalley', WHERE WHAT IT READS IS OF BULK AT MOST 1048576: true; the input reads as it did. -/
def fnGalleyUptoRow : OpenClaim := { program := "ytobakeahbgodbaa", sum := "06b68c1b368d519bb9415c8782db3ea6c25ad411063165a4c3d62dae0d6a58ef", func := "loop.example/g03230/laws.FnGalley", spec := "fnGalley", inPlace := ["internal/abi.NoEscape", "internal/bytealg.MakeNoZero"], unfollowed := true, recurses := true, apart := false, narrowed := true }
def FnGalleyUptoSaid : Prop := fnGalleyUptoRow.holds Try.pinned (OpenSpec.upto fnGalleySpec)

/-- 'laws.FnExactSetGalley', WHERE WHAT IT READS IS OF BULK AT MOST 1048576: true; the input reads as it did. -/
def fnExactSetGalleyUptoRow : OpenClaim := { program := "ytobakeahbgodbaa", sum := "06b68c1b368d519bb9415c8782db3ea6c25ad411063165a4c3d62dae0d6a58ef", func := "loop.example/g03230/laws.FnExactSetGalley", spec := "fnExactSetGalley", inPlace := ["internal/abi.NoEscape", "internal/bytealg.MakeNoZero"], unfollowed := true, recurses := true, apart := false, narrowed := true }
def FnExactSetGalleyUptoSaid : Prop := fnExactSetGalleyUptoRow.holds Try.pinned (OpenSpec.upto fnExactSetGalleySpec)

/-- 'laws.FnExactGalleyOk', WHERE WHAT IT READS IS OF BULK AT MOST 1048576: true; the input reads as it did. -/
def fnExactGalleyOkUptoRow : OpenClaim := { program := "ytobakeahbgodbaa", sum := "06b68c1b368d519bb9415c8782db3ea6c25ad411063165a4c3d62dae0d6a58ef", func := "loop.example/g03230/laws.FnExactGalleyOk", spec := "fnExactGalleyOk", inPlace := ["internal/abi.NoEscape", "internal/bytealg.MakeNoZero"], unfollowed := true, recurses := true, apart := false, narrowed := true }
def FnExactGalleyOkUptoSaid : Prop := fnExactGalleyOkUptoRow.holds Try.pinned (OpenSpec.upto fnExactGalleyOkSpec)

end Rows
end Go.Proofs.Ytobakeahbgodbaa
