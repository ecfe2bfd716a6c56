/-
  No cell of these rows narrows 'for every input' (looked for: loops, veiled, ifaces, maps, wideKeys, modest, calm, conditions, laid).
  DERIVED. THE GIVEN ROWS OF THIS SEAT. 16 by the template 'for every input the law returns true; each argument reads behind the call as it read before'; 0 by the template 'total and deterministic' (their statements: YtjfckplogjekaaaTotals.lean).
  GIVEN WITH THE SEED: the statements are not yours to turn. If you find one false, say at which input.
  Laid BY PROGRAM, IN A SANDBOX (cutbox-rows.mjs): the forced cells as the released guide's own fill.sh prints them over the translation 041d280f24731ca3… (all of the seat's roots in one cut). By AI agents, Wed Nov 11 2026. No macro, syntax, notation, axiom, sorry.
-/
import Derived.Test.YtjfckplogjekaaaChecked
import GoSem.Claim
import GoSem.ClaimJoined
import GoSem.ClaimMapViews
import Derived.JoinedTies
import Derived.KernelRfl
namespace Go.Proofs.Ytjfckplogjekaaa
/- THE CELL 'sum', in the pinned program and in every row, IS THE sha256 OF THE DUMP (.gsa) THAT YtjfckplogjekaaaProg.lean LOADS. Nothing in Lean hashes anything: it is a label: what it is worth is what the hold of that sum in a sandbox is worth. -/
noncomputable def Try.pinned : Pinned := { name := "ytjfckplogjekaaa", sum := "041d280f24731ca32d5d835a1a59aa016ae41feea36035b5de65310921eae060", checked := Try.checked }
namespace Rows
def none {H : Type} : Left H := { results := [], args := [] }

/-- 'laws.FnSpread': WHATEVER THE INPUT: true; the input reads as it did. -/
def fnSpreadSpec : ChangeSpec := { name := "fnSpread", fn := fun _ => fun
  | [d] => { results := [.lit (.bool true)], args := [d] }
  | _ => none }
def fnSpreadRow : OpenClaim := { program := "ytjfckplogjekaaa", sum := "041d280f24731ca32d5d835a1a59aa016ae41feea36035b5de65310921eae060", func := "loop.example/g03230/laws.FnSpread", spec := "fnSpread", unfollowed := true, recurses := true, apart := false }
def FnSpreadSaid : Prop := fnSpreadRow.holds Try.pinned (OpenSpec.ofChange fnSpreadSpec)

/-- ITS FALSE NEIGHBOUR: 'it returns false'. Refute it at one input. -/
def fnSpreadWrong : ChangeSpec := { name := "fnSpread", fn := fun _ => fun
  | [d] => { results := [.lit (.bool false)], args := [d] }
  | _ => none }
def FnSpreadWrongFalsely : Prop := fnSpreadRow.holds Try.pinned (OpenSpec.ofChange fnSpreadWrong)

/-- 'laws.FnPlaces': WHATEVER THE INPUT: true; the input reads as it did. -/
def fnPlacesSpec : ChangeSpec := { name := "fnPlaces", fn := fun _ => fun
  | [d] => { results := [.lit (.bool true)], args := [d] }
  | _ => none }
def fnPlacesRow : OpenClaim := { program := "ytjfckplogjekaaa", sum := "041d280f24731ca32d5d835a1a59aa016ae41feea36035b5de65310921eae060", func := "loop.example/g03230/laws.FnPlaces", spec := "fnPlaces", unfollowed := true, recurses := true, apart := false }
def FnPlacesSaid : Prop := fnPlacesRow.holds Try.pinned (OpenSpec.ofChange fnPlacesSpec)

/-- ITS FALSE NEIGHBOUR: 'it returns false'. Refute it at one input. -/
def fnPlacesWrong : ChangeSpec := { name := "fnPlaces", fn := fun _ => fun
  | [d] => { results := [.lit (.bool false)], args := [d] }
  | _ => none }
def FnPlacesWrongFalsely : Prop := fnPlacesRow.holds Try.pinned (OpenSpec.ofChange fnPlacesWrong)

/-- 'laws.FnWider': WHATEVER THE INPUT: true; the input reads as it did. -/
def fnWiderSpec : ChangeSpec := { name := "fnWider", fn := fun _ => fun
  | [d] => { results := [.lit (.bool true)], args := [d] }
  | _ => none }
def fnWiderRow : OpenClaim := { program := "ytjfckplogjekaaa", sum := "041d280f24731ca32d5d835a1a59aa016ae41feea36035b5de65310921eae060", func := "loop.example/g03230/laws.FnWider", spec := "fnWider", unfollowed := true, recurses := true, apart := false }
def FnWiderSaid : Prop := fnWiderRow.holds Try.pinned (OpenSpec.ofChange fnWiderSpec)

/-- ITS FALSE NEIGHBOUR: 'it returns false'. Refute it at one input. -/
def fnWiderWrong : ChangeSpec := { name := "fnWider", fn := fun _ => fun
  | [d] => { results := [.lit (.bool false)], args := [d] }
  | _ => none }
def FnWiderWrongFalsely : Prop := fnWiderRow.holds Try.pinned (OpenSpec.ofChange fnWiderWrong)

/-- 'laws.FnTurned': WHATEVER THE INPUT: true; the input reads as it did. -/
def fnTurnedSpec : ChangeSpec := { name := "fnTurned", fn := fun _ => fun
  | [d] => { results := [.lit (.bool true)], args := [d] }
  | _ => none }
def fnTurnedRow : OpenClaim := { program := "ytjfckplogjekaaa", sum := "041d280f24731ca32d5d835a1a59aa016ae41feea36035b5de65310921eae060", func := "loop.example/g03230/laws.FnTurned", spec := "fnTurned", unfollowed := true, recurses := true, apart := false }
def FnTurnedSaid : Prop := fnTurnedRow.holds Try.pinned (OpenSpec.ofChange fnTurnedSpec)

/-- ITS FALSE NEIGHBOUR: 'it returns false'. Refute it at one input. -/
def fnTurnedWrong : ChangeSpec := { name := "fnTurned", fn := fun _ => fun
  | [d] => { results := [.lit (.bool false)], args := [d] }
  | _ => none }
def FnTurnedWrongFalsely : Prop := fnTurnedRow.holds Try.pinned (OpenSpec.ofChange fnTurnedWrong)

/-- 'laws.FnQuads': WHATEVER THE INPUT: true; the input reads as it did. -/
def fnQuadsSpec : ChangeSpec := { name := "fnQuads", fn := fun _ => fun
  | [d] => { results := [.lit (.bool true)], args := [d] }
  | _ => none }
def fnQuadsRow : OpenClaim := { program := "ytjfckplogjekaaa", sum := "041d280f24731ca32d5d835a1a59aa016ae41feea36035b5de65310921eae060", func := "loop.example/g03230/laws.FnQuads", spec := "fnQuads", unfollowed := true, recurses := true, apart := false }
def FnQuadsSaid : Prop := fnQuadsRow.holds Try.pinned (OpenSpec.ofChange fnQuadsSpec)

/-- ITS FALSE NEIGHBOUR: 'it returns false'. Refute it at one input. -/
def fnQuadsWrong : ChangeSpec := { name := "fnQuads", fn := fun _ => fun
  | [d] => { results := [.lit (.bool false)], args := [d] }
  | _ => none }
def FnQuadsWrongFalsely : Prop := fnQuadsRow.holds Try.pinned (OpenSpec.ofChange fnQuadsWrong)

/-- 'laws.FnFitting': WHATEVER THE INPUT: true; the input reads as it did. -/
def fnFittingSpec : ChangeSpec := { name := "fnFitting", fn := fun _ => fun
  | [d] => { results := [.lit (.bool true)], args := [d] }
  | _ => none }
def fnFittingRow : OpenClaim := { program := "ytjfckplogjekaaa", sum := "041d280f24731ca32d5d835a1a59aa016ae41feea36035b5de65310921eae060", func := "loop.example/g03230/laws.FnFitting", spec := "fnFitting", unfollowed := true, recurses := true, apart := false }
def FnFittingSaid : Prop := fnFittingRow.holds Try.pinned (OpenSpec.ofChange fnFittingSpec)

/-- ITS FALSE NEIGHBOUR: 'it returns false'. Refute it at one input. -/
def fnFittingWrong : ChangeSpec := { name := "fnFitting", fn := fun _ => fun
  | [d] => { results := [.lit (.bool false)], args := [d] }
  | _ => none }
def FnFittingWrongFalsely : Prop := fnFittingRow.holds Try.pinned (OpenSpec.ofChange fnFittingWrong)

/-- 'laws.FnExactMeasureOk': WHATEVER THE INPUT: true; the input reads as it did. -/
def fnExactMeasureOkSpec : ChangeSpec := { name := "fnExactMeasureOk", fn := fun _ => fun
  | [d] => { results := [.lit (.bool true)], args := [d] }
  | _ => none }
def fnExactMeasureOkRow : OpenClaim := { program := "ytjfckplogjekaaa", sum := "041d280f24731ca32d5d835a1a59aa016ae41feea36035b5de65310921eae060", func := "loop.example/g03230/laws.FnExactMeasureOk", spec := "fnExactMeasureOk", apart := false }
def FnExactMeasureOkSaid : Prop := fnExactMeasureOkRow.holds Try.pinned (OpenSpec.ofChange fnExactMeasureOkSpec)

/-- ITS FALSE NEIGHBOUR: 'it returns false'. Refute it at one input. -/
def fnExactMeasureOkWrong : ChangeSpec := { name := "fnExactMeasureOk", fn := fun _ => fun
  | [d] => { results := [.lit (.bool false)], args := [d] }
  | _ => none }
def FnExactMeasureOkWrongFalsely : Prop := fnExactMeasureOkRow.holds Try.pinned (OpenSpec.ofChange fnExactMeasureOkWrong)

/-- 'laws.FnExactLineOk': WHATEVER THE INPUT: true; the input reads as it did. -/
def fnExactLineOkSpec : ChangeSpec := { name := "fnExactLineOk", fn := fun _ => fun
  | [d] => { results := [.lit (.bool true)], args := [d] }
  | _ => none }
def fnExactLineOkRow : OpenClaim := { program := "ytjfckplogjekaaa", sum := "041d280f24731ca32d5d835a1a59aa016ae41feea36035b5de65310921eae060", func := "loop.example/g03230/laws.FnExactLineOk", spec := "fnExactLineOk", unfollowed := true, recurses := true, apart := false }
def FnExactLineOkSaid : Prop := fnExactLineOkRow.holds Try.pinned (OpenSpec.ofChange fnExactLineOkSpec)

/-- ITS FALSE NEIGHBOUR: 'it returns false'. Refute it at one input. -/
def fnExactLineOkWrong : ChangeSpec := { name := "fnExactLineOk", fn := fun _ => fun
  | [d] => { results := [.lit (.bool false)], args := [d] }
  | _ => none }
def FnExactLineOkWrongFalsely : Prop := fnExactLineOkRow.holds Try.pinned (OpenSpec.ofChange fnExactLineOkWrong)

/-- 'laws.FnExactWidthsOf': WHATEVER THE INPUT: true; the input reads as it did. -/
def fnExactWidthsOfSpec : ChangeSpec := { name := "fnExactWidthsOf", fn := fun _ => fun
  | [d1, d2] => { results := [.lit (.bool true)], args := [d1, d2] }
  | _ => none }
def fnExactWidthsOfRow : OpenClaim := { program := "ytjfckplogjekaaa", sum := "041d280f24731ca32d5d835a1a59aa016ae41feea36035b5de65310921eae060", func := "loop.example/g03230/laws.FnExactWidthsOf", spec := "fnExactWidthsOf", unfollowed := true, recurses := true, apart := false }
def FnExactWidthsOfSaid : Prop := fnExactWidthsOfRow.holds Try.pinned (OpenSpec.ofChange fnExactWidthsOfSpec)

/-- ITS FALSE NEIGHBOUR: 'it returns false'. Refute it at one input. -/
def fnExactWidthsOfWrong : ChangeSpec := { name := "fnExactWidthsOf", fn := fun _ => fun
  | [d1, d2] => { results := [.lit (.bool false)], args := [d1, d2] }
  | _ => none }
def FnExactWidthsOfWrongFalsely : Prop := fnExactWidthsOfRow.holds Try.pinned (OpenSpec.ofChange fnExactWidthsOfWrong)

/-- 'laws.FnExactSpreadLine': WHATEVER THE INPUT: true; the input reads as it did. -/
def fnExactSpreadLineSpec : ChangeSpec := { name := "fnExactSpreadLine", fn := fun _ => fun
  | [d1, d2] => { results := [.lit (.bool true)], args := [d1, d2] }
  | _ => none }
def fnExactSpreadLineRow : OpenClaim := { program := "ytjfckplogjekaaa", sum := "041d280f24731ca32d5d835a1a59aa016ae41feea36035b5de65310921eae060", func := "loop.example/g03230/laws.FnExactSpreadLine", spec := "fnExactSpreadLine", unfollowed := true, recurses := true, apart := false }
def FnExactSpreadLineSaid : Prop := fnExactSpreadLineRow.holds Try.pinned (OpenSpec.ofChange fnExactSpreadLineSpec)

/-- ITS FALSE NEIGHBOUR: 'it returns false'. Refute it at one input. -/
def fnExactSpreadLineWrong : ChangeSpec := { name := "fnExactSpreadLine", fn := fun _ => fun
  | [d1, d2] => { results := [.lit (.bool false)], args := [d1, d2] }
  | _ => none }
def FnExactSpreadLineWrongFalsely : Prop := fnExactSpreadLineRow.holds Try.pinned (OpenSpec.ofChange fnExactSpreadLineWrong)

/-- 'laws.FnExactIsFull': WHATEVER THE INPUT: true; the input reads as it did. -/
def fnExactIsFullSpec : ChangeSpec := { name := "fnExactIsFull", fn := fun _ => fun
  | [d1, d2] => { results := [.lit (.bool true)], args := [d1, d2] }
  | _ => none }
def fnExactIsFullRow : OpenClaim := { program := "ytjfckplogjekaaa", sum := "041d280f24731ca32d5d835a1a59aa016ae41feea36035b5de65310921eae060", func := "loop.example/g03230/laws.FnExactIsFull", spec := "fnExactIsFull", unfollowed := true, recurses := true, apart := false }
def FnExactIsFullSaid : Prop := fnExactIsFullRow.holds Try.pinned (OpenSpec.ofChange fnExactIsFullSpec)

/-- ITS FALSE NEIGHBOUR: 'it returns false'. Refute it at one input. -/
def fnExactIsFullWrong : ChangeSpec := { name := "fnExactIsFull", fn := fun _ => fun
  | [d1, d2] => { results := [.lit (.bool false)], args := [d1, d2] }
  | _ => none }
def FnExactIsFullWrongFalsely : Prop := fnExactIsFullRow.holds Try.pinned (OpenSpec.ofChange fnExactIsFullWrong)

/-- 'laws.FnExactBandWidths': WHATEVER THE INPUT: true; the input reads as it did. -/
def fnExactBandWidthsSpec : ChangeSpec := { name := "fnExactBandWidths", fn := fun _ => fun
  | [d1, d2] => { results := [.lit (.bool true)], args := [d1, d2] }
  | _ => none }
def fnExactBandWidthsRow : OpenClaim := { program := "ytjfckplogjekaaa", sum := "041d280f24731ca32d5d835a1a59aa016ae41feea36035b5de65310921eae060", func := "loop.example/g03230/laws.FnExactBandWidths", spec := "fnExactBandWidths", unfollowed := true, recurses := true, apart := false }
def FnExactBandWidthsSaid : Prop := fnExactBandWidthsRow.holds Try.pinned (OpenSpec.ofChange fnExactBandWidthsSpec)

/-- ITS FALSE NEIGHBOUR: 'it returns false'. Refute it at one input. -/
def fnExactBandWidthsWrong : ChangeSpec := { name := "fnExactBandWidths", fn := fun _ => fun
  | [d1, d2] => { results := [.lit (.bool false)], args := [d1, d2] }
  | _ => none }
def FnExactBandWidthsWrongFalsely : Prop := fnExactBandWidthsRow.holds Try.pinned (OpenSpec.ofChange fnExactBandWidthsWrong)

/-- 'laws.FnExactPlacesOf': WHATEVER THE INPUT: true; the input reads as it did. -/
def fnExactPlacesOfSpec : ChangeSpec := { name := "fnExactPlacesOf", fn := fun _ => fun
  | [d1, d2] => { results := [.lit (.bool true)], args := [d1, d2] }
  | _ => none }
def fnExactPlacesOfRow : OpenClaim := { program := "ytjfckplogjekaaa", sum := "041d280f24731ca32d5d835a1a59aa016ae41feea36035b5de65310921eae060", func := "loop.example/g03230/laws.FnExactPlacesOf", spec := "fnExactPlacesOf", unfollowed := true, recurses := true, apart := false }
def FnExactPlacesOfSaid : Prop := fnExactPlacesOfRow.holds Try.pinned (OpenSpec.ofChange fnExactPlacesOfSpec)

/-- ITS FALSE NEIGHBOUR: 'it returns false'. Refute it at one input. -/
def fnExactPlacesOfWrong : ChangeSpec := { name := "fnExactPlacesOf", fn := fun _ => fun
  | [d1, d2] => { results := [.lit (.bool false)], args := [d1, d2] }
  | _ => none }
def FnExactPlacesOfWrongFalsely : Prop := fnExactPlacesOfRow.holds Try.pinned (OpenSpec.ofChange fnExactPlacesOfWrong)

/-- 'laws.FnExactCountFitting': WHATEVER THE INPUT: true; the input reads as it did. -/
def fnExactCountFittingSpec : ChangeSpec := { name := "fnExactCountFitting", fn := fun _ => fun
  | [d1, d2, d3] => { results := [.lit (.bool true)], args := [d1, d2, d3] }
  | _ => none }
def fnExactCountFittingRow : OpenClaim := { program := "ytjfckplogjekaaa", sum := "041d280f24731ca32d5d835a1a59aa016ae41feea36035b5de65310921eae060", func := "loop.example/g03230/laws.FnExactCountFitting", spec := "fnExactCountFitting", unfollowed := true, recurses := true, apart := false }
def FnExactCountFittingSaid : Prop := fnExactCountFittingRow.holds Try.pinned (OpenSpec.ofChange fnExactCountFittingSpec)

/-- ITS FALSE NEIGHBOUR: 'it returns false'. Refute it at one input. -/
def fnExactCountFittingWrong : ChangeSpec := { name := "fnExactCountFitting", fn := fun _ => fun
  | [d1, d2, d3] => { results := [.lit (.bool false)], args := [d1, d2, d3] }
  | _ => none }
def FnExactCountFittingWrongFalsely : Prop := fnExactCountFittingRow.holds Try.pinned (OpenSpec.ofChange fnExactCountFittingWrong)

/-- 'laws.FnExactQuadLine': WHATEVER THE INPUT: true; the input reads as it did. -/
def fnExactQuadLineSpec : ChangeSpec := { name := "fnExactQuadLine", fn := fun _ => fun
  | [d1, d2, d3] => { results := [.lit (.bool true)], args := [d1, d2, d3] }
  | _ => none }
def fnExactQuadLineRow : OpenClaim := { program := "ytjfckplogjekaaa", sum := "041d280f24731ca32d5d835a1a59aa016ae41feea36035b5de65310921eae060", func := "loop.example/g03230/laws.FnExactQuadLine", spec := "fnExactQuadLine", unfollowed := true, recurses := true, apart := false }
def FnExactQuadLineSaid : Prop := fnExactQuadLineRow.holds Try.pinned (OpenSpec.ofChange fnExactQuadLineSpec)

/-- ITS FALSE NEIGHBOUR: 'it returns false'. Refute it at one input. -/
def fnExactQuadLineWrong : ChangeSpec := { name := "fnExactQuadLine", fn := fun _ => fun
  | [d1, d2, d3] => { results := [.lit (.bool false)], args := [d1, d2, d3] }
  | _ => none }
def FnExactQuadLineWrongFalsely : Prop := fnExactQuadLineRow.holds Try.pinned (OpenSpec.ofChange fnExactQuadLineWrong)

/-- 'laws.FnExactCenterLine': WHATEVER THE INPUT: true; the input reads as it did. -/
def fnExactCenterLineSpec : ChangeSpec := { name := "fnExactCenterLine", fn := fun _ => fun
  | [d1, d2, d3] => { results := [.lit (.bool true)], args := [d1, d2, d3] }
  | _ => none }
def fnExactCenterLineRow : OpenClaim := { program := "ytjfckplogjekaaa", sum := "041d280f24731ca32d5d835a1a59aa016ae41feea36035b5de65310921eae060", func := "loop.example/g03230/laws.FnExactCenterLine", spec := "fnExactCenterLine", unfollowed := true, recurses := true, apart := false }
def FnExactCenterLineSaid : Prop := fnExactCenterLineRow.holds Try.pinned (OpenSpec.ofChange fnExactCenterLineSpec)

/-- ITS FALSE NEIGHBOUR: 'it returns false'. Refute it at one input. -/
def fnExactCenterLineWrong : ChangeSpec := { name := "fnExactCenterLine", fn := fun _ => fun
  | [d1, d2, d3] => { results := [.lit (.bool false)], args := [d1, d2, d3] }
  | _ => none }
def FnExactCenterLineWrongFalsely : Prop := fnExactCenterLineRow.holds Try.pinned (OpenSpec.ofChange fnExactCenterLineWrong)

/- THE SECOND FORM. 'bulk': how many values and letters a reading holds, each counted each time it is reached (what is shared counts as often as it is met; a slice's spare places count too). A statement '..UptoSaid' is the law's where the arguments, and the package variables that the reading takes, are together of bulk at most 1048576: NARROWER than '..Said'. Prove '..Said' where nothing that the law and all that it calls make is longer than what came in: it says more and counts as full. Else prove '..UptoSaid'. A law counts once. -/
mutual
def uptoBulk {H : Type} : DataW H → Nat
  | .lit (.string bytes) => bytes.length + 1
  | .lit _ => 1
  | .nil => 1
  | .ptr d => uptoBulk d + 1
  | .slice elems spare => uptoBulkAll elems + uptoBulkAll spare + 1
  | .agg parts => uptoBulkAll parts + 1
  | .iface _ d => uptoBulk d + 1
  | .map entries => uptoBulkEntries entries + 1
  | .held _ => 1
def uptoBulkAll {H : Type} : List (DataW H) → Nat
  | [] => 0
  | d :: r => uptoBulk d + uptoBulkAll r
def uptoBulkEntries {H : Type} : List (Lit × DataW H) → Nat
  | [] => 0
  | x :: r => uptoBulkEntry x + uptoBulkEntries r
def uptoBulkEntry {H : Type} : Lit × DataW H → Nat
  | (.string bytes, d) => bytes.length + uptoBulk d + 1
  | (_, d) => uptoBulk d + 1
 end
def uptoSmall : (H : Type) → List (DataW H) → Bool := fun _ ds => decide (uptoBulkAll ds ≤ 1048576)
def OpenSpec.upto (s : _root_.Go.ChangeSpec) : _root_.Go.OpenSpec := { _root_.Go.OpenSpec.ofChange s with cond := some uptoSmall }

/-- 'laws.FnSpread', WHERE WHAT IT READS IS OF BULK AT MOST 1048576: true; the input reads as it did. -/
def fnSpreadUptoRow : OpenClaim := { program := "ytjfckplogjekaaa", sum := "041d280f24731ca32d5d835a1a59aa016ae41feea36035b5de65310921eae060", func := "loop.example/g03230/laws.FnSpread", spec := "fnSpread", unfollowed := true, recurses := true, apart := false, narrowed := true }
def FnSpreadUptoSaid : Prop := fnSpreadUptoRow.holds Try.pinned (OpenSpec.upto fnSpreadSpec)

/-- 'laws.FnPlaces', WHERE WHAT IT READS IS OF BULK AT MOST 1048576: true; the input reads as it did. -/
def fnPlacesUptoRow : OpenClaim := { program := "ytjfckplogjekaaa", sum := "041d280f24731ca32d5d835a1a59aa016ae41feea36035b5de65310921eae060", func := "loop.example/g03230/laws.FnPlaces", spec := "fnPlaces", unfollowed := true, recurses := true, apart := false, narrowed := true }
def FnPlacesUptoSaid : Prop := fnPlacesUptoRow.holds Try.pinned (OpenSpec.upto fnPlacesSpec)

/-- 'laws.FnWider', WHERE WHAT IT READS IS OF BULK AT MOST 1048576: true; the input reads as it did. -/
def fnWiderUptoRow : OpenClaim := { program := "ytjfckplogjekaaa", sum := "041d280f24731ca32d5d835a1a59aa016ae41feea36035b5de65310921eae060", func := "loop.example/g03230/laws.FnWider", spec := "fnWider", unfollowed := true, recurses := true, apart := false, narrowed := true }
def FnWiderUptoSaid : Prop := fnWiderUptoRow.holds Try.pinned (OpenSpec.upto fnWiderSpec)

/-- 'laws.FnTurned', WHERE WHAT IT READS IS OF BULK AT MOST 1048576: true; the input reads as it did. -/
def fnTurnedUptoRow : OpenClaim := { program := "ytjfckplogjekaaa", sum := "041d280f24731ca32d5d835a1a59aa016ae41feea36035b5de65310921eae060", func := "loop.example/g03230/laws.FnTurned", spec := "fnTurned", unfollowed := true, recurses := true, apart := false, narrowed := true }
def FnTurnedUptoSaid : Prop := fnTurnedUptoRow.holds Try.pinned (OpenSpec.upto fnTurnedSpec)

/-- 'laws.FnQuads', WHERE WHAT IT READS IS OF BULK AT MOST 1048576: true; the input reads as it did. -/
def fnQuadsUptoRow : OpenClaim := { program := "ytjfckplogjekaaa", sum := "041d280f24731ca32d5d835a1a59aa016ae41feea36035b5de65310921eae060", func := "loop.example/g03230/laws.FnQuads", spec := "fnQuads", unfollowed := true, recurses := true, apart := false, narrowed := true }
def FnQuadsUptoSaid : Prop := fnQuadsUptoRow.holds Try.pinned (OpenSpec.upto fnQuadsSpec)

/-- 'laws.FnFitting', WHERE WHAT IT READS IS OF BULK AT MOST 1048576: true; the input reads as it did. -/
def fnFittingUptoRow : OpenClaim := { program := "ytjfckplogjekaaa", sum := "041d280f24731ca32d5d835a1a59aa016ae41feea36035b5de65310921eae060", func := "loop.example/g03230/laws.FnFitting", spec := "fnFitting", unfollowed := true, recurses := true, apart := false, narrowed := true }
def FnFittingUptoSaid : Prop := fnFittingUptoRow.holds Try.pinned (OpenSpec.upto fnFittingSpec)

/-- 'laws.FnExactMeasureOk', WHERE WHAT IT READS IS OF BULK AT MOST 1048576: true; the input reads as it did. -/
def fnExactMeasureOkUptoRow : OpenClaim := { program := "ytjfckplogjekaaa", sum := "041d280f24731ca32d5d835a1a59aa016ae41feea36035b5de65310921eae060", func := "loop.example/g03230/laws.FnExactMeasureOk", spec := "fnExactMeasureOk", apart := false, narrowed := true }
def FnExactMeasureOkUptoSaid : Prop := fnExactMeasureOkUptoRow.holds Try.pinned (OpenSpec.upto fnExactMeasureOkSpec)

/-- 'laws.FnExactLineOk', WHERE WHAT IT READS IS OF BULK AT MOST 1048576: true; the input reads as it did. -/
def fnExactLineOkUptoRow : OpenClaim := { program := "ytjfckplogjekaaa", sum := "041d280f24731ca32d5d835a1a59aa016ae41feea36035b5de65310921eae060", func := "loop.example/g03230/laws.FnExactLineOk", spec := "fnExactLineOk", unfollowed := true, recurses := true, apart := false, narrowed := true }
def FnExactLineOkUptoSaid : Prop := fnExactLineOkUptoRow.holds Try.pinned (OpenSpec.upto fnExactLineOkSpec)

/-- 'laws.FnExactWidthsOf', WHERE WHAT IT READS IS OF BULK AT MOST 1048576: true; the input reads as it did. -/
def fnExactWidthsOfUptoRow : OpenClaim := { program := "ytjfckplogjekaaa", sum := "041d280f24731ca32d5d835a1a59aa016ae41feea36035b5de65310921eae060", func := "loop.example/g03230/laws.FnExactWidthsOf", spec := "fnExactWidthsOf", unfollowed := true, recurses := true, apart := false, narrowed := true }
def FnExactWidthsOfUptoSaid : Prop := fnExactWidthsOfUptoRow.holds Try.pinned (OpenSpec.upto fnExactWidthsOfSpec)

/-- 'laws.FnExactSpreadLine', WHERE WHAT IT READS IS OF BULK AT MOST 1048576: true; the input reads as it did. -/
def fnExactSpreadLineUptoRow : OpenClaim := { program := "ytjfckplogjekaaa", sum := "041d280f24731ca32d5d835a1a59aa016ae41feea36035b5de65310921eae060", func := "loop.example/g03230/laws.FnExactSpreadLine", spec := "fnExactSpreadLine", unfollowed := true, recurses := true, apart := false, narrowed := true }
def FnExactSpreadLineUptoSaid : Prop := fnExactSpreadLineUptoRow.holds Try.pinned (OpenSpec.upto fnExactSpreadLineSpec)

/-- 'laws.FnExactIsFull', WHERE WHAT IT READS IS OF BULK AT MOST 1048576: true; the input reads as it did. -/
def fnExactIsFullUptoRow : OpenClaim := { program := "ytjfckplogjekaaa", sum := "041d280f24731ca32d5d835a1a59aa016ae41feea36035b5de65310921eae060", func := "loop.example/g03230/laws.FnExactIsFull", spec := "fnExactIsFull", unfollowed := true, recurses := true, apart := false, narrowed := true }
def FnExactIsFullUptoSaid : Prop := fnExactIsFullUptoRow.holds Try.pinned (OpenSpec.upto fnExactIsFullSpec)

/-- 'laws.FnExactBandWidths', WHERE WHAT IT READS IS OF BULK AT MOST 1048576: true; the input reads as it did. -/
def fnExactBandWidthsUptoRow : OpenClaim := { program := "ytjfckplogjekaaa", sum := "041d280f24731ca32d5d835a1a59aa016ae41feea36035b5de65310921eae060", func := "loop.example/g03230/laws.FnExactBandWidths", spec := "fnExactBandWidths", unfollowed := true, recurses := true, apart := false, narrowed := true }
def FnExactBandWidthsUptoSaid : Prop := fnExactBandWidthsUptoRow.holds Try.pinned (OpenSpec.upto fnExactBandWidthsSpec)

/-- 'laws.FnExactPlacesOf', WHERE WHAT IT READS IS OF BULK AT MOST 1048576: true; the input reads as it did. -/
def fnExactPlacesOfUptoRow : OpenClaim := { program := "ytjfckplogjekaaa", sum := "041d280f24731ca32d5d835a1a59aa016ae41feea36035b5de65310921eae060", func := "loop.example/g03230/laws.FnExactPlacesOf", spec := "fnExactPlacesOf", unfollowed := true, recurses := true, apart := false, narrowed := true }
def FnExactPlacesOfUptoSaid : Prop := fnExactPlacesOfUptoRow.holds Try.pinned (OpenSpec.upto fnExactPlacesOfSpec)

/-- 'laws.FnExactCountFitting', WHERE WHAT IT READS IS OF BULK AT MOST 1048576: true; the input reads as it did. -/
def fnExactCountFittingUptoRow : OpenClaim := { program := "ytjfckplogjekaaa", sum := "041d280f24731ca32d5d835a1a59aa016ae41feea36035b5de65310921eae060", func := "loop.example/g03230/laws.FnExactCountFitting", spec := "fnExactCountFitting", unfollowed := true, recurses := true, apart := false, narrowed := true }
def FnExactCountFittingUptoSaid : Prop := fnExactCountFittingUptoRow.holds Try.pinned (OpenSpec.upto fnExactCountFittingSpec)

/-- 'laws.FnExactQuadLine', WHERE WHAT IT READS IS OF BULK AT MOST 1048576: true; the input reads as it did. -/
def fnExactQuadLineUptoRow : OpenClaim := { program := "ytjfckplogjekaaa", sum := "041d280f24731ca32d5d835a1a59aa016ae41feea36035b5de65310921eae060", func := "loop.example/g03230/laws.FnExactQuadLine", spec := "fnExactQuadLine", unfollowed := true, recurses := true, apart := false, narrowed := true }
def FnExactQuadLineUptoSaid : Prop := fnExactQuadLineUptoRow.holds Try.pinned (OpenSpec.upto fnExactQuadLineSpec)

/-- 'laws.FnExactCenterLine', WHERE WHAT IT READS IS OF BULK AT MOST 1048576: true; the input reads as it did. -/
def fnExactCenterLineUptoRow : OpenClaim := { program := "ytjfckplogjekaaa", sum := "041d280f24731ca32d5d835a1a59aa016ae41feea36035b5de65310921eae060", func := "loop.example/g03230/laws.FnExactCenterLine", spec := "fnExactCenterLine", unfollowed := true, recurses := true, apart := false, narrowed := true }
def FnExactCenterLineUptoSaid : Prop := fnExactCenterLineUptoRow.holds Try.pinned (OpenSpec.upto fnExactCenterLineSpec)

end Rows
end Go.Proofs.Ytjfckplogjekaaa
