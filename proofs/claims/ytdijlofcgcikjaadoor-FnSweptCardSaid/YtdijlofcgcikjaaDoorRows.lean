/-
  NARROWER THAN 'FOR EVERY INPUT', by the rows' own cells (each row's printed sentence says how): FnRound: ifaces, laid · FnSwept: ifaces, laid · FnExactTakeMatrix: ifaces, laid · FnExactDropMatrix: ifaces, laid · FnExactSweepMagazine: ifaces, laid.
  DERIVED. THE GIVEN ROWS OF THIS SEAT. 5 by the template 'for every input the law returns true; each argument reads behind the call as it read before'; 0 by the template 'total and deterministic' (their statements: YtdijlofcgcikjaaDoorTotals.lean).
  GIVEN WITH THE SEED: the statements are not yours to turn. If you find one false, say at which input.
  Laid BY PROGRAM, IN A SANDBOX (cutbox-rows.mjs): the forced cells as the released guide's own fill.sh prints them over the translation dff6fcea70f607d0… (all of the seat's roots in one cut). By AI agents, Wed Nov 11 2026. No macro, syntax, notation, axiom, sorry.
-/
import Derived.Test.YtdijlofcgcikjaaDoorChecked
import GoSem.Claim
import GoSem.ClaimJoined
import GoSem.ClaimMapViews
import Derived.JoinedTies
import Derived.KernelRfl
namespace Go.Proofs.YtdijlofcgcikjaaDoor
/- THE CELL 'sum', in the pinned program and in every row, IS THE sha256 OF THE DUMP (.gsa) THAT YtdijlofcgcikjaaDoorProg.lean LOADS. Nothing in Lean hashes anything: it is a label: what it is worth is what the hold of that sum in a sandbox is worth. -/
noncomputable def Tryd.pinned : Pinned := { name := "ytdijlofcgcikjaadoor", sum := "dff6fcea70f607d01d23fc54663720b76d36b2d36020756a29bcf90e2ea1b115", checked := Tryd.checked }
namespace Rows
def none {H : Type} : Left H := { results := [], args := [] }

/- WHAT THE LISTED PACKAGE-LEVEL VARIABLES READ AS WHEN THE CALL BEGINS. Each datum BY PROGRAM (the guide's laid-datum.mjs) off the statement by which the dump's own 'gosem.cut.vars' lays the variable. In a bare row this is a premise. The card (YtdijlofcgcikjaaDoorCards.lean) ties it to the program's text. -/
def laid_errors_errorType {H : Type} : DataW H := .iface "internal/reflectlite.rtype" (.agg [.ptr (.lit (.string [101, 114, 114, 111, 114]))])
def laid_loop_example_g03230_impl_errEmpty {H : Type} : DataW H := .iface "*errors.errorString" (.ptr (.agg [.lit (.string [110, 111, 32, 109, 97, 116, 114, 105, 120, 32, 105, 115, 32, 108, 101, 102, 116])]))
def laid_loop_example_g03230_impl_errFull {H : Type} : DataW H := .iface "*errors.errorString" (.ptr (.agg [.lit (.string [116, 104, 101, 114, 101, 32, 105, 115, 32, 110, 111, 32, 114, 111, 111, 109])]))

/-- 'laws.FnRound': WHATEVER THE INPUT: true; the input reads as it did. -/
def fnRoundSpec : ChangeSpec := { name := "fnRound", vars := ["loop.example/g03230/impl.errEmpty", "loop.example/g03230/impl.errFull"], fn := fun _ => fun
  | [d, g1, g2] => { results := [.lit (.bool true)], args := [d], vars := [g1, g2] }
  | _ => none }
def fnRoundRow : OpenClaim := { program := "ytdijlofcgcikjaadoor", sum := "dff6fcea70f607d01d23fc54663720b76d36b2d36020756a29bcf90e2ea1b115", func := "loop.example/g03230/laws.FnRound", spec := "fnRound", inPlace := ["internal/reflectlite.ValueOf", "(internal/reflectlite.Value).Type", "(internal/reflectlite.Value).IsNil", "internal/reflectlite.TypeOf", "(internal/reflectlite.Value).Elem", "(internal/reflectlite.Value).Set"], unfollowed := true, recurses := true, named := ["loop.example/g03230/impl.errEmpty", "errors.errorType", "loop.example/g03230/impl.errFull"], ifaces := true, apart := false, laid := [("errors.errorType", laid_errors_errorType), ("loop.example/g03230/impl.errEmpty", laid_loop_example_g03230_impl_errEmpty), ("loop.example/g03230/impl.errFull", laid_loop_example_g03230_impl_errFull)] }
def FnRoundSaid : Prop := fnRoundRow.holds Tryd.pinned (OpenSpec.ofChange fnRoundSpec)

/-- ITS FALSE NEIGHBOUR: 'it returns false'. Refute it at one input. -/
def fnRoundWrong : ChangeSpec := { name := "fnRound", vars := ["loop.example/g03230/impl.errEmpty", "loop.example/g03230/impl.errFull"], fn := fun _ => fun
  | [d, g1, g2] => { results := [.lit (.bool false)], args := [d], vars := [g1, g2] }
  | _ => none }
def FnRoundWrongFalsely : Prop := fnRoundRow.holds Tryd.pinned (OpenSpec.ofChange fnRoundWrong)

/-- 'laws.FnSwept': WHATEVER THE INPUT: true; the input reads as it did. -/
def fnSweptSpec : ChangeSpec := { name := "fnSwept", vars := ["loop.example/g03230/impl.errFull"], fn := fun _ => fun
  | [d, g1] => { results := [.lit (.bool true)], args := [d], vars := [g1] }
  | _ => none }
def fnSweptRow : OpenClaim := { program := "ytdijlofcgcikjaadoor", sum := "dff6fcea70f607d01d23fc54663720b76d36b2d36020756a29bcf90e2ea1b115", func := "loop.example/g03230/laws.FnSwept", spec := "fnSwept", inPlace := ["internal/reflectlite.ValueOf", "(internal/reflectlite.Value).Type", "(internal/reflectlite.Value).IsNil", "internal/reflectlite.TypeOf", "(internal/reflectlite.Value).Elem", "(internal/reflectlite.Value).Set"], unfollowed := true, recurses := true, named := ["loop.example/g03230/impl.errFull", "errors.errorType"], ifaces := true, apart := false, laid := [("errors.errorType", laid_errors_errorType), ("loop.example/g03230/impl.errFull", laid_loop_example_g03230_impl_errFull)] }
def FnSweptSaid : Prop := fnSweptRow.holds Tryd.pinned (OpenSpec.ofChange fnSweptSpec)

/-- ITS FALSE NEIGHBOUR: 'it returns false'. Refute it at one input. -/
def fnSweptWrong : ChangeSpec := { name := "fnSwept", vars := ["loop.example/g03230/impl.errFull"], fn := fun _ => fun
  | [d, g1] => { results := [.lit (.bool false)], args := [d], vars := [g1] }
  | _ => none }
def FnSweptWrongFalsely : Prop := fnSweptRow.holds Tryd.pinned (OpenSpec.ofChange fnSweptWrong)

/-- 'laws.FnExactTakeMatrix': WHATEVER THE INPUT: true; the input reads as it did. -/
def fnExactTakeMatrixSpec : ChangeSpec := { name := "fnExactTakeMatrix", vars := ["loop.example/g03230/impl.errEmpty"], fn := fun _ => fun
  | [d1, d2, d3, g1] => { results := [.lit (.bool true)], args := [d1, d2, d3], vars := [g1] }
  | _ => none }
def fnExactTakeMatrixRow : OpenClaim := { program := "ytdijlofcgcikjaadoor", sum := "dff6fcea70f607d01d23fc54663720b76d36b2d36020756a29bcf90e2ea1b115", func := "loop.example/g03230/laws.FnExactTakeMatrix", spec := "fnExactTakeMatrix", inPlace := ["internal/reflectlite.ValueOf", "(internal/reflectlite.Value).Type", "(internal/reflectlite.Value).IsNil", "internal/reflectlite.TypeOf", "(internal/reflectlite.Value).Elem", "(internal/reflectlite.Value).Set"], unfollowed := true, recurses := true, named := ["loop.example/g03230/impl.errEmpty", "errors.errorType"], ifaces := true, apart := false, laid := [("errors.errorType", laid_errors_errorType), ("loop.example/g03230/impl.errEmpty", laid_loop_example_g03230_impl_errEmpty)] }
def FnExactTakeMatrixSaid : Prop := fnExactTakeMatrixRow.holds Tryd.pinned (OpenSpec.ofChange fnExactTakeMatrixSpec)

/-- ITS FALSE NEIGHBOUR: 'it returns false'. Refute it at one input. -/
def fnExactTakeMatrixWrong : ChangeSpec := { name := "fnExactTakeMatrix", vars := ["loop.example/g03230/impl.errEmpty"], fn := fun _ => fun
  | [d1, d2, d3, g1] => { results := [.lit (.bool false)], args := [d1, d2, d3], vars := [g1] }
  | _ => none }
def FnExactTakeMatrixWrongFalsely : Prop := fnExactTakeMatrixRow.holds Tryd.pinned (OpenSpec.ofChange fnExactTakeMatrixWrong)

/-- 'laws.FnExactDropMatrix': WHATEVER THE INPUT: true; the input reads as it did. -/
def fnExactDropMatrixSpec : ChangeSpec := { name := "fnExactDropMatrix", vars := ["loop.example/g03230/impl.errFull"], fn := fun _ => fun
  | [d1, d2, d3, g1] => { results := [.lit (.bool true)], args := [d1, d2, d3], vars := [g1] }
  | _ => none }
def fnExactDropMatrixRow : OpenClaim := { program := "ytdijlofcgcikjaadoor", sum := "dff6fcea70f607d01d23fc54663720b76d36b2d36020756a29bcf90e2ea1b115", func := "loop.example/g03230/laws.FnExactDropMatrix", spec := "fnExactDropMatrix", inPlace := ["internal/reflectlite.ValueOf", "(internal/reflectlite.Value).Type", "(internal/reflectlite.Value).IsNil", "internal/reflectlite.TypeOf", "(internal/reflectlite.Value).Elem", "(internal/reflectlite.Value).Set"], unfollowed := true, recurses := true, named := ["loop.example/g03230/impl.errFull", "errors.errorType"], ifaces := true, apart := false, laid := [("errors.errorType", laid_errors_errorType), ("loop.example/g03230/impl.errFull", laid_loop_example_g03230_impl_errFull)] }
def FnExactDropMatrixSaid : Prop := fnExactDropMatrixRow.holds Tryd.pinned (OpenSpec.ofChange fnExactDropMatrixSpec)

/-- ITS FALSE NEIGHBOUR: 'it returns false'. Refute it at one input. -/
def fnExactDropMatrixWrong : ChangeSpec := { name := "fnExactDropMatrix", vars := ["loop.example/g03230/impl.errFull"], fn := fun _ => fun
  | [d1, d2, d3, g1] => { results := [.lit (.bool false)], args := [d1, d2, d3], vars := [g1] }
  | _ => none }
def FnExactDropMatrixWrongFalsely : Prop := fnExactDropMatrixRow.holds Tryd.pinned (OpenSpec.ofChange fnExactDropMatrixWrong)

/-- 'laws.FnExactSweepMagazine': WHATEVER THE INPUT: true; the input reads as it did. -/
def fnExactSweepMagazineSpec : ChangeSpec := { name := "fnExactSweepMagazine", vars := ["loop.example/g03230/impl.errFull"], fn := fun _ => fun
  | [d1, d2, g1] => { results := [.lit (.bool true)], args := [d1, d2], vars := [g1] }
  | _ => none }
def fnExactSweepMagazineRow : OpenClaim := { program := "ytdijlofcgcikjaadoor", sum := "dff6fcea70f607d01d23fc54663720b76d36b2d36020756a29bcf90e2ea1b115", func := "loop.example/g03230/laws.FnExactSweepMagazine", spec := "fnExactSweepMagazine", inPlace := ["internal/reflectlite.ValueOf", "(internal/reflectlite.Value).Type", "(internal/reflectlite.Value).IsNil", "internal/reflectlite.TypeOf", "(internal/reflectlite.Value).Elem", "(internal/reflectlite.Value).Set"], unfollowed := true, recurses := true, named := ["loop.example/g03230/impl.errFull", "errors.errorType"], ifaces := true, apart := false, laid := [("errors.errorType", laid_errors_errorType), ("loop.example/g03230/impl.errFull", laid_loop_example_g03230_impl_errFull)] }
def FnExactSweepMagazineSaid : Prop := fnExactSweepMagazineRow.holds Tryd.pinned (OpenSpec.ofChange fnExactSweepMagazineSpec)

/-- ITS FALSE NEIGHBOUR: 'it returns false'. Refute it at one input. -/
def fnExactSweepMagazineWrong : ChangeSpec := { name := "fnExactSweepMagazine", vars := ["loop.example/g03230/impl.errFull"], fn := fun _ => fun
  | [d1, d2, g1] => { results := [.lit (.bool false)], args := [d1, d2], vars := [g1] }
  | _ => none }
def FnExactSweepMagazineWrongFalsely : Prop := fnExactSweepMagazineRow.holds Tryd.pinned (OpenSpec.ofChange fnExactSweepMagazineWrong)

/- THE SECOND FORM. 'bulk': how many values and letters a reading holds, each counted each time it is reached (what is shared counts as often as it is met; a slice's spare places count too). A statement '..UptoSaid' is the law's where the arguments, and the package variables that the reading takes, are together of bulk at most 1048576: NARROWER than '..Said'. Prove '..Said' where nothing that the law and all that it calls make is longer than what came in: it says more and counts as full. Else prove '..UptoSaid'. A law counts once. -/
mutual
def uptoBulk {H : Type} : DataW H → Nat
  | .lit (.string bytes) => bytes.length + 1
  | .lit _ => 1
  | .nil => 1
  | .ptr d => uptoBulk d + 1
  | .slice elems spare => uptoBulkAll elems + uptoBulkAll spare + 1
  | .agg parts => uptoBulkAll parts + 1
  | .iface _ d => uptoBulk d + 1
  | .map entries => uptoBulkEntries entries + 1
  | .held _ => 1
def uptoBulkAll {H : Type} : List (DataW H) → Nat
  | [] => 0
  | d :: r => uptoBulk d + uptoBulkAll r
def uptoBulkEntries {H : Type} : List (Lit × DataW H) → Nat
  | [] => 0
  | x :: r => uptoBulkEntry x + uptoBulkEntries r
def uptoBulkEntry {H : Type} : Lit × DataW H → Nat
  | (.string bytes, d) => bytes.length + uptoBulk d + 1
  | (_, d) => uptoBulk d + 1
 end
def uptoSmall : (H : Type) → List (DataW H) → Bool := fun _ ds => decide (uptoBulkAll ds ≤ 1048576)
def OpenSpec.upto (s : _root_.Go.ChangeSpec) : _root_.Go.OpenSpec := { _root_.Go.OpenSpec.ofChange s with cond := some uptoSmall }

/-- 'laws.FnRound', WHERE WHAT IT READS IS OF BULK AT MOST 1048576: true; the input reads as it did. -/
def fnRoundUptoRow : OpenClaim := { program := "ytdijlofcgcikjaadoor", sum := "dff6fcea70f607d01d23fc54663720b76d36b2d36020756a29bcf90e2ea1b115", func := "loop.example/g03230/laws.FnRound", spec := "fnRound", inPlace := ["internal/reflectlite.ValueOf", "(internal/reflectlite.Value).Type", "(internal/reflectlite.Value).IsNil", "internal/reflectlite.TypeOf", "(internal/reflectlite.Value).Elem", "(internal/reflectlite.Value).Set"], unfollowed := true, recurses := true, named := ["loop.example/g03230/impl.errEmpty", "errors.errorType", "loop.example/g03230/impl.errFull"], ifaces := true, apart := false, laid := [("errors.errorType", laid_errors_errorType), ("loop.example/g03230/impl.errEmpty", laid_loop_example_g03230_impl_errEmpty), ("loop.example/g03230/impl.errFull", laid_loop_example_g03230_impl_errFull)], narrowed := true }
def FnRoundUptoSaid : Prop := fnRoundUptoRow.holds Tryd.pinned (OpenSpec.upto fnRoundSpec)

/-- 'laws.FnSwept', WHERE WHAT IT READS IS OF BULK AT MOST 1048576: true; the input reads as it did. -/
def fnSweptUptoRow : OpenClaim := { program := "ytdijlofcgcikjaadoor", sum := "dff6fcea70f607d01d23fc54663720b76d36b2d36020756a29bcf90e2ea1b115", func := "loop.example/g03230/laws.FnSwept", spec := "fnSwept", inPlace := ["internal/reflectlite.ValueOf", "(internal/reflectlite.Value).Type", "(internal/reflectlite.Value).IsNil", "internal/reflectlite.TypeOf", "(internal/reflectlite.Value).Elem", "(internal/reflectlite.Value).Set"], unfollowed := true, recurses := true, named := ["loop.example/g03230/impl.errFull", "errors.errorType"], ifaces := true, apart := false, laid := [("errors.errorType", laid_errors_errorType), ("loop.example/g03230/impl.errFull", laid_loop_example_g03230_impl_errFull)], narrowed := true }
def FnSweptUptoSaid : Prop := fnSweptUptoRow.holds Tryd.pinned (OpenSpec.upto fnSweptSpec)

/-- 'laws.FnExactTakeMatrix', WHERE WHAT IT READS IS OF BULK AT MOST 1048576: true; the input reads as it did. -/
def fnExactTakeMatrixUptoRow : OpenClaim := { program := "ytdijlofcgcikjaadoor", sum := "dff6fcea70f607d01d23fc54663720b76d36b2d36020756a29bcf90e2ea1b115", func := "loop.example/g03230/laws.FnExactTakeMatrix", spec := "fnExactTakeMatrix", inPlace := ["internal/reflectlite.ValueOf", "(internal/reflectlite.Value).Type", "(internal/reflectlite.Value).IsNil", "internal/reflectlite.TypeOf", "(internal/reflectlite.Value).Elem", "(internal/reflectlite.Value).Set"], unfollowed := true, recurses := true, named := ["loop.example/g03230/impl.errEmpty", "errors.errorType"], ifaces := true, apart := false, laid := [("errors.errorType", laid_errors_errorType), ("loop.example/g03230/impl.errEmpty", laid_loop_example_g03230_impl_errEmpty)], narrowed := true }
def FnExactTakeMatrixUptoSaid : Prop := fnExactTakeMatrixUptoRow.holds Tryd.pinned (OpenSpec.upto fnExactTakeMatrixSpec)

/-- 'laws.FnExactDropMatrix', WHERE WHAT IT READS IS OF BULK AT MOST 1048576: true; the input reads as it did. -/
def fnExactDropMatrixUptoRow : OpenClaim := { program := "ytdijlofcgcikjaadoor", sum := "dff6fcea70f607d01d23fc54663720b76d36b2d36020756a29bcf90e2ea1b115", func := "loop.example/g03230/laws.FnExactDropMatrix", spec := "fnExactDropMatrix", inPlace := ["internal/reflectlite.ValueOf", "(internal/reflectlite.Value).Type", "(internal/reflectlite.Value).IsNil", "internal/reflectlite.TypeOf", "(internal/reflectlite.Value).Elem", "(internal/reflectlite.Value).Set"], unfollowed := true, recurses := true, named := ["loop.example/g03230/impl.errFull", "errors.errorType"], ifaces := true, apart := false, laid := [("errors.errorType", laid_errors_errorType), ("loop.example/g03230/impl.errFull", laid_loop_example_g03230_impl_errFull)], narrowed := true }
def FnExactDropMatrixUptoSaid : Prop := fnExactDropMatrixUptoRow.holds Tryd.pinned (OpenSpec.upto fnExactDropMatrixSpec)

/-- 'laws.FnExactSweepMagazine', WHERE WHAT IT READS IS OF BULK AT MOST 1048576: true; the input reads as it did. -/
def fnExactSweepMagazineUptoRow : OpenClaim := { program := "ytdijlofcgcikjaadoor", sum := "dff6fcea70f607d01d23fc54663720b76d36b2d36020756a29bcf90e2ea1b115", func := "loop.example/g03230/laws.FnExactSweepMagazine", spec := "fnExactSweepMagazine", inPlace := ["internal/reflectlite.ValueOf", "(internal/reflectlite.Value).Type", "(internal/reflectlite.Value).IsNil", "internal/reflectlite.TypeOf", "(internal/reflectlite.Value).Elem", "(internal/reflectlite.Value).Set"], unfollowed := true, recurses := true, named := ["loop.example/g03230/impl.errFull", "errors.errorType"], ifaces := true, apart := false, laid := [("errors.errorType", laid_errors_errorType), ("loop.example/g03230/impl.errFull", laid_loop_example_g03230_impl_errFull)], narrowed := true }
def FnExactSweepMagazineUptoSaid : Prop := fnExactSweepMagazineUptoRow.holds Tryd.pinned (OpenSpec.upto fnExactSweepMagazineSpec)

end Rows
end Go.Proofs.YtdijlofcgcikjaaDoor
