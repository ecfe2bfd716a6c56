/-
  NARROWER THAN 'FOR EVERY INPUT', by the rows' own cells (each row's printed sentence says how): FnExactDropWaiting: ifaces, laid · FnExactCastLine: ifaces, laid · FnExactKeyText: ifaces, laid · FnExactSetLines: ifaces, laid.
  DERIVED. THE GIVEN ROWS OF THIS SEAT. 4 by the template 'for every input the law returns true; each argument reads behind the call as it read before'; 0 by the template 'total and deterministic' (their statements: YtimhnkpccbcohaaGreatDoorTotals.lean).
  GIVEN WITH THE SEED: the statements are not yours to turn. If you find one false, say at which input.
  Laid BY PROGRAM, IN A SANDBOX (cutbox-rows.mjs): the forced cells as the released guide's own fill.sh prints them over the translation 4a776c5ab046ccbb… (all of the seat's roots in one cut). By AI agents, Wed Nov 11 2026. No macro, syntax, notation, axiom, sorry.
-/
import Derived.Test.YtimhnkpccbcohaaGreatDoorChecked
import GoSem.Claim
import GoSem.ClaimJoined
import GoSem.ClaimMapViews
import Derived.JoinedTies
import Derived.KernelRfl
namespace Go.Proofs.YtimhnkpccbcohaaGreatDoor
/- THE CELL 'sum', in the pinned program and in every row, IS THE sha256 OF THE DUMP (.gsa) THAT YtimhnkpccbcohaaGreatDoorProg.lean LOADS. Nothing in Lean hashes anything: it is a label: what it is worth is what the hold of that sum in a sandbox is worth. -/
noncomputable def Tryz.pinned : Pinned := { name := "ytimhnkpccbcohaagreatdoor", sum := "4a776c5ab046ccbb54072449d4fc6ef0176ad79785155dbd4d7ba31eac2e88bf", checked := Tryz.checked }
namespace Rows
def none {H : Type} : Left H := { results := [], args := [] }

/- WHAT THE LISTED PACKAGE-LEVEL VARIABLES READ AS WHEN THE CALL BEGINS. Each datum BY PROGRAM (the guide's laid-datum.mjs) off the statement by which the dump's own 'gosem.cut.vars' lays the variable. In a bare row this is a premise. The card (YtimhnkpccbcohaaGreatDoorCards.lean) ties it to the program's text. -/
def laid_loop_example_g03230_impl_errFull {H : Type} : DataW H := .iface "*errors.errorString" (.ptr (.agg [.lit (.string [116, 104, 101, 114, 101, 32, 105, 115, 32, 110, 111, 32, 114, 111, 111, 109])]))
def laid_loop_example_g03230_impl_errNoItems {H : Type} : DataW H := .iface "*errors.errorString" (.ptr (.agg [.lit (.string [116, 104, 101, 114, 101, 32, 105, 115, 32, 110, 111, 32, 108, 105, 110, 101, 32, 116, 111, 32, 99, 97, 115, 116])]))
def laid_loop_example_g03230_impl_errLoose {H : Type} : DataW H := .iface "*errors.errorString" (.ptr (.agg [.lit (.string [116, 104, 101, 32, 108, 105, 110, 101, 32, 105, 115, 32, 110, 111, 116, 32, 102, 117, 108, 108])]))
def laid_loop_example_g03230_impl_errTooMany {H : Type} : DataW H := .iface "*errors.errorString" (.ptr (.agg [.lit (.string [109, 111, 114, 101, 32, 99, 111, 109, 101, 32, 98, 97, 99, 107, 32, 116, 104, 97, 110, 32, 116, 104, 101, 114, 101, 32, 105, 115, 32, 114, 111, 111, 109, 32, 102, 111, 114])]))
def laid_errors_errorType {H : Type} : DataW H := .iface "internal/reflectlite.rtype" (.agg [.ptr (.lit (.string [101, 114, 114, 111, 114]))])
def laid_loop_example_g03230_impl_errEmpty {H : Type} : DataW H := .iface "*errors.errorString" (.ptr (.agg [.lit (.string [110, 111, 32, 109, 97, 116, 114, 105, 120, 32, 105, 115, 32, 108, 101, 102, 116])]))
def laid_loop_example_g03230_impl_errNoKey {H : Type} : DataW H := .iface "*errors.errorString" (.ptr (.agg [.lit (.string [110, 111, 32, 108, 101, 116, 116, 101, 114, 32, 111, 102, 32, 116, 104, 101, 32, 102, 111, 110, 116, 32, 105, 115, 32, 111, 110, 32, 116, 104, 101, 32, 107, 101, 121])]))
def laid_loop_example_g03230_impl_errNoBand {H : Type} : DataW H := .iface "*errors.errorString" (.ptr (.agg [.lit (.string [110, 111, 32, 98, 97, 110, 100, 32, 105, 115, 32, 108, 101, 102, 116])]))
def laid_loop_example_g03230_impl_errNoFit {H : Type} : DataW H := .iface "*errors.errorString" (.ptr (.agg [.lit (.string [116, 104, 101, 32, 108, 105, 110, 101, 32, 104, 97, 115, 32, 110, 111, 32, 114, 111, 111, 109, 32, 102, 111, 114, 32, 105, 116])]))

/-- 'laws.FnExactDropWaiting': WHATEVER THE INPUT: true; the input reads as it did. -/
def fnExactDropWaitingSpec : ChangeSpec := { name := "fnExactDropWaiting", vars := ["loop.example/g03230/impl.errFull"], fn := fun _ => fun
  | [d1, d2, g1] => { results := [.lit (.bool true)], args := [d1, d2], vars := [g1] }
  | _ => none }
def fnExactDropWaitingRow : OpenClaim := { program := "ytimhnkpccbcohaagreatdoor", sum := "4a776c5ab046ccbb54072449d4fc6ef0176ad79785155dbd4d7ba31eac2e88bf", func := "loop.example/g03230/laws.FnExactDropWaiting", spec := "fnExactDropWaiting", inPlace := ["internal/reflectlite.TypeOf"], unfollowed := true, recurses := true, named := ["loop.example/g03230/impl.errFull"], ifaces := true, apart := false, laid := [("loop.example/g03230/impl.errFull", laid_loop_example_g03230_impl_errFull)] }
def FnExactDropWaitingSaid : Prop := fnExactDropWaitingRow.holds Tryz.pinned (OpenSpec.ofChange fnExactDropWaitingSpec)

/-- ITS FALSE NEIGHBOUR: 'it returns false'. Refute it at one input. -/
def fnExactDropWaitingWrong : ChangeSpec := { name := "fnExactDropWaiting", vars := ["loop.example/g03230/impl.errFull"], fn := fun _ => fun
  | [d1, d2, g1] => { results := [.lit (.bool false)], args := [d1, d2], vars := [g1] }
  | _ => none }
def FnExactDropWaitingWrongFalsely : Prop := fnExactDropWaitingRow.holds Tryz.pinned (OpenSpec.ofChange fnExactDropWaitingWrong)

/-- 'laws.FnExactCastLine': WHATEVER THE INPUT: true; the input reads as it did. -/
def fnExactCastLineSpec : ChangeSpec := { name := "fnExactCastLine", vars := ["loop.example/g03230/impl.errLoose", "loop.example/g03230/impl.errNoItems", "loop.example/g03230/impl.errTooMany"], fn := fun _ => fun
  | [d1, d2, g1, g2, g3] => { results := [.lit (.bool true)], args := [d1, d2], vars := [g1, g2, g3] }
  | _ => none }
def fnExactCastLineRow : OpenClaim := { program := "ytimhnkpccbcohaagreatdoor", sum := "4a776c5ab046ccbb54072449d4fc6ef0176ad79785155dbd4d7ba31eac2e88bf", func := "loop.example/g03230/laws.FnExactCastLine", spec := "fnExactCastLine", inPlace := ["internal/reflectlite.TypeOf"], unfollowed := true, recurses := true, named := ["loop.example/g03230/impl.errLoose", "loop.example/g03230/impl.errNoItems", "loop.example/g03230/impl.errTooMany"], ifaces := true, apart := false, laid := [("loop.example/g03230/impl.errNoItems", laid_loop_example_g03230_impl_errNoItems), ("loop.example/g03230/impl.errLoose", laid_loop_example_g03230_impl_errLoose), ("loop.example/g03230/impl.errTooMany", laid_loop_example_g03230_impl_errTooMany)] }
def FnExactCastLineSaid : Prop := fnExactCastLineRow.holds Tryz.pinned (OpenSpec.ofChange fnExactCastLineSpec)

/-- ITS FALSE NEIGHBOUR: 'it returns false'. Refute it at one input. -/
def fnExactCastLineWrong : ChangeSpec := { name := "fnExactCastLine", vars := ["loop.example/g03230/impl.errLoose", "loop.example/g03230/impl.errNoItems", "loop.example/g03230/impl.errTooMany"], fn := fun _ => fun
  | [d1, d2, g1, g2, g3] => { results := [.lit (.bool false)], args := [d1, d2], vars := [g1, g2, g3] }
  | _ => none }
def FnExactCastLineWrongFalsely : Prop := fnExactCastLineRow.holds Tryz.pinned (OpenSpec.ofChange fnExactCastLineWrong)

/-- 'laws.FnExactKeyText': WHATEVER THE INPUT: true; the input reads as it did. -/
def fnExactKeyTextSpec : ChangeSpec := { name := "fnExactKeyText", vars := ["loop.example/g03230/impl.errNoKey", "loop.example/g03230/impl.errNoBand", "loop.example/g03230/impl.errNoFit", "loop.example/g03230/impl.errEmpty"], fn := fun _ => fun
  | [d1, d2, g1, g2, g3, g4] => { results := [.lit (.bool true)], args := [d1, d2], vars := [g1, g2, g3, g4] }
  | _ => none }
def fnExactKeyTextRow : OpenClaim := { program := "ytimhnkpccbcohaagreatdoor", sum := "4a776c5ab046ccbb54072449d4fc6ef0176ad79785155dbd4d7ba31eac2e88bf", func := "loop.example/g03230/laws.FnExactKeyText", spec := "fnExactKeyText", inPlace := ["internal/reflectlite.ValueOf", "(internal/reflectlite.Value).Type", "(internal/reflectlite.Value).IsNil", "internal/reflectlite.TypeOf", "(internal/reflectlite.Value).Elem", "(internal/reflectlite.Value).Set"], unfollowed := true, recurses := true, named := ["loop.example/g03230/impl.errNoKey", "loop.example/g03230/impl.errNoBand", "loop.example/g03230/impl.errNoFit", "loop.example/g03230/impl.errEmpty", "errors.errorType"], ifaces := true, apart := false, laid := [("errors.errorType", laid_errors_errorType), ("loop.example/g03230/impl.errEmpty", laid_loop_example_g03230_impl_errEmpty), ("loop.example/g03230/impl.errNoKey", laid_loop_example_g03230_impl_errNoKey), ("loop.example/g03230/impl.errNoBand", laid_loop_example_g03230_impl_errNoBand), ("loop.example/g03230/impl.errNoFit", laid_loop_example_g03230_impl_errNoFit)] }
def FnExactKeyTextSaid : Prop := fnExactKeyTextRow.holds Tryz.pinned (OpenSpec.ofChange fnExactKeyTextSpec)

/-- ITS FALSE NEIGHBOUR: 'it returns false'. Refute it at one input. -/
def fnExactKeyTextWrong : ChangeSpec := { name := "fnExactKeyText", vars := ["loop.example/g03230/impl.errNoKey", "loop.example/g03230/impl.errNoBand", "loop.example/g03230/impl.errNoFit", "loop.example/g03230/impl.errEmpty"], fn := fun _ => fun
  | [d1, d2, g1, g2, g3, g4] => { results := [.lit (.bool false)], args := [d1, d2], vars := [g1, g2, g3, g4] }
  | _ => none }
def FnExactKeyTextWrongFalsely : Prop := fnExactKeyTextRow.holds Tryz.pinned (OpenSpec.ofChange fnExactKeyTextWrong)

/-- 'laws.FnExactSetLines': WHATEVER THE INPUT: true; the input reads as it did. -/
def fnExactSetLinesSpec : ChangeSpec := { name := "fnExactSetLines", vars := ["loop.example/g03230/impl.errNoKey", "loop.example/g03230/impl.errNoBand", "loop.example/g03230/impl.errNoFit", "loop.example/g03230/impl.errEmpty", "loop.example/g03230/impl.errLoose", "loop.example/g03230/impl.errNoItems", "loop.example/g03230/impl.errTooMany", "loop.example/g03230/impl.errFull"], fn := fun _ => fun
  | [d1, d2, g1, g2, g3, g4, g5, g6, g7, g8] => { results := [.lit (.bool true)], args := [d1, d2], vars := [g1, g2, g3, g4, g5, g6, g7, g8] }
  | _ => none }
def fnExactSetLinesRow : OpenClaim := { program := "ytimhnkpccbcohaagreatdoor", sum := "4a776c5ab046ccbb54072449d4fc6ef0176ad79785155dbd4d7ba31eac2e88bf", func := "loop.example/g03230/laws.FnExactSetLines", spec := "fnExactSetLines", inPlace := ["internal/reflectlite.TypeOf"], unfollowed := true, recurses := true, named := ["loop.example/g03230/impl.errNoKey", "loop.example/g03230/impl.errNoBand", "loop.example/g03230/impl.errNoFit", "loop.example/g03230/impl.errEmpty", "loop.example/g03230/impl.errLoose", "loop.example/g03230/impl.errNoItems", "loop.example/g03230/impl.errTooMany", "loop.example/g03230/impl.errFull"], ifaces := true, apart := false, laid := [("loop.example/g03230/impl.errEmpty", laid_loop_example_g03230_impl_errEmpty), ("loop.example/g03230/impl.errFull", laid_loop_example_g03230_impl_errFull), ("loop.example/g03230/impl.errNoKey", laid_loop_example_g03230_impl_errNoKey), ("loop.example/g03230/impl.errNoBand", laid_loop_example_g03230_impl_errNoBand), ("loop.example/g03230/impl.errNoFit", laid_loop_example_g03230_impl_errNoFit), ("loop.example/g03230/impl.errNoItems", laid_loop_example_g03230_impl_errNoItems), ("loop.example/g03230/impl.errLoose", laid_loop_example_g03230_impl_errLoose), ("loop.example/g03230/impl.errTooMany", laid_loop_example_g03230_impl_errTooMany)] }
def FnExactSetLinesSaid : Prop := fnExactSetLinesRow.holds Tryz.pinned (OpenSpec.ofChange fnExactSetLinesSpec)

/-- ITS FALSE NEIGHBOUR: 'it returns false'. Refute it at one input. -/
def fnExactSetLinesWrong : ChangeSpec := { name := "fnExactSetLines", vars := ["loop.example/g03230/impl.errNoKey", "loop.example/g03230/impl.errNoBand", "loop.example/g03230/impl.errNoFit", "loop.example/g03230/impl.errEmpty", "loop.example/g03230/impl.errLoose", "loop.example/g03230/impl.errNoItems", "loop.example/g03230/impl.errTooMany", "loop.example/g03230/impl.errFull"], fn := fun _ => fun
  | [d1, d2, g1, g2, g3, g4, g5, g6, g7, g8] => { results := [.lit (.bool false)], args := [d1, d2], vars := [g1, g2, g3, g4, g5, g6, g7, g8] }
  | _ => none }
def FnExactSetLinesWrongFalsely : Prop := fnExactSetLinesRow.holds Tryz.pinned (OpenSpec.ofChange fnExactSetLinesWrong)

/- THE SECOND FORM. 'bulk': how many values and letters a reading holds, each counted each time it is reached (what is shared counts as often as it is met; a slice's spare places count too). A statement '..UptoSaid' is the law's where the arguments, and the package variables that the reading takes, are together of bulk at most 1048576: NARROWER than '..Said'. Prove '..Said' where nothing that the law and all that it calls make is longer than what came in: it says more and counts as full. Else prove '..UptoSaid'. A law counts once. -/
mutual
def uptoBulk {H : Type} : DataW H → Nat
  | .lit (.string bytes) => bytes.length + 1
  | .lit _ => 1
  | .nil => 1
  | .ptr d => uptoBulk d + 1
  | .slice elems spare => uptoBulkAll elems + uptoBulkAll spare + 1
  | .agg parts => uptoBulkAll parts + 1
  | .iface _ d => uptoBulk d + 1
  | .map entries => uptoBulkEntries entries + 1
  | .held _ => 1
def uptoBulkAll {H : Type} : List (DataW H) → Nat
  | [] => 0
  | d :: r => uptoBulk d + uptoBulkAll r
def uptoBulkEntries {H : Type} : List (Lit × DataW H) → Nat
  | [] => 0
  | x :: r => uptoBulkEntry x + uptoBulkEntries r
def uptoBulkEntry {H : Type} : Lit × DataW H → Nat
  | (.string bytes, d) => bytes.length + uptoBulk d + 1
  | (_, d) => uptoBulk d + 1
 end
def uptoSmall : (H : Type) → List (DataW H) → Bool := fun _ ds => decide (uptoBulkAll ds ≤ 1048576)
def OpenSpec.upto (s : _root_.Go.ChangeSpec) : _root_.Go.OpenSpec := { _root_.Go.OpenSpec.ofChange s with cond := some uptoSmall }

/-- 'laws.FnExactDropWaiting', WHERE WHAT IT READS IS OF BULK AT MOST 1048576: true; the input reads as it did. -/
def fnExactDropWaitingUptoRow : OpenClaim := { program := "ytimhnkpccbcohaagreatdoor", sum := "4a776c5ab046ccbb54072449d4fc6ef0176ad79785155dbd4d7ba31eac2e88bf", func := "loop.example/g03230/laws.FnExactDropWaiting", spec := "fnExactDropWaiting", inPlace := ["internal/reflectlite.TypeOf"], unfollowed := true, recurses := true, named := ["loop.example/g03230/impl.errFull"], ifaces := true, apart := false, laid := [("loop.example/g03230/impl.errFull", laid_loop_example_g03230_impl_errFull)], narrowed := true }
def FnExactDropWaitingUptoSaid : Prop := fnExactDropWaitingUptoRow.holds Tryz.pinned (OpenSpec.upto fnExactDropWaitingSpec)

/-- 'laws.FnExactCastLine', WHERE WHAT IT READS IS OF BULK AT MOST 1048576: true; the input reads as it did. -/
def fnExactCastLineUptoRow : OpenClaim := { program := "ytimhnkpccbcohaagreatdoor", sum := "4a776c5ab046ccbb54072449d4fc6ef0176ad79785155dbd4d7ba31eac2e88bf", func := "loop.example/g03230/laws.FnExactCastLine", spec := "fnExactCastLine", inPlace := ["internal/reflectlite.TypeOf"], unfollowed := true, recurses := true, named := ["loop.example/g03230/impl.errLoose", "loop.example/g03230/impl.errNoItems", "loop.example/g03230/impl.errTooMany"], ifaces := true, apart := false, laid := [("loop.example/g03230/impl.errNoItems", laid_loop_example_g03230_impl_errNoItems), ("loop.example/g03230/impl.errLoose", laid_loop_example_g03230_impl_errLoose), ("loop.example/g03230/impl.errTooMany", laid_loop_example_g03230_impl_errTooMany)], narrowed := true }
def FnExactCastLineUptoSaid : Prop := fnExactCastLineUptoRow.holds Tryz.pinned (OpenSpec.upto fnExactCastLineSpec)

/-- 'laws.FnExactKeyText', WHERE WHAT IT READS IS OF BULK AT MOST 1048576: true; the input reads as it did. -/
def fnExactKeyTextUptoRow : OpenClaim := { program := "ytimhnkpccbcohaagreatdoor", sum := "4a776c5ab046ccbb54072449d4fc6ef0176ad79785155dbd4d7ba31eac2e88bf", func := "loop.example/g03230/laws.FnExactKeyText", spec := "fnExactKeyText", inPlace := ["internal/reflectlite.ValueOf", "(internal/reflectlite.Value).Type", "(internal/reflectlite.Value).IsNil", "internal/reflectlite.TypeOf", "(internal/reflectlite.Value).Elem", "(internal/reflectlite.Value).Set"], unfollowed := true, recurses := true, named := ["loop.example/g03230/impl.errNoKey", "loop.example/g03230/impl.errNoBand", "loop.example/g03230/impl.errNoFit", "loop.example/g03230/impl.errEmpty", "errors.errorType"], ifaces := true, apart := false, laid := [("errors.errorType", laid_errors_errorType), ("loop.example/g03230/impl.errEmpty", laid_loop_example_g03230_impl_errEmpty), ("loop.example/g03230/impl.errNoKey", laid_loop_example_g03230_impl_errNoKey), ("loop.example/g03230/impl.errNoBand", laid_loop_example_g03230_impl_errNoBand), ("loop.example/g03230/impl.errNoFit", laid_loop_example_g03230_impl_errNoFit)], narrowed := true }
def FnExactKeyTextUptoSaid : Prop := fnExactKeyTextUptoRow.holds Tryz.pinned (OpenSpec.upto fnExactKeyTextSpec)

/-- 'laws.FnExactSetLines', WHERE WHAT IT READS IS OF BULK AT MOST 1048576: true; the input reads as it did. -/
def fnExactSetLinesUptoRow : OpenClaim := { program := "ytimhnkpccbcohaagreatdoor", sum := "4a776c5ab046ccbb54072449d4fc6ef0176ad79785155dbd4d7ba31eac2e88bf", func := "loop.example/g03230/laws.FnExactSetLines", spec := "fnExactSetLines", inPlace := ["internal/reflectlite.TypeOf"], unfollowed := true, recurses := true, named := ["loop.example/g03230/impl.errNoKey", "loop.example/g03230/impl.errNoBand", "loop.example/g03230/impl.errNoFit", "loop.example/g03230/impl.errEmpty", "loop.example/g03230/impl.errLoose", "loop.example/g03230/impl.errNoItems", "loop.example/g03230/impl.errTooMany", "loop.example/g03230/impl.errFull"], ifaces := true, apart := false, laid := [("loop.example/g03230/impl.errEmpty", laid_loop_example_g03230_impl_errEmpty), ("loop.example/g03230/impl.errFull", laid_loop_example_g03230_impl_errFull), ("loop.example/g03230/impl.errNoKey", laid_loop_example_g03230_impl_errNoKey), ("loop.example/g03230/impl.errNoBand", laid_loop_example_g03230_impl_errNoBand), ("loop.example/g03230/impl.errNoFit", laid_loop_example_g03230_impl_errNoFit), ("loop.example/g03230/impl.errNoItems", laid_loop_example_g03230_impl_errNoItems), ("loop.example/g03230/impl.errLoose", laid_loop_example_g03230_impl_errLoose), ("loop.example/g03230/impl.errTooMany", laid_loop_example_g03230_impl_errTooMany)], narrowed := true }
def FnExactSetLinesUptoSaid : Prop := fnExactSetLinesUptoRow.holds Tryz.pinned (OpenSpec.upto fnExactSetLinesSpec)

end Rows
end Go.Proofs.YtimhnkpccbcohaaGreatDoor
