/-
  DERIVED. GIVEN WITH THE SEED: THE PROGRAM's TIES (one call each: nine closed facts by the kernel) AND EACH ROW's TIE, after the 31st guide's Derived/Test/Toyas{Tie, Card}.lean. No idea stands in it: it is a product of the set-up. Laid BY PROGRAM, IN A SANDBOX (cutbox-door.mjs). By AI agents, Wed Nov 11 2026. No macro, syntax, notation, axiom, sorry.
-/
import Derived.Test.YtimhnkpccbcohaaGreatDoorRows
import Derived.LaidByTextLater
import Derived.SevenTiedAt
import Derived.LaidSub
import Derived.LaidOnce
namespace Go.Proofs.YtimhnkpccbcohaaGreatDoor
open Go
set_option maxRecDepth 100000
theorem seatTie1 : Tryz.prog.laidByTextLater [("errors.errorType", Rows.laid_errors_errorType), ("loop.example/g03230/impl.errEmpty", Rows.laid_loop_example_g03230_impl_errEmpty), ("loop.example/g03230/impl.errFull", Rows.laid_loop_example_g03230_impl_errFull), ("loop.example/g03230/impl.errNoKey", Rows.laid_loop_example_g03230_impl_errNoKey), ("loop.example/g03230/impl.errNoBand", Rows.laid_loop_example_g03230_impl_errNoBand), ("loop.example/g03230/impl.errNoFit", Rows.laid_loop_example_g03230_impl_errNoFit), ("loop.example/g03230/impl.errNoItems", Rows.laid_loop_example_g03230_impl_errNoItems), ("loop.example/g03230/impl.errLoose", Rows.laid_loop_example_g03230_impl_errLoose), ("loop.example/g03230/impl.errTooMany", Rows.laid_loop_example_g03230_impl_errTooMany)] [.handle, .sentinel, .sentinel, .sentinel, .sentinel, .sentinel, .sentinel, .sentinel, .sentinel] true :=
  Program.laidByTextLater_by_one 168 8 2 (by kernel_rfl) (by kernel_rfl) (by kernel_rfl) (by kernel_rfl) (by kernel_rfl) (by kernel_rfl) (fun _ _ => by kernel_rfl)
theorem noOwnUnsafe : Tryz.pinned.checked.prog.headLifts.contains "ownunsafe" = false := by kernel_rfl
theorem tie : Tryz.prog.laidByTextLater [("loop.example/g03230/impl.errFull", Rows.laid_loop_example_g03230_impl_errFull)] [.sentinel] true :=
  Program.laidByTextLater.sub seatTie1 ["loop.example/g03230/impl.errFull"] (by kernel_rfl) (by kernel_rfl)
theorem fnExactDropWaiting_row_tie : Rows.fnExactDropWaitingRow.laidByTextAt .later Tryz.pinned [.sentinel] true :=
  OpenClaim.laidByTextAt_later rfl rfl tie noOwnUnsafe
theorem tie2 : Tryz.prog.laidByTextLater [("loop.example/g03230/impl.errNoItems", Rows.laid_loop_example_g03230_impl_errNoItems), ("loop.example/g03230/impl.errLoose", Rows.laid_loop_example_g03230_impl_errLoose), ("loop.example/g03230/impl.errTooMany", Rows.laid_loop_example_g03230_impl_errTooMany)] [.sentinel, .sentinel, .sentinel] true :=
  Program.laidByTextLater.sub seatTie1 ["loop.example/g03230/impl.errNoItems", "loop.example/g03230/impl.errLoose", "loop.example/g03230/impl.errTooMany"] (by kernel_rfl) (by kernel_rfl)
theorem fnExactCastLine_row_tie : Rows.fnExactCastLineRow.laidByTextAt .later Tryz.pinned [.sentinel, .sentinel, .sentinel] true :=
  OpenClaim.laidByTextAt_later rfl rfl tie2 noOwnUnsafe
theorem tie3 : Tryz.prog.laidByTextLater [("errors.errorType", Rows.laid_errors_errorType), ("loop.example/g03230/impl.errEmpty", Rows.laid_loop_example_g03230_impl_errEmpty), ("loop.example/g03230/impl.errNoKey", Rows.laid_loop_example_g03230_impl_errNoKey), ("loop.example/g03230/impl.errNoBand", Rows.laid_loop_example_g03230_impl_errNoBand), ("loop.example/g03230/impl.errNoFit", Rows.laid_loop_example_g03230_impl_errNoFit)] [.handle, .sentinel, .sentinel, .sentinel, .sentinel] true :=
  Program.laidByTextLater.sub seatTie1 ["errors.errorType", "loop.example/g03230/impl.errEmpty", "loop.example/g03230/impl.errNoKey", "loop.example/g03230/impl.errNoBand", "loop.example/g03230/impl.errNoFit"] (by kernel_rfl) (by kernel_rfl)
theorem fnExactKeyText_row_tie : Rows.fnExactKeyTextRow.laidByTextAt .later Tryz.pinned [.handle, .sentinel, .sentinel, .sentinel, .sentinel] true :=
  OpenClaim.laidByTextAt_later rfl rfl tie3 noOwnUnsafe
theorem tie4 : Tryz.prog.laidByTextLater [("loop.example/g03230/impl.errEmpty", Rows.laid_loop_example_g03230_impl_errEmpty), ("loop.example/g03230/impl.errFull", Rows.laid_loop_example_g03230_impl_errFull), ("loop.example/g03230/impl.errNoKey", Rows.laid_loop_example_g03230_impl_errNoKey), ("loop.example/g03230/impl.errNoBand", Rows.laid_loop_example_g03230_impl_errNoBand), ("loop.example/g03230/impl.errNoFit", Rows.laid_loop_example_g03230_impl_errNoFit), ("loop.example/g03230/impl.errNoItems", Rows.laid_loop_example_g03230_impl_errNoItems), ("loop.example/g03230/impl.errLoose", Rows.laid_loop_example_g03230_impl_errLoose), ("loop.example/g03230/impl.errTooMany", Rows.laid_loop_example_g03230_impl_errTooMany)] [.sentinel, .sentinel, .sentinel, .sentinel, .sentinel, .sentinel, .sentinel, .sentinel] true :=
  Program.laidByTextLater.sub seatTie1 ["loop.example/g03230/impl.errEmpty", "loop.example/g03230/impl.errFull", "loop.example/g03230/impl.errNoKey", "loop.example/g03230/impl.errNoBand", "loop.example/g03230/impl.errNoFit", "loop.example/g03230/impl.errNoItems", "loop.example/g03230/impl.errLoose", "loop.example/g03230/impl.errTooMany"] (by kernel_rfl) (by kernel_rfl)
theorem fnExactSetLines_row_tie : Rows.fnExactSetLinesRow.laidByTextAt .later Tryz.pinned [.sentinel, .sentinel, .sentinel, .sentinel, .sentinel, .sentinel, .sentinel, .sentinel] true :=
  OpenClaim.laidByTextAt_later rfl rfl tie4 noOwnUnsafe
theorem fnExactDropWaitingUpto_row_tie : Rows.fnExactDropWaitingUptoRow.laidByTextAt .later Tryz.pinned [.sentinel] true :=
  OpenClaim.laidByTextAt_later rfl rfl tie noOwnUnsafe
theorem fnExactCastLineUpto_row_tie : Rows.fnExactCastLineUptoRow.laidByTextAt .later Tryz.pinned [.sentinel, .sentinel, .sentinel] true :=
  OpenClaim.laidByTextAt_later rfl rfl tie2 noOwnUnsafe
theorem fnExactKeyTextUpto_row_tie : Rows.fnExactKeyTextUptoRow.laidByTextAt .later Tryz.pinned [.handle, .sentinel, .sentinel, .sentinel, .sentinel] true :=
  OpenClaim.laidByTextAt_later rfl rfl tie3 noOwnUnsafe
theorem fnExactSetLinesUpto_row_tie : Rows.fnExactSetLinesUptoRow.laidByTextAt .later Tryz.pinned [.sentinel, .sentinel, .sentinel, .sentinel, .sentinel, .sentinel, .sentinel, .sentinel] true :=
  OpenClaim.laidByTextAt_later rfl rfl tie4 noOwnUnsafe
end Go.Proofs.YtimhnkpccbcohaaGreatDoor
