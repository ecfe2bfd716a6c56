/-
  What a tied card with a handle wants: errors.errorType reads as laid, besides the sentinels.
-/
import Derived.Test.YtimhnkpccbcohaaGreatDoorCardL
import Derived.Test.YtimhnkpccbcohaaGreatDoorAs
namespace Go.Proofs.YtimhnkpccbcohaaGreatDoor
open Go.ChangeShapes Go.WideShapes Go.RowKit
set_option linter.unusedVariables false
namespace CardH
theorem et : Tryz.prog.globalNamed "errors.errorType" = some 2 := by kernel_rfl
theorem rt : (Tryz.prog.cutTypes.find? (·.1 == "internal/reflectlite.rtype")).map (·.2) = some 166 := by kernel_rfl
theorem oneRow : ((List.range Tryz.prog.types.size).filter fun t => Tryz.prog.rowNamed t [101, 114, 114, 111, 114]) = [87] := by kernel_rfl
/-- errors.errorType's cell -/
theorem handle {W : World} (h : handlesMet Tryz.prog [("errors.errorType", Rows.laid_errors_errorType)] W) : ErrH W := by
  obtain ⟨name, u, ty, e1, e2, e3, e4, e5⟩ := h _ (List.mem_singleton.2 rfl)
  have en : name = [101, 114, 114, 111, 114] := (Option.some.inj e1).symm
  subst en
  obtain rfl := Option.some.inj (rt.symm.trans e2)
  have hm : ty ∈ (List.range Tryz.prog.types.size).filter fun t => Tryz.prog.rowNamed t [101, 114, 114, 111, 114] := List.mem_filter.2 ⟨List.mem_range.2 e3, e4⟩
  rw [oneRow] at hm
  obtain rfl := List.mem_singleton.1 hm
  have hh : typeHandle Tryz.prog 87 = .pointer (some ⟨9, 87, none⟩) := by kernel_rfl
  rw [hh] at e5
  unfold ErrH
  simpa using World.var?_cell et e5 0
noncomputable def laidWorld (os : Os) : World :=
  let w0 := CardL.laidWorld os
  { w0 with heap := w0.heap.modify 2 fun
      | .cells _ t frozen => .cells #[.iface 166 (.agg #[.pointer (some ⟨9, 87, none⟩)])] t frozen
      | o => o }
theorem metKey (os : Os) (args : Array Value) : laidMetH Tryz.prog [("errors.errorType", Rows.laid_errors_errorType), ("loop.example/g03230/impl.errEmpty", Rows.laid_loop_example_g03230_impl_errEmpty), ("loop.example/g03230/impl.errNoKey", Rows.laid_loop_example_g03230_impl_errNoKey), ("loop.example/g03230/impl.errNoBand", Rows.laid_loop_example_g03230_impl_errNoBand), ("loop.example/g03230/impl.errNoFit", Rows.laid_loop_example_g03230_impl_errNoFit)] ((laidWorld os).forCall (fun _ _ => 0) ⟨#[], args, []⟩).memory :=
  laidMetH_of_parts (laidMet_of_run (ps := [.cell 8 0, .cell (CardL.low + 1) 0, .cell 5 0, .cell (CardL.low + 2) 0, .cell 6 0, .cell (CardL.low + 3) 0, .cell 7 0, .cell (CardL.low + 4) 0]) 8 (by kernel_rfl) (by kernel_rfl) (by kernel_rfl)) (by kernel_rfl)
end CardH
end Go.Proofs.YtimhnkpccbcohaaGreatDoor
