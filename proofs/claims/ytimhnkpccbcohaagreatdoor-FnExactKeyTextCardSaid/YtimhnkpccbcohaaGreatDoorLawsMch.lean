/-
  The exact law of MachineOk: its walk. No condition.
-/
import Derived.Test.YtimhnkpccbcohaaGreatDoorPkG
import Derived.Test.YtimhnkpccbcohaaGreatDoorPkE
namespace Go.Proofs.YtimhnkpccbcohaaGreatDoor
open Go.RowKit
set_option linter.unusedVariables false

theorem MchV.drew {w : World} {lo hi : Nat} {v : Value} {X : Mch} (h : MchV w lo hi v X) : MchV w.drew lo hi v X := by
  obtain ⟨A, c, A2, d, M, e, L, lc, T, tc, hv, hp⟩ := h
  exact ⟨A, c, A2, d, M, e, L, lc, T, tc, hv, hp.keep (fun p _ _ => rfl)⟩
end Go.Proofs.YtimhnkpccbcohaaGreatDoor
