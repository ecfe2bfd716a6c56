/-
  The exact laws of MagazineOk, CountStrays, CountWorn: their walks. No condition.
-/
import Derived.Test.YtdijlofcgcikjaaDoorPkG
import Derived.Test.YtdijlofcgcikjaaDoorPkF
import Derived.Deep.RegionHeld3
namespace Go.Proofs.YtdijlofcgcikjaaDoor
open Go.RowKit
set_option linter.unusedVariables false

theorem magBig_lim {ms : List (List Mat)} {n : Nat} (h : magBig ms ≤ n) : ms.length ≤ n ∧ ∀ xs ∈ ms, xs.length ≤ n := by
  unfold magBig at h
  refine ⟨by omega, fun xs hx => ?_⟩
  obtain ⟨i, hi, rfl⟩ := List.mem_iff_getElem.1 hx
  have := tot_le (List.getElem?_eq_getElem hi)
  omega

end Go.Proofs.YtdijlofcgcikjaaDoor
