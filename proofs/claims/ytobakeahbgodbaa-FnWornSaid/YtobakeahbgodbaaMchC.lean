/-
  Copies of machines by contract: slices.Clone at matrices, the program's withMagazine, the model's l5Copy. Conditions: lengths of at most 2^20.
-/
import Derived.Test.YtobakeahbgodbaaPkG
import Derived.Test.YtobakeahbgodbaaPkC
import Derived.Test.YtobakeahbgodbaaCopyS
namespace Go.Proofs.Ytobakeahbgodbaa
open Go.RowKit
set_option linter.unusedVariables false

theorem chg_set (w : World) (b o : Nat) (u : Value) : Chg b (b + 1) w (w.setCell ⟨b, o, none⟩ u) :=
  ⟨rfl, rfl, rfl, by simp [World.setCell], fun k hk hn => Below.heap_setCell _ _ _ _ (by show k ≠ b; omega)⟩
end Go.Proofs.Ytobakeahbgodbaa
