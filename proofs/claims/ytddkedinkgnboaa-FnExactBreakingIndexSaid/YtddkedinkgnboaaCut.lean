/-
  A part of a slice, read as a list. Conditions: the part begins ahead of the capacity's end.
-/
import Derived.Test.YtddkedinkgnboaaKeep
import Derived.Test.YtddkedinkgnboaaWordM
namespace Go.Proofs.Ytddkedinkgnboaa
open Go.RowKit
set_option linter.unusedVariables false
theorem add_add2 (ad : Addr) (l j : Nat) : (ad.add l).add j = ad.add (l + j) := by by_cases hq0 : l = 0 <;> by_cases hj0 : j = 0 <;> simp [Addr.add, hq0, hj0, Nat.add_assoc]
/-- the words from a to b - 1 -/
theorem ints_seg {w : World} {ad : Addr} {zs : List Int} {a b : Nat} (h : Ints w (some ad) zs) (hb : b ≤ zs.length) : Ints w (some (ad.add a)) (seg zs a b) := fun hn => by
  rw [seg_len hb] at hn
  obtain ⟨x, hx, hc⟩ := h (by omega)
  injection hx with hx; subst hx
  refine ⟨_, rfl, fun j hj => ?_⟩
  rw [seg_len hb] at hj
  rw [add_add2, hc (a + j) (by omega)]
  simp [List.getD, seg_at hj]
theorem ints_some {w : World} {A : Option Addr} {zs : List Int} (h : Ints w A zs) (hn : 1 ≤ zs.length) : ∃ ad, A = some ad := by
  obtain ⟨ad, e, _⟩ := h (by omega)
  exact ⟨ad, e⟩
end Go.Proofs.Ytddkedinkgnboaa
