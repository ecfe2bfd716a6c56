/-
  markIntS from any number on, in the form that a law takes. Condition: lengths of at most 2^20.
-/
import Derived.Test.YtddkedinkgnboaaPkA
namespace Go.Proofs.Ytddkedinkgnboaa
open Go.RowKit
set_option linter.unusedVariables false

theorem markIntS_g (A : Option Addr) (n c B : Nat) (zs : List Int) (k : Int) (w : World) (hk0 : 0 ≤ k) (hk1 : k ≤ 4194304) (hn : zs.length = n) (hl : n ≤ 1048576) (hB : B ≤ w.heap.size) (h : Own w B (.slice A n c) zs) :
    Calls Try.prog 35 #[.slice A n c, .int .i64 k] w fun e w' => e = .returned (.int .i64 (k + (n : Int))) ∧ Own w' B (.slice A n c) (upFrom k n) ∧ w.grownBy w' (Value.slice A n c).ownBlock ∧ Ints w' A (upFrom k n) ∧ Below B w w' := by
  subst hn
  refine (markIntS_any B _ k zs w hk0 hk1 hl h).mono ?_
  rintro e w' ⟨rfl, hO, hg⟩
  refine ⟨rfl, hO, hg, ?_, ?_⟩
  · obtain ⟨A', c', hv, hI, _⟩ := hO.form
    injection hv with h1 h2 h3
    subst h1
    exact hI
  · exact (Below.refl B w).grown hg hB (fun k hk => (World.ownsRow.lt h k hk).1)
end Go.Proofs.Ytddkedinkgnboaa
