/-
  How slices of whole numbers are carried from world to world in an exact law over a slice result; the laws' helpers in the form that such a walk takes. Condition: lengths of at most 2^20.
-/
import Derived.Test.YtddkedinkgnboaaKit
namespace Go.Proofs.Ytddkedinkgnboaa
open Go.RowKit
set_option linter.unusedVariables false

/-- as 'Ints', and what is read lies below block b -/
def IntsB (w : World) (b : Nat) (A : Option Addr) (zs : List Int) : Prop :=
  0 < zs.length → ∃ ad, A = some ad ∧ ad.block < b ∧ ∀ j, j < zs.length → w.cell? (ad.add j) = some (.int .i64 (zs.getD j 0))
theorem IntsB.of {w : World} {A : Option Addr} {zs : List Int} (h : Ints w A zs) : IntsB w w.heap.size A zs := fun hn => by
  obtain ⟨ad, e, hc⟩ := h hn
  exact ⟨ad, e, by have := World.block_lt_of_cell? _ _ (hc 0 hn); rwa [block_add] at this, hc⟩
theorem IntsB.ints {w : World} {b : Nat} {A : Option Addr} {zs : List Int} (h : IntsB w b A zs) : Ints w A zs := fun hn => by
  obtain ⟨ad, e, _, hc⟩ := h hn
  exact ⟨ad, e, hc⟩
theorem IntsB.keep {w w' : World} {b B : Nat} {A : Option Addr} {zs : List Int} (h : IntsB w b A zs) (hb : b ≤ B) (hB : Below B w w') : IntsB w' b A zs := fun hn => by
  obtain ⟨ad, e, hl, hc⟩ := h hn
  exact ⟨ad, e, hl, fun j hj => (hB.cell (p := ad.add j) (by rw [block_add]; omega)).trans (hc j hj)⟩
theorem Own.grown_lt {w w' : World} {B : Nat} {v : Value} {zs : List Int} {row : Option Nat} (h : Own w B v zs) (hg : w.grownBy w' row) (hr : ∀ k, row = some k → k < B) : Own w' B v zs := by
  refine ⟨h.1, ?_⟩
  rcases h.2 with hn | ⟨g, cap, cur, hv, hB, hh, rest⟩
  · exact .inl hn
  · exact .inr ⟨g, cap, cur, hv, hB, (hg.block g (Array.getElem?_eq_some_iff.1 hh).1 (fun e => by have := hr g e.symm; omega)).trans hh, rest⟩

theorem eqIntS_t (A B : Option Addr) (n c d : Nat) (zs : List Int) (w : World) (hn : zs.length = n) (hl : n ≤ 1048576) (h : Ints w A zs) (h2 : Ints w B zs) :
    Calls Try.prog 34 #[.slice A n c, .slice B n d] w fun e w' => e = .returned (.bool true) ∧ Below w.heap.size w w' := by
  refine (eqIntS_same A B n c d zs w hn hl h h2).mono ?_
  rintro e w' ⟨rfl, q, rfl⟩
  exact ⟨rfl, below_drewN (Below.refl _ _) _⟩

theorem markIntS_t (A : Option Addr) (n c B : Nat) (zs : List Int) (w : World) (hn : zs.length = n) (hl : n ≤ 1048576) (hB : B ≤ w.heap.size) (h : Own w B (.slice A n c) zs) :
    Calls Try.prog 35 #[.slice A n c, .int .i64 1] w fun e w' => e = .returned (.int .i64 (1 + (n : Int))) ∧ Own w' B (.slice A n c) (upFrom 1 n) ∧ w.grownBy w' (Value.slice A n c).ownBlock ∧ Ints w' A (upFrom 1 n) ∧ Below B w w' := by
  subst hn
  refine (markIntS_any B _ 1 zs w (by omega) (by omega) hl h).mono ?_
  rintro e w' ⟨rfl, hO, hg⟩
  refine ⟨rfl, hO, hg, ?_, ?_⟩
  · obtain ⟨A', c', hv, hI, _⟩ := hO.form
    injection hv with h1 h2 h3
    subst h1
    exact hI
  · exact (Below.refl B w).grown hg hB (fun k hk => (World.ownsRow.lt h k hk).1)
end Go.Proofs.Ytddkedinkgnboaa
