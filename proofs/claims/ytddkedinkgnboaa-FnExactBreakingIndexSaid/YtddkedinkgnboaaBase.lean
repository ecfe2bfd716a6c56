/-
  Words for slices of whole numbers: a slice that reads as a list ('Ints'), a row of the call's own ('Own'). Plain lemmas, no condition.
-/
import Derived.Test.YtddkedinkgnboaaRows
import Derived.WalkKit
import Derived.WalkSpells
import Derived.BigQuiet
import Derived.Deep.QuietTactic
import Derived.Deep.Draws
import Derived.Lib.Hide
namespace Go.Proofs.Ytddkedinkgnboaa
open Go.RowKit

theorem ret_int {k : IntKind} {a b : Int} (h : a = b) : Ending.returned (.int k a) = .returned (.int k b) := by rw [h]
theorem ret_bool {a b : Bool} (h : a = b) : Ending.returned (.bool a) = .returned (.bool b) := by rw [h]
theorem below_drewN {B : Nat} {a w : World} (h : Below B a w) (n : Nat) : Below B a (w.drewN n) := ⟨h.os, h.tape, h.output, h.size, h.block⟩
theorem block_add (a : Addr) (n : Nat) : (a.add n).block = a.block := by unfold Addr.add; split <;> rfl
theorem add_zero_at (g j : Nat) : (⟨g, 0, none⟩ : Addr).add j = ⟨g, j, none⟩ := by unfold Addr.add; split <;> simp_all

/-- The slice with the address A reads as zs. -/
def Ints (w : World) (A : Option Addr) (zs : List Int) : Prop :=
  0 < zs.length → ∃ ad, A = some ad ∧ ∀ j, j < zs.length → w.cell? (ad.add j) = some (.int .i64 (zs.getD j 0))

section
variable {w w' : World} {A : Option Addr} {zs : List Int}
theorem Ints.at_ {k : Nat} (h : Ints w A zs) (hk : k < zs.length) : ∃ ad x, A = some ad ∧ Hid (zs[k]? = some x) ∧ w.cell? (ad.add k) = some (.int .i64 x) := by
  obtain ⟨ad, e, hc⟩ := h (by omega)
  exact ⟨ad, zs[k], e, List.getElem?_eq_getElem hk, by rw [hc k hk]; simp [List.getD, hk]⟩
theorem Ints.nil (w : World) (A : Option Addr) : Ints w A [] := fun h => absurd h (by simp)
theorem Ints.keep (h : Ints w A zs) (hk : ∀ p : Addr, p.block < w.heap.size → w'.cell? p = w.cell? p) : Ints w' A zs := fun hn => by
  obtain ⟨ad, e, hc⟩ := h hn
  exact ⟨ad, e, fun j hj => (hk _ (World.block_lt_of_cell? _ _ (hc j hj))).trans (hc j hj)⟩
theorem Ints.below (h : Ints w A zs) (hb : Below w.heap.size w w') : Ints w' A zs := h.keep fun _ hp => hb.cell hp
theorem Ints.belowB {B : Nat} {w0 : World} (h : Ints w0 A zs) (hB : w0.heap.size ≤ B) (hb : Below B w0 w') : Ints w' A zs := h.below (hb.mono hB)
theorem Ints.drew (h : Ints w A zs) : Ints w.drew A zs := h
theorem Ints.drewN (h : Ints w A zs) (k : Nat) : Ints (w.drewN k) A zs := h
end

/-- A row of the call's own, from block B on, that holds zs. -/
def Own (w : World) (B : Nat) (v : Value) (zs : List Int) : Prop := w.ownsRow B 3 1 v zs.length (zs.map (Value.int .i64))

theorem Own.form {w : World} {B : Nat} {v : Value} {zs : List Int} (h : Own w B v zs) : ∃ A c, v = .slice A zs.length c ∧ Ints w A zs ∧ (∀ a, A = some a → ∃ g, a = ⟨g, 0, none⟩ ∧ B ≤ g ∧ g < w.heap.size) ∧ zs.length ≤ c ∧ c ≤ maxLen := by
  have h0 := h
  rcases h.2 with ⟨rfl, hn⟩ | ⟨g, cap, cur, rfl, hg, hh, hcap, hcm, _⟩
  · refine ⟨none, 0, by rw [hn], ?_, (fun a ha => by cases ha), (by rw [hn]; exact Nat.le_refl _), Nat.zero_le _⟩
    have : zs = [] := List.eq_nil_of_length_eq_zero hn
    subst this
    exact Ints.nil _ _
  · refine ⟨some ⟨g, 0, none⟩, cap, rfl, fun _ => ⟨_, rfl, fun j hj => ?_⟩, fun a ha => ⟨g, by injection ha with ha; exact ha.symm, hg, (Array.getElem?_eq_some_iff.1 hh).1⟩, hcap, hcm⟩
    refine World.ownsRow.cells h0 (g := g) rfl j _ ?_
    rw [List.getElem?_map, List.getElem?_eq_getElem hj]
    simp [List.getD, hj]

theorem Own.below {w w' : World} {B : Nat} {v : Value} {zs : List Int} (h : Own w B v zs) (hb : Below w.heap.size w w') : Own w' B v zs := by
  refine ⟨h.1, ?_⟩
  rcases h.2 with hn | ⟨g, cap, cur, hv, hg, hh, rest⟩
  · exact .inl hn
  · exact .inr ⟨g, cap, cur, hv, hg, (hb.block g (Array.getElem?_eq_some_iff.1 hh).1).trans hh, rest⟩
theorem Own.drew {w : World} {B : Nat} {v : Value} {zs : List Int} (h : Own w B v zs) : Own w.drew B v zs := h
theorem Own.drewN {w : World} {B : Nat} {v : Value} {zs : List Int} (h : Own w B v zs) (k : Nat) : Own (w.drewN k) B v zs := h

theorem take_at {zs : List Int} {k : Nat} {x : Int} (h : zs[k]? = some x) : zs.take (k + 1) = zs.take k ++ [x] := by
  rw [List.take_add_one, h]; rfl
theorem take_all {zs : List Int} {n : Nat} (h : zs.length = n) : zs.take n = zs := List.take_of_length_le (by omega)
theorem mem_at {zs : List Int} {k : Nat} {x : Int} (h : zs[k]? = some x) : x ∈ zs := List.mem_of_getElem? h
theorem lt_at {zs : List Int} {k : Nat} {x : Int} (h : zs[k]? = some x) : k < zs.length := (List.getElem?_eq_some_iff.1 h).1
theorem getD_at {zs : List Int} {k : Nat} {x : Int} (h : zs[k]? = some x) : zs.getD k 0 = x := by simp [List.getD, h]
end Go.Proofs.Ytddkedinkgnboaa
