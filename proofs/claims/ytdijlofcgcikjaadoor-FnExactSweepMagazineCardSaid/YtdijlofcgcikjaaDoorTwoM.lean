/-
  A magazine and a row of matrices, both of the call's own, in blocks of their own. No condition.
-/
import Derived.Test.YtdijlofcgcikjaaDoorSwpL
namespace Go.Proofs.YtdijlofcgcikjaaDoor
open Go.RowKit
set_option linter.unusedVariables false
set_option linter.unusedSimpArgs false

structure TwoM (w : World) (g n : Nat) (hs : List Value) (ms : List (List Mat)) (ov : Value) (xs : List Mat) : Prop where
  mag : OwnMag w g w.heap.size (.slice (some ⟨g, 0, none⟩) n n) hs ms
  row : OwnM w g ov xs
  far : ∀ k, ov.ownBlock = some k → k ≠ g ∧ ∀ (i : Nat) (h : Value), hs[i]? = some h → h.ownBlock ≠ some k
section
variable {w w' : World} {g n : Nat} {hs : List Value} {ms : List (List Mat)} {ov : Value} {xs : List Mat}
theorem TwoM.below (h : TwoM w g n hs ms ov xs) (hb : Below w.heap.size w w') : TwoM w' g n hs ms ov xs :=
  ⟨(h.mag.below hb).wid hb.size, h.row.below hb, h.far⟩
theorem TwoM.store {i : Nat} {h0 h' : Value} {ys zs : List Mat} (h : TwoM w g n hs ms ov xs) (hx : ms[i]? = some ys) (hh : hs[i]? = some h0) (hg : w.grownBy w' h0.ownBlock) (ho : OwnM w' g h' zs) (hf : h'.ownBlock = h0.ownBlock ∨ ∀ k, h'.ownBlock = some k → w.heap.size ≤ k) :
    TwoM (w'.setCell ⟨g, i, none⟩ h') g n (hs.set i h') (ms.set i zs) ov xs := by
  refine ⟨h.mag.store hx hh hg ho hf (Nat.le_refl _), ?_, ?_⟩
  · refine OwnM.setAt (h.row.grown hg ?_) (fun hk => (h.far g hk).1 rfl) _
    cases hb : ov.ownBlock with
    | none => exact .inl rfl
    | some k => exact .inr fun e => (h.far k hb).2 i h0 hh e.symm
  · intro k hk
    refine ⟨(h.far k hk).1, fun j a ha hak => ?_⟩
    by_cases e : j = i
    · subst e
      rw [List.getElem?_set_self (List.getElem?_eq_some_iff.1 hh).1] at ha
      injection ha with ha
      subst ha
      rcases hf with hf | hf
      · exact (h.far k hk).2 j h0 hh (hf ▸ hak)
      · have h1 := hf k hak
        have h2 := (h.row.lt k hk).2
        omega
    · rw [List.getElem?_set_ne (fun e' => e e'.symm)] at ha
      exact (h.far k hk).2 j a ha hak
theorem TwoM.push {ov' : Value} {xs' : List Mat} (h : TwoM w g n hs ms ov xs) (hg : w.grownBy w' ov.ownBlock) (ho : OwnM w' g ov' xs') (hf : ov'.ownBlock = ov.ownBlock ∨ ∀ k, ov'.ownBlock = some k → w.heap.size ≤ k) : TwoM w' g n hs ms ov' xs' := by
  have hgs := hg.size
  refine ⟨⟨?_, ?_, h.mag.apart, fun i a k ha hk => ⟨(h.mag.other i a k ha hk).1, Nat.lt_of_lt_of_le (h.mag.other i a k ha hk).2 hgs⟩, fun k hk => Nat.lt_of_lt_of_le (h.mag.top k hk) hgs⟩, ho, ?_⟩
  · refine World.ownsRow.kept h.mag.outer hg ?_
    cases hb : ov.ownBlock with
    | none => exact .inr (by simp [Value.ownBlock])
    | some k => refine .inr fun e => ?_; exact (h.far k hb).1 (by have e2 := Option.some.inj e; exact e2.symm)
  · intro j ys hy
    obtain ⟨a, ha, hO⟩ := h.mag.rows j ys hy
    refine ⟨a, ha, hO.grown hg ?_⟩
    cases hb : ov.ownBlock with
    | none =>
      cases hb2 : a.ownBlock with
      | none => exact .inl rfl
      | some k => exact .inr (by simp)
    | some k => exact .inr ((h.far k hb).2 j a ha)
  · intro k hk
    rcases hf with hf | hf
    · exact h.far k (hf ▸ hk)
    · have h1 := hf k hk
      refine ⟨fun e => ?_, fun j a ha hak => ?_⟩
      · have h2 := h.mag.top g rfl
        omega
      · have h2 := (h.mag.other j a k ha hak).2
        omega
theorem TwoM.reads (h : TwoM w g n hs ms ov xs) : ∀ k, k < xs.length → ∃ A l c, ov = .slice A l c := fun k hk => by
  obtain ⟨A, c, e, -⟩ := h.row.form
  exact ⟨A, _, c, e⟩
end
end Go.Proofs.YtdijlofcgcikjaaDoor
