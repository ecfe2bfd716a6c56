/-
  Writing into magazines of the call's own: making one, appending a matrix to a row, storing the row. Plain steps over the library's laws.
-/
import Derived.Test.YtdijlofcgcikjaaDoorPkF
import Derived.Maps.AppendAt
import Derived.Lib.BufferWrite
namespace Go.Proofs.YtdijlofcgcikjaaDoor
open Go.RowKit
set_option linter.unusedVariables false

theorem OwnM.setAt {w : World} {B : Nat} {v : Value} {xs : List Mat} (h : OwnM w B v xs) {g i : Nat} (hne : v.ownBlock ≠ some g) (u : Value) : OwnM (w.setCell ⟨g, i, none⟩ u) B v xs := by
  refine World.ownsRow.kept h (Lib.grownBy_setCell w g i u) ?_
  exact .inr hne
theorem row_base {w : World} {B B' : Nat} {T : TypeId} {size n : Nat} {v : Value} {xs : List Value} (h : w.ownsRow B T size v n xs) (hB : B' ≤ B) : w.ownsRow B' T size v n xs := by
  refine ⟨h.1, ?_⟩
  rcases h.2 with hn | ⟨g, cap, cur, hv, hg, rest⟩
  · exact .inl hn
  · exact .inr ⟨g, cap, cur, hv, by omega, rest⟩
theorem OwnMag.base {w : World} {B B' hi : Nat} {v : Value} {hs : List Value} {ms : List (List Mat)} (h : OwnMag w B hi v hs ms) (hB : B' ≤ B) : OwnMag w B' hi v hs ms where
  outer := row_base h.outer hB
  rows := fun j xs hx => by obtain ⟨hj, e, ho⟩ := h.rows j xs hx; exact ⟨hj, e, ho.base hB⟩
  apart := h.apart
  other := h.other
  top := h.top
theorem OwnMag.kept {w w' : World} {B hi i : Nat} {v : Value} {hs : List Value} {ms : List (List Mat)} {h : Value} (hM : OwnMag w B hi v hs ms) (hh : hs[i]? = some h) (hg : w.grownBy w' h.ownBlock) : w'.ownsRow B 34 1 v ms.length hs := by
  refine World.ownsRow.kept hM.outer hg ?_
  cases hb : h.ownBlock with
  | none => cases hv : v.ownBlock with
    | none => exact .inl rfl
    | some k => exact .inr (by simp)
  | some k => exact .inr (hM.other i h k hh hb).1
theorem OwnMag.store {w w' : World} {B hi g n cap i : Nat} {hs : List Value} {ms : List (List Mat)} {h h' : Value} {xs ys : List Mat} (hM : OwnMag w B hi (.slice (some ⟨g, 0, none⟩) n cap) hs ms) (hx : ms[i]? = some xs) (hh : hs[i]? = some h) (hg : w.grownBy w' h.ownBlock) (ho : OwnM w' B h' ys) (hf : h'.ownBlock = h.ownBlock ∨ ∀ k, h'.ownBlock = some k → w.heap.size ≤ k) (hhi : hi ≤ w.heap.size) :
    OwnMag (w'.setCell ⟨g, i, none⟩ h') B (w'.setCell ⟨g, i, none⟩ h').heap.size (.slice (some ⟨g, 0, none⟩) n cap) (hs.set i h') (ms.set i ys) := by
  have hse : (w'.setCell ⟨g, i, none⟩ h').heap.size = w'.heap.size := by simp only [World.setCell, Array.size_modify]
  rw [hse]
  have hi1 := (List.getElem?_eq_some_iff.1 hx).1
  have hi2 := (List.getElem?_eq_some_iff.1 hh).1
  have hgw : g < hi := hM.top g rfl
  have hgs := hg.size
  have hng : ∀ k, h'.ownBlock = some k → k ≠ g := fun k hk e => by
    subst e
    rcases hf with e | e
    · exact (hM.other i h k hh (e ▸ hk)).1 rfl
    · have := e k hk; omega
  refine ⟨?_, ?_, ?_, ?_, ?_⟩
  · rw [List.length_set]
    have hk : w'.ownsRow B 34 1 (.slice (some ⟨g, 0, none⟩) n cap) ms.length hs := by
      refine World.ownsRow.kept hM.outer hg ?_
      cases hb : h.ownBlock with
      | none => exact .inr (by simp [Value.ownBlock])
      | some k => exact .inr (hM.other i h k hh hb).1
    rcases hM.outer.2 with ⟨he, _⟩ | ⟨g', cap', cur, he, _⟩
    · cases he
    · injection he with e1 e2 e3
      subst e2
      exact (hk.stored i h').1
  · intro j zs hz
    by_cases e : j = i
    · subst e
      rw [List.getElem?_set_self hi1] at hz
      injection hz with hz
      subst hz
      exact ⟨h', List.getElem?_set_self hi2, ho.setAt (fun hk => hng g hk rfl) _⟩
    · rw [List.getElem?_set_ne (by omega)] at hz
      obtain ⟨hj, e1, e2⟩ := hM.rows j zs hz
      refine ⟨hj, by rw [List.getElem?_set_ne (by omega)]; exact e1, (e2.grown hg ?_).setAt (fun hk => (hM.other j hj g e1 hk).1 rfl) _⟩
      cases hb : hj.ownBlock with
      | none => exact .inl rfl
      | some k => exact .inr fun e3 => e (hM.apart j i hj h k e1 hh hb e3.symm)
  · have key : ∀ (j : Nat) (a : Value), (hs.set i h')[j]? = some a → (j ≠ i ∧ hs[j]? = some a) ∨ (j = i ∧ a = h') := fun j a ha => by
      by_cases e : j = i
      · subst e; rw [List.getElem?_set_self hi2] at ha; injection ha with ha; exact .inr ⟨rfl, ha.symm⟩
      · rw [List.getElem?_set_ne (by omega)] at ha; exact .inl ⟨e, ha⟩
    intro a b u u' k ha hb hka hkb
    rcases key a u ha with ⟨n1, e1⟩ | ⟨n1, e1⟩ <;> rcases key b u' hb with ⟨n2, e2⟩ | ⟨n2, e2⟩
    · exact hM.apart a b u u' k e1 e2 hka hkb
    · subst e2
      rcases hf with e | e
      · exact absurd (hM.apart a i u h k e1 hh hka (e ▸ hkb)) n1
      · have := e k hkb; have := (hM.blocks a u k e1 hka).2; omega
    · subst e1
      rcases hf with e | e
      · exact absurd (hM.apart b i u' h k e2 hh hkb (e ▸ hka)) n2
      · have := e k hka; have := (hM.blocks b u' k e2 hkb).2; omega
    · omega
  · intro j a k ha hk
    by_cases e : j = i
    · subst e
      rw [List.getElem?_set_self hi2] at ha
      injection ha with ha
      subst ha
      refine ⟨?_, (ho.lt k hk).2⟩
      intro e
      have e2 : g = k := Option.some.inj e
      exact hng k hk e2.symm
    · rw [List.getElem?_set_ne (by omega)] at ha
      have := hM.other j a k ha hk
      exact ⟨this.1, by omega⟩
  · intro k hk
    have e2 : g = k := Option.some.inj hk
    omega

section
variable {ops : Array Oper} {rest : List Oper} {o : Oper} {a : Act} {Q : Exit → Act → World → Prop}
set_option maxRecDepth 100000 in
/-- make([][]Matrix, n) -/
theorem wpl_make_mag (w : World) (hg : o.guard = none) (l : Operand) (hop : o.op = Op.makeSlice 26 l l) (n : Nat) (L : Int) (hl : a.eval l = .int .i64 L) (hL : L = (n : Int)) (hn : n ≤ 1048576)
    (hK : ∀ w', OwnMag w' w.heap.size w'.heap.size (.slice (some ⟨w.heap.size, 0, none⟩) n n) (List.replicate n (.slice none 0 0)) (List.replicate n []) → Below w.heap.size w w' → w.heap.size < w'.heap.size → wpList Tryd.prog ops Q rest (a.put o.dst (.slice (some ⟨w.heap.size, 0, none⟩) n n)) w') :
    wpList Tryd.prog ops Q (o :: rest) a w := by
  obtain ⟨i0, hi, hz0, hz1, hz2⟩ := info_parts rowInfo
  refine wpList_make_full w hg l l 26 hop w.heap.size 34 i0 (.slice none 0 0) 1 Tryd.underlying26 hi hz0 hz1 .i64 .i64 L L n hl hl hL hL (by rw [hz2]; omega) (by unfold maxLen; omega) (Nat.le_refl _) ?_
  intro w' h1 h2
  rw [halfH_zero] at h1
  have e : halfH [] n 0 = List.replicate n (.slice none 0 0) := by simp [halfH]
  rw [e] at h1
  have hlt := (World.ownsRow.lt h1 w.heap.size rfl).2
  have hnil : ∀ (j : Nat) (u : Value), (List.replicate n (Value.slice none 0 0))[j]? = some u → u = .slice none 0 0 := fun j u hu => by
    rw [List.getElem?_replicate] at hu
    split at hu
    · injection hu with hu; exact hu.symm
    · cases hu
  refine hK w' ⟨by rw [List.length_replicate]; exact h1, ?_, ?_, ?_, ?_⟩ ((Below.refl _ _).grown h2 (Nat.le_refl _) (fun k hk => by cases hk)) hlt
  · intro j xs hx
    rw [List.getElem?_replicate] at hx
    split at hx
    · rename_i hj
      injection hx with hx
      subst hx
      exact ⟨.slice none 0 0, by rw [List.getElem?_replicate, if_pos hj], World.ownsRow_nil _ _ _ _⟩
    · cases hx
  · intro i j u u' k hu hu' hk
    rw [hnil i u hu] at hk; cases hk
  · intro i u k hu hk
    rw [hnil i u hu] at hk; cases hk
  · intro k hk
    have e2 : w.heap.size = k := Option.some.inj hk
    omega

set_option maxRecDepth 100000 in
/-- append(row, Matrix{..}) -/
theorem wpl_push_mat (w : World) (hg : o.guard = none) (s x : Operand) (ho : o.op = .call { callee := .builtin .append, args := #[s, x], argTypes := #[34, 34] })
    (B : Nat) (v : Value) (xs : List Mat) (y : Mat) (hs : a.eval s = v) (hx : a.eval x = .slice (some ⟨w.heap.size, 0, none⟩) 1 1) (hown : OwnM w B v xs) (hB : B ≤ w.heap.size) (hlen : xs.length ≤ 1048576)
    (hK : ∀ v' w', OwnM w' B v' (xs ++ [y]) → w.grownBy w' v.ownBlock → (v'.ownBlock = v.ownBlock ∨ ∀ k, v'.ownBlock = some k → w.heap.size ≤ k) → wpList Tryd.prog ops Q rest (a.put o.dst v') w') :
    wpList Tryd.prog ops Q (o :: rest) a (w.alloc (.cells #[.int .i64 y.1, .int .i64 y.2] 30)) := by
  obtain ⟨i0, hi, hz0, hz1, hz2⟩ := info_parts matInfo
  refine wpList_append_own_at _ hg s x 34 ho B 30 i0 (.agg #[.int .i64 0, .int .i64 0]) 2 16 Tryd.underlying34 hi hz0 hz1 hz2 rfl (by decide) v xs.length (mcells xs) hs (World.ownsRow.alloc hown _) ⟨w.heap.size, 0, none⟩ 1 1 [.int .i64 y.1, .int .i64 y.2] hx rfl ?_ ?_ (by unfold maxLen; omega) (by omega) (by simp; omega) ?_
  · intro j u hj
    match j, hj with
    | 0, hj =>
      simp at hj; subst hj
      rw [add_zero_at, World.cell?_alloc_at _ _ _ _ rfl]
      rfl
    | 1, hj =>
      simp at hj; subst hj
      rw [addr_next, add_zero_at, World.cell?_alloc_at _ _ _ _ rfl]
      rfl
  · intro u hu
    simp at hu
    rcases hu with rfl | rfl <;> rfl
  · intro v' w' h1 h2 _ h4
    refine hK v' w' ?_ ((World.grownBy_alloc _ _ _).trans h2) ?_
    · unfold OwnM
      rw [mcells_snoc, List.length_append]
      exact h1
    · rcases h4 with h4 | h4
      · exact .inl h4
      · refine .inr fun k hk => ?_
        rw [h4] at hk
        have e2 := Option.some.inj hk
        simp at e2
        omega
end
end Go.Proofs.YtdijlofcgcikjaaDoor
