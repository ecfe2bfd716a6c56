/-
  Arguments of the exact laws over fonts and magazines: what comes in reads as a font, a matrix, a list of matrices, a magazine. No condition.
-/
import Derived.Test.YtobakeahbgodbaaPkF
import Derived.ProofKit
import Derived.Lib.SmallJoins
import Derived.Deep.SlicePairs
namespace Go.Proofs.Ytobakeahbgodbaa
open Go.RowKit Go.ChangeShapes Go.WideShapes Go.Deep Go.Joins
set_option linter.unusedVariables false

theorem list_of {α : Type} {P : Nat → α → Prop} : ∀ n, (∀ i, i < n → ∃ x, P i x) → ∃ l : List α, l.length = n ∧ ∀ (i : Nat) (x : α), l[i]? = some x → P i x
  | 0, _ => ⟨[], rfl, fun i x h => by simp at h⟩
  | n + 1, h => by
    obtain ⟨l, hl, hp⟩ := list_of n (fun i hi => h i (by omega))
    obtain ⟨x, hx⟩ := h n (by omega)
    refine ⟨l ++ [x], by simp [hl], fun i y hy => ?_⟩
    by_cases e : i < n
    · rw [List.getElem?_append_left (by omega)] at hy; exact hp i y hy
    · rw [List.getElem?_append_right (by omega)] at hy
      have : i - l.length = 0 := by
        rcases Nat.eq_zero_or_pos (i - l.length) with h0 | h0
        · exact h0
        · rw [List.getElem?_eq_none (by simp; omega)] at hy; cases hy
      rw [this] at hy
      simp at hy
      subst hy
      have : i = n := by omega
      subst this
      exact hx
section
variable {H : Type} {enc : TypeId × Value → H} {W : World}
set_option maxRecDepth 100000 in
theorem intsF_cell {n : Nat} {x : Value} {y : DataW H × List MemPlace} (h : DataW.trod enc Try.prog W 0 (fun _ => true) true n 23 [x] = some y) :
    ∃ A l c zs, x = .slice A l c ∧ zs.length = l ∧ l ≤ c ∧ c ≤ maxLen ∧ IntsI W 0 W.heap.size A zs := by
  rcases open_ints Try.underlying23 Try.underlying3 (by kernel_rfl) h with ⟨hcs, _⟩ | ⟨a, l, c, zs, hcs, _, hl, hm, hz, _, hcell, _⟩
  · injection hcs with e; subst e
    exact ⟨none, 0, 0, [], rfl, rfl, Nat.le_refl _, Nat.zero_le _, fun h => absurd h (by simp)⟩
  · injection hcs with e; subst e
    have hz' : zs.length = c := by simpa using hz
    exact ⟨some a, l, c, zs.take l, rfl, by rw [List.length_take]; omega, hl, hm, IntsI.of (Ints.of_row (by omega) hcell)⟩
set_option maxRecDepth 100000 in
theorem openFont {base : Nat} {v : Value} {d : DataW H} {p : List MemPlace} (hv : Value.okWide Try.prog W .any base 62 v) (h : DataW.Trod enc Try.prog W 0 (fun _ => true) true 62 v d p) : ∃ f, FontV W 0 W.heap.size v f := by
  obtain ⟨v0, v1, v2, y0, y1, y2, n, rfl, _, _, h0, h1, h2⟩ := open_agg3 Try.underlying62 (by kernel_rfl) (by kernel_rfl) hv h
  obtain ⟨s, hs, _, hsz⟩ := DataW.trod_string Try.underlying9 h0
  injection hs with e; subst e
  obtain ⟨A, l, c, zs, rfl, hl, hc, hm, hI⟩ := intsF_cell h1
  obtain ⟨B, l2, c2, zs2, rfl, hl2, hc2, hm2, hI2⟩ := intsF_cell h2
  exact ⟨⟨s, zs, zs2⟩, A, c, B, c2, by simp only; rw [hl, hl2], hI, hI2, by simp only; omega, hm, by simp only; omega, hm2, hsz⟩
end
end Go.Proofs.Ytobakeahbgodbaa
