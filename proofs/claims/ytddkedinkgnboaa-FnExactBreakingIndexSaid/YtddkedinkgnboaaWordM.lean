/-
  Words, plainly: texts, lines of words, their kinds and costs. Mathematics alone, no condition.
-/
import Derived.Test.YtddkedinkgnboaaLineM
namespace Go.Proofs.Ytddkedinkgnboaa
open Go.RowKit
set_option linter.unusedVariables false

def wordB (x : Int) : Bool := inB x 1 2000
def textB (zs : List Int) : Bool := inB (zs.length : Int) 1 40 && zs.all wordB
theorem textB_parts {zs : List Int} (h : textB zs = true) : (∀ x ∈ zs, 1 ≤ x ∧ x ≤ 2000) ∧ 1 ≤ zs.length ∧ zs.length ≤ 40 := by
  unfold textB at h
  rw [Bool.and_eq_true, List.all_eq_true] at h
  have h1 := inB_true h.1
  exact ⟨fun x hx => inB_true (h.2 x hx), by omega, by omega⟩
/-- the words from index a to index b - 1 -/
def seg (zs : List Int) (a b : Nat) : List Int := (zs.take b).drop a
theorem seg_len {zs : List Int} {a b : Nat} (hb : b ≤ zs.length) : (seg zs a b).length = b - a := by
  unfold seg; rw [List.length_drop, List.length_take]; omega
theorem seg_at {zs : List Int} {a b j : Nat} (hj : j < b - a) : (seg zs a b)[j]? = zs[a + j]? := by
  unfold seg; rw [List.getElem?_drop, List.getElem?_take, if_pos (by omega)]
theorem sumL_words {zs : List Int} (h : ∀ x ∈ zs, 1 ≤ x ∧ x ≤ 2000) : 0 ≤ sumL zs ∧ sumL zs ≤ 2000 * (zs.length : Int) := by
  induction zs with
  | nil => simp [sumL]
  | cons x xs ih =>
    have h1 := h x (List.mem_cons_self)
    have h2 := ih (fun y hy => h y (List.mem_cons_of_mem _ hy))
    simp only [sumL, List.length_cons]; omega
theorem seg_mem {zs : List Int} {a b : Nat} {x : Int} (h : x ∈ seg zs a b) : x ∈ zs := List.mem_of_mem_take (List.mem_of_mem_drop h)
theorem words_take {ys : List Int} (h : ∀ x ∈ ys, 1 ≤ x ∧ x ≤ 2000) (hl : ys.length ≤ 40) (k : Nat) : 0 ≤ sumL (ys.take k) ∧ sumL (ys.take k) ≤ 80000 := by
  have h3 := sumL_words (zs := ys.take k) (fun x hx => h x (List.mem_of_mem_take hx))
  rw [List.length_take] at h3
  omega
theorem words_sum {ys : List Int} (h : ∀ x ∈ ys, 1 ≤ x ∧ x ≤ 2000) (hl : ys.length ≤ 40) : 0 ≤ sumL ys ∧ sumL ys ≤ 80000 := by
  have := words_take h hl ys.length
  rwa [List.take_length] at this

/-- the kind of a load: 0 it does not fit, 1 it fits and is not full, 2 it is full -/
def kindF (m : Msr) (L : Int) (B : Nat) : Int := if decide (widF L B m.t ≤ m.w) && fullF m L B then 2 else if widF L B m.t ≤ m.w then 1 else 0
def kindW (m : Msr) (zs : List Int) (a b : Nat) : Int := kindF m (sumL (seg zs a b)) (b - a - 1)
def riseW (m : Msr) (zs : List Int) (a b : Nat) : Int := riseF m (sumL (seg zs a b)) (b - a - 1)
def lineW (m : Msr) (zs : List Int) (a b : Nat) : Bool := kindW m zs a b == 2 || (kindW m zs a b == 1 && decide (b = zs.length))
def costW (m : Msr) (zs : List Int) (a b : Nat) : Int := if b = zs.length then 0 else riseW m zs a b * riseW m zs a b
theorem kindF_cases (m : Msr) (L : Int) (B : Nat) : kindF m L B = 0 ∨ kindF m L B = 1 ∨ kindF m L B = 2 := by
  unfold kindF; split
  · exact .inr (.inr rfl)
  · split
    · exact .inr (.inl rfl)
    · exact .inl rfl
theorem kindF_full {m : Msr} {L : Int} {B : Nat} (h : (decide (widF L B m.t ≤ m.w) && fullF m L B) = true) : kindF m L B = 2 := by unfold kindF; rw [if_pos h]
theorem kindF_fits {m : Msr} {L : Int} {B : Nat} (h : (decide (widF L B m.t ≤ m.w) && fullF m L B) = false) (h2 : decide (widF L B m.t ≤ m.w) = true) : kindF m L B = 1 := by
  unfold kindF; rw [h, if_neg (by simp), if_pos (of_decide_eq_true h2)]
theorem kindF_no {m : Msr} {L : Int} {B : Nat} (h2 : decide (widF L B m.t ≤ m.w) = false) : kindF m L B = 0 := by
  unfold kindF; rw [h2, Bool.false_and, if_neg (by simp), if_neg (of_decide_eq_false h2)]
theorem lineW_fits {m : Msr} {zs : List Int} {a b : Nat} (h : lineW m zs a b = true) : widF (sumL (seg zs a b)) (b - a - 1) m.t ≤ m.w := by
  by_cases hf : widF (sumL (seg zs a b)) (b - a - 1) m.t ≤ m.w
  · exact hf
  · exfalso
    have : kindW m zs a b = 0 := kindF_no (decide_eq_false hf)
    unfold lineW at h
    rw [this] at h
    simp at h
end Go.Proofs.Ytddkedinkgnboaa
