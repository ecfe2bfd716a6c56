/-
  What two lists of strings have in common at both ends, plainly; the parts of a list that is replaced, the marks. Mathematics alone, no condition.
-/
import Derived.Test.YtgngekolnlbddaaStrP
namespace Go.Proofs.Ytgngekolnlbddaa
open Go.RowKit
set_option linter.unusedVariables false

/-- the first number from k on at which p fails, among f numbers; else k + f -/
def stopAt (p : Nat → Bool) (k : Nat) : Nat → Nat
  | 0 => k
  | f + 1 => if p k = true then stopAt p (k + 1) f else k
def upTo (p : Nat → Bool) (n : Nat) : Nat := stopAt p 0 n
theorem stopAt_eq {p : Nat → Bool} : ∀ {f k j : Nat}, k ≤ j → j ≤ k + f → (∀ t, k ≤ t → t < j → p t = true) → (j = k + f ∨ p j = false) → stopAt p k f = j
  | 0, k, j, h1, h2, _, _ => by have : j = k := by omega
                                subst this; rfl
  | f + 1, k, j, h1, h2, hp, hs => by
    unfold stopAt
    by_cases e : j = k
    · subst e
      rcases hs with hs | hs
      · omega
      · rw [hs]; simp
    · rw [if_pos (hp k (Nat.le_refl _) (by omega))]
      exact stopAt_eq (by omega) (by omega) (fun t ht hj => hp t (by omega) hj) (by rcases hs with hs | hs; · exact .inl (by omega)
                                                                                    · exact .inr hs)
theorem upTo_eq {p : Nat → Bool} {n j : Nat} (h : j ≤ n) (hp : ∀ t, t < j → p t = true) (hs : j = n ∨ p j = false) : upTo p n = j :=
  stopAt_eq (Nat.zero_le _) (by omega) (fun t _ ht => hp t ht) (by rcases hs with hs | hs; · exact .inl (by omega)
                                                                   · exact .inr hs)
theorem stopAt_spec {p : Nat → Bool} : ∀ (f k : Nat), k ≤ stopAt p k f ∧ stopAt p k f ≤ k + f ∧ (∀ t, k ≤ t → t < stopAt p k f → p t = true) ∧ (stopAt p k f = k + f ∨ p (stopAt p k f) = false)
  | 0, k => ⟨Nat.le_refl _, Nat.le_refl _, fun t h1 h2 => absurd h2 (by unfold stopAt; omega), .inl rfl⟩
  | f + 1, k => by
    unfold stopAt
    by_cases h : p k = true
    · rw [if_pos h]
      obtain ⟨h1, h2, h3, h4⟩ := stopAt_spec (p := p) f (k + 1)
      refine ⟨by omega, by omega, fun t ht hl => ?_, ?_⟩
      · by_cases e : t = k
        · subst e; exact h
        · exact h3 t (by omega) hl
      · rcases h4 with h4 | h4
        · exact .inl (by omega)
        · exact .inr h4
    · rw [if_neg h]
      exact ⟨Nat.le_refl _, by omega, fun t h1 h2 => absurd h2 (by omega), .inr (by simpa using h)⟩
theorem upTo_le (p : Nat → Bool) (n : Nat) : upTo p n ≤ n := by have := (stopAt_spec (p := p) n 0).2.1; unfold upTo; omega
theorem upTo_all {p : Nat → Bool} {n t : Nat} (h : t < upTo p n) : p t = true := (stopAt_spec (p := p) n 0).2.2.1 t (Nat.zero_le _) h
theorem upTo_end (p : Nat → Bool) (n : Nat) : upTo p n = n ∨ p (upTo p n) = false := by
  rcases (stopAt_spec (p := p) n 0).2.2.2 with h | h
  · left; unfold upTo; omega
  · exact .inr h

/-- the string i of a list -/
def strAt (l : List ByteArray) (i : Nat) : ByteArray := l.getD i ByteArray.empty
/-- how many strings are equal at the beginning -/
def preL (a b : List ByteArray) : Nat := upTo (fun j => strAt a j == strAt b j) (min a.length b.length)
/-- how many are equal at the end, without those -/
def sufL (a b : List ByteArray) : Nat := upTo (fun j => strAt a (a.length - 1 - j) == strAt b (b.length - 1 - j)) (min (a.length - preL a b) (b.length - preL a b))
theorem preL_le (a b : List ByteArray) : preL a b ≤ a.length ∧ preL a b ≤ b.length := by
  have := upTo_le (fun j => strAt a j == strAt b j) (min a.length b.length)
  unfold preL; omega
theorem sufL_le (a b : List ByteArray) : preL a b + sufL a b ≤ a.length ∧ preL a b + sufL a b ≤ b.length := by
  have h := upTo_le (fun j => strAt a (a.length - 1 - j) == strAt b (b.length - 1 - j)) (min (a.length - preL a b) (b.length - preL a b))
  have h2 := preL_le a b
  unfold sufL; omega
theorem strAt_at {l : List ByteArray} {k : Nat} {x : ByteArray} (h : l[k]? = some x) : strAt l k = x := sgetD_at h
end Go.Proofs.Ytgngekolnlbddaa
