/-
  The ends of the lines that may begin with a word, plainly. Mathematics alone, no condition.
-/
import Derived.Test.YtddkedinkgnboaaBrkM
namespace Go.Proofs.Ytddkedinkgnboaa
open Go.RowKit
set_option linter.unusedVariables false

/-- ends below p of lines that begin with word a -/
def endsTo (m : Msr) (zs : List Int) (a p : Nat) : List Nat := (List.range p).filter (fun q => decide (a < q) && lineW m zs a q)
theorem endsTo_yes {m : Msr} {zs : List Int} {a p : Nat} (h1 : a < p) (h2 : lineW m zs a p = true) : endsTo m zs a (p + 1) = endsTo m zs a p ++ [p] := by
  unfold endsTo; rw [List.range_succ, List.filter_append]; simp [h1, h2]
theorem endsTo_no {m : Msr} {zs : List Int} {a p : Nat} (h2 : (decide (a < p) && lineW m zs a p) = false) : endsTo m zs a (p + 1) = endsTo m zs a p := by
  unfold endsTo; rw [List.range_succ, List.filter_append]; simp [h2]
theorem endsTo_len (m : Msr) (zs : List Int) (a p : Nat) : (endsTo m zs a p).length ≤ p := by
  unfold endsTo
  have := List.length_filter_le (fun q => decide (a < q) && lineW m zs a q) (List.range p)
  rwa [List.length_range] at this
theorem endsTo_low {m : Msr} {zs : List Int} {a p : Nat} (h : p ≤ a + 1) : endsTo m zs a p = [] := by
  unfold endsTo
  rw [List.filter_eq_nil_iff]
  intro q hq
  rw [List.mem_range] at hq
  simp; intro h1; omega
theorem endsTo_lt {m : Msr} {zs : List Int} {a p q : Nat} (h : q ∈ endsTo m zs a p) : q < p := by
  unfold endsTo at h
  rw [List.mem_filter, List.mem_range] at h
  exact h.1
/-- an end, at most p -/
def EndT (m : Msr) (zs : List Int) (a n : Nat) : Type := { q : Nat // a < q ∧ q ≤ n ∧ lineW m zs a q = true }
end Go.Proofs.Ytddkedinkgnboaa
