/-
  Breakings, plainly: what is one, what it costs. Mathematics alone, no condition.
-/
import Derived.Test.YtddkedinkgnboaaSetL
namespace Go.Proofs.Ytddkedinkgnboaa
open Go.RowKit
set_option linter.unusedVariables false

def okW (m : Msr) (zs : List Int) : Bool := msrB m && textB zs
def kindA (m : Msr) (zs : List Int) (a b : Int) : Int := if okW m zs = true ∧ 0 ≤ a ∧ b ≤ (zs.length : Int) ∧ a < b then kindW m zs a.toNat b.toNat else -1
/-- lines that go on from word p to the end -/
def brkF (m : Msr) (zs : List Int) : Nat → List Int → Bool
  | p, [] => decide (p = zs.length)
  | p, x :: r => inB x 1 ((zs.length : Int) - p) && (lineW m zs p (p + x.toNat) && brkF m zs (p + x.toNat) r)
def costF (m : Msr) (zs : List Int) : Nat → List Int → Int
  | _, [] => 0
  | p, x :: r => costW m zs p (p + x.toNat) + costF m zs (p + x.toNat) r
def isBrk (m : Msr) (zs ls : List Int) : Bool := okW m zs && brkF m zs 0 ls
def costA (m : Msr) (zs ls : List Int) : Int := if isBrk m zs ls then costF m zs 0 ls else -1
theorem drop_at {zs : List Int} {k : Nat} {x : Int} (h : zs[k]? = some x) : zs.drop k = x :: zs.drop (k + 1) := by
  obtain ⟨hk, e⟩ := List.getElem?_eq_some_iff.1 h
  rw [List.drop_eq_getElem_cons hk, e]
theorem brkF_at {m : Msr} {zs ls : List Int} {p k : Nat} {x : Int} (h : ls[k]? = some x) : brkF m zs p (ls.drop k) = (inB x 1 ((zs.length : Int) - p) && (lineW m zs p (p + x.toNat) && brkF m zs (p + x.toNat) (ls.drop (k + 1)))) := by
  rw [drop_at h]; rfl
theorem brkF_end {m : Msr} {zs ls : List Int} {p k : Nat} (h : ls.length = k) : brkF m zs p (ls.drop k) = decide (p = zs.length) := by
  rw [List.drop_of_length_le (by omega)]; rfl
theorem costF_at {m : Msr} {zs ls : List Int} {p k : Nat} {x : Int} (h : ls[k]? = some x) : costF m zs p (ls.drop k) = costW m zs p (p + x.toNat) + costF m zs (p + x.toNat) (ls.drop (k + 1)) := by
  rw [drop_at h]; rfl
theorem costF_end {m : Msr} {zs ls : List Int} {p k : Nat} (h : ls.length = k) : costF m zs p (ls.drop k) = 0 := by
  rw [List.drop_of_length_le (by omega)]; rfl
theorem brkF_yes {m : Msr} {zs ls : List Int} {p k : Nat} {x : Int} (h : ls[k]? = some x) (hb : brkF m zs p (ls.drop k) = true) :
    ∃ q : Nat, x = (q : Int) ∧ 1 ≤ q ∧ p + q ≤ zs.length ∧ lineW m zs p (p + q) = true ∧ brkF m zs (p + q) (ls.drop (k + 1)) = true := by
  rw [brkF_at h, Bool.and_eq_true, Bool.and_eq_true] at hb
  have h1 := inB_true hb.1
  exact ⟨x.toNat, by omega, by omega, by omega, hb.2.1, hb.2.2⟩
theorem costW_bound {m : Msr} {zs : List Int} {a b : Nat} (ho : okW m zs = true) (hb : b ≤ zs.length) (hl : lineW m zs a b = true) : 0 ≤ costW m zs a b ∧ costW m zs a b ≤ 9801 := by
  unfold okW at ho
  rw [Bool.and_eq_true] at ho
  obtain ⟨h0, h1⟩ := lineW_rise ho.1 ho.2 hb hl
  unfold costW
  split
  · omega
  · have h2 := Int.mul_nonneg h0 h0
    have h3 : riseW m zs a b * riseW m zs a b ≤ 99 * 99 := Int.mul_le_mul h1 h1 h0 (by omega)
    omega
theorem okW_parts {m : Msr} {zs : List Int} (ho : okW m zs = true) : msrB m = true ∧ textB zs = true := by
  unfold okW at ho; rwa [Bool.and_eq_true] at ho
theorem okW_no {m : Msr} {zs : List Int} (h : (msrB m && textB zs) = false) : okW m zs = false := h
end Go.Proofs.Ytddkedinkgnboaa
