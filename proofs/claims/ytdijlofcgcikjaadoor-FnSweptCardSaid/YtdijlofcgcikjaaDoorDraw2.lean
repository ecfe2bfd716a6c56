/-
  The draw of a bar: whatever the bytes, l1Draw returns from 1 to 11 numbers in memory of its own. Condition: the cursor is whole.
-/
import Derived.Test.YtdijlofcgcikjaaDoorDraw
namespace Go.Proofs.YtdijlofcgcikjaaDoor
open Go.RowKit
set_option linter.unusedVariables false

theorem shl_or (a b c : Nat) (ha : (a : Int) < 5) (hb : (b : Int) < 5) (hc : (c : Int) < 5) :
    0 ≤ bits .or .i64 (bits .or .i64 (IntKind.i64.wrap (2 ^ a)) (IntKind.i64.wrap (2 ^ b))) (IntKind.i64.wrap (2 ^ c)) ∧ bits .or .i64 (bits .or .i64 (IntKind.i64.wrap (2 ^ a)) (IntKind.i64.wrap (2 ^ b))) (IntKind.i64.wrap (2 ^ c)) ≤ 127 := by
  have h : ∀ a b c : Fin 5, 0 ≤ bits .or .i64 (bits .or .i64 (IntKind.i64.wrap (2 ^ (a : Nat))) (IntKind.i64.wrap (2 ^ (b : Nat)))) (IntKind.i64.wrap (2 ^ (c : Nat))) ∧ bits .or .i64 (bits .or .i64 (IntKind.i64.wrap (2 ^ (a : Nat))) (IntKind.i64.wrap (2 ^ (b : Nat)))) (IntKind.i64.wrap (2 ^ (c : Nat))) ≤ 127 := by decide +kernel
  exact h ⟨a, by omega⟩ ⟨b, by omega⟩ ⟨c, by omega⟩

/-- what holds of the sets that a draw has so far: z of them, k rounds to come -/
def Drawn (kd n0 : Nat) (zs : List Int) (k : Nat) : Prop := zs.length + k ≤ 11 ∧ (zs.length = 0 → k = n0) ∧ (kd ≠ 4 → zs = [] ∨ setsB zs = true)
theorem sets_one {x : Int} (h0 : 0 ≤ x) (h1 : x ≤ 127) : setsB [x] = true := by
  have hs : setB x = true := (setB_iff x).2 ⟨h0, h1⟩
  unfold setsB distB isBar allSet
  simp [hs, inB]
theorem drawn_add {kd n0 k : Nat} {zs : List Int} {x : Int} (h : Drawn kd n0 zs (k + 1)) (hx : kd = 4 ∨ setsB (zs ++ [x]) = true) : Drawn kd n0 (zs ++ [x]) k := by
  obtain ⟨h1, h2, h3⟩ := h
  refine ⟨by simp; omega, by simp, fun hk => ?_⟩
  rcases hx with hx | hx
  · exact absurd hx hk
  · exact .inr hx
theorem drawn_skip {kd n0 k : Nat} {zs : List Int} {x : Int} (h : Drawn kd n0 zs (k + 1)) (h0 : 0 ≤ x) (h1 : x ≤ 127) (hx : setsB (zs ++ [x]) = false) : Drawn kd n0 zs k := by
  obtain ⟨a, b, c⟩ := h
  refine ⟨by omega, fun hz => ?_, c⟩
  have : zs = [] := List.eq_nil_of_length_eq_zero hz
  subst this
  rw [List.nil_append, sets_one h0 h1] at hx
  cases hx
theorem own_row2 {w : World} {B : Nat} {v : Value} {zs : List Int} (h : Own w B v zs) (hp : 0 < zs.length) :
    ∃ ad c, v = .slice (some ad) zs.length c ∧ Ints w (some ad) zs ∧ zs.length ≤ c ∧ c ≤ maxLen := by
  obtain ⟨A, c, rfl, hI, _, h1, h2⟩ := h.form
  obtain ⟨ad, rfl, _⟩ := hI hp
  exact ⟨ad, c, rfl, hI, h1, h2⟩

theorem own_ints {w : World} {B n c : Nat} {A : Option Addr} {zs : List Int} (h : Own w B (.slice A n c) zs) : Ints w A zs := by
  obtain ⟨A', c', hv, hI, _⟩ := h.form
  injection hv with h1 h2 h3
  subst h1
  exact hI
theorem own_row3 {w : World} {B m : Nat} {v : Value} {zs : List Int} {x : Int} (h : Own w B v (zs ++ [x])) (hm : zs.length = m) :
    ∃ ad c, v = .slice (some ad) (m + 1) c ∧ Own w B (.slice (some ad) (m + 1) c) (zs ++ [x]) ∧ Ints w (some ad) (zs ++ [x]) ∧ m + 1 ≤ c ∧ c ≤ maxLen := by
  obtain ⟨ad, c, rfl, hI, h1, h2⟩ := own_row2 h (by simp)
  have e : (zs ++ [x]).length = m + 1 := by rw [List.length_append, hm]; rfl
  rw [e] at h h1
  exact ⟨ad, c, by rw [e], h, hI, h1, h2⟩

end Go.Proofs.YtdijlofcgcikjaaDoor
