/-
  The numbers of breakings, plainly: from each word on, and of those whose first line is shorter than one. Mathematics alone, no condition.
-/
import Derived.Test.YtddkedinkgnboaaEach
namespace Go.Proofs.Ytddkedinkgnboaa
open Go.RowKit
set_option linter.unusedVariables false

/-- the number for word i when all are done -/
def valE (m : Msr) (zs : List Int) (add : Int → Nat → Nat → Int → Int) (e z : Int) (i : Nat) : Int := (rowE m zs add e z zs.length).getD i 0
theorem mem_endsTo {m : Msr} {zs : List Int} {a p q : Nat} : q ∈ endsTo m zs a p ↔ q < p ∧ a < q ∧ lineW m zs a q = true := by
  unfold endsTo
  rw [List.mem_filter, List.mem_range, Bool.and_eq_true, decide_eq_true_eq]
theorem row_keeps (m : Msr) (zs : List Int) (add : Int → Nat → Nat → Int → Int) (e z : Int) (d k i : Nat) (hi : zs.length ≤ i + d) (hk : d + k ≤ zs.length) : (rowE m zs add e z (d + k)).getD i 0 = (rowE m zs add e z d).getD i 0 := by
  induction k with
  | zero => rfl
  | succ k ih =>
    rw [← ih (by omega), show d + (k + 1) = (d + k) + 1 by omega, rowE]
    exact getD_set_ne (by omega)
theorem row_is {m : Msr} {zs : List Int} {add : Int → Nat → Nat → Int → Int} {e z : Int} {d i : Nat} (hi : zs.length ≤ i + d) (hd : d ≤ zs.length) : (rowE m zs add e z d).getD i 0 = valE m zs add e z i := by
  have := row_keeps m zs add e z d (zs.length - d) i hi (by omega)
  rw [show d + (zs.length - d) = zs.length by omega] at this
  exact this.symm
theorem valE_end (m : Msr) (zs : List Int) (add : Int → Nat → Nat → Int → Int) (e z : Int) : valE m zs add e z zs.length = e := by
  rw [← row_is (d := 0) (by omega) (by omega), rowE]
  simp [List.getD]
theorem foldl_same {α β : Type} {f g : β → α → β} {l : List α} (h : ∀ x ∈ l, ∀ b, f b x = g b x) (b : β) : l.foldl f b = l.foldl g b := by
  induction l generalizing b with
  | nil => rfl
  | cons x l ih =>
    rw [List.foldl_cons, List.foldl_cons, h x List.mem_cons_self]
    exact ih (fun y hy => h y (List.mem_cons_of_mem _ hy)) _
theorem accE_row {m : Msr} {zs : List Int} {add : Int → Nat → Nat → Int → Int} {e z : Int} {i d : Nat} (es : List Nat) (hes : ∀ q ∈ es, zs.length ≤ q + d) (hd : d ≤ zs.length) :
    accE add z i (rowE m zs add e z d) es = es.foldl (fun acc q => add acc i q (valE m zs add e z q)) z := by
  unfold accE
  exact foldl_same (fun q hq b => by rw [row_is (hes q hq) hd]) _
theorem valE_at {m : Msr} {zs : List Int} {add : Int → Nat → Nat → Int → Int} {e z : Int} {i : Nat} (hi : i < zs.length) :
    valE m zs add e z i = (endsTo m zs i (zs.length + 1)).foldl (fun acc q => add acc i q (valE m zs add e z q)) z := by
  obtain ⟨d, hd⟩ : ∃ d, zs.length - 1 - d = i ∧ d < zs.length := ⟨zs.length - 1 - i, by omega, by omega⟩
  rw [← row_is (d := d + 1) (by omega) (by omega), rowE, hd.1, getD_set_eq (by rw [rowE_len]; omega)]
  exact accE_row _ (fun q hq => by have := mem_endsTo.1 hq; omega) (by omega)

/-- the number of breakings of the words from i on, and of those whose first line ends before p -/
def wayF (m : Msr) (zs : List Int) (i : Nat) : Int := valE m zs addC 1 0 i
def befF (m : Msr) (zs : List Int) (i p : Nat) : Int := (endsTo m zs i p).foldl (fun acc q => addC acc i q (wayF m zs q)) 0
theorem wayF_end (m : Msr) (zs : List Int) : wayF m zs zs.length = 1 := valE_end _ _ _ _ _
theorem wayF_at {m : Msr} {zs : List Int} {i : Nat} (hi : i < zs.length) : wayF m zs i = befF m zs i (zs.length + 1) := valE_at hi
theorem befF_low {m : Msr} {zs : List Int} {i p : Nat} (h : p ≤ i + 1) : befF m zs i p = 0 := by unfold befF; rw [endsTo_low h]; rfl
theorem befF_no {m : Msr} {zs : List Int} {i p : Nat} (h : (decide (i < p) && lineW m zs i p) = false) : befF m zs i (p + 1) = befF m zs i p := by unfold befF; rw [endsTo_no h]
theorem befF_yesC {m : Msr} {zs : List Int} {i p : Nat} (h1 : i < p) (h2 : lineW m zs i p = true) : befF m zs i (p + 1) = wrap64 (befF m zs i p + wayF m zs p) := by
  unfold befF; rw [endsTo_yes h1 h2, List.foldl_append]; rfl
/-- no number is beyond int: at most 2^40 breakings -/
theorem way_bound (m : Msr) (zs : List Int) (hz : zs.length ≤ 40) : ∀ (d i : Nat), zs.length - i = d → i ≤ zs.length →
    (0 ≤ wayF m zs i ∧ wayF m zs i ≤ 2 ^ d) ∧ ∀ p, i < p → p ≤ zs.length + 1 → 0 ≤ befF m zs i p ∧ befF m zs i p ≤ (2 ^ d : Int) - 2 ^ (zs.length + 1 - p) := by
  intro d
  induction d using Nat.strongRecOn with
  | _ d ih =>
    intro i hd hi
    have hb : ∀ p, i < p → p ≤ zs.length + 1 → 0 ≤ befF m zs i p ∧ befF m zs i p ≤ (2 ^ d : Int) - 2 ^ (zs.length + 1 - p) := by
      intro p
      induction p with
      | zero => intro h; omega
      | succ p ihp =>
        intro h1 h2
        by_cases hp : p ≤ i
        · rw [befF_low (by omega), show zs.length + 1 - (p + 1) = d by omega]
          exact ⟨by omega, by simp⟩
        · have h3 := ihp (by omega) (by omega)
          have hpow : (2 : Int) ^ (zs.length + 1 - p) = 2 * 2 ^ (zs.length + 1 - (p + 1)) := by
            rw [show zs.length + 1 - p = (zs.length + 1 - (p + 1)) + 1 by omega, Int.pow_succ]; omega
          have hpos : (0 : Int) < 2 ^ (zs.length + 1 - (p + 1)) := Int.pow_pos (by omega)
          cases hl : lineW m zs i p
          · rw [befF_no (by rw [hl]; simp)]
            exact ⟨h3.1, by omega⟩
          · rw [befF_yesC (by omega) hl]
            obtain ⟨⟨h4, h5⟩, -⟩ := ih (zs.length - p) (by omega) p rfl (by omega)
            rw [show zs.length - p = zs.length + 1 - (p + 1) by omega] at h5
            have hd40 : (2 : Int) ^ d ≤ 2 ^ 40 := by
              have : (2 : Nat) ^ d ≤ 2 ^ 40 := Nat.pow_le_pow_right (by omega) (by omega)
              exact_mod_cast this
            have h40 : (2 : Int) ^ 40 = 1099511627776 := by decide
            rw [show wrap64 (befF m zs i p + wayF m zs p) = befF m zs i p + wayF m zs p by
              have := IntKind.wrap_i64 (befF m zs i p + wayF m zs p)
              unfold wrap64; omega]
            exact ⟨by omega, by omega⟩
    refine ⟨?_, hb⟩
    rcases Nat.lt_or_ge i zs.length with h | h
    · rw [wayF_at h]
      have := hb (zs.length + 1) (by omega) (Nat.le_refl _)
      rw [Nat.sub_self] at this
      exact ⟨this.1, by have h1 := this.2; simp at h1; omega⟩
    · obtain rfl : i = zs.length := by omega
      rw [wayF_end]
      obtain rfl : d = 0 := by omega
      simp
end Go.Proofs.Ytddkedinkgnboaa
