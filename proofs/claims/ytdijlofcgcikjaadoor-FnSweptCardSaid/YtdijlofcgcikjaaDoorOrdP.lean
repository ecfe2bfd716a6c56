/-
  Orders of a bar, plainly: which set comes next, and that one always comes as long as some are left. No Go here.
-/
import Derived.Test.YtdijlofcgcikjaaDoorReach
namespace Go.Proofs.YtdijlofcgcikjaaDoor
open Go.RowKit
set_option linter.unusedVariables false

/-- no other set that is left is part of set i -/
def freeB (zs : List Int) (lf : Nat → Bool) (i : Nat) : Bool := (List.range zs.length).all (fun k => !(k != i && (lf k && partB (zs.getD k 0) (zs.getD i 0))))
/-- how many are left below n -/
def remain (lf : Nat → Bool) : Nat → Nat
  | 0 => 0
  | n + 1 => remain lf n + (if lf n then 1 else 0)
/-- without i -/
def drop1 (lf : Nat → Bool) (i : Nat) : Nat → Bool := fun k => lf k && k != i
theorem remain_congr {lf lg : Nat → Bool} : ∀ n, (∀ k, k < n → lf k = lg k) → remain lf n = remain lg n
  | 0, _ => rfl
  | n + 1, h => by unfold remain; rw [remain_congr n fun k hk => h k (by omega), h n (by omega)]
theorem remain_drop {lf : Nat → Bool} {i : Nat} (hi : lf i = true) : ∀ n, i < n → remain (drop1 lf i) n + 1 = remain lf n
  | 0, h => absurd h (by omega)
  | n + 1, h => by
    unfold remain
    by_cases he : i = n
    · subst he
      have : drop1 lf i i = false := by simp [drop1]
      rw [this, hi]
      have hc : remain (drop1 lf i) i = remain lf i := remain_congr i fun k hk => by
        have : (k != i) = true := by simp; omega
        simp [drop1, this]
      rw [hc]; simp
    · have hd : drop1 lf i n = lf n := by
        have : (n != i) = true := by simp; omega
        simp [drop1, this]
      rw [hd, ← remain_drop hi n (by omega)]
      omega
theorem remain_some {lf : Nat → Bool} : ∀ n, 0 < remain lf n → ∃ i, i < n ∧ lf i = true
  | 0, h => absurd h (by simp [remain])
  | n + 1, h => by
    cases hn : lf n
    · unfold remain at h
      rw [hn] at h
      obtain ⟨i, hi, h1⟩ := remain_some n (by simpa using h)
      exact ⟨i, by omega, h1⟩
    · exact ⟨n, by omega, hn⟩
theorem remain_all {lf : Nat → Bool} : ∀ n, (∀ k, k < n → lf k = true) → remain lf n = n
  | 0, _ => rfl
  | n + 1, h => by unfold remain; rw [remain_all n fun k hk => h k (by omega), h n (by omega)]; rfl

/-- zs has no set twice -/
def distinct (zs : List Int) : Prop := ∀ i j, i < zs.length → j < zs.length → zs.getD i 0 = zs.getD j 0 → i = j

/-- of those that are left, one of the least number is free -/
theorem least_left {zs : List Int} {lf : Nat → Bool} : ∀ n, (∃ i, i < n ∧ lf i = true) → ∃ i, i < n ∧ lf i = true ∧ ∀ k, k < n → lf k = true → zs.getD i 0 ≤ zs.getD k 0
  | 0, ⟨i, h, _⟩ => absurd h (by omega)
  | n + 1, ⟨i, hi, h1⟩ => by
    by_cases hex : ∃ i, i < n ∧ lf i = true
    · obtain ⟨m, hm, hl, hle⟩ := least_left (zs := zs) n hex
      by_cases hn : lf n = true ∧ zs.getD n 0 < zs.getD m 0
      · refine ⟨n, by omega, hn.1, fun k hk hkl => ?_⟩
        by_cases e : k = n
        · subst e; omega
        · have := hle k (by omega) hkl; omega
      · refine ⟨m, by omega, hl, fun k hk hkl => ?_⟩
        by_cases e : k = n
        · subst e
          have : ¬ zs.getD k 0 < zs.getD m 0 := fun h => hn ⟨hkl, h⟩
          omega
        · exact hle k (by omega) hkl
    · have : i = n := by
        by_cases e : i = n
        · exact e
        · exact absurd ⟨i, by omega, h1⟩ hex
      subst this
      refine ⟨i, by omega, h1, fun k hk hkl => ?_⟩
      by_cases e : k = i
      · subst e; omega
      · exact absurd ⟨k, by omega, hkl⟩ hex
theorem free_exists {zs : List Int} {lf : Nat → Bool} (hset : ∀ z ∈ zs, 0 ≤ z ∧ z ≤ 127) (hd : distinct zs) (h : 0 < remain lf zs.length) : ∃ i, i < zs.length ∧ lf i = true ∧ freeB zs lf i = true := by
  obtain ⟨i, hi, hl, hle⟩ := least_left (zs := zs) zs.length (remain_some _ h)
  refine ⟨i, hi, hl, ?_⟩
  unfold freeB
  rw [List.all_eq_true]
  intro k hk
  rw [List.mem_range] at hk
  have hz : ∀ j, j < zs.length → 0 ≤ zs.getD j 0 ∧ zs.getD j 0 ≤ 127 := fun j hj => by
    simp only [List.getD, List.getElem?_eq_getElem hj, Option.getD_some]
    exact hset _ (List.getElem_mem hj)
  by_cases e : k = i
  · subst e; simp
  cases hlk : lf k
  · simp
  cases hp : partB (zs.getD k 0) (zs.getD i 0)
  · simp
  · have h1 := partB_le (hz k hk).1 (hz k hk).2 (hz i hi).1 (hz i hi).2 hp
    have h2 := hle k hk hlk
    exact absurd (hd k i hk hi (by omega)) e

/-- the next one -/
def nextOf (zs : List Int) (lf : Nat → Bool) : Nat := ((List.range zs.length).find? (fun i => lf i && freeB zs lf i)).getD 0
theorem nextOf_is {zs : List Int} {lf : Nat → Bool} {i : Nat} (hi : i < zs.length) (h : lf i = true) (hf : freeB zs lf i = true) (hno : ∀ j, j < i → (lf j && freeB zs lf j) = false) : nextOf zs lf = i := by
  unfold nextOf
  have : (List.range zs.length).find? (fun i => lf i && freeB zs lf i) = some i := by
    rw [List.find?_range_eq_some]
    exact ⟨by rw [h, hf]; rfl, List.mem_range.2 hi, fun j hj => by rw [hno j hj]; rfl⟩
  rw [this]; rfl
/-- after k steps: what is left, and the sets in their order so far -/
def leftAt (zs : List Int) : Nat → Nat → Bool
  | 0 => fun _ => true
  | k + 1 => drop1 (leftAt zs k) (nextOf zs (leftAt zs k))
def ordAt (zs : List Int) : Nat → List Int
  | 0 => []
  | k + 1 => ordAt zs k ++ [zs.getD (nextOf zs (leftAt zs k)) 0]
theorem ordAt_len (zs : List Int) : ∀ k, (ordAt zs k).length = k
  | 0 => rfl
  | k + 1 => by unfold ordAt; rw [List.length_append, ordAt_len zs k]; rfl
theorem first_free {zs : List Int} {lf : Nat → Bool} (h : ∃ i, i < zs.length ∧ lf i = true ∧ freeB zs lf i = true) :
    nextOf zs lf < zs.length ∧ lf (nextOf zs lf) = true ∧ freeB zs lf (nextOf zs lf) = true := by
  obtain ⟨i, hi, h1, h2⟩ := h
  unfold nextOf
  cases hf : (List.range zs.length).find? (fun i => lf i && freeB zs lf i) with
  | none =>
    rw [List.find?_eq_none] at hf
    have := hf i (List.mem_range.2 hi)
    simp [h1, h2] at this
  | some j =>
    have hj := List.find?_some hf
    have hm := List.mem_of_find?_eq_some hf
    rw [Bool.and_eq_true] at hj
    exact ⟨List.mem_range.1 hm, hj.1, hj.2⟩
theorem remain_at {zs : List Int} (hset : ∀ z ∈ zs, 0 ≤ z ∧ z ≤ 127) (hd : distinct zs) : ∀ k, k ≤ zs.length → remain (leftAt zs k) zs.length = zs.length - k
  | 0, _ => by rw [remain_all]; · rfl
               · intro k _; rfl
  | k + 1, h => by
    have ih := remain_at hset hd k (by omega)
    obtain ⟨h1, h2, h3⟩ := first_free (free_exists hset hd (lf := leftAt zs k) (by omega))
    have := remain_drop h2 zs.length h1
    unfold leftAt
    omega
theorem ordNext_at {zs : List Int} (hset : ∀ z ∈ zs, 0 ≤ z ∧ z ≤ 127) (hd : distinct zs) {k : Nat} (hk : k < zs.length) :
    nextOf zs (leftAt zs k) < zs.length ∧ leftAt zs k (nextOf zs (leftAt zs k)) = true ∧ freeB zs (leftAt zs k) (nextOf zs (leftAt zs k)) = true :=
  first_free (free_exists hset hd (by rw [remain_at hset hd k (by omega)]; omega))
/-- all of them, in order -/
def distB (zs : List Int) : Bool := (List.range zs.length).all (fun i => !(zs.take i).contains (zs.getD i 0))
def setsB (zs : List Int) : Bool := distB zs && isBar zs
def ordL (zs : List Int) : List Int := if setsB zs then ordAt zs zs.length else []
theorem distB_iff (zs : List Int) : distB zs = true ↔ distinct zs := by
  unfold distB distinct
  rw [List.all_eq_true]
  constructor
  · intro h i j hi hj e
    rcases Nat.lt_trichotomy i j with hlt | heq | hgt
    · have := h j (List.mem_range.2 hj)
      simp only [Bool.not_eq_true', List.contains_eq_mem, decide_eq_false_iff_not] at this
      exact absurd (List.mem_iff_getElem.2 ⟨i, by rw [List.length_take]; omega, by rw [List.getElem_take, ← e]; simp [List.getD, hi]⟩) this
    · exact heq
    · have := h i (List.mem_range.2 hi)
      simp only [Bool.not_eq_true', List.contains_eq_mem, decide_eq_false_iff_not] at this
      exact absurd (List.mem_iff_getElem.2 ⟨j, by rw [List.length_take]; omega, by rw [List.getElem_take, e]; simp [List.getD, hj]⟩) this
  · intro h i hi
    rw [List.mem_range] at hi
    simp only [Bool.not_eq_true', List.contains_eq_mem, decide_eq_false_iff_not]
    intro hm
    obtain ⟨j, hj, he⟩ := List.mem_iff_getElem.1 hm
    rw [List.length_take] at hj
    rw [List.getElem_take] at he
    have := h j i (by omega) hi (by simp only [List.getD, List.getElem?_eq_getElem (show j < zs.length by omega), Option.getD_some]; exact he)
    omega
theorem ordL_len (zs : List Int) : (ordL zs).length ≤ zs.length := by
  unfold ordL; split
  · rw [ordAt_len]; exact Nat.le_refl _
  · simp
end Go.Proofs.YtdijlofcgcikjaaDoor
