/-
  Lines, plainly: what a line asks of a measure, its rise, its rest, the widths of its bands, the places of its items. Mathematics alone, no condition.
-/
import Derived.Test.YtddkedinkgnboaaBase
import Derived.Test.YtddkedinkgnboaaIn
namespace Go.Proofs.Ytddkedinkgnboaa
open Go.RowKit
set_option linter.unusedVariables false

def sumL : List Int → Int
  | [] => 0
  | x :: xs => x + sumL xs
def bandsN : List Int → Nat
  | [] => 0
  | x :: xs => (if x = 0 then 1 else 0) + bandsN xs
theorem sumL_append (xs ys : List Int) : sumL (xs ++ ys) = sumL xs + sumL ys := by
  induction xs with
  | nil => simp [sumL]
  | cons x xs ih => simp only [List.cons_append, sumL, ih]; omega
theorem bandsN_append (xs ys : List Int) : bandsN (xs ++ ys) = bandsN xs + bandsN ys := by
  induction xs with
  | nil => simp [bandsN]
  | cons x xs ih => simp only [List.cons_append, bandsN, ih]; omega
theorem bandsN_le (xs : List Int) : bandsN xs ≤ xs.length := by
  induction xs with
  | nil => simp [bandsN]
  | cons x xs ih => simp only [bandsN, List.length_cons]; split <;> omega
theorem sumL_at {zs : List Int} {k : Nat} {x : Int} (h : zs[k]? = some x) : sumL (zs.take (k + 1)) = sumL (zs.take k) + x := by
  rw [take_at h, sumL_append]; simp [sumL]
theorem bandsN_at {zs : List Int} {k : Nat} {x : Int} (h : zs[k]? = some x) : bandsN (zs.take (k + 1)) = bandsN (zs.take k) + (if x = 0 then 1 else 0) := by
  rw [take_at h, bandsN_append]; simp [bandsN]
theorem bandsN_take (zs : List Int) (k : Nat) : bandsN (zs.take k) ≤ bandsN zs := by
  have := bandsN_append (zs.take k) (zs.drop k)
  rw [List.take_append_drop] at this; omega
theorem sumL_bound {zs : List Int} (h : ∀ x ∈ zs, 0 ≤ x ∧ x ≤ 60) : 0 ≤ sumL zs ∧ sumL zs ≤ 60 * (zs.length : Int) := by
  induction zs with
  | nil => simp [sumL]
  | cons x xs ih =>
    have h1 := h x (List.mem_cons_self)
    have h2 := ih (fun y hy => h y (List.mem_cons_of_mem _ hy))
    simp only [sumL, List.length_cons]; omega

/-- a measure: width, thin, thick -/
structure Msr where
  w : Int
  t : Int
  k : Int
def msrB (m : Msr) : Bool := inB m.w 1 2000 && (inB m.t 1 100 && inB m.k m.t 100)
theorem inB_true {x a b : Int} (h : inB x a b = true) : a ≤ x ∧ x ≤ b := by unfold inB at h; exact of_decide_eq_true h
theorem inB_false {x a b : Int} (h : inB x a b = false) : ¬ (a ≤ x ∧ x ≤ b) := by unfold inB at h; exact of_decide_eq_false h
theorem msrB_iff {m : Msr} : msrB m = true ↔ 1 ≤ m.w ∧ m.w ≤ 2000 ∧ 1 ≤ m.t ∧ m.t ≤ m.k ∧ m.k ≤ 100 := by
  unfold msrB
  constructor
  · intro h
    rw [Bool.and_eq_true, Bool.and_eq_true] at h
    have h1 := inB_true h.1; have h2 := inB_true h.2.1; have h3 := inB_true h.2.2
    omega
  · intro h
    rw [Bool.and_eq_true, Bool.and_eq_true]
    unfold inB
    exact ⟨decide_eq_true (by omega), decide_eq_true (by omega), decide_eq_true (by omega)⟩
def itemB (x : Int) : Bool := inB x 0 60
def itemsB (zs : List Int) : Bool := zs.all itemB
def lineB (zs : List Int) : Bool := itemsB zs && decide (zs.length ≤ 120)
theorem itemsB_mem {zs : List Int} (h : itemsB zs = true) : ∀ x ∈ zs, 0 ≤ x ∧ x ≤ 60 := fun x hx => by
  unfold itemsB at h
  rw [List.all_eq_true] at h
  exact inB_true (h x hx)
theorem lineB_parts {zs : List Int} (h : lineB zs = true) : (∀ x ∈ zs, 0 ≤ x ∧ x ≤ 60) ∧ zs.length ≤ 120 := by
  unfold lineB at h
  rw [Bool.and_eq_true] at h
  exact ⟨itemsB_mem h.1, of_decide_eq_true h.2⟩
theorem lineB_take {zs : List Int} (h : lineB zs = true) (k : Nat) : 0 ≤ sumL (zs.take k) ∧ sumL (zs.take k) ≤ 7200 ∧ bandsN (zs.take k) ≤ 120 := by
  obtain ⟨h1, h2⟩ := lineB_parts h
  have h3 := sumL_bound (zs := zs.take k) (fun x hx => h1 x (List.mem_of_mem_take hx))
  have h4 := bandsN_le (zs.take k)
  rw [List.length_take] at h3 h4
  omega
theorem lineB_sum {zs : List Int} (h : lineB zs = true) : 0 ≤ sumL zs ∧ sumL zs ≤ 7200 ∧ bandsN zs ≤ 120 := by
  have := lineB_take h zs.length
  rwa [List.take_length] at this
theorem itemsB_take {zs : List Int} {k : Nat} {x : Int} (h : zs[k]? = some x) : itemsB (zs.take (k + 1)) = (itemsB (zs.take k) && itemB x) := by
  unfold itemsB; rw [take_at h]; simp
theorem itemsB_bad {zs : List Int} {k : Nat} {x : Int} (h : zs[k]? = some x) (hb : itemB x = false) : itemsB zs = false := by
  unfold itemsB
  rw [List.all_eq_false]
  exact ⟨x, mem_at h, by rw [hb]; simp⟩

/-- what a load asks: L for the letters, B bands, e for each -/
def widF (L : Int) (B : Nat) (e : Int) : Int := L + B * e
def riseF (m : Msr) (L : Int) (B : Nat) : Int := if B = 0 then 0 else min (m.k - m.t) ((m.w - widF L B m.t).tdiv B)
def restF (m : Msr) (L : Int) (B : Nat) : Int := m.w - widF L B (m.t + riseF m L B)
def fullF (m : Msr) (L : Int) (B : Nat) : Bool := restF m L B == 0 || decide (restF m L B < B)
/-- the rise of a load that fits: the greatest that has room -/
theorem riseF_spec {m : Msr} {L : Int} {B : Nat} (hm : msrB m = true) (hf : widF L B m.t ≤ m.w) : 0 ≤ riseF m L B ∧ riseF m L B ≤ m.k - m.t ∧ 0 ≤ restF m L B ∧ (B = 0 → riseF m L B = 0) ∧ (0 < B → riseF m L B < m.k - m.t → restF m L B < B) := by
  rw [msrB_iff] at hm
  unfold restF riseF
  by_cases hb : B = 0
  · have hb0 : (B : Int) = 0 := by omega
    rw [if_pos hb]
    simp only [widF, hb0, Int.zero_mul, Int.add_zero] at hf ⊢
    exact ⟨by omega, by omega, by omega, fun _ => trivial, fun h => by omega⟩
  · rw [if_neg hb]
    obtain ⟨R, hR⟩ : ∃ R, m.w - widF L B m.t = R := ⟨_, rfl⟩
    have hR0 : 0 ≤ R := by omega
    have hbp : (0 : Int) < (B : Int) := by omega
    rw [hR, Int.tdiv_eq_ediv_of_nonneg hR0]
    have hq0 : 0 ≤ R / (B : Int) := Int.ediv_nonneg hR0 (by omega)
    have hq1 : (B : Int) * (R / (B : Int)) ≤ R := Int.mul_ediv_self_le (by omega)
    have hq2 : R < (B : Int) * (R / (B : Int)) + (B : Int) := Int.lt_mul_ediv_self_add hbp
    have hW : ∀ r : Int, m.w - widF L B (m.t + r) = R - (B : Int) * r := fun r => by
      unfold widF at *
      rw [Int.mul_add]; omega
    rw [hW]
    generalize R / (B : Int) = q at *
    by_cases hle : m.k - m.t ≤ q
    · rw [Int.min_eq_left hle]
      have : (B : Int) * (m.k - m.t) ≤ (B : Int) * q := Int.mul_le_mul_of_nonneg_left hle (by omega)
      exact ⟨by omega, by omega, by omega, fun h => absurd h hb, fun _ h => by omega⟩
    · rw [Int.min_eq_right (by omega)]
      exact ⟨by omega, by omega, by omega, fun h => absurd h hb, fun _ _ => by omega⟩
theorem riseF_is {m : Msr} {L : Int} {B : Nat} (hm : msrB m = true) (hf : widF L B m.t ≤ m.w) {r : Int} (h0 : 0 ≤ r) (h1 : r ≤ m.k - m.t) (h2 : 0 ≤ m.w - widF L B (m.t + r)) (h3 : B = 0 → r = 0) (h4 : 0 < B → r < m.k - m.t → m.w - widF L B (m.t + r) < B) : riseF m L B = r := by
  obtain ⟨p0, p1, p2, p3, p4⟩ := riseF_spec hm hf
  unfold restF at p2 p4
  by_cases hb : B = 0
  · rw [p3 hb, h3 hb]
  · have hbp : (0 : Int) < (B : Int) := by omega
    have hlin : ∀ a b : Int, a < b → widF L B (m.t + a) + B ≤ widF L B (m.t + b) := fun a b hab => by
      unfold widF
      have e1 : (B : Int) * (m.t + b) = (B : Int) * (m.t + a) + (B : Int) * (b - a) := by rw [← Int.mul_add]; congr 1; omega
      have e2 : (B : Int) * 1 ≤ (B : Int) * (b - a) := Int.mul_le_mul_of_nonneg_left (by omega) (by omega)
      omega
    rcases Int.lt_trichotomy (riseF m L B) r with hlt | he | hgt
    · have := hlin _ _ hlt
      have := p4 (by omega) (by omega)
      omega
    · exact he
    · have := hlin _ _ hgt
      have := h4 (by omega) (by omega)
      omega

/-- the width of all items with e for each band -/
def widL (zs : List Int) (e : Int) : Int := widF (sumL zs) (bandsN zs) e
def fitL (m : Msr) (zs : List Int) : Bool := decide (widL zs m.t ≤ m.w)
/-- a line that fits -/
def fitsB (m : Msr) (zs : List Int) : Bool := lineB zs && fitL m zs
def goodB (m : Msr) (zs : List Int) : Bool := msrB m && fitsB m zs
def riseL (m : Msr) (zs : List Int) : Int := riseF m (sumL zs) (bandsN zs)
def restL (m : Msr) (zs : List Int) : Int := restF m (sumL zs) (bandsN zs)
def fullL (m : Msr) (zs : List Int) : Bool := fullF m (sumL zs) (bandsN zs)
def fullB (m : Msr) (zs : List Int) : Bool := goodB m zs && fullL m zs

theorem goodB_parts {m : Msr} {zs : List Int} (h : goodB m zs = true) : msrB m = true ∧ lineB zs = true ∧ widL zs m.t ≤ m.w := by
  unfold goodB fitsB fitL at h
  simp only [Bool.and_eq_true, decide_eq_true_eq] at h
  exact ⟨h.1, h.2.1, h.2.2⟩
theorem rise_spec {m : Msr} {zs : List Int} (h : goodB m zs = true) : 0 ≤ riseL m zs ∧ riseL m zs ≤ m.k - m.t ∧ 0 ≤ restL m zs ∧ (bandsN zs = 0 → riseL m zs = 0) ∧ (0 < bandsN zs → riseL m zs < m.k - m.t → restL m zs < bandsN zs) := by
  obtain ⟨hm, hl, hf⟩ := goodB_parts h
  exact riseF_spec hm hf
/-- bands of at most 120 at a width of at most 101 -/
theorem mul_small {B e : Int} (h0 : 0 ≤ B) (h1 : B ≤ 120) (h2 : 0 ≤ e) (h3 : e ≤ 101) : 0 ≤ B * e ∧ B * e ≤ 12120 := by
  refine ⟨Int.mul_nonneg h0 h2, ?_⟩
  have : B * e ≤ 120 * 101 := Int.mul_le_mul h1 h3 h2 (by omega)
  omega

theorem mul_wide {B e : Int} (h0 : 0 ≤ B) (h1 : B ≤ 120) (h2 : -2000100 ≤ e) (h3 : e ≤ 101) : -240012000 ≤ B * e ∧ B * e ≤ 12120 := by
  by_cases he : 0 ≤ e
  · have := mul_small h0 h1 he h3
    omega
  · obtain ⟨y, rfl⟩ : ∃ y, e = -y := ⟨-e, by omega⟩
    have e1 : B * y ≤ 120 * 2000100 := Int.mul_le_mul h1 (by omega) (by omega) (by omega)
    have e2 : 0 ≤ B * y := Int.mul_nonneg h0 (by omega)
    rw [Int.mul_neg]; omega

/-- the width of band j if e of them are wider by 1 -/
def bandW (a e : Int) (j : Nat) : Int := a + (if (j : Int) < e then 1 else 0)
def bandL (a e : Int) (n : Nat) : List Int := (List.range n).map (bandW a e)
theorem bandL_len (a e : Int) (n : Nat) : (bandL a e n).length = n := by simp [bandL]
theorem bandL_succ (a e : Int) (n : Nat) : bandL a e (n + 1) = bandL a e n ++ [bandW a e n] := by simp [bandL, List.range_succ]
theorem bandL_get (a e : Int) {n j : Nat} (h : j < n) : (bandL a e n)[j]? = some (bandW a e j) := by simp [bandL, h]
/-- how many bands are wider by 1 -/
def moreL (m : Msr) (zs : List Int) : Int := if fullL m zs then restL m zs else 0
def bandsL (m : Msr) (zs : List Int) : List Int := if goodB m zs then bandL (m.t + riseL m zs) (moreL m zs) (bandsN zs) else []
/-- the width of item k -/
def wideW (a e : Int) (zs : List Int) (k : Nat) : Int := if zs.getD k 0 = 0 then bandW a e (bandsN (zs.take k)) else zs.getD k 0
def wideL (a e : Int) (zs : List Int) (k : Nat) : List Int := (List.range k).map (wideW a e zs)
theorem wideL_len (a e : Int) (zs : List Int) (k : Nat) : (wideL a e zs k).length = k := by simp [wideL]
theorem wideL_succ (a e : Int) (zs : List Int) (k : Nat) : wideL a e zs (k + 1) = wideL a e zs k ++ [wideW a e zs k] := by simp [wideL, List.range_succ]
theorem wideL_get (a e : Int) (zs : List Int) {n j : Nat} (h : j < n) : (wideL a e zs n)[j]? = some (wideW a e zs j) := by simp [wideL, h]
theorem wideW_band {a e : Int} {zs : List Int} {k : Nat} (h : zs[k]? = some 0) : wideW a e zs k = bandW a e (bandsN (zs.take k)) := by
  unfold wideW; rw [getD_at h, if_pos rfl]
theorem wideW_item {a e : Int} {zs : List Int} {k : Nat} {x : Int} (h : zs[k]? = some x) (hx : x ≠ 0) : wideW a e zs k = x := by
  unfold wideW; rw [getD_at h, if_neg hx]
/-- how far the left side of item k is from the left side of the line -/
def leftW (a e : Int) (zs : List Int) (k : Nat) : Int := sumL (wideL a e zs k)
theorem leftW_succ (a e : Int) (zs : List Int) (k : Nat) : leftW a e zs (k + 1) = leftW a e zs k + wideW a e zs k := by
  unfold leftW; rw [wideL_succ, sumL_append]; simp [sumL]
def leftL (a e : Int) (zs : List Int) (k : Nat) : List Int := (List.range k).map (leftW a e zs)
theorem leftL_len (a e : Int) (zs : List Int) (k : Nat) : (leftL a e zs k).length = k := by simp [leftL]
theorem leftL_succ (a e : Int) (zs : List Int) (k : Nat) : leftL a e zs (k + 1) = leftL a e zs k ++ [leftW a e zs k] := by simp [leftL, List.range_succ]
def placesL (m : Msr) (zs : List Int) : List Int := if goodB m zs then leftL (m.t + riseL m zs) (moreL m zs) zs zs.length else []
theorem placesL_len (m : Msr) (zs : List Int) : (placesL m zs).length ≤ zs.length := by
  unfold placesL; split
  · rw [leftL_len]; exact Nat.le_refl _
  · simp
theorem bandsL_len (m : Msr) (zs : List Int) : (bandsL m zs).length ≤ zs.length := by
  unfold bandsL; split
  · rw [bandL_len]; exact bandsN_le zs
  · simp
theorem more_bound {m : Msr} {zs : List Int} (h : goodB m zs = true) : 0 ≤ moreL m zs ∧ moreL m zs ≤ 2000 := by
  obtain ⟨hm, hl, hf⟩ := goodB_parts h
  obtain ⟨p0, p1, p2, p3, p4⟩ := rise_spec h
  have hs := lineB_sum hl
  rw [msrB_iff] at hm
  unfold moreL
  split
  · refine ⟨p2, ?_⟩
    unfold restL restF widF
    have : 0 ≤ (bandsN zs : Int) * (m.t + riseF m (sumL zs) (bandsN zs)) := Int.mul_nonneg (by omega) (by unfold riseL at p0; omega)
    omega
  · omega
theorem bandW_bound {a e : Int} {j : Nat} (h0 : 0 ≤ a) (h1 : a ≤ 100) : 0 ≤ bandW a e j ∧ bandW a e j ≤ 101 := by
  unfold bandW; split <;> omega
theorem wideW_bound {a e : Int} {zs : List Int} (h0 : 0 ≤ a) (h1 : a ≤ 100) (hz : ∀ x ∈ zs, 0 ≤ x ∧ x ≤ 60) (k : Nat) : 0 ≤ wideW a e zs k ∧ wideW a e zs k ≤ 101 := by
  unfold wideW
  split
  · exact bandW_bound h0 h1
  · rename_i hne
    by_cases hk : k < zs.length
    · have := hz zs[k] (List.getElem_mem hk)
      have e : zs.getD k 0 = zs[k] := by simp [List.getD, hk]
      rw [e]; omega
    · exact absurd (by simp [List.getD, List.getElem?_eq_none (Nat.le_of_not_lt hk)]) hne
theorem leftW_bound {a e : Int} {zs : List Int} (h0 : 0 ≤ a) (h1 : a ≤ 100) (hz : ∀ x ∈ zs, 0 ≤ x ∧ x ≤ 60) : ∀ k : Nat, 0 ≤ leftW a e zs k ∧ leftW a e zs k ≤ 101 * (k : Int)
  | 0 => by simp [leftW, wideL, sumL]
  | k + 1 => by
    have h2 := leftW_bound (e := e) h0 h1 hz k
    have h3 := wideW_bound (e := e) h0 h1 hz k
    rw [leftW_succ]; omega
theorem riseThin {m : Msr} {zs : List Int} (h : goodB m zs = true) : 0 ≤ m.t + riseL m zs ∧ m.t + riseL m zs ≤ 100 := by
  obtain ⟨hm, _, _⟩ := goodB_parts h
  obtain ⟨p0, p1, _⟩ := rise_spec h
  rw [msrB_iff] at hm
  omega

/-- what WidthsOf and SpreadLine return -/
def okB (m : Msr) (zs : List Int) : Bool := msrB m && lineB zs
def wid1 (m : Msr) (zs : List Int) : Int := if okB m zs then widL zs m.t else 0
def wid2 (m : Msr) (zs : List Int) : Int := if okB m zs then widL zs m.k else 0
def rise1 (m : Msr) (zs : List Int) : Int := if goodB m zs then riseL m zs else 0
def rest1 (m : Msr) (zs : List Int) : Int := if goodB m zs then restL m zs else 0
theorem wid_no {m : Msr} {zs : List Int} (h : msrB m = false ∨ lineB zs = false) : wid1 m zs = 0 ∧ wid2 m zs = 0 ∧ okB m zs = false := by
  have : okB m zs = false := by unfold okB; rcases h with h | h <;> rw [h] <;> simp
  unfold wid1 wid2
  rw [this]; simp
theorem wid_is {m : Msr} {zs : List Int} (h : msrB m = true) (h2 : lineB zs = true) : wid1 m zs = widL zs m.t ∧ wid2 m zs = widL zs m.k ∧ okB m zs = true := by
  have : okB m zs = true := by unfold okB; rw [h, h2]; rfl
  unfold wid1 wid2
  rw [this]; simp
theorem spr_no {m : Msr} {zs : List Int} (h : goodB m zs = false) : rise1 m zs = 0 ∧ rest1 m zs = 0 := by
  unfold rise1 rest1; rw [h]; simp
theorem spr_is {m : Msr} {zs : List Int} (h : goodB m zs = true) : rise1 m zs = riseL m zs ∧ rest1 m zs = restL m zs := by
  unfold rise1 rest1; rw [h]; simp
end Go.Proofs.Ytddkedinkgnboaa
