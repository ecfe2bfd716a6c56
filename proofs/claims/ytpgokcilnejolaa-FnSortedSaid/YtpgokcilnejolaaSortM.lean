/-
  FnSorted, plainly: the order of a bar is a rearrangement that sorts all, and so is the ascending order. No Go here.
-/
import Derived.Test.YtpgokcilnejolaaOrdP
namespace Go.Proofs.Ytpgokcilnejolaa
open Go.RowKit
set_option linter.unusedVariables false

/-- x put into a list ahead of the first number that is not less -/
def ins (x : Int) : List Int → List Int
  | [] => [x]
  | a :: l => if a < x then a :: ins x l else x :: a :: l
def srt (zs : List Int) : List Int := zs.foldl (fun l x => ins x l) []
theorem ins_comm (x y : Int) : ∀ l, ins x (ins y l) = ins y (ins x l)
  | [] => by
    by_cases h1 : x < y
    · have h2 : ¬ y < x := by omega
      simp [ins, h1, h2]
    · by_cases h2 : y < x
      · simp [ins, h1, h2]
      · have : x = y := by omega
        subst this; rfl
  | a :: l => by
    have ih := ins_comm x y l
    by_cases hx : a < x <;> by_cases hy : a < y
    · simp [ins, hx, hy, ih]
    · have h2 : y < x := by omega
      simp [ins, hx, hy, h2]
    · have h2 : x < y := by omega
      simp [ins, hx, hy, h2]
    · by_cases h1 : x < y
      · have h2 : ¬ y < x := by omega
        simp [ins, hx, hy, h1, h2]
      · by_cases h2 : y < x
        · simp [ins, hx, hy, h1, h2]
        · have : x = y := by omega
          subst this; rfl
theorem srt_perm {a b : List Int} (h : a.Perm b) : srt a = srt b :=
  h.foldl_eq' (fun x _ y _ z => ins_comm y x z) []
theorem ins_perm (x : Int) : ∀ l, (ins x l).Perm (x :: l)
  | [] => List.Perm.refl _
  | a :: l => by
    unfold ins
    split
    · exact ((ins_perm x l).cons a).trans (List.Perm.swap x a l)
    · exact List.Perm.refl _
theorem srt_go (zs : List Int) : ∀ l, (zs.foldl (fun l x => ins x l) l).Perm (zs ++ l) := by
  induction zs with
  | nil => exact fun l => List.Perm.refl _
  | cons a zs ih =>
    intro l
    refine (ih (ins a l)).trans ?_
    exact ((ins_perm a l).append_left zs).trans List.perm_middle
theorem srt_is_perm (zs : List Int) : (srt zs).Perm zs := by
  have := srt_go zs []
  rw [List.append_nil] at this
  exact this
/-- ascending, equal neighbours let in -/
def asc : List Int → Prop
  | [] => True
  | a :: l => (∀ b ∈ l, a ≤ b) ∧ asc l
theorem ins_mem {x b : Int} {l : List Int} : b ∈ ins x l ↔ b = x ∨ b ∈ l := by
  rw [(ins_perm x l).mem_iff]; simp
theorem ins_asc (x : Int) : ∀ l, asc l → asc (ins x l)
  | [], _ => by simp [ins, asc]
  | a :: l, h => by
    unfold ins
    split
    · rename_i hlt
      refine ⟨fun b hb => ?_, ins_asc x l h.2⟩
      rcases ins_mem.1 hb with rfl | hb
      · omega
      · exact h.1 b hb
    · rename_i hge
      refine ⟨fun b hb => ?_, h⟩
      rcases List.mem_cons.1 hb with rfl | hb
      · omega
      · have := h.1 b hb; omega
theorem srt_asc (zs : List Int) : asc (srt zs) := by
  have : ∀ (zs l : List Int), asc l → asc (zs.foldl (fun l x => ins x l) l) := by
    intro zs
    induction zs with
    | nil => exact fun l h => h
    | cons a zs ih => exact fun l h => ih _ (ins_asc a l h)
  exact this zs [] trivial
theorem asc_get : ∀ {l : List Int}, asc l → ∀ i j, i < j → j < l.length → l.getD i 0 ≤ l.getD j 0
  | [], _, i, j, _, h => absurd h (by simp)
  | a :: l, h, i, j, hij, hj => by
    match i, j, hij with
    | 0, j + 1, _ =>
      have hj' : j < l.length := by simpa using hj
      have := h.1 (l[j]) (List.getElem_mem hj')
      simpa [List.getD, hj'] using this
    | i + 1, j + 1, hij =>
      have := asc_get h.2 i j (by omega) (by simpa using hj)
      simpa [List.getD] using this

/-- a number's place in a list that has it once alone -/
theorem distinct_perm {zs ys : List Int} (h : ys.Perm zs) (hd : distinct zs) : distinct ys := by
  have hn : zs.Nodup := by
    rw [List.nodup_iff_pairwise_ne, List.pairwise_iff_getElem]
    intro i j hi hj hij e
    have := hd i j hi hj (by simp only [List.getD, List.getElem?_eq_getElem hi, List.getElem?_eq_getElem hj, Option.getD_some]; exact e)
    omega
  have hn2 := h.nodup_iff.2 hn
  rw [List.nodup_iff_pairwise_ne, List.pairwise_iff_getElem] at hn2
  intro i j hi hj e
  simp only [List.getD, List.getElem?_eq_getElem hi, List.getElem?_eq_getElem hj, Option.getD_some] at e
  rcases Nat.lt_trichotomy i j with hlt | heq | hgt
  · exact absurd e (hn2 i j hi hj hlt)
  · exact heq
  · exact absurd e.symm (hn2 j i hj hi hgt)
theorem isBar_perm {zs ys : List Int} (h : ys.Perm zs) : isBar ys = isBar zs := by
  unfold isBar allSet
  rw [h.length_eq, h.all_eq]

/-- a list that sorts all, by what lies ahead of each place -/
theorem sorts_of {zs : List Int} (hb : isBar zs = true) (h : ∀ i j, j < i → i < zs.length → partB (zs.getD i 0) (zs.getD j 0) = false) : sortsAll zs = true := by
  unfold sortsAll
  rw [hb, Bool.and_true]
  unfold sortsB
  rw [List.all_eq_true]
  intro i hi
  rw [List.mem_range] at hi
  have hz : 0 ≤ zs.getD i 0 ∧ zs.getD i 0 ≤ 127 := by
    simp only [List.getD, List.getElem?_eq_getElem hi, Option.getD_some]
    exact bar_set hb _ (List.getElem_mem hi)
  have := (fallOf_spec (zs := zs) (t := zs.getD i 0) hi).2 ⟨by rw [partB_iff hz.1 hz.2 hz.1 hz.2]; exact fun _ h => h, fun j hj => h i j hj hi⟩
  rw [this]
  exact beq_self_eq_true _
theorem sorts_asc {zs : List Int} (hb : isBar zs = true) (hd : distinct zs) : sortsAll (srt zs) = true := by
  have hp := srt_is_perm zs
  have hb' : isBar (srt zs) = true := by rw [isBar_perm hp]; exact hb
  have hd' := distinct_perm hp hd
  refine sorts_of hb' fun i j hj hi => ?_
  have hz : ∀ j, j < (srt zs).length → 0 ≤ (srt zs).getD j 0 ∧ (srt zs).getD j 0 ≤ 127 := fun j hj => by
    simp only [List.getD, List.getElem?_eq_getElem hj, Option.getD_some]
    exact bar_set hb' _ (List.getElem_mem hj)
  cases hp : partB ((srt zs).getD i 0) ((srt zs).getD j 0)
  · rfl
  · have h1 := partB_le (hz i hi).1 (hz i hi).2 (hz j (by omega)).1 (hz j (by omega)).2 hp
    have h2 := asc_get (srt_asc zs) j i hj hi
    have := hd' j i (by omega) hi (by omega)
    omega

/-- how often a is among those that are left below n -/
def cntLeft (zs : List Int) (lf : Nat → Bool) (a : Int) : Nat → Nat
  | 0 => 0
  | n + 1 => cntLeft zs lf a n + (if lf n = true ∧ zs.getD n 0 = a then 1 else 0)
theorem cntLeft_congr {zs : List Int} {lf lg : Nat → Bool} {a : Int} : ∀ n, (∀ k, k < n → lf k = lg k) → cntLeft zs lf a n = cntLeft zs lg a n
  | 0, _ => rfl
  | n + 1, h => by unfold cntLeft; rw [cntLeft_congr n fun k hk => h k (by omega), h n (by omega)]
theorem cntLeft_drop {zs : List Int} {lf : Nat → Bool} {a : Int} {i : Nat} (hi : lf i = true) : ∀ n, i < n → cntLeft zs (drop1 lf i) a n + (if zs.getD i 0 = a then 1 else 0) = cntLeft zs lf a n
  | 0, h => absurd h (by omega)
  | n + 1, h => by
    unfold cntLeft
    by_cases he : i = n
    · subst he
      have hd : drop1 lf i i = false := by simp [drop1]
      have hc : cntLeft zs (drop1 lf i) a i = cntLeft zs lf a i := cntLeft_congr i fun k hk => by
        have : (k != i) = true := by simp; omega
        simp [drop1, this]
      rw [hd, hc, hi]; simp
    · have hd : drop1 lf i n = lf n := by
        have : (n != i) = true := by simp; omega
        simp [drop1, this]
      rw [hd, ← cntLeft_drop hi n (by omega)]
      omega
theorem cntLeft_none {zs : List Int} {lf : Nat → Bool} {a : Int} : ∀ n, (∀ k, k < n → lf k = false) → cntLeft zs lf a n = 0
  | 0, _ => rfl
  | n + 1, h => by unfold cntLeft; rw [cntLeft_none n fun k hk => h k (by omega), h n (by omega)]; simp
theorem cntLeft_all {zs : List Int} {lf : Nat → Bool} {a : Int} : ∀ n, n ≤ zs.length → (∀ k, k < n → lf k = true) → cntLeft zs lf a n = (zs.take n).count a
  | 0, _, _ => rfl
  | n + 1, hn, h => by
    unfold cntLeft
    have hx : zs[n]? = some (zs.getD n 0) := by simp [List.getD, show n < zs.length by omega]
    rw [cntLeft_all n (by omega) fun k hk => h k (by omega), h n (by omega), List.take_add_one, hx, List.count_append]
    simp only [Option.toList, List.count_singleton, beq_iff_eq, true_and]
theorem ord_count {zs : List Int} (hset : ∀ z ∈ zs, 0 ≤ z ∧ z ≤ 127) (hd : distinct zs) (a : Int) : ∀ k, k ≤ zs.length → (ordAt zs k).count a + cntLeft zs (leftAt zs k) a zs.length = zs.count a
  | 0, _ => by
    rw [cntLeft_all (lf := leftAt zs 0) _ (Nat.le_refl _) (fun _ _ => rfl), List.take_of_length_le (Nat.le_refl _)]
    simp [ordAt]
  | k + 1, h => by
    have ih := ord_count hset hd a k (by omega)
    obtain ⟨h1, h2, h3⟩ := next_at hset hd (show k < zs.length by omega)
    have := cntLeft_drop (zs := zs) (a := a) h2 zs.length h1
    have e1 : ordAt zs (k + 1) = ordAt zs k ++ [zs.getD (nextOf zs (leftAt zs k)) 0] := rfl
    have e2 : leftAt zs (k + 1) = drop1 (leftAt zs k) (nextOf zs (leftAt zs k)) := rfl
    rw [e1, e2, List.count_append, List.count_singleton]
    simp only [beq_iff_eq] at *
    omega
theorem remain_zero {lf : Nat → Bool} : ∀ n, remain lf n = 0 → ∀ k, k < n → lf k = false
  | 0, _, k, hk => absurd hk (by omega)
  | n + 1, h, k, hk => by
    unfold remain at h
    by_cases e : k = n
    · subst e
      cases hl : lf k
      · rfl
      · rw [hl] at h; simp at h
    · exact remain_zero n (by omega) k (by omega)
theorem ord_perm {zs : List Int} (hset : ∀ z ∈ zs, 0 ≤ z ∧ z ≤ 127) (hd : distinct zs) : (ordAt zs zs.length).Perm zs := by
  rw [List.perm_iff_count]
  intro a
  have h := ord_count hset hd a zs.length (Nat.le_refl _)
  have hr := remain_at hset hd zs.length (Nat.le_refl _)
  rw [cntLeft_none _ (remain_zero _ (by omega))] at h
  omega
theorem left_mono {zs : List Int} {i : Nat} : ∀ {k m : Nat}, k ≤ m → leftAt zs m i = true → leftAt zs k i = true
  | k, 0, h, hl => by have : k = 0 := by omega
                      subst this; exact hl
  | k, m + 1, h, hl => by
    by_cases e : k = m + 1
    · subst e; exact hl
    · have : leftAt zs (m + 1) i = (leftAt zs m i && i != nextOf zs (leftAt zs m)) := rfl
      rw [this, Bool.and_eq_true] at hl
      exact left_mono (by omega) hl.1
theorem left_next {zs : List Int} {i k m : Nat} (h : k < m) (hl : leftAt zs m i = true) : i ≠ nextOf zs (leftAt zs k) := by
  have h1 := left_mono (zs := zs) (show k + 1 ≤ m from h) hl
  have : leftAt zs (k + 1) i = (leftAt zs k i && i != nextOf zs (leftAt zs k)) := rfl
  rw [this, Bool.and_eq_true] at h1
  simpa using h1.2
theorem ord_get (zs : List Int) : ∀ {n i : Nat}, i < n → (ordAt zs n).getD i 0 = zs.getD (nextOf zs (leftAt zs i)) 0
  | 0, i, h => absurd h (by omega)
  | n + 1, i, h => by
    have e1 : ordAt zs (n + 1) = ordAt zs n ++ [zs.getD (nextOf zs (leftAt zs n)) 0] := rfl
    rw [e1]
    by_cases e : i = n
    · subst e
      simp [List.getD, ordAt_len]
    · have := ord_get zs (n := n) (i := i) (by omega)
      rw [← this]
      simp only [List.getD]
      rw [List.getElem?_append_left (by rw [ordAt_len]; omega)]
theorem sorts_ord {zs : List Int} (hb : isBar zs = true) (hd : distinct zs) : sortsAll (ordAt zs zs.length) = true := by
  have hset := bar_set hb
  have hp := ord_perm hset hd
  refine sorts_of (by rw [isBar_perm hp]; exact hb) fun i j hj hi => ?_
  rw [ordAt_len] at hi
  rw [ord_get zs hi, ord_get zs (show j < zs.length by omega)]
  obtain ⟨a1, a2, a3⟩ := next_at hset hd hi
  obtain ⟨b1, b2, b3⟩ := next_at hset hd (show j < zs.length by omega)
  unfold freeB at b3
  rw [List.all_eq_true] at b3
  have h := b3 _ (List.mem_range.2 a1)
  have h1 : (nextOf zs (leftAt zs i) != nextOf zs (leftAt zs j)) = true := by rw [bne_iff_ne]; exact left_next hj a2
  have h2 := left_mono (zs := zs) (Nat.le_of_lt hj) a2
  rw [h1, h2] at h
  simpa using h
end Go.Proofs.Ytpgokcilnejolaa
