/-
  A sweep as lists: what each channel keeps, the strays, and the strays put home one after the other. No condition.
-/
import Derived.Test.YtdijlofcgcikjaaDoorDropI
import Derived.Test.YtdijlofcgcikjaaDoorCntMag
namespace Go.Proofs.YtdijlofcgcikjaaDoor
open Go.RowKit
set_option linter.unusedVariables false
set_option linter.unusedSimpArgs false

def keepK (i : Nat) (xs : List Mat) : List Mat := xs.filter fun x => decide (x.1 = (i : Int))
def strK (i : Nat) (xs : List Mat) : List Mat := xs.filter fun x => !decide (x.1 = (i : Int))
theorem keepK_snoc (i : Nat) (xs : List Mat) (x : Mat) : keepK i (xs ++ [x]) = if x.1 = (i : Int) then keepK i xs ++ [x] else keepK i xs := by
  unfold keepK; rw [List.filter_append]; by_cases h : x.1 = (i : Int) <;> simp [h]
theorem strK_snoc (i : Nat) (xs : List Mat) (x : Mat) : strK i (xs ++ [x]) = if x.1 = (i : Int) then strK i xs else strK i xs ++ [x] := by
  unfold strK; rw [List.filter_append]; by_cases h : x.1 = (i : Int) <;> simp [h]
theorem keepK_take {i j : Nat} {xs : List Mat} {x : Mat} (h : xs[j]? = some x) : keepK i (xs.take (j + 1)) = if x.1 = (i : Int) then keepK i (xs.take j) ++ [x] else keepK i (xs.take j) := by rw [take_next h, keepK_snoc]
theorem strK_take {i j : Nat} {xs : List Mat} {x : Mat} (h : xs[j]? = some x) : strK i (xs.take (j + 1)) = if x.1 = (i : Int) then strK i (xs.take j) else strK i (xs.take j) ++ [x] := by rw [take_next h, strK_snoc]
theorem keepK_le (i : Nat) (xs : List Mat) : (keepK i xs).length ≤ xs.length := List.length_filter_le _ _
theorem strK_le (i : Nat) (xs : List Mat) : (strK i xs).length ≤ xs.length := List.length_filter_le _ _
theorem strK_sub {i : Nat} {xs : List Mat} {x : Mat} (h : x ∈ strK i xs) : x ∈ xs := (List.mem_filter.1 h).1
/-- the strays of the first i channels -/
def strs (ms : List (List Mat)) : Nat → List Mat
  | 0 => []
  | i + 1 => strs ms i ++ strK i (rowAt ms i)
theorem rowAt_of {ms : List (List Mat)} {i : Nat} {xs : List Mat} (h : ms[i]? = some xs) : rowAt ms (i : Int) = xs := by
  unfold rowAt; rw [List.getD, Int.toNat_natCast, h]; rfl
theorem strs_next {ms : List (List Mat)} {i : Nat} {xs : List Mat} (h : ms[i]? = some xs) : strs ms i ++ strK i xs = strs ms (i + 1) := by
  show _ = strs ms i ++ strK i (rowAt ms i); rw [rowAt_of h]
theorem strs_le {ms : List (List Mat)} (h : ∀ xs ∈ ms, xs.length ≤ 20) : ∀ i, i ≤ ms.length → (strs ms i).length ≤ 20 * i
  | 0, _ => by simp [strs]
  | i + 1, hi => by
    have hx : ms[i]? = some ms[i] := List.getElem?_eq_getElem (by omega)
    rw [← strs_next hx, List.length_append]
    have h1 := strs_le h i (by omega)
    have h2 := strK_le i ms[i]
    have h3 := h ms[i] (List.getElem_mem _)
    omega
theorem strs_mem {ms : List (List Mat)} {p : Mat → Prop} (h : ∀ xs ∈ ms, ∀ x ∈ xs, p x) : ∀ i, i ≤ ms.length → ∀ x ∈ strs ms i, p x
  | 0, _, x, hx => by simp [strs] at hx
  | i + 1, hi, x, hx => by
    have hm : ms[i]? = some ms[i] := List.getElem?_eq_getElem (by omega)
    rw [← strs_next hm, List.mem_append] at hx
    rcases hx with hx | hx
    · exact strs_mem h i (by omega) x hx
    · exact h _ (List.getElem_mem _) x (strK_sub hx)
/-- the channels when the first i went round -/
def hom (ms : List (List Mat)) (i : Nat) : List (List Mat) := ms.mapIdx fun j xs => if j < i then keepK j xs else xs
theorem hom_len (ms : List (List Mat)) (i : Nat) : (hom ms i).length = ms.length := by unfold hom; simp
theorem hom_get {ms : List (List Mat)} {i j : Nat} {xs : List Mat} (h : ms[j]? = some xs) : (hom ms i)[j]? = some (if j < i then keepK j xs else xs) := by
  unfold hom; rw [List.getElem?_mapIdx, h]; rfl
theorem hom_zero (ms : List (List Mat)) : hom ms 0 = ms := by
  apply List.ext_getElem?
  intro k
  unfold hom
  rw [List.getElem?_mapIdx]
  cases ms[k]? <;> simp
theorem hom_set {ms : List (List Mat)} {i : Nat} {xs : List Mat} (h : ms[i]? = some xs) : (hom ms i).set i (keepK i xs) = hom ms (i + 1) := by
  have hi := (List.getElem?_eq_some_iff.1 h).1
  apply List.ext_getElem?
  intro k
  by_cases h1 : k = i
  · subst h1
    rw [List.getElem?_set_self (by rw [hom_len]; exact hi), hom_get h, if_pos (by omega)]
  · rw [List.getElem?_set_ne (fun e => h1 e.symm)]
    cases hk : ms[k]? with
    | none =>
      unfold hom
      rw [List.getElem?_mapIdx, List.getElem?_mapIdx, hk]; rfl
    | some ys =>
      rw [hom_get hk, hom_get hk]
      by_cases h2 : k < i
      · rw [if_pos h2, if_pos (by omega)]
      · rw [if_neg h2, if_neg (by omega)]
theorem hom_lim {ms : List (List Mat)} {b : Nat} (h : ∀ xs ∈ ms, xs.length ≤ b) (i : Nat) : ∀ xs ∈ hom ms i, xs.length ≤ b := fun xs hx => by
  obtain ⟨k, hk⟩ := List.mem_iff_getElem?.1 hx
  cases hy : ms[k]? with
  | none => unfold hom at hk; rw [List.getElem?_mapIdx, hy] at hk; cases hk
  | some ys =>
    rw [hom_get hy] at hk
    have h1 := h ys (List.mem_of_getElem? hy)
    have h2 := keepK_le k ys
    injection hk with hk
    subst hk
    split <;> omega
/-- row i when its first j went round -/
def homJ (ms : List (List Mat)) (i j : Nat) (xs : List Mat) : List (List Mat) := (hom ms i).set i (xs.drop j ++ keepK i (xs.take j))
theorem homJ_zero {ms : List (List Mat)} {i : Nat} {xs : List Mat} (h : ms[i]? = some xs) : homJ ms i 0 xs = hom ms i := by
  unfold homJ
  have : xs.drop 0 ++ keepK i (xs.take 0) = xs := by simp [keepK]
  rw [this]
  exact set_same (by rw [hom_get h, if_neg (by omega)])
theorem homJ_all {ms : List (List Mat)} {i l : Nat} {xs : List Mat} (h : ms[i]? = some xs) (hl : xs.length = l) : homJ ms i l xs = hom ms (i + 1) := by
  unfold homJ
  rw [← hl, List.drop_length, List.take_length, List.nil_append]
  exact hom_set h
theorem homJ_get {ms : List (List Mat)} {i j : Nat} {xs : List Mat} (h : ms[i]? = some xs) : (homJ ms i j xs)[i]? = some (xs.drop j ++ keepK i (xs.take j)) := by
  unfold homJ; exact List.getElem?_set_self (by rw [hom_len]; exact (List.getElem?_eq_some_iff.1 h).1)
theorem homJ_set {ms : List (List Mat)} {i j : Nat} {xs : List Mat} (ys : List Mat) : (homJ ms i j xs).set i ys = (hom ms i).set i ys := by unfold homJ; rw [List.set_set]
theorem homJ_len {ms : List (List Mat)} {i j : Nat} {xs : List Mat} : (homJ ms i j xs).length = ms.length := by unfold homJ; rw [List.length_set, hom_len]
/-- the strays put home, as long as there is room -/
def sweepGo : List (List Mat) → List Mat → Option (List (List Mat))
  | L, [] => some L
  | L, x :: xs => if (rowAt L x.1).length < 20 then sweepGo (L.set x.1.toNat (rowAt L x.1 ++ [x])) xs else none
theorem sweepGo_cons (L : List (List Mat)) (x : Mat) (xs : List Mat) : sweepGo L (x :: xs) = if (rowAt L x.1).length < 20 then sweepGo (L.set x.1.toNat (rowAt L x.1 ++ [x])) xs else none := rfl
theorem sweepGo_append : ∀ (L : List (List Mat)) (xs ys : List Mat), sweepGo L (xs ++ ys) = (sweepGo L xs).bind fun L' => sweepGo L' ys
  | L, [], ys => rfl
  | L, x :: xs, ys => by
    rw [List.cons_append, sweepGo_cons, sweepGo_cons]
    split
    · exact sweepGo_append _ xs ys
    · rfl
theorem sweepGo_next {L L' : List (List Mat)} {xs : List Mat} {j : Nat} {x : Mat} (h : sweepGo L (xs.take j) = some L') (hx : xs[j]? = some x) (hr : (rowAt L' x.1).length < 20) : sweepGo L (xs.take (j + 1)) = some (L'.set x.1.toNat (rowAt L' x.1 ++ [x])) := by
  rw [take_next hx, sweepGo_append, h]
  show sweepGo L' [x] = _
  rw [sweepGo_cons, if_pos hr]
  rfl
theorem sweepGo_stop {L L' : List (List Mat)} {xs : List Mat} {j : Nat} {x : Mat} (h : sweepGo L (xs.take j) = some L') (hx : xs[j]? = some x) (hr : 20 ≤ (rowAt L' x.1).length) : sweepGo L xs = none := by
  have : xs = xs.take j ++ (x :: xs.drop (j + 1)) := by rw [← drop_next hx, List.take_append_drop]
  rw [this, sweepGo_append, h]
  show sweepGo L' (x :: xs.drop (j + 1)) = none
  rw [sweepGo_cons, if_neg (by omega)]
theorem sweepGo_len : ∀ {xs : List Mat} {L L' : List (List Mat)}, sweepGo L xs = some L' → L'.length = L.length
  | [], L, L', h => by unfold sweepGo at h; injection h with h; rw [h]
  | x :: xs, L, L', h => by
    rw [sweepGo_cons] at h
    split at h
    · rw [sweepGo_len h, List.length_set]
    · cases h
theorem sweepGo_lim : ∀ {xs : List Mat} {L L' : List (List Mat)}, (∀ ys ∈ L, ys.length ≤ 20) → sweepGo L xs = some L' → ∀ ys ∈ L', ys.length ≤ 20
  | [], L, L', h0, h => by unfold sweepGo at h; injection h with h; rw [← h]; exact h0
  | x :: xs, L, L', h0, h => by
    rw [sweepGo_cons] at h
    split at h
    · rename_i hr
      refine sweepGo_lim (fun ys hy => ?_) h
      rcases List.mem_or_eq_of_mem_set hy with hy | rfl
      · exact h0 ys hy
      · rw [List.length_append]; simp only [List.length_cons, List.length_nil]; omega
    · cases h
/-- the whole sweep -/
def swept (ms : List (List Mat)) : Option (List (List Mat)) := sweepGo (hom ms ms.length) (strs ms ms.length)
def sweepOk (f : Fnt) (ms : List (List Mat)) : Bool := magB f ms && (swept ms).isSome
def sweepL (f : Fnt) (ms : List (List Mat)) : List (List Mat) := if sweepOk f ms then (swept ms).getD [] else []
def sweepI (f : Fnt) (ms : List (List Mat)) : Int := if sweepOk f ms then ((strs ms ms.length).length : Int) else 0
theorem kind_in {f : Fnt} {ms : List (List Mat)} (h : magB f ms = true) : ∀ x ∈ strs ms ms.length, 0 ≤ x.1 ∧ x.1.toNat < ms.length := by
  obtain ⟨hf, hlen, hrows⟩ := magB_rows h
  refine strs_mem (p := fun x => 0 ≤ x.1 ∧ x.1.toNat < ms.length) (fun xs hx x hm => ?_) _ (Nat.le_refl _)
  have := (hrows xs hx).2 x hm
  unfold matB at this
  rw [Bool.and_eq_true] at this
  obtain ⟨k0, k1⟩ := (inB_iff _ _ _).1 this.1
  exact ⟨k0, by omega⟩
theorem sweepL_lim (f : Fnt) (ms : List (List Mat)) : (sweepL f ms).length ≤ 40 ∧ ∀ xs ∈ sweepL f ms, xs.length ≤ 20 := by
  unfold sweepL
  split
  · rename_i h
    unfold sweepOk at h
    rw [Bool.and_eq_true] at h
    obtain ⟨hf, hlen, hrows⟩ := magB_rows h.1
    have hfs := fontB_size hf
    obtain ⟨L, hL⟩ := Option.isSome_iff_exists.1 h.2
    rw [hL]
    show L.length ≤ 40 ∧ _
    refine ⟨by rw [sweepGo_len hL, hom_len, hlen]; omega, ?_⟩
    exact sweepGo_lim (hom_lim (fun xs hx => (hrows xs hx).1) _) hL
  · exact ⟨by simp, fun xs hx => by simp at hx⟩
end Go.Proofs.YtdijlofcgcikjaaDoor
