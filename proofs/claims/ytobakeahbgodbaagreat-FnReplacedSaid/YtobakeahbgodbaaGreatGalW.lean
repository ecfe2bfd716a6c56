/-
  The lines of a galley, word by word: each reads as words of the font that fit, and together they are the words of its text. No condition.
-/
import Derived.Test.YtobakeahbgodbaaGreatPkI
namespace Go.Proofs.YtobakeahbgodbaaGreat
open Go.RowKit
set_option linter.unusedVariables false

theorem gal_all {f : Fnt} {m : Msr} {s : ByteArray} {g : List ByteArray} (h : galA f m s = some g) : wwB f (gtS g) = wwB f s ∧ wwL f (gtS g) = wwL f s := by
  have hw := (galA_parts h).2.1
  have h1 : wwB f (gtS g) = wwB f s := by unfold wwB; rw [hw]
  exact ⟨h1, by unfold wwL; rw [h1, hw]⟩
theorem mem_sum {x : Nat} : ∀ (l : List Nat), x ∈ l → x ≤ l.sum
  | [], h => by cases h
  | y :: r, h => by
    rw [List.sum_cons]
    rcases List.mem_cons.1 h with rfl | h
    · omega
    · have := mem_sum r h; omega
theorem brk_lines {f : Fnt} {m : Msr} {zs : List Int} : ∀ (g pre : List ByteArray), brkF m zs pre.length (cnts g) = true → zs = (pre ++ (g.map wordsB).flatten).map (wRes f) →
    ∀ l ∈ g, 1 ≤ (wordsB l).length ∧ widF (sumL ((wordsB l).map (wRes f))) ((wordsB l).length - 1) m.t ≤ m.w
  | [], _, _, _, l, hl => by cases hl
  | x :: r, pre, hb, hz, l, hl => by
    have hb' : (inB ((wordsB x).length : Int) 1 ((zs.length : Int) - pre.length) && (lineW m zs pre.length (pre.length + ((wordsB x).length : Int).toNat) && brkF m zs (pre.length + ((wordsB x).length : Int).toNat) (cnts r))) = true := hb
    rw [Bool.and_eq_true, Bool.and_eq_true, Int.toNat_natCast] at hb'
    obtain ⟨h1, h2, h3⟩ := hb'
    have h1 := inB_true h1
    rcases List.mem_cons.1 hl with rfl | hl
    · have hf := lineW_fits h2
      have hs : seg zs pre.length (pre.length + (wordsB l).length) = (wordsB l).map (wRes f) := by
        rw [hz]
        unfold seg
        rw [← List.map_take, ← List.map_drop, List.map_cons, List.flatten_cons, ← List.append_assoc, List.take_append_of_le_length (by simp), List.take_of_length_le (by simp), List.drop_left]
      rw [hs] at hf
      refine ⟨by omega, ?_⟩
      rwa [show pre.length + (wordsB l).length - pre.length - 1 = (wordsB l).length - 1 by omega] at hf
    · have := brk_lines r (pre ++ wordsB x) (by rw [List.length_append]; exact h3) (by rw [hz, List.map_cons, List.flatten_cons, List.append_assoc])
      exact this l hl
theorem gal_line {f : Fnt} {m : Msr} {s : ByteArray} {g : List ByteArray} (h : galA f m s = some g) {l : ByteArray} (hl : l ∈ g) :
    wwB f l = true ∧ 1 ≤ (wwL f l).length ∧ (wwL f l).length ≤ 40 ∧ (∀ x ∈ wwL f l, 1 ≤ x ∧ x ≤ 2000) ∧ widF (sumL (wwL f l)) ((wwL f l).length - 1) m.t ≤ m.w := by
  obtain ⟨h1, hw, -, -, -, -, hbk⟩ := galA_parts h
  obtain ⟨-, hb, -⟩ := isBrk_ww hbk
  have hfl : (g.map wordsB).flatten = wordsB s := by rw [← words_join]; exact hw
  obtain ⟨i1, i2⟩ := brk_lines (f := f) g [] hb (by rw [List.nil_append, hfl, wwL_yes h1]) l hl
  have hsub : ∀ y ∈ wordsB l, y ∈ wordsB s := fun y hy => by rw [← hfl]; exact List.mem_flatten.2 ⟨_, List.mem_map_of_mem hl, hy⟩
  have h0 := h1
  unfold wwB at h0
  rw [Bool.and_eq_true, Bool.and_eq_true, List.all_eq_true] at h0
  obtain ⟨hf, ha, ht⟩ := h0
  have htp := textB_parts ht
  have hle : (wordsB l).length ≤ (wordsB s).length := by
    rw [← hfl, List.length_flatten]
    exact mem_sum _ (by rw [List.map_map]; exact List.mem_map.2 ⟨l, hl, rfl⟩)
  have h40 : (wordsB l).length ≤ 40 := by have := htp.2.2; rw [List.length_map] at this; omega
  have hwd : ∀ x ∈ (wordsB l).map (wRes f), 1 ≤ x ∧ x ≤ 2000 := fun x hx => by
    obtain ⟨y, hy, rfl⟩ := List.mem_map.1 hx
    exact htp.1 _ (List.mem_map_of_mem (hsub y hy))
  have hB : wwB f l = true := by
    unfold wwB
    rw [hf, Bool.true_and, Bool.and_eq_true, List.all_eq_true]
    refine ⟨fun x hx => ha x (hsub x hx), ?_⟩
    unfold textB
    rw [Bool.and_eq_true, List.all_eq_true, List.length_map]
    refine ⟨by unfold inB; rw [decide_eq_true_eq]; omega, fun x hx => ?_⟩
    have := hwd x hx
    unfold wordB inB
    rw [decide_eq_true_eq]; exact this
  rw [wwL_yes hB, List.length_map]
  exact ⟨hB, i1, h40, hwd, i2⟩
/-- how many words the first k lines hold -/
def lenGal (f : Fnt) (g : List ByteArray) (k : Nat) : Nat := ((g.take k).map fun l => (wwL f l).length).sum
theorem lenGal_succ {f : Fnt} {g : List ByteArray} {k : Nat} {l : ByteArray} (h : g[k]? = some l) : lenGal f g (k + 1) = lenGal f g k + (wwL f l).length := by
  unfold lenGal
  rw [List.take_add_one, h]; simp
theorem lenGal_le {f : Fnt} {g : List ByteArray} (hg : ∀ l ∈ g, (wwL f l).length ≤ 40) : ∀ k, lenGal f g k ≤ 40 * k
  | 0 => by simp [lenGal]
  | k + 1 => by
    have := lenGal_le hg k
    cases h : g[k]? with
    | none => unfold lenGal at this ⊢; rw [List.take_add_one, h]; simp at this ⊢; omega
    | some l => rw [lenGal_succ h]; have := hg l (List.mem_of_getElem? h); omega
theorem gal_sum {f : Fnt} {m : Msr} {s : ByteArray} {g : List ByteArray} (h : galA f m s = some g) : lenGal f g g.length = (wwL f s).length := by
  obtain ⟨h1, hw, -⟩ := galA_parts h
  have hfl : (g.map wordsB).flatten = wordsB s := by rw [← words_join]; exact hw
  unfold lenGal
  rw [List.take_of_length_le (Nat.le_refl _), wwL_yes h1, List.length_map, ← hfl, List.length_flatten, List.map_map]
  congr 1
  refine List.map_congr_left fun l hl => ?_
  rw [wwL_yes (gal_line h hl).1, List.length_map]; rfl
end Go.Proofs.YtobakeahbgodbaaGreat
