/-
  A word replaced in a galley, plainly: which words the new galley has, and which lines stay. No Go here.
-/
import Derived.Test.YtobakeahbgodbaaGreatRepM
import Derived.Test.YtobakeahbgodbaaGreatGalW
namespace Go.Proofs.YtobakeahbgodbaaGreat
open Go.RowKit
set_option linter.unusedVariables false

theorem gal_lineG {f : Fnt} {m : Msr} {g : List ByteArray} (h : galB f m g = true) {l : ByteArray} (hl : l ∈ g) : wwB f l = true ∧ 1 ≤ (wwL f l).length ∧ (wwL f l).length ≤ 40 ∧ (wwL f l).length = (wordsB l).length := by
  obtain ⟨h1, hb, -, -, -, -, -⟩ := galB_parts h
  have hfl : (g.map wordsB).flatten = wordsB (gtS g) := (words_join g).symm
  obtain ⟨i1, -⟩ := brk_lines (f := f) g [] hb (by rw [List.nil_append, hfl, wwL_yes h1]) l hl
  have hsub : ∀ y ∈ wordsB l, y ∈ wordsB (gtS g) := fun y hy => by rw [← hfl]; exact List.mem_flatten.2 ⟨_, List.mem_map_of_mem hl, hy⟩
  have h0 := h1
  unfold wwB at h0
  rw [Bool.and_eq_true, Bool.and_eq_true, List.all_eq_true] at h0
  obtain ⟨hf, ha, ht⟩ := h0
  have htp := textB_parts ht
  have hle : (wordsB l).length ≤ (wordsB (gtS g)).length := by
    rw [← hfl, List.length_flatten]
    exact mem_sum _ (by rw [List.map_map]; exact List.mem_map.2 ⟨l, hl, rfl⟩)
  have h40 : (wordsB l).length ≤ 40 := by have := htp.2.2; rw [List.length_map] at this; omega
  have hwd : ∀ x ∈ (wordsB l).map (wRes f), 1 ≤ x ∧ x ≤ 2000 := fun x hx => by
    obtain ⟨y, hy, rfl⟩ := List.mem_map.1 hx
    exact htp.1 _ (List.mem_map_of_mem (hsub y hy))
  have hB : wwB f l = true := by
    unfold wwB
    rw [hf, Bool.true_and, Bool.and_eq_true, List.all_eq_true]
    refine ⟨fun x hx => ha x (hsub x hx), ?_⟩
    unfold textB
    rw [Bool.and_eq_true, List.all_eq_true, List.length_map]
    refine ⟨by unfold inB; rw [decide_eq_true_eq]; omega, fun x hx => ?_⟩
    have := hwd x hx
    unfold wordB inB
    rw [decide_eq_true_eq]; exact this
  rw [wwL_yes hB, List.length_map]
  exact ⟨hB, i1, h40, rfl⟩
/-- words from which a galley's were taken read as words too -/
theorem ww_part {f : Fnt} {s t : ByteArray} {a b : List ByteArray} (h : wwB f s = true) (hw : wordsB s = a ++ wordsB t ++ b) (hne : wordsB t ≠ []) : wwB f t = true := by
  have hsub : ∀ y ∈ wordsB t, y ∈ wordsB s := fun y hy => by rw [hw]; exact List.mem_append_left _ (List.mem_append_right _ hy)
  unfold wwB at h
  rw [Bool.and_eq_true, Bool.and_eq_true, List.all_eq_true] at h
  obtain ⟨hf, ha, ht⟩ := h
  have htp := textB_parts ht
  have hle : (wordsB t).length ≤ (wordsB s).length := by rw [hw, List.length_append, List.length_append]; omega
  have hpos : 1 ≤ (wordsB t).length := List.length_pos_iff.2 hne
  have h40 : (wordsB t).length ≤ 40 := by have := htp.2.2; rw [List.length_map] at this; omega
  unfold wwB
  rw [hf, Bool.true_and, Bool.and_eq_true, List.all_eq_true]
  refine ⟨fun x hx => ha x (hsub x hx), ?_⟩
  unfold textB
  rw [Bool.and_eq_true, List.all_eq_true, List.length_map]
  refine ⟨by unfold inB; rw [decide_eq_true_eq]; omega, fun x hx => ?_⟩
  obtain ⟨y, hy, rfl⟩ := List.mem_map.1 hx
  have := htp.1 _ (List.mem_map_of_mem (f := wRes f) (hsub y hy))
  unfold wordB inB
  rw [decide_eq_true_eq]; exact this
/-- how many words lines a to b hold -/
theorem lnI_inv {x : Int} : ∀ (ls : List Int) (p k K P : Nat), lnI x ls p k = (K, P) → k ≤ K ∧ K ≤ k + ls.length ∧ P = p + ((ls.take (K - k)).map Int.toNat).sum
  | [], p, k, K, P, h => by
    unfold lnI at h
    injection h with h1 h2
    subst h1; subst h2
    exact ⟨Nat.le_refl _, Nat.le_refl _, by simp⟩
  | c :: r, p, k, K, P, h => by
    unfold lnI at h
    split at h
    · injection h with h1 h2
      subst h1; subst h2
      exact ⟨Nat.le_refl _, by omega, by simp⟩
    · obtain ⟨a, b, c'⟩ := lnI_inv r (p + c.toNat) (k + 1) K P h
      refine ⟨by omega, by rw [List.length_cons]; omega, ?_⟩
      rw [show K - k = (K - (k + 1)) + 1 by omega, List.take_succ_cons, List.map_cons, List.sum_cons]
      omega
theorem cnts_sum (g : List ByteArray) (K : Nat) : (((cnts g).take K).map Int.toNat).sum = ((g.take K).map wordsB).flatten.length := by
  unfold cnts
  rw [← List.map_take, List.map_map, List.length_flatten, List.map_map]
  congr 1
/-- what a galley in which a word was replaced is made of -/
theorem rep_words {f : Fnt} {m : Msr} {g c : List ByteArray} {x : Int} {tx : ByteArray} (h : repA f m g x tx = some c) :
    ∃ p K P : Nat, x = (p : Int) ∧ p < (wordsB (gtS g)).length ∧ wordsB (gtS c) = (wordsB (gtS g)).take p ++ wordsB tx ++ (wordsB (gtS g)).drop (p + 1) ∧ galB f m g = true ∧ galB f m c = true ∧ lnI x (cnts g) 0 0 = (K, P) ∧ K ≤ c.length ∧ c.take K = g.take K := by
  unfold repA at h
  split at h
  · rename_i hg
    obtain ⟨K, P, hl⟩ : ∃ K P, lnI x (cnts g) 0 0 = (K, P) := ⟨_, _, rfl⟩
    rw [hl] at h
    have h : repC f m g K P x tx = some c := h
    unfold repC at h
    split at h
    · rename_i ha
      cases hs : setA f m (g.take K) (aplL (repL g K) (wordsB tx) (x - P) 1) with
      | none => rw [hs] at h; cases h
      | some c2 =>
        rw [hs] at h
        have h : (if galB f m c2 = true then some c2 else none) = some c := h
        split at h
        · rename_i hc
          injection h with h
          subst h
          obtain ⟨hK0, hK1, hP⟩ := lnI_inv _ _ _ _ _ hl
          rw [Nat.sub_zero, Nat.zero_add, cnts_sum] at hP
          rw [Nat.zero_add, cnts_len] at hK1
          obtain ⟨y0, -, y1⟩ := (aplB_iff _ _ _).1 ha
          obtain ⟨y, hy⟩ := Int.eq_ofNat_of_zero_le y0
          have hR : repL g K = ((g.drop K).map wordsB).flatten := words_join _
          have hW : wordsB (gtS g) = ((g.take K).map wordsB).flatten ++ repL g K := by
            rw [hR, words_join, ← List.flatten_append, ← List.map_append, List.take_append_drop]
          obtain ⟨A, hA⟩ : ∃ A, ((g.take K).map wordsB).flatten = A := ⟨_, rfl⟩
          obtain ⟨R, hRR⟩ : ∃ R, repL g K = R := ⟨_, rfl⟩
          rw [hA] at hP hW
          rw [hRR] at hs y1 hW ha
          have hyR : y + 1 ≤ R.length := by omega
          have hws : aplL R (wordsB tx) (x - P) 1 = R.take y ++ wordsB tx ++ R.drop (y + 1) := by
            unfold aplL
            rw [if_pos ha, hy]; rfl
          rw [hws] at hs
          have hwords : wordsB (gtS c2) = A ++ (R.take y ++ wordsB tx ++ R.drop (y + 1)) ∧ K ≤ c2.length ∧ c2.take K = g.take K := by
            have hlK : (g.take K).length = K := by rw [List.length_take]; omega
            unfold setA at hs
            split at hs
            · rename_i he
              injection hs with hs
              subst hs
              rw [he, List.append_nil, words_join, hA, hlK]
              exact ⟨rfl, Nat.le_refl _, by rw [List.take_take, Nat.min_self]⟩
            · cases hG : galA f m (gtS (R.take y ++ wordsB tx ++ R.drop (y + 1))) with
              | none => rw [hG] at hs; cases hs
              | some G =>
                rw [hG] at hs
                have hs : some (g.take K ++ G) = some c2 := hs
                injection hs with hs
                subst hs
                have hGw := (galA_parts hG).2.1
                have hall : ∀ z ∈ R.take y ++ wordsB tx ++ R.drop (y + 1), isWord z := by
                  intro z hz
                  rcases List.mem_append.1 hz with hz | hz
                  · rcases List.mem_append.1 hz with hz | hz
                    · exact words_words (s := gtS (g.drop K)) (by rw [show wordsB (gtS (g.drop K)) = R from hRR]; exact List.mem_of_mem_take hz)
                    · exact words_words hz
                  · exact words_words (s := gtS (g.drop K)) (by rw [show wordsB (gtS (g.drop K)) = R from hRR]; exact List.mem_of_mem_drop hz)
                rw [words_of_words hall] at hGw
                refine ⟨?_, by rw [List.length_append]; omega, by rw [List.take_append_of_le_length (by omega), List.take_take, Nat.min_self]⟩
                rw [words_join, List.map_append, List.flatten_append, hA, ← words_join G, hGw]
          refine ⟨A.length + y, K, P, by omega, by rw [hW, List.length_append]; omega, ?_, hg, hc, hl, hwords.2.1, hwords.2.2⟩
          rw [hwords.1, hW, List.take_append, List.drop_append, Nat.add_assoc, Nat.add_sub_cancel_left, Nat.add_sub_cancel_left, List.take_of_length_le (by omega : A.length ≤ A.length + y), List.drop_of_length_le (by omega : A.length ≤ A.length + (y + 1)), List.nil_append]
          simp only [List.append_assoc]
        · cases h
    · cases h
  · cases h
/-- .. by widths -/
theorem rep_ww {f : Fnt} {m : Msr} {g c : List ByteArray} {x : Int} {tx : ByteArray} (h : repA f m g x tx = some c) :
    ∃ p K P : Nat, x = (p : Int) ∧ p < (wwL f (gtS g)).length ∧ (wwL f (gtS g)).length ≤ 40 ∧ wwL f (gtS c) = (wwL f (gtS g)).take p ++ wwL f tx ++ (wwL f (gtS g)).drop (p + 1) ∧ wwB f (gtS g) = true ∧ wwB f (gtS c) = true ∧ (wwB f tx = true ∨ wwL f tx = []) ∧ galB f m g = true ∧ galB f m c = true ∧
      lnI x (cnts g) 0 0 = (K, P) ∧ K ≤ c.length ∧ c.take K = g.take K := by
  obtain ⟨p, K, P, hx, hp, hw, hg, hc, hl, hK, ht⟩ := rep_words h
  have h1 := (galB_parts hg).1
  have h2 := (galB_parts hc).1
  have hmore : wwL f tx = (wordsB tx).map (wRes f) := by
    by_cases he : wordsB tx = []
    · rw [he, List.map_nil]
      unfold wwL
      split
      · rw [he]; rfl
      · rfl
    · exact wwL_yes (ww_part h2 hw he)
  have hb : wwB f tx = true ∨ wwL f tx = [] := by
    cases hq : wwB f tx
    · exact .inr (wwL_no hq)
    · exact .inl rfl
  refine ⟨p, K, P, hx, by rw [wwL_yes h1, List.length_map]; exact hp, wwL_len _ _, ?_, h1, h2, hb, hg, hc, hl, hK, ht⟩
  rw [wwL_yes h1, wwL_yes h2, hmore, hw, List.map_append, List.map_append, List.map_take, List.map_drop]
end Go.Proofs.YtobakeahbgodbaaGreat
