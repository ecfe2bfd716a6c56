/-
  What FnQuads asks of the quadded lines, plainly. Mathematics alone, no condition.
-/
import Derived.Test.YtpenmheacpapaaaQuadM
import Derived.Test.YtpenmheacpapaaaFitN
namespace Go.Proofs.Ytpenmheacpapaaa
open Go.RowKit
set_option linter.unusedVariables false

theorem res_left {m : Msr} {qs zs out : List Int} (h : Res m false qs zs out) (hf : fitsB m zs = true) :
    ∃ ls : List Int, out = zs ++ ls ∧ (∀ x, x ∈ ls → x ∈ qs) ∧ fitsB m out = true ∧ ∀ q, q ∈ qs → fitsB m (out ++ [q]) = false := by
  induction h with
  | done zs hn => exact ⟨[], by simp, by simp, hf, fun q hq => hn q hq⟩
  | more zs out q hq _ ih =>
    obtain ⟨j, h1, h2, _⟩ := hq
    obtain ⟨ls, rfl, hl, h3, h4⟩ := ih h2
    exact ⟨q :: ls, by simp [addQ], fun x hx => by
      rcases List.mem_cons.1 hx with rfl | hx
      · exact List.mem_of_getElem? h1
      · exact hl x hx, h3, h4⟩
theorem res_both {m : Msr} {qs zs out : List Int} (h : Res m true qs zs out) (hf : fitsB m zs = true) :
    ∃ ls : List Int, out = ls.reverse ++ (zs ++ ls) ∧ (∀ x, x ∈ ls → x ∈ qs) ∧ fitsB m out = true ∧ ∀ q, q ∈ qs → fitsB m (q :: (out ++ [q])) = false := by
  induction h with
  | done zs hn => exact ⟨[], by simp, by simp, hf, fun q hq => hn q hq⟩
  | more zs out q hq _ ih =>
    obtain ⟨j, h1, h2, _⟩ := hq
    obtain ⟨ls, rfl, hl, h3, h4⟩ := ih h2
    exact ⟨q :: ls, by simp [addQ], fun x hx => by
      rcases List.mem_cons.1 hx with rfl | hx
      · exact List.mem_of_getElem? h1
      · exact hl x hx, h3, h4⟩
theorem sumL_nonneg {zs : List Int} (h : ∀ x ∈ zs, 0 ≤ x ∧ x ≤ 60) : 0 ≤ sumL zs := (sumL_bound h).1
theorem fits_take {m : Msr} {zs : List Int} (hm : msrB m = true) (h : fitsB m zs = true) (k : Nat) : fitsB m (zs.take k) = true := by
  have hm1 := msrB_iff.1 hm
  obtain ⟨h1, h2, h3⟩ := fitsB_iff.1 h
  have hi := itemsB_mem h1
  refine fitsB_iff.2 ⟨?_, by rw [List.length_take]; omega, ?_⟩
  · unfold itemsB
    rw [List.all_eq_true]
    intro x hx
    have := hi x (List.mem_of_mem_take hx)
    unfold itemB inB; exact decide_eq_true this
  · have e1 : sumL zs = sumL (zs.take k) + sumL (zs.drop k) := by rw [← sumL_append, List.take_append_drop]
    have e2 : 0 ≤ sumL (zs.drop k) := sumL_nonneg fun x hx => hi x (List.mem_of_mem_drop hx)
    have e3 := bandsN_take zs k
    have e4 : (bandsN (zs.take k) : Int) * m.t ≤ (bandsN zs : Int) * m.t := Int.mul_le_mul_of_nonneg_right (by omega) (by omega)
    omega
/-- all of a line that fits fits behind nothing -/
theorem cfI_all {m : Msr} {zs : List Int} (h : goodB m zs = true) : cfI m [] zs = (zs.length : Int) := by
  have hm := (goodB_parts h).1
  have hl := (goodB_parts h).2.1
  have hf : fitsB m zs = true := by unfold goodB at h; rw [hm] at h; simpa using h
  have h0 : goodB m [] = true := by
    have := fits_take hm hf 0
    rw [List.take_zero] at this
    unfold goodB; rw [hm, this]; rfl
  have h1 : cfB m [] zs = true := by unfold cfB; rw [h0, hl]; rfl
  unfold cfI
  rw [h1, cntF_all (fun i hi => by rw [List.nil_append]; exact fits_take hm hf (i + 1))]
  rfl
theorem line_of {q : Int} (h : 1 ≤ q ∧ q ≤ 60) : itemB q = true := by unfold itemB inB; exact decide_eq_true (by omega)
theorem cfI_none {m : Msr} {zs : List Int} {q : Int} (h : goodB m zs = true) (hq : 1 ≤ q ∧ q ≤ 60) (hf : fitsB m (zs ++ [q]) = false) : cfI m zs [q] = 0 := by
  have h1 : cfB m zs [q] = true := by unfold cfB lineB itemsB; rw [h]; simp [line_of hq]
  unfold cfI
  rw [h1, cntF_stop (k := 0) (by simp) (by simpa using hf) (fun i hi => absurd hi (by omega))]
  rfl
theorem fits_pair {m : Msr} {zs : List Int} {q : Int} (h : fitsB m (q :: (zs ++ [q])) = false) : fitsB m (zs ++ [q, q]) = false := by
  cases hf : fitsB m (zs ++ [q, q])
  · rfl
  · exfalso
    obtain ⟨h1, h2, h3⟩ := fitsB_iff.1 hf
    have : fitsB m (q :: (zs ++ [q])) = true := by
      refine fitsB_iff.2 ⟨?_, by simp at h2 ⊢; omega, ?_⟩
      · unfold itemsB at h1 ⊢
        simp at h1 ⊢
        exact ⟨h1.2, h1.1, h1.2⟩
      · have e1 : sumL (q :: (zs ++ [q])) = sumL (zs ++ [q, q]) := by simp only [sumL, sumL_append]; omega
        have e2 : bandsN (q :: (zs ++ [q])) = bandsN (zs ++ [q, q]) := by simp only [bandsN, bandsN_append]; omega
        rw [e1, e2]; exact h3
    rw [this] at h; cases h
theorem cfI_pair {m : Msr} {zs : List Int} {q : Int} (hf : fitsB m (zs ++ [q, q]) = false) : cfI m zs [q, q] ≠ 2 := by
  unfold cfI
  split
  · intro h
    have h2 : cntF m zs [q, q] = 2 := by omega
    have h1 : 1 < (List.range [q, q].length).findIdx (fun k => !fitsB m (zs ++ [q, q].take (k + 1))) := by
      have : cntF m zs [q, q] = (List.range [q, q].length).findIdx (fun k => !fitsB m (zs ++ [q, q].take (k + 1))) := rfl
      omega
    have h3 := List.not_of_lt_findIdx h1
    simp at h3
    rw [hf] at h3; cases h3
  · omega
end Go.Proofs.Ytpenmheacpapaaa
