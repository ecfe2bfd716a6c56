/-
  What a filled magazine holds: no strays, nothing worn, each row its letter, each kind as often as the others. No condition.
-/
import Derived.Test.YtobakeahbgodbaaFill
import Derived.Test.YtobakeahbgodbaaLett
import Derived.Test.YtobakeahbgodbaaKind
import Derived.Test.YtobakeahbgodbaaCntWorn
namespace Go.Proofs.Ytobakeahbgodbaa
open Go.RowKit
set_option linter.unusedVariables false

theorem fillTo_full (f : Fnt) (e n : Nat) : fillTo f e n n = (List.range n).map (fillRow f e) := by simp [fillTo]
theorem fillL_eq {f : Fnt} {E : Int} (h : fillOk f E = true) : fontB f = true ∧ 0 ≤ E ∧ E ≤ 20 ∧ fillL f E = (List.range f.cs.length).map (fillRow f E.toNat) := by
  have h0 := h
  unfold fillOk at h0
  rw [Bool.and_eq_true] at h0
  have he := (inB_iff _ _ _).1 h0.2
  refine ⟨h0.1, he.1, he.2, ?_⟩
  unfold fillL
  rw [if_pos h, fillTo_full]
theorem fill_get {f : Fnt} {e n i : Nat} (hi : i < n) : ((List.range n).map (fillRow f e))[i]? = some (fillRow f e i) := by
  rw [List.getElem?_map, List.getElem?_range hi]; rfl
theorem part_self : ∀ s, s < 128 → partB (s : Nat) (s : Nat) = true := by decide +kernel
theorem fill_mat {f : Fnt} (hf : fontB f = true) {i : Nat} (hi : i < f.cs.length) : matB f ((i : Int), f.cs.getD i 0) = true := by
  have hc := fontB_codes hf
  have hz := bar_set hc.2.2 (f.cs.getD i 0) (by rw [List.getD, List.getElem?_eq_getElem hi]; exact List.getElem_mem hi)
  unfold matB
  rw [Bool.and_eq_true, Bool.and_eq_true]
  refine ⟨(inB_iff _ _ _).2 ⟨by show (0 : Int) ≤ i; omega, by show (i : Int) ≤ _; omega⟩, (setB_iff _).2 hz, ?_⟩
  show partB (f.cs.getD i 0) (f.cs.getD ((i : Int)).toNat 0) = true
  rw [Int.toNat_natCast]
  obtain ⟨k, hk⟩ := Int.eq_ofNat_of_zero_le hz.1
  rw [hk]
  exact part_self k (by omega)
theorem fill_mag {f : Fnt} {E : Int} (h : fillOk f E = true) : magB f (fillL f E) = true := by
  obtain ⟨hf, h0, h1, he⟩ := fillL_eq h
  rw [he]
  unfold magB
  rw [Bool.and_eq_true, Bool.and_eq_true, hf]
  refine ⟨rfl, by simp [(fontB_codes hf).1], ?_⟩
  rw [List.all_eq_true]
  intro xs hx
  obtain ⟨i, hi, rfl⟩ := List.mem_map.1 hx
  unfold rowB
  rw [Bool.and_eq_true, decide_eq_true_eq, fillRow_len]
  refine ⟨by omega, ?_⟩
  rw [List.all_eq_true]
  intro x hx
  unfold fillRow at hx
  rw [(List.mem_replicate.1 hx).2]
  exact fill_mat hf (List.mem_range.1 hi)
theorem fill_wf {f : Fnt} {E : Int} (h : fillOk f E = true) : wfM (fillL f E) := by
  obtain ⟨hf, h0, h1, he⟩ := fillL_eq h
  intro xs hxs x hx
  rw [he] at hxs
  obtain ⟨i, hi, rfl⟩ := List.mem_map.1 hxs
  unfold fillRow at hx
  rw [(List.mem_replicate.1 hx).2]
  have hi := List.mem_range.1 hi
  have hz := bar_set (fontB_codes hf).2.2 (f.cs.getD i 0) (by rw [List.getD, List.getElem?_eq_getElem hi]; exact List.getElem_mem hi)
  show (Lit.int .i64 (f.cs.getD i 0)).wf = true
  generalize f.cs.getD i 0 = z at hz ⊢
  simp [Lit.wf, IntKind.min, IntKind.max, IntKind.signed, IntKind.bits]
  omega
theorem cnt_none {p : Nat → Mat → Bool} {f : Fnt} {e n : Nat} (h : ∀ i, i < n → p i ((i : Int), f.cs.getD i 0) = false) : ∀ k, k ≤ n → cntM p ((List.range n).map (fillRow f e)) k = 0
  | 0, _ => rfl
  | k + 1, hk => by
    rw [cntM_succ (fill_get (by omega)), cnt_none h k (by omega)]
    unfold cntR
    rw [List.filter_eq_nil_iff.2 (fun x hx => by unfold fillRow at hx; rw [(List.mem_replicate.1 hx).2, h k (by omega)]; simp)]
    rfl
theorem fill_strays {f : Fnt} {E : Int} (h : fillOk f E = true) : cntI f (fillL f E) strayP = 0 := by
  unfold cntI
  rw [if_pos (fill_mag h)]
  obtain ⟨hf, h0, h1, he⟩ := fillL_eq h
  rw [he, List.length_map, List.length_range, cnt_none (fun i hi => by unfold strayP; simp) _ (Nat.le_refl _)]; rfl
theorem fill_worn {f : Fnt} {E : Int} (h : fillOk f E = true) : cntI f (fillL f E) (wornP f) = 0 := by
  unfold cntI
  rw [if_pos (fill_mag h)]
  obtain ⟨hf, h0, h1, he⟩ := fillL_eq h
  rw [he, List.length_map, List.length_range, cnt_none (fun i hi => by unfold wornP; simp) _ (Nat.le_refl _)]; rfl
/-- a row of one kind counts in one place -/
theorem kRow_one {i : Nat} {x : Mat} (hx : x.1 = (i : Int)) : ∀ (e : Nat) (l : List Int), i < l.length → kRow l (List.replicate e x) = l.set i (l.getD i 0 + e)
  | 0, l, hi => by
    show l = _
    have : l.getD i 0 = l[i] := by rw [List.getD, List.getElem?_eq_getElem hi]; rfl
    rw [this]; simp
  | e + 1, l, hi => by
    show kRow (kAdd l x) (List.replicate e x) = _
    have hk : kAdd l x = l.set i (l.getD i 0 + 1) := by unfold kAdd; rw [hx, Int.toNat_natCast]
    rw [hk, kRow_one hx e _ (by rw [List.length_set]; exact hi), List.set_set]
    congr 1
    rw [List.getD, List.getElem?_set_self hi]
    show l.getD i 0 + 1 + (e : Int) = l.getD i 0 + ((e + 1 : Nat) : Int)
    omega
theorem kAll_fill {f : Fnt} {e n : Nat} : ∀ k, k ≤ n → kAll n (((List.range n).map (fillRow f e)).take k) = List.replicate k (e : Int) ++ List.replicate (n - k) 0
  | 0, _ => by simp [kAll]
  | k + 1, hk => by
    rw [kAll_succ (fill_get (by omega)), kAll_fill k (by omega)]
    unfold fillRow
    rw [kRow_one (i := k) rfl e _ (by simp; omega)]
    have : (List.replicate k (e : Int) ++ List.replicate (n - k) 0).getD k 0 = 0 := by
      rw [List.getD, List.getElem?_append_right (by simp), List.length_replicate, Nat.sub_self, List.getElem?_replicate, if_pos (by omega)]; rfl
    rw [this, List.set_append_right _ _ (by simp), List.length_replicate, Nat.sub_self]
    rw [show n - k = (n - (k + 1)) + 1 by omega, List.replicate_succ, List.set_cons_zero, List.replicate_succ', List.append_assoc]
    simp
theorem fill_kinds {f : Fnt} {E : Int} (h : fillOk f E = true) : kindL f (fillL f E) = List.replicate (fillL f E).length E := by
  unfold kindL
  rw [if_pos (fill_mag h)]
  obtain ⟨hf, h0, h1, he⟩ := fillL_eq h
  rw [he, List.length_map, List.length_range]
  have := kAll_fill (f := f) (e := E.toNat) (n := f.cs.length) f.cs.length (Nat.le_refl _)
  rw [List.take_of_length_le (by simp), Nat.sub_self, List.replicate_zero, List.append_nil] at this
  rw [this, show ((E.toNat : Nat) : Int) = E by omega]
theorem fill_letters {f : Fnt} {E : Int} (h : fillOk f E = true) {i : Nat} (hi : i < f.cs.length) : lettersL f (fillRow f E.toNat i) = lets f (fillRow f E.toNat i) := by
  obtain ⟨hf, h0, h1, he⟩ := fillL_eq h
  unfold lettersL
  rw [if_pos]
  rw [List.all_eq_true]
  intro x hx
  unfold fillRow at hx
  rw [(List.mem_replicate.1 hx).2]
  unfold matI
  rw [hf, fill_mat hf hi]; rfl
theorem fill_snoc {f : Fnt} {j i : Nat} (hi : i < f.s.size) : lets f (fillRow f j i) ++ f.s.extract i (i + 1) = lets f (fillRow f (j + 1) i) := by
  rw [lets_snoc (fillRow f j i) (x := ((i : Int), f.cs.getD i 0)) rfl hi]
  unfold fillRow
  rw [← List.replicate_succ']
theorem fill_key {f : Fnt} (hf : fontB f = true) {i : Nat} (hi : i < f.s.size) : keyI f (byt f.s i : Int) = i := by
  rw [keyI_good hf]
  refine keyTo_hit hi rfl fun j hj e => ?_
  unfold fontB lettersB at hf
  simp only [Bool.and_eq_true] at hf
  have hd := List.all_eq_true.1 hf.2.2.2.1.2 i (List.mem_range.2 hi)
  unfold diffs at hd
  have := List.all_eq_true.1 hd j (List.mem_range.2 hj)
  rw [bne_iff_ne] at this
  omega
end Go.Proofs.Ytobakeahbgodbaa
