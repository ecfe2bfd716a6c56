/-
  The cheapest breaking, as the model finds it: a row of costs and a row of first counts, filled from the last word back. Plain mathematics.
-/
import Derived.Test.YtddkedinkgnboaaPkB
namespace Go.Proofs.Ytddkedinkgnboaa
open Go.RowKit
set_option linter.unusedVariables false

theorem brk_dear {m : Msr} {zs : List Int} (ho : okW m zs = true) : ∀ (r : List Int) (p : Nat), p ≤ zs.length → brkF m zs p r = true → costF m zs p r ≤ 9801 * ((zs.length : Int) - p) := by
  intro r
  induction r with
  | nil => intro p hp hb; have : p = zs.length := by simpa [brkF] using hb
           subst this; simp [costF]
  | cons x r ih =>
    intro p hp hb
    rw [brkF, Bool.and_eq_true, Bool.and_eq_true] at hb
    have hx := inB_true hb.1
    obtain ⟨u, rfl⟩ : ∃ u : Nat, x = (u : Int) := ⟨x.toNat, by omega⟩
    simp only [Int.toNat_natCast] at hb
    rw [costF, Int.toNat_natCast]
    have h3 := ih (p + u) (by omega) hb.2.2
    have h4 := costW_bound ho (show p + u ≤ zs.length by omega) hb.2.1
    omega
theorem lst_small {m : Msr} {zs : List Int} (ho : okW m zs = true) {q : Nat} (hq : q ≤ zs.length) (h : lstF m zs q < dearC) : lstF m zs q ≤ 9801 * ((zs.length : Int) - q) := by
  have h1 := bstF_brk ho (zs.length + 1) q (by omega) hq h
  have h2 := brk_dear ho _ q hq h1.1
  omega
/-- what the two rows hold of word i when the ends below N have been tried -/
def cstR (m : Msr) (zs : List Int) (i N : Nat) (x f : Int) : Prop :=
  (x = 0 ∧ f = 0 ∧ lstT m zs i N = dearC) ∨ (∃ q : Nat, i < q ∧ q < N ∧ lineW m zs i q = true ∧ f = (q : Int) - i ∧ x = lstT m zs i N ∧ x < dearC ∧ costW m zs i q + lstF m zs q = x ∧ ∀ j, i < j → j < q → lineW m zs i j = true → costW m zs i j + lstF m zs j ≠ x)
theorem cst_start (m : Msr) (zs : List Int) (i : Nat) : cstR m zs i (i + 1) 0 0 := .inl ⟨rfl, rfl, lstT_low (Nat.le_refl _)⟩
theorem cst_same {m : Msr} {zs : List Int} {i N : Nat} {x f : Int} (h : cstR m zs i N x f) (he : lstT m zs i (N + 1) = lstT m zs i N) : cstR m zs i (N + 1) x f := by
  rcases h with ⟨a, b, c⟩ | ⟨q, a, b, c, d, e, g⟩
  · exact .inl ⟨a, b, by rw [he]; exact c⟩
  · exact .inr ⟨q, a, by omega, c, d, by rw [he]; exact e, g⟩
theorem cst_no {m : Msr} {zs : List Int} {i N : Nat} {x f : Int} (h : cstR m zs i N x f) (hl : lineW m zs i N = false) : cstR m zs i (N + 1) x f :=
  cst_same h (lstT_no (by rw [hl]; simp))
theorem cst_dear {m : Msr} {zs : List Int} (ho : okW m zs = true) {i N : Nat} {x f : Int} (h : cstR m zs i N x f) (hi : i < N) (hN : N ≤ zs.length) (hl : lineW m zs i N = true) (hd : ¬ lstF m zs N < dearC) : cstR m zs i (N + 1) x f := by
  refine cst_same h ?_
  have h1 := (lst_bound ho _ i rfl (by omega)).2 N hi (by omega)
  have h2 := costW_bound ho hN hl
  rw [lstT_yes ho hi hN hl]; omega
theorem cst_cand {m : Msr} {zs : List Int} (ho : okW m zs = true) (hz : zs.length ≤ 40) {i N : Nat} (hi : i < N) (hN : N ≤ zs.length) (hl : lineW m zs i N = true) (hd : lstF m zs N < dearC) : 0 ≤ costW m zs i N + lstF m zs N ∧ costW m zs i N + lstF m zs N < dearC := by
  have h1 := lst_small ho hN hd
  have h2 := costW_bound ho hN hl
  have h3 := (lst_bound ho _ N rfl hN).1
  unfold dearC; omega
theorem cst_take {m : Msr} {zs : List Int} (ho : okW m zs = true) (hz : zs.length ≤ 40) {i N : Nat} {x f y : Int} (h : cstR m zs i N x f) (hi : i < N) (hN : N ≤ zs.length) (hl : lineW m zs i N = true) (hd : lstF m zs N < dearC) (hy : costW m zs i N + lstF m zs N = y) (hb : f = 0 ∨ y < x) : cstR m zs i (N + 1) y ((N : Int) - i) := by
  have hc := cst_cand ho hz hi hN hl hd
  have hlt : y < lstT m zs i N := by
    rcases h with ⟨a, b, c⟩ | ⟨q, a, b, c, d, e, g⟩
    · rw [c]; omega
    · rcases hb with hb | hb
      · omega
      · omega
  refine .inr ⟨N, hi, by omega, hl, rfl, ?_, by omega, hy, fun j h1 h2 h3 => ?_⟩
  · rw [lstT_yes ho hi hN hl, hy]; omega
  · have := lstT_le ho N (by omega) j h1 h2 h3; omega
theorem cst_keep {m : Msr} {zs : List Int} (ho : okW m zs = true) {i N : Nat} {x f y : Int} (h : cstR m zs i N x f) (hi : i < N) (hN : N ≤ zs.length) (hl : lineW m zs i N = true) (hy : costW m zs i N + lstF m zs N = y) (hf : f ≠ 0) (hb : ¬ y < x) : cstR m zs i (N + 1) x f := by
  refine cst_same h ?_
  rcases h with ⟨a, b, c⟩ | ⟨q, a, b, c, d, e, g⟩
  · exact absurd b hf
  · rw [lstT_yes ho hi hN hl, hy]; omega
theorem cst_val {m : Msr} {zs : List Int} {i : Nat} {x f : Int} (h : cstR m zs i (zs.length + 1) x f) (hi : i < zs.length) (hd : lstF m zs i < dearC) : x = lstF m zs i := by
  rw [lstF_at hi] at hd ⊢
  rcases h with ⟨a, b, c⟩ | ⟨q, a, b, c, d, e, g⟩
  · omega
  · exact e
theorem cst_next {m : Msr} {zs : List Int} (ho : okW m zs = true) {i : Nat} {x f : Int} (h : cstR m zs i (zs.length + 1) x f) (hi : i < zs.length) (hd : lstF m zs i < dearC) :
    ∃ q : Nat, i < q ∧ q ≤ zs.length ∧ f = (q : Int) - i ∧ lstF m zs q < dearC ∧ ∀ fu, bstF m zs (fu + 1) i = f :: bstF m zs fu q := by
  have hx := cst_val h hi hd
  rcases h with ⟨a, b, c⟩ | ⟨q, a, b, c, d, e, g1, g2, g3⟩
  · rw [← lstF_at hi] at c; omega
  · have hc := costW_bound ho (show q ≤ zs.length by omega) c
    refine ⟨q, a, by omega, d, by omega, fun fu => ?_⟩
    obtain ⟨r, es, r1, r2, r3, r4, r5, r6, r7⟩ := bst_find ho hi hd
    have hqr : r = q := by
      rcases Nat.lt_trichotomy q r with hh | hh | hh
      · have := r6 q (mem_endsTo.2 ⟨hh, a, c⟩)
        rw [beq_eq_false_iff_ne] at this
        omega
      · exact hh.symm
      · exact absurd (by omega) (g3 r r1 hh r3)
    rw [bstF, if_neg (by omega), r7, hqr, d]
/-- the two rows while the ends of word a below N have been tried, all words behind a, and none ahead -/
def bstW (m : Msr) (zs : List Int) (a N : Nat) (cs fs : List Int) : Prop :=
  cs.length = zs.length + 1 ∧ fs.length = zs.length + 1 ∧ (∀ i, a < i → i < zs.length → cstR m zs i (zs.length + 1) (cs.getD i 0) (fs.getD i 0)) ∧ (∀ i, i < a → cs.getD i 0 = 0 ∧ fs.getD i 0 = 0) ∧ cs.getD zs.length 0 = 0 ∧ cstR m zs a N (cs.getD a 0) (fs.getD a 0)
/-- the two rows when d words have been tried from the back -/
def bstD (m : Msr) (zs : List Int) (d : Nat) (cs fs : List Int) : Prop :=
  cs.length = zs.length + 1 ∧ fs.length = zs.length + 1 ∧ (∀ i, zs.length ≤ i + d → i < zs.length → cstR m zs i (zs.length + 1) (cs.getD i 0) (fs.getD i 0)) ∧ (∀ i, i + d < zs.length → cs.getD i 0 = 0 ∧ fs.getD i 0 = 0) ∧ cs.getD zs.length 0 = 0
theorem getD_rep (N i : Nat) : (List.replicate N (0 : Int)).getD i 0 = 0 := by
  unfold List.getD
  rw [List.getElem?_replicate]
  split <;> rfl
theorem bstD_zero (m : Msr) (zs : List Int) : bstD m zs 0 (List.replicate (zs.length + 1) 0) (List.replicate (zs.length + 1) 0) :=
  ⟨by simp, by simp, fun i h1 h2 => by omega, fun i _ => ⟨getD_rep _ _, getD_rep _ _⟩, getD_rep _ _⟩
theorem bstD_open {m : Msr} {zs : List Int} {d a : Nat} {cs fs : List Int} (h : bstD m zs d cs fs) (ha : zs.length - 1 - d = a) (hd : d < zs.length) : bstW m zs a (a + 1) cs fs := by
  obtain ⟨h1, h2, h3, h4, h5⟩ := h
  have h6 := h4 a (by omega)
  exact ⟨h1, h2, fun i a b => h3 i (by omega) b, fun i a => h4 i (by omega), h5, by rw [h6.1, h6.2]; exact cst_start _ _ _⟩
theorem bstW_shut {m : Msr} {zs : List Int} {d a : Nat} {cs fs : List Int} (h : bstW m zs a (zs.length + 1) cs fs) (ha : zs.length - 1 - d = a) (hd : d < zs.length) : bstD m zs (d + 1) cs fs := by
  obtain ⟨h1, h2, h3, h4, h5, h6⟩ := h
  refine ⟨h1, h2, fun i x y => ?_, fun i x => h4 i (by omega), h5⟩
  by_cases e : i = a
  · subst e; exact h6
  · exact h3 i (by omega) y
theorem bstW_same {m : Msr} {zs : List Int} {a N N' : Nat} {cs fs : List Int} (h : bstW m zs a N cs fs) (hc : cstR m zs a N (cs.getD a 0) (fs.getD a 0) → cstR m zs a N' (cs.getD a 0) (fs.getD a 0)) : bstW m zs a N' cs fs :=
  ⟨h.1, h.2.1, h.2.2.1, h.2.2.2.1, h.2.2.2.2.1, hc h.2.2.2.2.2⟩
theorem bstW_set {m : Msr} {zs : List Int} {a N N' : Nat} {cs fs : List Int} {x f : Int} (h : bstW m zs a N cs fs) (ha : a < zs.length) (hc : cstR m zs a N' x f) : bstW m zs a N' (cs.set a x) (fs.set a f) := by
  obtain ⟨h1, h2, h3, h4, h5, h6⟩ := h
  refine ⟨by rw [List.length_set]; exact h1, by rw [List.length_set]; exact h2, fun i p q => ?_, fun i p => ?_, ?_, ?_⟩
  · rw [getD_set_ne (by omega), getD_set_ne (by omega)]; exact h3 i p q
  · rw [getD_set_ne (by omega), getD_set_ne (by omega)]; exact h4 i p
  · rw [getD_set_ne (by omega)]; exact h5
  · rw [getD_set_eq (by omega), getD_set_eq (by omega)]; exact hc
theorem bstW_read {m : Msr} {zs : List Int} {a N r : Nat} {cs fs : List Int} (h : bstW m zs a N cs fs) (h1 : a < r) (h2 : r ≤ zs.length) (hd : lstF m zs r < dearC) : cs.getD r 0 = lstF m zs r := by
  by_cases e : r = zs.length
  · subst e; rw [h.2.2.2.2.1, lstF_end]
  · exact cst_val (h.2.2.1 r h1 (by omega)) (by omega) hd
end Go.Proofs.Ytddkedinkgnboaa
