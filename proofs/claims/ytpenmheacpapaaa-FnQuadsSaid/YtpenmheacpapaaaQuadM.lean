/-
  Blank letters, plainly: what is added, when it ends, that the result is one. Mathematics alone, no condition.
-/
import Derived.Test.YtpenmheacpapaaaLineM
namespace Go.Proofs.Ytpenmheacpapaaa
open Go.RowKit
set_option linter.unusedVariables false

/-- a line with one blank letter more, or with one on both sides -/
def addQ (both : Bool) (zs : List Int) (q : Int) : List Int := if both then q :: (zs ++ [q]) else zs ++ [q]
def moreQ (both : Bool) : Nat := if both then 2 else 1
theorem addQ_len (both : Bool) (zs : List Int) (q : Int) : (addQ both zs q).length = zs.length + moreQ both := by
  unfold addQ moreQ; cases both <;> simp
theorem addQ_sum (both : Bool) (zs : List Int) (q : Int) : sumL (addQ both zs q) = sumL zs + moreQ both * q := by
  unfold addQ moreQ; cases both
  · simp only [if_false, Bool.false_eq_true, sumL_append, sumL]; omega
  · simp only [if_true, sumL, sumL_append]; omega
theorem addQ_bands (both : Bool) (zs : List Int) {q : Int} (h : q ≠ 0) : bandsN (addQ both zs q) = bandsN zs := by
  unfold addQ; cases both
  · simp only [if_false, Bool.false_eq_true, bandsN_append, bandsN, if_neg h]; omega
  · simp only [if_true, bandsN, bandsN_append, if_neg h]; omega
theorem addQ_items (both : Bool) (zs : List Int) (q : Int) : itemsB (addQ both zs q) = (itemsB zs && itemB q) := by
  unfold addQ itemsB; cases both
  · simp
  · simp [Bool.and_comm]
theorem moreQ_pos (both : Bool) : 1 ≤ moreQ both ∧ moreQ both ≤ 2 := by unfold moreQ; cases both <;> simp
theorem fitsB_iff {m : Msr} {zs : List Int} : fitsB m zs = true ↔ itemsB zs = true ∧ zs.length ≤ 120 ∧ sumL zs + bandsN zs * m.t ≤ m.w := by
  unfold fitsB lineB fitL widL widF
  simp only [Bool.and_eq_true, decide_eq_true_eq]
  constructor
  · rintro ⟨⟨h1, h2⟩, h3⟩; exact ⟨h1, h2, h3⟩
  · rintro ⟨h1, h2, h3⟩; exact ⟨⟨h1, h2⟩, h3⟩
theorem fits_mono {m : Msr} {both : Bool} {zs : List Int} {q q' : Int} (hq : 1 ≤ q) (hq' : 1 ≤ q') (h : fitsB m (addQ both zs q) = false) : fitsB m (addQ both (addQ both zs q') q) = false := by
  cases hf : fitsB m (addQ both (addQ both zs q') q)
  · rfl
  · exfalso
    rw [fitsB_iff, addQ_items, addQ_items, addQ_len, addQ_len, addQ_sum, addQ_sum, addQ_bands both _ (by omega), addQ_bands both _ (by omega)] at hf
    obtain ⟨h1, h2, h3⟩ := hf
    simp only [Bool.and_eq_true] at h1
    have : fitsB m (addQ both zs q) = true := by
      rw [fitsB_iff, addQ_items, addQ_len, addQ_sum, addQ_bands both _ (by omega)]
      refine ⟨by rw [h1.1.1, h1.2]; rfl, by omega, ?_⟩
      have hp : 0 ≤ (moreQ both : Int) * q' := Int.mul_nonneg (by omega) (by omega)
      omega
    rw [this] at h; cases h
theorem fits_len {m : Msr} {zs : List Int} (h : fitsB m zs = true) : zs.length ≤ 120 := (fitsB_iff.1 h).2.1

/-- q is the first one of qs that has room -/
def FirstQ (m : Msr) (both : Bool) (qs zs : List Int) (q : Int) : Prop := ∃ j : Nat, qs[j]? = some q ∧ fitsB m (addQ both zs q) = true ∧ ∀ (i : Nat) (x : Int), i < j → qs[i]? = some x → fitsB m (addQ both zs x) = false
theorem FirstQ.same {m : Msr} {both : Bool} {qs zs : List Int} {q q' : Int} (h : FirstQ m both qs zs q) (h' : FirstQ m both qs zs q') : q = q' := by
  obtain ⟨j, h1, h2, h3⟩ := h
  obtain ⟨j', g1, g2, g3⟩ := h'
  rcases Nat.lt_trichotomy j j' with hlt | he | hgt
  · have := g3 j q hlt h1; rw [h2] at this; cases this
  · subst he; rw [h1] at g1; injection g1
  · have := h3 j' q' hgt g1; rw [g2] at this; cases this
/-- again and again the first one, until none has room -/
inductive Res (m : Msr) (both : Bool) (qs : List Int) : List Int → List Int → Prop
  | done (zs : List Int) : (∀ q, q ∈ qs → fitsB m (addQ both zs q) = false) → Res m both qs zs zs
  | more (zs out : List Int) (q : Int) : FirstQ m both qs zs q → Res m both qs (addQ both zs q) out → Res m both qs zs out
theorem Res.step {m : Msr} {both : Bool} {qs zs out : List Int} {q : Int} (h : Res m both qs zs out) (hf : FirstQ m both qs zs q) : Res m both qs (addQ both zs q) out := by
  cases h with
  | done _ hn =>
    obtain ⟨j, h1, h2, _⟩ := hf
    rw [hn q (List.mem_of_getElem? h1)] at h2; cases h2
  | more _ _ q' hf' hr =>
    rw [hf.same hf']; exact hr
theorem Res.stop {m : Msr} {both : Bool} {qs zs out : List Int} (h : Res m both qs zs out) (hn : ∀ q, q ∈ qs → fitsB m (addQ both zs q) = false) : out = zs := by
  cases h with
  | done _ _ => rfl
  | more _ _ q hf _ =>
    obtain ⟨j, h1, h2, _⟩ := hf
    rw [hn q (List.mem_of_getElem? h1)] at h2; cases h2
theorem first_or (m : Msr) (both : Bool) (zs : List Int) : ∀ qs : List Int, (∀ q, q ∈ qs → fitsB m (addQ both zs q) = false) ∨ ∃ q, FirstQ m both qs zs q
  | [] => .inl (by simp)
  | x :: xs => by
    cases hx : fitsB m (addQ both zs x)
    · rcases first_or m both zs xs with h | ⟨q, j, h1, h2, h3⟩
      · refine .inl fun q hq => ?_
        rcases List.mem_cons.1 hq with rfl | hq
        · exact hx
        · exact h q hq
      · refine .inr ⟨q, j + 1, by simpa using h1, h2, fun i y hi hy => ?_⟩
        cases i with
        | zero => simp at hy; subst hy; exact hx
        | succ i => exact h3 i y (by omega) (by simpa using hy)
    · exact .inr ⟨x, 0, rfl, hx, fun i y hi => absurd hi (by omega)⟩
theorem res_ex (m : Msr) (both : Bool) (qs : List Int) : ∀ (n : Nat) (zs : List Int), 121 - zs.length ≤ n → ∃ out, Res m both qs zs out ∧ (out.length ≤ 120 ∨ out = zs)
  | 0, zs, h => by
    refine ⟨zs, .done zs fun q hq => ?_, .inr rfl⟩
    cases hf : fitsB m (addQ both zs q)
    · rfl
    · have := fits_len hf
      rw [addQ_len] at this; omega
  | n + 1, zs, h => by
    rcases first_or m both zs qs with hn | ⟨q, hf⟩
    · exact ⟨zs, .done zs hn, .inr rfl⟩
    · obtain ⟨j, h1, h2, h3⟩ := hf
      have hl := fits_len h2
      have hp := moreQ_pos both
      have hal := addQ_len both zs q
      obtain ⟨out, hr, ho⟩ := res_ex m both qs n (addQ both zs q) (by rw [hal]; omega)
      refine ⟨out, .more zs out q ⟨j, h1, h2, h3⟩ hr, .inl ?_⟩
      rcases ho with ho | ho
      · exact ho
      · rw [ho]; exact hl

/-- quads -/
def descB (qs : List Int) : Bool := (List.range qs.length).all (fun i => i == 0 || decide (qs.getD i 0 < qs.getD (i - 1) 0))
def quadsB (qs : List Int) : Bool := inB qs.length 1 8 && (qs.all (fun x => inB x 1 60) && descB qs)
theorem descB_iff {qs : List Int} : descB qs = true ↔ ∀ (i : Nat) (x : Int), 0 < i → qs[i]? = some x → x < qs.getD (i - 1) 0 := by
  unfold descB
  rw [List.all_eq_true]
  constructor
  · intro h i x hi hx
    have := h i (List.mem_range.2 (lt_at hx))
    rw [getD_at hx] at this
    simp only [Bool.or_eq_true, beq_iff_eq, decide_eq_true_eq] at this
    omega
  · intro h i hi
    rw [List.mem_range] at hi
    simp only [Bool.or_eq_true, beq_iff_eq, decide_eq_true_eq]
    by_cases h0 : i = 0
    · exact .inl h0
    · right
      have := h i qs[i] (by omega) (List.getElem?_eq_getElem hi)
      have e : qs.getD i 0 = qs[i] := by simp [List.getD, hi]
      rw [e]; exact this
theorem quads_len {qs : List Int} (h : quadsB qs = true) : 1 ≤ qs.length ∧ qs.length ≤ 8 := by
  unfold quadsB at h
  rw [Bool.and_eq_true] at h
  have := inB_true h.1
  omega
theorem quads_mem {qs : List Int} (h : quadsB qs = true) : ∀ q, q ∈ qs → 1 ≤ q ∧ q ≤ 60 := fun q hq => by
  unfold quadsB at h
  rw [Bool.and_eq_true, Bool.and_eq_true, List.all_eq_true] at h
  exact inB_true (h.2.1 q hq)
theorem quads_bad {qs : List Int} {i : Nat} {x : Int} (hi : 0 < i) (hx : qs[i]? = some x) (h : qs.getD (i - 1) 0 ≤ x) : quadsB qs = false := by
  cases hb : quadsB qs
  · rfl
  · unfold quadsB at hb
    rw [Bool.and_eq_true, Bool.and_eq_true, descB_iff] at hb
    have := hb.2.2 i x hi hx
    omega
theorem quads_badW {qs : List Int} {i : Nat} {x : Int} (hx : qs[i]? = some x) (h : inB x 1 60 = false) : quadsB qs = false := by
  cases hb : quadsB qs
  · rfl
  · have := quads_mem hb x (mem_at hx)
    have := inB_false h
    omega
theorem quads_is {qs : List Int} (h : ∀ (i : Nat) (x : Int), 0 < i → qs[i]? = some x → x < qs.getD (i - 1) 0) : quadsB qs = (inB qs.length 1 8 && qs.all (fun x => inB x 1 60)) := by
  unfold quadsB; rw [descB_iff.2 h, Bool.and_true]
theorem quads_isW {qs : List Int} (h : ∀ (i : Nat) (x : Int), 0 < i → qs[i]? = some x → x < qs.getD (i - 1) 0) (hw : ∀ (i : Nat) (x : Int), qs[i]? = some x → inB x 1 60 = true) : quadsB qs = inB qs.length 1 8 := by
  have : qs.all (fun x => inB x 1 60) = true := by
    rw [List.all_eq_true]
    intro x hx
    obtain ⟨i, hi, rfl⟩ := List.mem_iff_getElem.1 hx
    exact hw i _ (List.getElem?_eq_getElem hi)
  rw [quads_is h, this, Bool.and_true]
def qdB (m : Msr) (zs qs : List Int) : Bool := goodB m zs && quadsB qs
/-- what QuadLine and CenterLine return -/
def QdRes (m : Msr) (both : Bool) (zs qs L : List Int) : Prop := (qdB m zs qs = true → Res m both qs zs L) ∧ (qdB m zs qs = false → L = []) ∧ L.length ≤ 120
theorem qdRes_ex (m : Msr) (both : Bool) (zs qs : List Int) : ∃ L, QdRes m both zs qs L := by
  cases h : qdB m zs qs
  · exact ⟨[], fun h' => absurd (h.symm.trans h') (by simp), fun _ => rfl, by simp⟩
  · obtain ⟨L, hr, hl⟩ := res_ex m both qs 121 zs (by omega)
    refine ⟨L, fun _ => hr, fun h' => absurd (h.symm.trans h') (by simp), ?_⟩
    rcases hl with hl | rfl
    · exact hl
    · unfold qdB at h
      rw [Bool.and_eq_true] at h
      exact (lineB_parts (goodB_parts h.1).2.1).2
end Go.Proofs.Ytpenmheacpapaaa
