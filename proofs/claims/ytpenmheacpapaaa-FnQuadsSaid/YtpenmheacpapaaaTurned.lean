/-
  FnTurned: its walk. No condition.
-/
import Derived.Test.YtpenmheacpapaaaDrawQ
import Derived.Test.YtpenmheacpapaaaSpreadI
import Derived.Test.YtpenmheacpapaaaLawKit
import Derived.Outline
import Derived.Deep.QuietTactic
import Derived.BigQuiet
namespace Go.Proofs.Ytpenmheacpapaaa
open Go.RowKit
set_option linter.unusedVariables false

theorem own_ints1 {w : World} {B n c : Nat} {A : Option Addr} {zs : List Int} (h : Own w B (.slice A n c) zs) : Ints w A zs := by
  obtain ⟨A', c', hv, hI, _⟩ := h.form
  injection hv with h1 h2 h3
  subst h1
  exact hI
theorem cntOf_bands (zs : List Int) : cntOf zs 0 = bandsN zs := by
  unfold cntOf
  induction zs with
  | nil => rfl
  | cons x xs ih =>
    rw [List.count_cons, ih, bandsN]
    by_cases h : x = 0
    · subst h; simp; omega
    · rw [if_neg h, if_neg (by simpa using h)]; omega
theorem sumL_rev (zs : List Int) : sumL zs.reverse = sumL zs := by
  induction zs with
  | nil => rfl
  | cons x xs ih => rw [List.reverse_cons, sumL_append, ih]; simp only [sumL]; omega
theorem bandsN_rev (zs : List Int) : bandsN zs.reverse = bandsN zs := by
  induction zs with
  | nil => rfl
  | cons x xs ih => rw [List.reverse_cons, bandsN_append, ih]; simp only [bandsN]; omega
theorem lineB_rev (zs : List Int) : lineB zs.reverse = lineB zs := by
  unfold lineB itemsB
  rw [List.all_reverse, List.length_reverse]
theorem goodB_rev (m : Msr) (zs : List Int) : goodB m zs.reverse = goodB m zs := by
  unfold goodB fitsB fitL widL
  rw [lineB_rev, sumL_rev, bandsN_rev]
theorem turn_same (m : Msr) (zs : List Int) : wid1 m zs.reverse = wid1 m zs ∧ wid2 m zs.reverse = wid2 m zs ∧ okB m zs.reverse = okB m zs ∧ rise1 m zs.reverse = rise1 m zs ∧ rest1 m zs.reverse = rest1 m zs := by
  unfold wid1 wid2 okB rise1 rest1 widL riseL restL
  rw [goodB_rev, lineB_rev, sumL_rev, bandsN_rev]
  simp
theorem drop_rev {zs : List Int} {j : Nat} {x : Int} (h : zs[j]? = some x) : (zs.drop (j + 1)).reverse ++ [x] = (zs.drop j).reverse := by
  have hj := lt_at h
  have : zs.drop j = zs[j] :: zs.drop (j + 1) := List.drop_eq_getElem_cons hj
  rw [this, List.reverse_cons]
  have hx : zs[j] = x := (List.getElem?_eq_some_iff.1 h).2
  rw [hx]
/-- what the last test of FnTurned asks -/
theorem turn_end {m : Msr} {zs : List Int} (h : okB m zs = true) : wid2 m zs - wid1 m zs = bandsN zs * (m.k - m.t) ∧ goodB m zs = decide (wid1 m zs ≤ m.w) ∧ 0 ≤ wid1 m zs ∧ wid1 m zs ≤ 1000000 ∧ 0 ≤ wid2 m zs ∧ wid2 m zs ≤ 1000000 ∧ 0 ≤ m.k - m.t ∧ m.k - m.t ≤ 100 ∧ bandsN zs ≤ 120 ∧ -1000 ≤ m.t ∧ m.t ≤ 1000 ∧ -1000 ≤ m.k ∧ m.k ≤ 1000 := by
  have h0 := h
  unfold okB at h
  rw [Bool.and_eq_true] at h
  obtain ⟨h1, h2⟩ := h
  have hM := msrB_iff.1 h1
  have hs := lineB_sum h2
  have m1 := mul_small (B := bandsN zs) (e := m.t) (by omega) (by omega) (by omega) (by omega)
  have m2 := mul_small (B := bandsN zs) (e := m.k) (by omega) (by omega) (by omega) (by omega)
  have e1 : wid1 m zs = sumL zs + bandsN zs * m.t := by unfold wid1; rw [h0]; rfl
  have e2 : wid2 m zs = sumL zs + bandsN zs * m.k := by unfold wid2; rw [h0]; rfl
  have hg : goodB m zs = decide (wid1 m zs ≤ m.w) := by unfold goodB fitsB fitL; rw [h1, h2, e1]; rfl
  refine ⟨by rw [e1, e2, Int.mul_sub]; omega, hg, ?_⟩
  rw [e1, e2]
  omega
theorem good_no_ok {m : Msr} {zs : List Int} (h : okB m zs = false) : goodB m zs = false := by
  cases hg : goodB m zs
  · rfl
  · obtain ⟨h1, h2, _⟩ := goodB_parts hg
    unfold okB at h; rw [h1, h2] at h; cases h

theorem count_quiet {A : Option Addr} {n c k : Nat} {zs : List Int} {w : World} (hn : zs.length = n) (hm : n ≤ maxLen) (h : Ints w A zs) :
    Calls Try.prog 62 #[.slice A n c, .int .i64 0] (w.drewN k) fun e w'' => e = .returned (.int .i64 (bandsN zs : Int)) ∧ ∃ m, w'' = w.drewN m := by
  have h' : Ints (w.drewN k) A zs := h
  refine (lawCount_any A n c zs 0 _ hn hm h').mono ?_
  rintro e w' ⟨rfl, rfl⟩
  exact ⟨by rw [cntOf_bands], k, rfl⟩

end Go.Proofs.Ytpenmheacpapaaa
