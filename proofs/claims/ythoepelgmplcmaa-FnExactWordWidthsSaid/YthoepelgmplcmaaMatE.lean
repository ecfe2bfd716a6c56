/-
  The laws' helpers eqMatrix, eqMatrixS by contract. Condition: lists of at most 2^20.
-/
import Derived.Test.YthoepelgmplcmaaMat
namespace Go.Proofs.Ythoepelgmplcmaa
open Go.RowKit
set_option linter.unusedVariables false

set_option maxHeartbeats 400000 in
theorem eqMatrix_any (x y : Mat) (w : World) :
    Calls Try.prog 173 #[.agg #[.int .i64 x.1, .int .i64 x.2], .agg #[.int .i64 y.1, .int .i64 y.2]] w fun e w' => e = .returned (.bool (decide (x = y))) ∧ Below w.heap.size w w' := by
  obtain ⟨a, b⟩ := x
  obtain ⟨c, d⟩ := y
  simp only
  have hW := Lib.hid (((Below.refl w.heap.size w).alloc (Nat.le_refl _) (.cells #[.int .i64 a, .int .i64 b] 34)).alloc (by simp) (.cells #[.int .i64 c, .int .i64 d] 34))
  by_cases h1 : a = c
  · have t1 : (a != c) = false := by rw [bne_eq_false_iff_eq]; exact h1
    by_cases h2 : b = d
    · have t2 : (b != d) = false := by rw [bne_eq_false_iff_eq]; exact h2
      have hr : Hid (decide ((a, b) = (c, d)) = true) := by show _ = _; rw [decide_eq_true_eq, h1, h2]
      rw [hr.out]
      clear h1 h2 hr
      go_enter Try.func173, Try.ntmps173
      go_wp2
      go_ret
      exact ⟨rfl, hW.out⟩
    · have t2 : (b != d) = true := by rw [bne_iff_ne]; exact h2
      have hr : Hid (decide ((a, b) = (c, d)) = false) := by show _ = _; rw [decide_eq_false_iff_not]; intro e; injection e with _ e; exact h2 e
      rw [hr.out]
      clear h1 h2 hr
      go_enter Try.func173, Try.ntmps173
      go_wp2
      go_ret
      exact ⟨rfl, hW.out⟩
  · have t1 : (a != c) = true := by rw [bne_iff_ne]; exact h1
    have hr : Hid (decide ((a, b) = (c, d)) = false) := by show _ = _; rw [decide_eq_false_iff_not]; intro e; injection e with e _; exact h1 e
    rw [hr.out]
    clear h1 hr
    go_enter Try.func173, Try.ntmps173
    go_wp2
    go_ret
    exact ⟨rfl, hW.out⟩

theorem mtake_all {xs : List Mat} {n : Nat} (h : xs.length = n) : xs.take n = xs := List.take_of_length_le (by omega)

set_option maxRecDepth 100000 in
set_option maxHeartbeats 800000 in
theorem eqMatrixS_any (lo hi lo2 hi2 : Nat) (A B : Option Addr) (n m c d : Nat) (xs ys : List Mat) (w : World) (hn : xs.length = n) (hm : ys.length = m) (hl : n ≤ 1048576) (hl2 : m ≤ maxLen) (hhi : hi ≤ w.heap.size) (hhi2 : hi2 ≤ w.heap.size) (h : MatsI w lo hi A xs) (h2 : MatsI w lo2 hi2 B ys) :
    Calls Try.prog 119 #[.slice A n c, .slice B m d] w fun e w' => e = .returned (.bool (decide (xs = ys))) ∧ Below w.heap.size w w' := by
  unfold maxLen at hl2
  have Hn := Lib.hid hn; have Hm := Lib.hid hm; clear hn hm
  by_cases hnm : n = m
  · subst hnm
    have H1 := Lib.hid h; have H2 := Lib.hid h2
    clear h h2
    go_enter Try.func119, Try.ntmps119
    go_wp2
    go_loopw [5] (fun i wr => ∃ k : Nat, k ≤ n ∧ i = .int .i64 k ∧ Below w.heap.size w wr ∧ xs.take k = ys.take k) (fun i _ => n - (intOf i).toNat)
    case atStart => exact ⟨0, Nat.zero_le _, rfl, Below.refl _ _, rfl⟩
    case round =>
      obtain ⟨k, hk, rfl, hb, ht⟩ := hrel
      have Ht := Lib.hid ht; have HB := Lib.hid hb
      clear ht hb
      by_cases hlt : k < n
      · obtain ⟨ad, x, rfl, hx, hc1, hc2⟩ := (H1.out.below hhi HB.out).at_ (k := k) (by rw [Hn.out]; exact hlt)
        obtain ⟨bd, y, rfl, hy, hd1, hd2⟩ := (H2.out.below hhi2 HB.out).at_ (k := k) (by rw [Hm.out]; exact hlt)
        go_wp2
        go_still_tail 8, (by kernel_rfl)
        change wpList _ _ _ _ _ wr.drew
        by_cases hxy : x = y
        · have Hs := Lib.hid (show xs.take (k + 1) = ys.take (k + 1) by rw [mtake_at hx.out, mtake_at hy.out, Ht.out, hxy])
          have hr := Lib.hid (show decide (x = y) = true by rw [decide_eq_true_eq]; exact hxy)
          clear hxy
          go_wp2_with fail
          refine (eqMatrix_any x y _).mono ?_
          rintro e w2 ⟨rfl, hb2⟩
          rw [hr.out]
          have HB2 := Lib.hid (HB.out.drew.trans (hb2.mono HB.out.size))
          clear hb2
          go_wp2
          go_roundw
          case rel => exact ⟨k + 1, by omega, by go_num, HB2.out, Hs.out⟩
          case measure => simp [intOf]; omega
        · have HN : Hid (decide (xs = ys) = false) := by
            show _ = _
            rw [decide_eq_false_iff_not]
            intro e
            have h1 := hx.out
            rw [e, hy.out] at h1
            injection h1 with h1
            exact hxy h1.symm
          have hr := Lib.hid (show decide (x = y) = false by rw [decide_eq_false_iff_not]; exact hxy)
          clear hxy
          go_wp2_with fail
          refine (eqMatrix_any x y _).mono ?_
          rintro e w2 ⟨rfl, hb2⟩
          rw [hr.out]
          have HB2 := Lib.hid (HB.out.drew.trans (hb2.mono HB.out.size))
          clear hb2
          go_wp2
          go_ret
          exact ⟨ret_bool HN.out.symm, HB2.out⟩
      · have hkn : k = n := by omega
        subst hkn
        go_wp2
        go_ret
        have := Ht.out
        rw [mtake_all Hn.out, mtake_all Hm.out] at this
        exact ⟨ret_bool (by rw [eq_comm, decide_eq_true_eq]; exact this), HB.out⟩
  · have HN : Hid (decide (xs = ys) = false) := by
      show _ = _
      rw [decide_eq_false_iff_not]
      intro e
      rw [e, Hm.out] at Hn
      exact hnm Hn.out.symm
    have hb' : ((n : Int) != (m : Int)) = true := by rw [bne_iff_ne]; omega
    go_enter Try.func119, Try.ntmps119
    go_wp2
    go_ret
    exact ⟨ret_bool HN.out.symm, Below.refl _ _⟩
end Go.Proofs.Ythoepelgmplcmaa
