/-
  The model's MachineOk by contract. Conditions: lengths of at most 2^20.
-/
import Derived.Test.YthoepelgmplcmaaMchS
import Derived.Test.YthoepelgmplcmaaMchT
import Derived.Test.YthoepelgmplcmaaPkD
import Derived.Test.YthoepelgmplcmaaPkC
namespace Go.Proofs.Ythoepelgmplcmaa
open Go.RowKit
set_option linter.unusedVariables false

theorem machB_mag {X : Mch} (h : magB X.f X.ms = false) : machB X = false := by unfold machB; rw [h]; rfl
theorem machB_sp {X : Mch} (h : inB X.sp 0 60 = false) : machB X = false := by unfold machB; rw [h]; simp
theorem machB_ms {X : Mch} (h : msrB X.m = false) : machB X = false := by unfold machB; rw [good_no h]; simp
theorem machB_wl {X : Mch} (h : ¬ X.wt.length ≤ 240) : machB X = false := by unfold machB; rw [decide_eq_false h]; simp
theorem machB_wt {X : Mch} {j : Nat} {x : Mat} (hx : X.wt[j]? = some x) (h : matB X.f x = false) : machB X = false := by
  unfold machB; rw [mats_bad hx h]; simp
theorem machB_ln {X : Mch} {j : Nat} {x : Mat} (hx : X.ln[j]? = some x) (h : setM X.f x = false) : machB X = false := by
  unfold machB; rw [mats_bad hx h]; simp
theorem machB_fit {X : Mch} (h1 : magB X.f X.ms = true) (h2 : inB X.sp 0 60 = true) (h3 : msrB X.m = true) (h4 : X.wt.length ≤ 240) (h5 : X.wt.all (matB X.f) = true) (h6 : X.ln.all (setM X.f) = true) :
    machB X = fitsB X.m (itemsM X.f X.ln) := by
  unfold machB goodB
  rw [h1, h2, h3, h5, h6, decide_eq_true h4]
  cases hf : fitsB X.m (itemsM X.f X.ln)
  · simp
  · have : lineB (itemsM X.f X.ln) = true := by unfold fitsB at hf; rw [Bool.and_eq_true] at hf; exact hf.1
    have hl := (lineB_parts this).2
    rw [itemsM_len] at hl
    rw [decide_eq_true hl]; rfl
theorem set_hasWid {f : Fnt} {x : Mat} (hf : fontB f = true) (h : setM f x = true) : hasWid f x := by
  obtain ⟨e1, e2, _⟩ := fontB_codes hf
  unfold setM at h
  rw [Bool.or_eq_true] at h
  rcases h with h | h
  · unfold bandM at h
    rw [Bool.and_eq_true, beq_iff_eq] at h
    left; omega
  · unfold matB at h
    rw [Bool.and_eq_true] at h
    have := (inB_iff _ _ _).1 h.1
    right; omega
theorem magB_font {f : Fnt} {ms : List (List Mat)} (h : magB f ms = true) : fontB f = true := by unfold magB at h; rw [Bool.and_eq_true] at h; exact h.1

set_option maxRecDepth 100000 in
set_option maxHeartbeats 6400000 in
theorem specMachine_any (lo hi : Nat) (v : Value) (X : Mch) (w : World) (h : MchV w lo hi v X) (hhi : hi ≤ w.heap.size) (hs : SmallX X) :
    Calls Try.prog 33 #[v] w fun e w' => e = .returned (.bool (machB X)) ∧ Below w.heap.size w w' := by
  obtain ⟨s, A, n, c, A2, m, d, M, q, e0, L, l, lc, T, r, tc, rfl, hf, hq, hM, hqe, hem, hl, hL, hllc, hlm, hr, hT, hrt, htm⟩ := h.parts
  have Hq := Lib.hid hq; have Hl := Lib.hid hl; have Hr := Lib.hid hr; have HS := Lib.hid hs
  have hq1 : q ≤ 1048576 := by rw [← hq]; exact hs.ms
  have hl1 : l ≤ 1048576 := by rw [← hl]; exact hs.ln
  have hr1 : r ≤ 1048576 := by rw [← hr]; exact hs.wt
  obtain ⟨sp, hsp⟩ : ∃ x, X.sp = x := ⟨_, rfl⟩
  obtain ⟨W, hW⟩ : ∃ x, X.w = x := ⟨_, rfl⟩
  obtain ⟨t, ht⟩ : ∃ x, X.t = x := ⟨_, rfl⟩
  obtain ⟨k, hk⟩ : ∃ x, X.k = x := ⟨_, rfl⟩
  rw [hsp, hW, ht, hk] at h ⊢
  have HE : Hid (X.sp = sp ∧ X.m = ⟨W, t, k⟩) := ⟨hsp, by unfold Mch.m; rw [hW, ht, hk]⟩
  obtain ⟨w0, hw0, hb0, hz0, K0⟩ := mxWorld w #[.string s, .slice A n c, .slice A2 m d, .slice M q e0, .int .i64 sp, .int .i64 W, .int .i64 t, .int .i64 k, .slice L l lc, .slice T r tc] 61
  have T0 := Lib.hid hb0; have K0 := Lib.hid K0; have Z0 := Lib.hid hz0
  have F0 := Lib.hid (hf.below hhi hb0); have M0 := Lib.hid (hM.below hhi hb0); have L0 := Lib.hid (hL.below hhi hb0); have W0 := Lib.hid (hT.below hhi hb0)
  have z0 : w.heap.size < w0.heap.size := by omega
  clear h hf hq hM hqe hem hl hL hllc hlm hr hT hrt htm hsp hW ht hk hb0 hz0 hs
  obtain ⟨kc0, kc1, kc2, kc3, kc4, kc5, kc6, kc7, kc8, kc9⟩ := K0.out.ten
  cases hmg : magB X.f X.ms
  · have HR : Hid (machB X = false) := machB_mag hmg
    have HMg := Lib.hid hmg
    clear hmg
    go_enter Try.func33, Try.ntmps33
    go_wp2_with (first
        | (go_at_call 19; refine (specMagOk_any lo hi lo hi _ X.f _ _ _ X.ms w0 F0.out (by omega) HS.out.f Hq.out hq1 M0.out (by omega)).mono ?_; rintro e w1 ⟨he, hb⟩; rw [HMg.out] at he; subst he; have K1 := Lib.hid (K0.out.below hb (by omega)); have T1 := Lib.hid (T0.out.trans (hb.mono (by omega))); have z1 : w.heap.size < w1.heap.size := Nat.lt_of_lt_of_le z0 hb.size; have F1 := Lib.hid (F0.out.below (by omega) hb); have M1 := Lib.hid (M0.out.below (by omega) hb); have L1 := Lib.hid (L0.out.below (by omega) hb); have W1 := Lib.hid (W0.out.below (by omega) hb); clear hb kc0 kc1 kc2 kc3 kc4 kc5 kc6 kc7 kc8 kc9; clear hw0; obtain ⟨kc0, kc1, kc2, kc3, kc4, kc5, kc6, kc7, kc8, kc9⟩ := K1.out.ten))
    go_ret
    exact ⟨ret_bool HR.out.symm, T1.out⟩
  have HMg := Lib.hid hmg
  cases hsp : inB sp 0 60
  · have HR : Hid (machB X = false) := machB_sp (by rw [HE.out.1]; exact hsp)
    have HSp := Lib.hid hsp
    clear hsp hmg
    go_enter Try.func33, Try.ntmps33
    go_wp2_with (first
        | (go_at_call 19; refine (specMagOk_any lo hi lo hi _ X.f _ _ _ X.ms w0 F0.out (by omega) HS.out.f Hq.out hq1 M0.out (by omega)).mono ?_; rintro e w1 ⟨he, hb⟩; rw [HMg.out] at he; subst he; have K1 := Lib.hid (K0.out.below hb (by omega)); have T1 := Lib.hid (T0.out.trans (hb.mono (by omega))); have z1 : w.heap.size < w1.heap.size := Nat.lt_of_lt_of_le z0 hb.size; have F1 := Lib.hid (F0.out.below (by omega) hb); have M1 := Lib.hid (M0.out.below (by omega) hb); have L1 := Lib.hid (L0.out.below (by omega) hb); have W1 := Lib.hid (W0.out.below (by omega) hb); clear hb kc0 kc1 kc2 kc3 kc4 kc5 kc6 kc7 kc8 kc9; clear hw0; obtain ⟨kc0, kc1, kc2, kc3, kc4, kc5, kc6, kc7, kc8, kc9⟩ := K1.out.ten)
        | (go_at_call 80; refine (l1In_any _ _ _ _).mono ?_; rintro e w1' ⟨he, rfl⟩; rw [HSp.out] at he; subst he))
    go_ret
    exact ⟨ret_bool HR.out.symm, T1.out⟩
  have HSp := Lib.hid hsp
  cases hms : msrB ⟨W, t, k⟩
  · have HR : Hid (machB X = false) := machB_ms (by rw [HE.out.2]; exact hms)
    have HMs := Lib.hid hms
    clear hsp hmg hms
    go_enter Try.func33, Try.ntmps33
    go_wp2_with (first
        | (go_at_call 19; refine (specMagOk_any lo hi lo hi _ X.f _ _ _ X.ms w0 F0.out (by omega) HS.out.f Hq.out hq1 M0.out (by omega)).mono ?_; rintro e w1 ⟨he, hb⟩; rw [HMg.out] at he; subst he; have K1 := Lib.hid (K0.out.below hb (by omega)); have T1 := Lib.hid (T0.out.trans (hb.mono (by omega))); have z1 : w.heap.size < w1.heap.size := Nat.lt_of_lt_of_le z0 hb.size; have F1 := Lib.hid (F0.out.below (by omega) hb); have M1 := Lib.hid (M0.out.below (by omega) hb); have L1 := Lib.hid (L0.out.below (by omega) hb); have W1 := Lib.hid (W0.out.below (by omega) hb); clear hb kc0 kc1 kc2 kc3 kc4 kc5 kc6 kc7 kc8 kc9; clear hw0; obtain ⟨kc0, kc1, kc2, kc3, kc4, kc5, kc6, kc7, kc8, kc9⟩ := K1.out.ten)
        | (go_at_call 80; refine (l1In_any _ _ _ _).mono ?_; rintro e w1' ⟨he, rfl⟩; rw [HSp.out] at he; subst he)
        | (go_at_call 105; refine (specMeasureOk_any W t k w1).mono ?_; rintro e w2 ⟨he, hb⟩; rw [HMs.out] at he; subst he; have K2 := Lib.hid (K1.out.below hb (by omega)); have T2 := Lib.hid (T1.out.trans (hb.mono (by omega))); have z2 : w.heap.size < w2.heap.size := Nat.lt_of_lt_of_le z1 hb.size; have F2 := Lib.hid (F1.out.below (by omega) hb); have M2 := Lib.hid (M1.out.below (by omega) hb); have L2 := Lib.hid (L1.out.below (by omega) hb); have W2 := Lib.hid (W1.out.below (by omega) hb); clear hb kc0 kc1 kc2 kc3 kc4 kc5 kc6 kc7 kc8 kc9; obtain ⟨kc0, kc1, kc2, kc3, kc4, kc5, kc6, kc7, kc8, kc9⟩ := K2.out.ten))
    go_ret
    exact ⟨ret_bool HR.out.symm, T2.out⟩
  have HMs := Lib.hid hms
  by_cases hwl : 240 < r
  · have HR : Hid (machB X = false) := machB_wl (by rw [Hr.out]; omega)
    have g1 : decide (240 < (r : Int)) = true := decide_eq_true (by omega)
    clear hsp hmg hms hwl
    go_enter Try.func33, Try.ntmps33
    go_wp2_with (first
        | (go_at_call 19; refine (specMagOk_any lo hi lo hi _ X.f _ _ _ X.ms w0 F0.out (by omega) HS.out.f Hq.out hq1 M0.out (by omega)).mono ?_; rintro e w1 ⟨he, hb⟩; rw [HMg.out] at he; subst he; have K1 := Lib.hid (K0.out.below hb (by omega)); have T1 := Lib.hid (T0.out.trans (hb.mono (by omega))); have z1 : w.heap.size < w1.heap.size := Nat.lt_of_lt_of_le z0 hb.size; have F1 := Lib.hid (F0.out.below (by omega) hb); have M1 := Lib.hid (M0.out.below (by omega) hb); have L1 := Lib.hid (L0.out.below (by omega) hb); have W1 := Lib.hid (W0.out.below (by omega) hb); clear hb kc0 kc1 kc2 kc3 kc4 kc5 kc6 kc7 kc8 kc9; clear hw0; obtain ⟨kc0, kc1, kc2, kc3, kc4, kc5, kc6, kc7, kc8, kc9⟩ := K1.out.ten)
        | (go_at_call 80; refine (l1In_any _ _ _ _).mono ?_; rintro e w1' ⟨he, rfl⟩; rw [HSp.out] at he; subst he)
        | (go_at_call 105; refine (specMeasureOk_any W t k w1).mono ?_; rintro e w2 ⟨he, hb⟩; rw [HMs.out] at he; subst he; have K2 := Lib.hid (K1.out.below hb (by omega)); have T2 := Lib.hid (T1.out.trans (hb.mono (by omega))); have z2 : w.heap.size < w2.heap.size := Nat.lt_of_lt_of_le z1 hb.size; have F2 := Lib.hid (F1.out.below (by omega) hb); have M2 := Lib.hid (M1.out.below (by omega) hb); have L2 := Lib.hid (L1.out.below (by omega) hb); have W2 := Lib.hid (W1.out.below (by omega) hb); clear hb kc0 kc1 kc2 kc3 kc4 kc5 kc6 kc7 kc8 kc9; obtain ⟨kc0, kc1, kc2, kc3, kc4, kc5, kc6, kc7, kc8, kc9⟩ := K2.out.ten))
    go_ret
    exact ⟨ret_bool HR.out.symm, T2.out⟩
  have g1 : decide (240 < (r : Int)) = false := decide_eq_false (by omega)
  have HF := Lib.hid (magB_font hmg)
  have HWl : Hid (X.wt.length ≤ 240) := by show _ ≤ _; rw [Hr.out]; omega
  clear hsp hmg hms
  go_enter Try.func33, Try.ntmps33
  go_wp2_with (first
      | (go_at_call 19; refine (specMagOk_any lo hi lo hi _ X.f _ _ _ X.ms w0 F0.out (by omega) HS.out.f Hq.out hq1 M0.out (by omega)).mono ?_; rintro e w1 ⟨he, hb⟩; rw [HMg.out] at he; subst he; have K1 := Lib.hid (K0.out.below hb (by omega)); have T1 := Lib.hid (T0.out.trans (hb.mono (by omega))); have z1 : w.heap.size < w1.heap.size := Nat.lt_of_lt_of_le z0 hb.size; have F1 := Lib.hid (F0.out.below (by omega) hb); have M1 := Lib.hid (M0.out.below (by omega) hb); have L1 := Lib.hid (L0.out.below (by omega) hb); have W1 := Lib.hid (W0.out.below (by omega) hb); clear hb kc0 kc1 kc2 kc3 kc4 kc5 kc6 kc7 kc8 kc9; clear hw0; obtain ⟨kc0, kc1, kc2, kc3, kc4, kc5, kc6, kc7, kc8, kc9⟩ := K1.out.ten)
      | (go_at_call 80; refine (l1In_any _ _ _ _).mono ?_; rintro e w1' ⟨he, rfl⟩; rw [HSp.out] at he; subst he)
      | (go_at_call 105; refine (specMeasureOk_any W t k w1).mono ?_; rintro e w2 ⟨he, hb⟩; rw [HMs.out] at he; subst he; have K2 := Lib.hid (K1.out.below hb (by omega)); have T2 := Lib.hid (T1.out.trans (hb.mono (by omega))); have z2 : w.heap.size < w2.heap.size := Nat.lt_of_lt_of_le z1 hb.size; have F2 := Lib.hid (F1.out.below (by omega) hb); have M2 := Lib.hid (M1.out.below (by omega) hb); have L2 := Lib.hid (L1.out.below (by omega) hb); have W2 := Lib.hid (W1.out.below (by omega) hb); clear hb kc0 kc1 kc2 kc3 kc4 kc5 kc6 kc7 kc8 kc9; obtain ⟨kc0, kc1, kc2, kc3, kc4, kc5, kc6, kc7, kc8, kc9⟩ := K2.out.ten))
  have s2 := z2
  clear kc0 kc1 kc2 kc3 kc4 kc5 kc6 kc7 kc8 kc9 g1
  go_loopw [34] (fun i wr => ∃ j : Nat, j ≤ l ∧ i = .int .i64 j ∧ Below w2.heap.size w2 wr ∧ (X.ln.take j).all (setM X.f) = true) (fun i _ => l - (intOf i).toNat)
  case atStart => exact ⟨0, Nat.zero_le _, rfl, Below.refl _ _, rfl⟩
  case round =>
    obtain ⟨j, hj, rfl, hb, hall⟩ := hrel
    have HB := Lib.hid hb; have Hall := Lib.hid hall
    have zr := hb.size
    clear hb hall
    by_cases hlt : j < l
    · obtain ⟨ad, x, rfl, hx, d1, e1⟩ := (L2.out.below (by omega) HB.out).at_ (k := j) (by rw [Hl.out]; exact hlt)
      obtain ⟨a, b⟩ := x
      simp only at d1 e1
      obtain ⟨wm, hwm⟩ : ∃ y, wr.alloc (.cells #[.int .i64 a, .int .i64 b] 34) = y := ⟨_, rfl⟩
      have bk : Blk wm wr.heap.size #[.int .i64 a, .int .i64 b] 34 := by rw [← hwm]; exact Blk.new _ _ _
      have bm : Below wr.heap.size wr wm := by rw [← hwm]; exact (Below.refl _ _).alloc (Nat.le_refl _) _
      have HBm := Lib.hid (HB.out.trans (bm.mono zr)); have zm : wr.heap.size < wm.heap.size := bk.lt
      have m0 : wm.cell? ⟨wr.heap.size, 0, none⟩ = some (.int .i64 a) := cellOfBlk bk 0
      have m1 : wm.cell? ⟨wr.heap.size, 1, none⟩ = some (.int .i64 b) := cellOfBlk bk 1
      have BK := Lib.hid bk
      have Fm := Lib.hid (F2.out.below (by omega) HBm.out); have Km := Lib.hid (K2.out.below HBm.out (by omega))
      obtain ⟨kc0, kc1, kc2, kc3, kc4, kc5, kc6, kc7, kc8, kc9⟩ := Km.out.ten
      clear bk bm
      cases hmb : matB X.f (a, b)
      · by_cases ha : a = -1
        · have g2 : (a != -1) = false := by rw [bne_eq_false_iff_eq]; exact ha
          by_cases hb0 : b = 0
          · have g3 : (b != 0) = false := by rw [bne_eq_false_iff_eq]; exact hb0
            have HA := Lib.hid (show (X.ln.take (j + 1)).all (setM X.f) = true by rw [mats_all hx.out, Hall.out]; unfold setM bandM; rw [ha, hb0]; rfl)
            have HMb := Lib.hid hmb
            clear hmb ha hb0
            go_wp2_with (go_at_call 89; refine (l2Matrix_any lo hi _ X.f (a, b) wm Fm.out (by omega) HS.out.f HF.out).mono ?_; rintro e w3 ⟨he, hbb⟩; rw [HMb.out] at he; subst he; have HB3 := Lib.hid (HBm.out.trans (hbb.mono (by omega))); have bk3 := BK.out.below hbb zm; have m0' : w3.cell? ⟨wr.heap.size, 0, none⟩ = some (.int .i64 a) := cellOfBlk bk3 0; have m1' : w3.cell? ⟨wr.heap.size, 1, none⟩ = some (.int .i64 b) := cellOfBlk bk3 1; clear hbb bk3 m0 m1 hwm kc0 kc1 kc2 kc3 kc4 kc5 kc6 kc7 kc8 kc9)
            go_roundw
            case rel => exact ⟨j + 1, by omega, by go_num, HB3.out, HA.out⟩
            case measure => simp [intOf]; omega
          · have HR : Hid (machB X = false) := machB_ln hx.out (by unfold setM bandM; rw [hmb]; simp; intro _; exact hb0)
            have g3 : (b != 0) = true := by rw [bne_iff_ne]; exact hb0
            have HMb := Lib.hid hmb
            clear hmb ha hb0
            go_wp2_with (go_at_call 89; refine (l2Matrix_any lo hi _ X.f (a, b) wm Fm.out (by omega) HS.out.f HF.out).mono ?_; rintro e w3 ⟨he, hbb⟩; rw [HMb.out] at he; subst he; have HB3 := Lib.hid (HBm.out.trans (hbb.mono (by omega))); have bk3 := BK.out.below hbb zm; have m0' : w3.cell? ⟨wr.heap.size, 0, none⟩ = some (.int .i64 a) := cellOfBlk bk3 0; have m1' : w3.cell? ⟨wr.heap.size, 1, none⟩ = some (.int .i64 b) := cellOfBlk bk3 1; clear hbb bk3 m0 m1 hwm kc0 kc1 kc2 kc3 kc4 kc5 kc6 kc7 kc8 kc9)
            go_ret
            exact ⟨ret_bool HR.out.symm, T2.out.trans (HB3.out.mono (by omega))⟩
        · have HR : Hid (machB X = false) := machB_ln hx.out (by unfold setM bandM; rw [hmb]; simp; intro h; exact absurd h ha)
          have g2 : (a != -1) = true := by rw [bne_iff_ne]; exact ha
          have HMb := Lib.hid hmb
          clear hmb ha
          go_wp2_with (go_at_call 89; refine (l2Matrix_any lo hi _ X.f (a, b) wm Fm.out (by omega) HS.out.f HF.out).mono ?_; rintro e w3 ⟨he, hbb⟩; rw [HMb.out] at he; subst he; have HB3 := Lib.hid (HBm.out.trans (hbb.mono (by omega))); have bk3 := BK.out.below hbb zm; have m0' : w3.cell? ⟨wr.heap.size, 0, none⟩ = some (.int .i64 a) := cellOfBlk bk3 0; have m1' : w3.cell? ⟨wr.heap.size, 1, none⟩ = some (.int .i64 b) := cellOfBlk bk3 1; clear hbb bk3 m0 m1 hwm kc0 kc1 kc2 kc3 kc4 kc5 kc6 kc7 kc8 kc9)
          go_ret
          exact ⟨ret_bool HR.out.symm, T2.out.trans (HB3.out.mono (by omega))⟩
      · have HA := Lib.hid (show (X.ln.take (j + 1)).all (setM X.f) = true by rw [mats_all hx.out, Hall.out]; unfold setM; rw [hmb]; simp)
        have HMb := Lib.hid hmb
        clear hmb
        go_wp2_with (go_at_call 89; refine (l2Matrix_any lo hi _ X.f (a, b) wm Fm.out (by omega) HS.out.f HF.out).mono ?_; rintro e w3 ⟨he, hbb⟩; rw [HMb.out] at he; subst he; have HB3 := Lib.hid (HBm.out.trans (hbb.mono (by omega))); have bk3 := BK.out.below hbb zm; have m0' : w3.cell? ⟨wr.heap.size, 0, none⟩ = some (.int .i64 a) := cellOfBlk bk3 0; have m1' : w3.cell? ⟨wr.heap.size, 1, none⟩ = some (.int .i64 b) := cellOfBlk bk3 1; clear hbb bk3 m0 m1 hwm kc0 kc1 kc2 kc3 kc4 kc5 kc6 kc7 kc8 kc9)
        go_roundw
        case rel => exact ⟨j + 1, by omega, by go_num, HB3.out, HA.out⟩
        case measure => simp [intOf]; omega
    · obtain ⟨l2, hl2⟩ : ∃ x, x = j := ⟨_, rfl⟩
      subst hl2
      obtain rfl : l2 = l := by omega
      obtain ⟨wq, hwq⟩ : ∃ x, x = wr := ⟨_, rfl⟩
      subst hwq
      have HLn : Hid (X.ln.all (setM X.f) = true) := by have := Hall.out; rwa [mtake_all Hl.out] at this
      have K3 := Lib.hid (K2.out.below HB.out (by omega)); have T3 := Lib.hid (T2.out.trans (HB.out.mono (by omega)))
      have F3 := Lib.hid (F2.out.below (by omega) HB.out); have L3 := Lib.hid (L2.out.below (by omega) HB.out); have W3 := Lib.hid (W2.out.below (by omega) HB.out)
      have z3 : w.heap.size < wq.heap.size := by omega
      clear Hall HB K2 T2 F2 L2 W2 M2
      obtain ⟨kc0, kc1, kc2, kc3, kc4, kc5, kc6, kc7, kc8, kc9⟩ := K3.out.ten
      go_wp2
      clear kc0 kc1 kc2 kc3 kc4 kc5 kc6 kc7 kc8 kc9
      go_loopw [57] (fun i wr => ∃ j : Nat, j ≤ r ∧ i = .int .i64 j ∧ Below wq.heap.size wq wr ∧ (X.wt.take j).all (matB X.f) = true) (fun i _ => r - (intOf i).toNat)
      case atStart => exact ⟨0, Nat.zero_le _, rfl, Below.refl _ _, rfl⟩
      case round =>
        obtain ⟨j, hj, rfl, hb, hall⟩ := hrel
        have HB := Lib.hid hb; have Hall := Lib.hid hall
        have zs := hb.size
        clear hb hall
        by_cases hlt : j < r
        · obtain ⟨ad, x, rfl, hx, d1, e1⟩ := (W3.out.below (by omega) HB.out).at_ (k := j) (by rw [Hr.out]; exact hlt)
          obtain ⟨a, b⟩ := x
          simp only at d1 e1
          obtain ⟨wm, hwm⟩ : ∃ y, wr.alloc (.cells #[.int .i64 a, .int .i64 b] 34) = y := ⟨_, rfl⟩
          have bk : Blk wm wr.heap.size #[.int .i64 a, .int .i64 b] 34 := by rw [← hwm]; exact Blk.new _ _ _
          have bm : Below wr.heap.size wr wm := by rw [← hwm]; exact (Below.refl _ _).alloc (Nat.le_refl _) _
          have HBm := Lib.hid (HB.out.trans (bm.mono zs)); have zm : wr.heap.size < wm.heap.size := bk.lt
          have m0 : wm.cell? ⟨wr.heap.size, 0, none⟩ = some (.int .i64 a) := cellOfBlk bk 0
          have m1 : wm.cell? ⟨wr.heap.size, 1, none⟩ = some (.int .i64 b) := cellOfBlk bk 1
          have BK := Lib.hid bk
          have Fm := Lib.hid (F3.out.below (by omega) HBm.out); have Km := Lib.hid (K3.out.below HBm.out (by omega))
          obtain ⟨kc0, kc1, kc2, kc3, kc4, kc5, kc6, kc7, kc8, kc9⟩ := Km.out.ten
          clear bk bm
          cases hmb : matB X.f (a, b)
          · have HR : Hid (machB X = false) := machB_wt hx.out hmb
            have HMb := Lib.hid hmb
            clear hmb
            go_wp2_with (go_at_call 89; refine (l2Matrix_any lo hi _ X.f (a, b) wm Fm.out (by omega) HS.out.f HF.out).mono ?_; rintro e w3 ⟨he, hbb⟩; rw [HMb.out] at he; subst he; have HB3 := Lib.hid (HBm.out.trans (hbb.mono (by omega))); have bk3 := BK.out.below hbb zm; have m0' : w3.cell? ⟨wr.heap.size, 0, none⟩ = some (.int .i64 a) := cellOfBlk bk3 0; have m1' : w3.cell? ⟨wr.heap.size, 1, none⟩ = some (.int .i64 b) := cellOfBlk bk3 1; clear hbb bk3 m0 m1 hwm kc0 kc1 kc2 kc3 kc4 kc5 kc6 kc7 kc8 kc9)
            go_ret
            exact ⟨ret_bool HR.out.symm, T3.out.trans (HB3.out.mono (by omega))⟩
          · have HA := Lib.hid (show (X.wt.take (j + 1)).all (matB X.f) = true by rw [mats_all hx.out, Hall.out, hmb]; rfl)
            have HMb := Lib.hid hmb
            clear hmb
            go_wp2_with (go_at_call 89; refine (l2Matrix_any lo hi _ X.f (a, b) wm Fm.out (by omega) HS.out.f HF.out).mono ?_; rintro e w3 ⟨he, hbb⟩; rw [HMb.out] at he; subst he; have HB3 := Lib.hid (HBm.out.trans (hbb.mono (by omega))); have bk3 := BK.out.below hbb zm; have m0' : w3.cell? ⟨wr.heap.size, 0, none⟩ = some (.int .i64 a) := cellOfBlk bk3 0; have m1' : w3.cell? ⟨wr.heap.size, 1, none⟩ = some (.int .i64 b) := cellOfBlk bk3 1; clear hbb bk3 m0 m1 hwm kc0 kc1 kc2 kc3 kc4 kc5 kc6 kc7 kc8 kc9)
            go_roundw
            case rel => exact ⟨j + 1, by omega, by go_num, HB3.out, HA.out⟩
            case measure => simp [intOf]; omega
        · obtain rfl : j = r := by omega
          have HWt : Hid (X.wt.all (matB X.f) = true) := by have := Hall.out; rwa [mtake_all Hr.out] at this
          have HRes := Lib.hid (machB_fit HMg.out (by rw [HE.out.1]; exact HSp.out) (by rw [HE.out.2]; exact HMs.out) HWl.out HWt.out HLn.out)
          rw [HE.out.2] at HRes
          have K4 := Lib.hid (K3.out.below HB.out (by omega)); have T4 := Lib.hid (T3.out.trans (HB.out.mono (by omega)))
          have F4 := Lib.hid (F3.out.below (by omega) HB.out); have L4 := Lib.hid (L3.out.below (by omega) HB.out)
          have z4 : w.heap.size < wr.heap.size := by omega
          have HW2 : Hid (∀ x ∈ X.ln, hasWid X.f x) := fun x hx => set_hasWid HF.out (List.all_eq_true.1 HLn.out x hx)
          clear Hall HB K3 T3 F3 L3 W3
          obtain ⟨kc0, kc1, kc2, kc3, kc4, kc5, kc6, kc7, kc8, kc9⟩ := K4.out.ten
          go_wp2
          refine wp_region_plan (.take 0 (.take 1 (.take 2 (.take 3 (.take 4 (.take 5 (.one 6 (.one 7 (.one 8 .done))))))))) (fun w' => w'.cell? ⟨w.heap.size, 0, none⟩ = some (.string s) ∧ w'.cell? ⟨w.heap.size, 1, none⟩ = some (.slice A n c) ∧ w'.cell? ⟨w.heap.size, 2, none⟩ = some (.slice A2 m d) ∧ w'.cell? ⟨w.heap.size, 5, none⟩ = some (.int .i64 W) ∧ w'.cell? ⟨w.heap.size, 6, none⟩ = some (.int .i64 t) ∧ w'.cell? ⟨w.heap.size, 7, none⟩ = some (.int .i64 k) ∧ w'.cell? ⟨w.heap.size, 8, none⟩ = some (.slice L l2 lc)) (by kernel_rfl) (by kernel_rfl) (by kernel_rfl) (by intro c a d v w h; cases d <;> exact h) ⟨kc0, kc1, kc2, kc5, kc6, kc7, kc8⟩ ?_
          iterate 6 (refine plan_quiet rfl (by rfl) (v := ?_) ?_ ?_; rotate_left; (intro w1 hSw; (try dsimp only at hSw); go_simp; try (with_reducible rfl)); (try simp only [Act.put, List.setIfInBounds_toArray, List.set_cons_zero, List.set_cons_succ]))
          clear kc0 kc1 kc2 kc3 kc4 kc5 kc6 kc7 kc8 kc9
          refine plan_step rfl (fun K hK => ?_)
          rw [if_pos (by rfl)]
          go_simp
          refine (l5Items_any lo hi lo hi _ X.f _ _ _ X.ln _ (FontV.keep (w' := wr.drew) F4.out (fun p _ _ => rfl)) (by show hi ≤ wr.heap.size; omega) Hl.out hl1 (MatsI.keep (w' := wr.drew) L4.out (fun p _ _ => rfl)) (by show hi ≤ wr.heap.size; omega) HW2.out).mono ?_
          rintro e w5 ⟨u, rfl, hO, hb⟩
          have hb5 : Below wr.heap.size wr w5 := undrew hb
          have O5 : Own w5 wr.heap.size u (itemsM X.f X.ln) := hO
          obtain ⟨U, uc, rfl, hI5, -, huc, hum⟩ := O5.form
          have K5 := Lib.hid (K4.out.below hb5 z4); have T5 := Lib.hid (T4.out.trans (hb5.mono (by omega))); have I5 := Lib.hid hI5
          have hul : (itemsM X.f X.ln).length ≤ maxLen := by rw [itemsM_len, Hl.out]; unfold maxLen; omega
          have z5 : w.heap.size < w5.heap.size := Nat.lt_of_lt_of_le z4 hb5.size
          clear hb hb5 hO O5 hI5
          obtain ⟨kc0, kc1, kc2, kc3, kc4, kc5, kc6, kc7, kc8, kc9⟩ := K5.out.ten
          refine hK.out _ _ ⟨kc0, kc1, kc2, kc5, kc6, kc7, kc8⟩ ?_
          clear hK K kc0 kc1 kc2 kc3 kc4 kc5 kc6 kc7 kc8 kc9
          refine plan_step rfl (fun K hK => ?_)
          rw [if_pos (by rfl)]
          go_simp
          refine (l3Fits_any W t k _ _ _ (itemsM X.f X.ln) w5 HMs.out rfl hul I5.out).mono ?_
          rintro e w6 ⟨rfl, hb⟩
          have K6 := Lib.hid (K5.out.below hb z5); have T6 := Lib.hid (T5.out.trans (hb.mono (by omega)))
          clear hb
          obtain ⟨kc0, kc1, kc2, kc3, kc4, kc5, kc6, kc7, kc8, kc9⟩ := K6.out.ten
          refine hK.out _ _ ⟨kc0, kc1, kc2, kc5, kc6, kc7, kc8⟩ ?_
          clear hK K
          refine plan_step rfl (fun K hK => ?_)
          rw [if_pos (by rfl)]
          go_simp
          refine hK.out _ _ ⟨kc0, kc1, kc2, kc5, kc6, kc7, kc8⟩ ?_
          clear hK K
          refine plan_end ?_
          go_wp2
          go_ret
          exact ⟨ret_bool HRes.out.symm, T6.out⟩
end Go.Proofs.Ythoepelgmplcmaa
