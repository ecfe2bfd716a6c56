/-
  FnSpread: its walk. No condition.
-/
import Derived.Test.YtjfckplogjekaaaLater
namespace Go.Proofs.Ytjfckplogjekaaa
open Go.RowKit
set_option linter.unusedVariables false

theorem sfull_no {m : Msr} {zs : List Int} (h : goodB m zs = false) : fullB m zs = false := by unfold fullB; rw [h]; rfl
theorem sfull_is {m : Msr} {zs : List Int} (h : goodB m zs = true) : fullB m zs = fullL m zs := by unfold fullB; rw [h]; rfl
theorem rest_is {m : Msr} {zs : List Int} : restL m zs = m.w - (sumL zs + (bandsN zs : Int) * (m.t + riseL m zs)) := rfl
theorem fullL_is {m : Msr} {zs : List Int} : fullL m zs = (restL m zs == 0 || decide (restL m zs < bandsN zs)) := rfl

set_option maxRecDepth 100000 in
set_option maxHeartbeats 1600000 in
theorem fnSpread_walk (A : Option Addr) (n c : Nat) (bs : List Int) (w : World) (hn : bs.length = n) (hm : n ≤ maxLen) (h : Bytes w A bs) (wf : ∀ z ∈ bs, (Lit.int .u8 z).wf = true) :
    Calls Try.prog 3 #[.slice A n c] w fun e w' => e = .returned (.bool true) ∧ Below w.heap.size w w' := by
  have H := Lib.hid h; have Hn := Lib.hid hn; have Hwf := Lib.hid wf
  clear h hn wf
  have hm0 := hm
  unfold maxLen at hm
  by_cases hbig : 1048576 < n
  · go_enter Try.func3, Try.ntmps3
    go_wp2
    go_ret
    exact ⟨rfl, Below.refl _ _⟩
  go_enter Try.func3, Try.ntmps3
  go_wp2_with fail
  refine (drawIsFull_any _ _ _ bs _ Hn.out hm0 H.out Hwf.out).mono ?_
  rintro e w1 ⟨W, t, k, gb, m, c1, zs, rfl, hl, hm1, hmc, hcm, hO1, hb1⟩
  have I1 := Lib.hid (IntsB.of (own_ints1 hO1)); have Hl := Lib.hid hl; have T1 := Lib.hid hb1
  have z1 := hb1.size
  have hm2 : m ≤ maxLen := by unfold maxLen; omega
  clear hO1 hl hb1 hcm
  obtain ⟨wa, hwa⟩ : ∃ wa, w1.alloc (.cells #[.int .i64 W, .int .i64 t, .int .i64 k] 24) = wa := ⟨_, rfl⟩
  have hb2 : Below w1.heap.size w1 wa := by rw [← hwa]; exact below_new _ _
  have Pa : Hid (wa.cell? ⟨w1.heap.size, 0, none⟩ = some (.int .i64 W) ∧ wa.cell? ⟨w1.heap.size, 1, none⟩ = some (.int .i64 t) ∧ wa.cell? ⟨w1.heap.size, 2, none⟩ = some (.int .i64 k)) := by show _ ∧ _; rw [← hwa]; exact lay3 w1 _ _ _ _
  have za : w1.heap.size < wa.heap.size := by rw [← hwa]; simp
  have Ia := Lib.hid (I1.out.keep (Nat.le_refl _) hb2); have Ta := Lib.hid (T1.out.trans (hb2.mono z1))
  clear hb2 I1 T1
  obtain ⟨p0, p1, p2⟩ := Pa.out
  cases hg : goodB ⟨W, t, k⟩ zs
  · skip
    go_wp2_with fail
    clear hwa
    have hq := implSpread_any W t k _ m c1 zs _ Hl.out hm2 Ia.out.ints
    rw [hg] at hq
    refine hq.mono ?_
    clear hq p0 p1 p2
    rintro e wb ⟨rfl, hb⟩
    have Pb := Lib.hid (hold3 hb za Pa.out)
    have Ib := Lib.hid (Ia.out.keep (by omega) hb)
    have Tb := Lib.hid (Ta.out.trans (hb.mono (B' := w.heap.size) (by omega)))
    have zb : w1.heap.size < wb.heap.size := Nat.lt_of_lt_of_le za hb.size
    have yb := hb.size
    clear hb Pa Ia Ta 
    have hu := sfull_no hg
    have c0 : ∀ x : Later wb, x.at_.cell? ⟨w1.heap.size, 0, none⟩ = some (.int .i64 W) := fun x => (hold3 x.bel zb Pb.out).1
    have c1 : ∀ x : Later wb, x.at_.cell? ⟨w1.heap.size, 1, none⟩ = some (.int .i64 t) := fun x => (hold3 x.bel zb Pb.out).2.1
    have c2 : ∀ x : Later wb, x.at_.cell? ⟨w1.heap.size, 2, none⟩ = some (.int .i64 k) := fun x => (hold3 x.bel zb Pb.out).2.2
    cases hms : msrB ⟨W, t, k⟩
    · skip
      go_wp2_with fail
      refine wp_region_class (C := fun w' => ∃ x : Later wb, w' = x.at_) (by kernel_rfl) (by kernel_rfl) ⟨⟨_, Below.drew (Below.refl _ wb)⟩, rfl⟩ ?_
      repeat (go_big_quiet_step ((first
          | (go_at_call 21; refine full_later Hl.out hm2 Ib.out (by omega) hu _)
          | (go_at_call 22; refine band_later Hl.out hm2 Ib.out (by omega) hg _)
          | (go_at_call 23; refine places_later Hl.out hm2 Ib.out (by omega) hg _)
          | (go_at_call 24; refine msk_later hms _))))
      refine wpQuiet_nil ?_
      rintro w4 ⟨⟨w4, hw4⟩, rfl⟩
      have Tc := Lib.hid (Tb.out.trans (hw4.mono (B' := w.heap.size) (by omega)))
      clear hw4
      go_wp2
      go_ret
      exact ⟨rfl, Tc.out⟩
    cases hli : lineB zs
    · skip
      go_wp2_with fail
      refine wp_region_class (C := fun w' => ∃ x : Later wb, w' = x.at_) (by kernel_rfl) (by kernel_rfl) ⟨⟨_, Below.drew (Below.refl _ wb)⟩, rfl⟩ ?_
      repeat (go_big_quiet_step ((first
          | (go_at_call 21; refine full_later Hl.out hm2 Ib.out (by omega) hu _)
          | (go_at_call 22; refine band_later Hl.out hm2 Ib.out (by omega) hg _)
          | (go_at_call 23; refine places_later Hl.out hm2 Ib.out (by omega) hg _)
          | (go_at_call 24; refine msk_later hms _)
          | (go_at_call 25; refine lok_later Hl.out hm2 Ib.out (by omega) hli _))))
      refine wpQuiet_nil ?_
      rintro w4 ⟨⟨w4, hw4⟩, rfl⟩
      have Tc := Lib.hid (Tb.out.trans (hw4.mono (B' := w.heap.size) (by omega)))
      clear hw4
      go_wp2
      go_ret
      exact ⟨rfl, Tc.out⟩
    obtain ⟨s0, s1, s2⟩ := lineB_sum hli
    have q1 := msrB_iff.1 hms
    simp only at q1
    have q2 : ¬ sumL zs + (bandsN zs : Int) * t ≤ W := fun h => by
      unfold goodB fitsB fitL widL widF at hg
      simp only at hg
      rw [hms, hli, decide_eq_true h] at hg
      cases hg
    have q3 := mul_small (B := bandsN zs) (e := t) (by omega) (by omega) (by omega) (by omega)
    have v1 : IntKind.i64.wrap ((bandsN zs : Int) * t) = (bandsN zs : Int) * t := by rw [IntKind.wrap_i64]; omega
    have v2 : IntKind.i64.wrap (sumL zs + (bandsN zs : Int) * t) = sumL zs + (bandsN zs : Int) * t := by rw [IntKind.wrap_i64]; omega
    have v3 : decide (W < sumL zs + (bandsN zs : Int) * t) = true := decide_eq_true (by omega)
    clear q1 q2 q3 s0 s1 s2
    go_wp2_with fail
    refine wp_region_class (C := fun w' => ∃ x : Later wb, w' = x.at_) (by kernel_rfl) (by kernel_rfl) ⟨⟨_, Below.drew (Below.refl _ wb)⟩, rfl⟩ ?_
    repeat (go_big_quiet_step ((first
        | (go_at_call 21; refine full_later Hl.out hm2 Ib.out (by omega) hu _)
        | (go_at_call 22; refine band_later Hl.out hm2 Ib.out (by omega) hg _)
        | (go_at_call 23; refine places_later Hl.out hm2 Ib.out (by omega) hg _)
        | (go_at_call 24; refine msk_later hms _)
        | (go_at_call 25; refine lok_later Hl.out hm2 Ib.out (by omega) hli _)
        | (go_at_call 26; refine total_later Hl.out Ib.out (by omega) hli _)
        | (go_at_call 27; refine count_later Hl.out hm2 Ib.out (by omega) _))))
    refine wpQuiet_nil ?_
    rintro w4 ⟨⟨w4, hw4⟩, rfl⟩
    have Tc := Lib.hid (Tb.out.trans (hw4.mono (B' := w.heap.size) (by omega)))
    clear hw4
    go_wp2
    go_ret
    exact ⟨rfl, Tc.out⟩
  have hE := spr_is hg
  obtain ⟨hms, hli, _⟩ := goodB_parts hg
  go_wp2_with fail
  clear hwa
  have hq := implSpread_any W t k _ m c1 zs _ Hl.out hm2 Ia.out.ints
  rw [hE.1, hE.2, hg] at hq
  refine hq.mono ?_
  clear hq p0 p1 p2
  rintro e wb ⟨rfl, hb⟩
  have Pb := Lib.hid (hold3 hb za Pa.out)
  have Ib := Lib.hid (Ia.out.keep (by omega) hb)
  have Tb := Lib.hid (Ta.out.trans (hb.mono (B' := w.heap.size) (by omega)))
  have zb : w1.heap.size < wb.heap.size := Nat.lt_of_lt_of_le za hb.size
  have yb := hb.size
  clear hb Pa Ia Ta 
  have q1 := msrB_iff.1 hms
  obtain ⟨r1, r2, r3, r4, r5⟩ := rise_spec hg
  have HR5 := Lib.hid r5
  have HF := Lib.hid (sfull_is hg)
  have HRest : Hid (restL ⟨W, t, k⟩ zs = W - (sumL zs + (bandsN zs : Int) * (t + riseL ⟨W, t, k⟩ zs))) := rest_is
  have HFL := Lib.hid (fullL_is (m := ⟨W, t, k⟩) (zs := zs))
  have HMore : Hid (moreL ⟨W, t, k⟩ zs = if fullL ⟨W, t, k⟩ zs then restL ⟨W, t, k⟩ zs else 0) := rfl
  have HBL : Hid (bandsL ⟨W, t, k⟩ zs = bandL (t + riseL ⟨W, t, k⟩ zs) (moreL ⟨W, t, k⟩ zs) (bandsN zs)) := by show _ = _; unfold bandsL; rw [hg]; rfl
  obtain ⟨s0, s1, s2⟩ := lineB_sum hli
  have r6 := Int.mul_nonneg (a := (bandsN zs : Int)) (b := t + riseL ⟨W, t, k⟩ zs) (by omega) (by simp only at q1; omega)
  have r7 : restL ⟨W, t, k⟩ zs ≤ 2000 := by rw [HRest.out]; simp only at q1; omega
  simp only at q1 r2
  have HLI := Lib.hid hli
  clear hE hli hms r4 r5 r6
  obtain ⟨r, hr⟩ : ∃ r, riseL ⟨W, t, k⟩ zs = r := ⟨_, rfl⟩
  obtain ⟨q, hq⟩ : ∃ q, restL ⟨W, t, k⟩ zs = q := ⟨_, rfl⟩
  obtain ⟨B, hB⟩ : ∃ B, bandsN zs = B := ⟨_, rfl⟩
  obtain ⟨f, hf⟩ : ∃ f, fullL ⟨W, t, k⟩ zs = f := ⟨_, rfl⟩
  rw [hr] at r1 r2 HR5 HRest HBL ⊢
  rw [hq] at r3 r7 HR5 HRest HFL HMore ⊢
  rw [hB] at s2 HR5 HRest HFL HBL
  rw [hf] at HF HFL HMore
  have HB := Lib.hid hB
  clear hr hq hB hf hg
  obtain ⟨x, hx⟩ : ∃ x, moreL ⟨W, t, k⟩ zs = x := ⟨_, rfl⟩
  rw [hx] at HMore HBL
  clear hx
  obtain ⟨p0, p1, p2⟩ := Pb.out
  go_wp2_with fail
  refine (implBand_any W t k _ m c1 zs _ Hl.out hm2 Ib.out.ints).mono ?_
  clear p0 p1 p2
  rintro e wd ⟨v9, rfl, hO9, hb⟩
  rw [HBL.out] at hO9
  obtain ⟨A9, c9, hv9, _⟩ := hO9.form
  subst hv9
  have Kd := Lib.hid (IntsB.of (own_ints1 hO9))
  clear hO9
  rw [bandL_len]
  have Pd := Lib.hid (hold3 hb zb Pb.out)
  have Id := Lib.hid (Ib.out.keep (by omega) hb)
  have Td := Lib.hid (Tb.out.trans (hb.mono (B' := w.heap.size) (by omega)))
  have zd : w1.heap.size < wd.heap.size := Nat.lt_of_lt_of_le zb hb.size
  have yd := hb.size
  clear hb Pb Ib Tb 
  obtain ⟨p0, p1, p2⟩ := Pd.out
  have d1 : decide (r < 0) = false := decide_eq_false (by omega)
  have d2 : decide (k - t < r) = false := decide_eq_false (by omega)
  have d3 : decide (q < 0) = false := decide_eq_false (by omega)
  go_wp2_with fail
  refine (lawCount_any _ m c1 zs 0 _ Hl.out hm2 Id.out.ints).mono ?_
  rintro e wd2 ⟨rfl, rfl⟩
  rw [cntOf_bands, HB.out]
  go_wp2_with fail
  refine (implIsFull_any W t k _ m c1 zs _ Hl.out hm2 Id.out.ints).mono ?_
  clear p0 p1 p2 d1 d2 d3
  rintro e we ⟨rfl, hb⟩
  rw [HF.out]
  have Pe := Lib.hid (hold3 hb zd Pd.out)
  have Ie := Lib.hid (Id.out.keep (by omega) hb)
  have Ke := Lib.hid (Kd.out.keep (by first | exact Nat.le_refl _ | omega) hb)
  have Te := Lib.hid (Td.out.trans (hb.mono (B' := w.heap.size) (by omega)))
  have ze : w1.heap.size < we.heap.size := Nat.lt_of_lt_of_le zd hb.size
  have ye := hb.size
  clear hb Pd Id Td Kd
  rcases f with _ | _
  · skip
    obtain ⟨p0, p1, p2⟩ := Pe.out
    have hx0 : x = 0 := by rw [HMore.out]; rfl
    subst hx0
    go_wp2
    go_loop [103] (fun i => ∃ j : Nat, j ≤ B ∧ i = .int .i64 j) (fun i => B - (intOf i).toNat)
    case atStart => exact ⟨0, Nat.zero_le _, rfl⟩
    case round =>
      obtain ⟨j, hj, rfl⟩ := hrel
      by_cases hlt : j < B
      · obtain ⟨ad, y, rfl, hy, hc⟩ := Ke.out.ints.at_ (k := j) (by rw [bandL_len]; exact hlt)
        have ey := hy.out
        rw [bandL_get _ _ hlt] at ey
        injection ey with ey
        have hy1 : y = t + r := by rw [← ey]; unfold bandW; rw [if_neg (by omega)]; omega
        by_cases h0 : 0 < j
        · obtain ⟨i, hi⟩ : ∃ i, j = i + 1 := ⟨j - 1, by omega⟩
          have hiB : i < B := by omega
          obtain ⟨ad2, y2, hade, hy2, hc2⟩ := Ke.out.ints.at_ (k := i) (by rw [bandL_len]; exact hiB)
          injection hade with hade
          subst hade
          have ey2 := hy2.out
          rw [bandL_get _ _ hiB] at ey2
          injection ey2 with ey2
          have hy3 : y2 = t + r := by rw [← ey2]; unfold bandW; rw [if_neg (by omega)]; omega
          subst hy1 hy3; clear ey ey2 hy hy2
          have hd : decide ((0 : Int) < (j : Int)) = true := decide_eq_true (by omega)
          have hji : (j : Int) - 1 = (i : Int) := by omega
          clear hi
          go_wp2
          go_round
          case rel => exact ⟨j + 1, by omega, by go_num⟩
          case measure => simp [intOf]; omega
        · subst hy1; clear ey hy
          have hd : decide ((0 : Int) < (j : Int)) = false := decide_eq_false (by omega)
          go_wp2
          go_round
          case rel => exact ⟨j + 1, by omega, by go_num⟩
          case measure => simp [intOf]; omega
      · obtain rfl : j = B := by omega
        have mb := bandL_sum (a := t + r) (e := 0) (by omega) j
        obtain ⟨y, hy⟩ : ∃ y, (j : Int) * (t + r) = y := ⟨_, rfl⟩
        have hrest := HRest.out
        rw [hy] at mb hrest
        have my : 0 ≤ y := by rw [← hy]; exact Int.mul_nonneg (by omega) (by omega)
        clear hy
        have hFL := HFL.out
        have hR5 := HR5.out
        clear HRest HFL HR5 HMore HBL HF
        have e1 : (q == 0) = false := by
          cases h : (q == 0)
          · rfl
          · rw [h] at hFL; simp at hFL
        have e2 : ¬ q < (j : Int) := fun h => by rw [decide_eq_true h] at hFL; simp at hFL
        have hsum : sumL (bandL (t + r) 0 j) = y := by rw [mb]; omega
        rw [← hsum] at hrest my
        clear hFL mb hsum
        have u1 : IntKind.i64.wrap (sumL zs + sumL (bandL (t + r) 0 j)) = sumL zs + sumL (bandL (t + r) 0 j) := by rw [IntKind.wrap_i64]; omega
        have u2 : IntKind.i64.wrap (sumL zs + sumL (bandL (t + r) 0 j) + q) = W := by rw [IntKind.wrap_i64]; omega
        have u3 : IntKind.i64.wrap (k - t) = k - t := by rw [IntKind.wrap_i64]; omega
        clear hrest my
        have e4 : decide (q < (j : Int)) = false := decide_eq_false e2
        by_cases hk : r = k - t
        · clear hR5 e2
          have e5 : (r == k - t) = true := by simpa using hk
          have e6 : decide (r = k - t) = true := decide_eq_true hk
          clear hk
          go_wp2_with fail
          go_quiet ((first
            | (go_at_call 26; exact total_quiet Hl.out HLI.out Ie.out.ints)
            | (go_at_call 26; exact totalB_quiet (by omega) (by omega) (by omega) (by omega) Ke.out.ints)))
          go_wp2
          go_ret
          exact ⟨rfl, below_drewN Te.out _⟩
        obtain rfl : j = 0 := by
          rcases Nat.eq_zero_or_pos j with h | h
          · exact h
          · exact absurd (hR5 h (by omega)) e2
        clear hR5 e2
        have e5 : (r == k - t) = false := by simpa using hk
        have e6 : decide (r = k - t) = false := decide_eq_false hk
        have e8 : decide (q < (0 : Int)) = false := decide_eq_false (by omega)
        go_wp2_with fail
        go_quiet ((first
            | (go_at_call 26; exact total_quiet Hl.out HLI.out Ie.out.ints)
            | (go_at_call 26; exact totalB_quiet (by omega) (by omega) (by omega) (by omega) Ke.out.ints)))
        go_wp2
        go_ret
        exact ⟨rfl, below_drewN Te.out _⟩
  obtain ⟨p0, p1, p2⟩ := Pe.out
  have hx0 : x = q := by rw [HMore.out]; rfl
  subst hx0
  go_wp2
  go_loop [103] (fun i => ∃ j : Nat, j ≤ B ∧ i = .int .i64 j) (fun i => B - (intOf i).toNat)
  case atStart => exact ⟨0, Nat.zero_le _, rfl⟩
  case round =>
    obtain ⟨j, hj, rfl⟩ := hrel
    by_cases hlt : j < B
    · obtain ⟨ad, y, rfl, hy, hc⟩ := Ke.out.ints.at_ (k := j) (by rw [bandL_len]; exact hlt)
      have ey := hy.out
      rw [bandL_get _ _ hlt] at ey
      injection ey with ey
      have hy1 : t + r ≤ y ∧ y ≤ t + r + 1 := by rw [← ey]; unfold bandW; split <;> omega
      by_cases h0 : 0 < j
      · obtain ⟨i, hi⟩ : ∃ i, j = i + 1 := ⟨j - 1, by omega⟩
        have hiB : i < B := by omega
        obtain ⟨ad2, y2, hade, hy2, hc2⟩ := Ke.out.ints.at_ (k := i) (by rw [bandL_len]; exact hiB)
        injection hade with hade
        subst hade
        have ey2 := hy2.out
        rw [bandL_get _ _ hiB] at ey2
        injection ey2 with ey2
        have hy3 : y ≤ y2 := by rw [← ey, ← ey2]; unfold bandW; split <;> split <;> omega
        clear ey ey2 hy hy2
        have hd : decide ((0 : Int) < (j : Int)) = true := decide_eq_true (by omega)
        have hji : (j : Int) - 1 = (i : Int) := by omega
        clear hi
        go_wp2
        go_round
        case rel => exact ⟨j + 1, by omega, by go_num⟩
        case measure => simp [intOf]; omega
      · clear ey hy
        have hd : decide ((0 : Int) < (j : Int)) = false := decide_eq_false (by omega)
        go_wp2
        go_round
        case rel => exact ⟨j + 1, by omega, by go_num⟩
        case measure => simp [intOf]; omega
    · obtain rfl : j = B := by omega
      have mb := bandL_sum (a := t + r) (e := x) (by omega) j
      obtain ⟨y, hy⟩ : ∃ y, (j : Int) * (t + r) = y := ⟨_, rfl⟩
      have hrest := HRest.out
      rw [hy] at mb hrest
      have my : 0 ≤ y := by rw [← hy]; exact Int.mul_nonneg (by omega) (by omega)
      clear hy
      have hFL := HFL.out
      have hR5 := HR5.out
      clear HRest HFL HR5 HMore HBL HF
      have e3 : x = 0 ∨ x < (j : Int) := by
        by_cases h : x = 0
        · exact Or.inl h
        · rw [show (x == 0) = false by simpa using h] at hFL
          exact Or.inr (of_decide_eq_true (by simpa using hFL.symm))
      have hsum : sumL (bandL (t + r) x j) = y + x := by rw [mb]; omega
      clear hFL mb
      have u4 : IntKind.i64.wrap W = W := by rw [IntKind.wrap_i64]; omega
      have u22 : IntKind.i64.wrap (sumL zs + sumL (bandL (t + r) x j)) = W := by rw [IntKind.wrap_i64]; omega
      have u3 : IntKind.i64.wrap (k - t) = k - t := by rw [IntKind.wrap_i64]; omega
      clear hrest my
      clear hsum hR5
      by_cases hk : x = 0
      · subst hk
        go_wp2_with fail
        go_quiet ((first
            | (go_at_call 26; exact total_quiet Hl.out HLI.out Ie.out.ints)
            | (go_at_call 26; exact totalB_quiet (by omega) (by omega) (by omega) (by omega) Ke.out.ints)))
        go_wp2
        go_ret
        exact ⟨rfl, below_drewN Te.out _⟩
      have e5 : (x == 0) = false := by simpa using hk
      have e6 : decide (x = 0) = false := decide_eq_false hk
      have e7 : decide (x < (j : Int)) = true := decide_eq_true (by omega)
      go_wp2_with fail
      go_quiet ((first
            | (go_at_call 26; exact total_quiet Hl.out HLI.out Ie.out.ints)
            | (go_at_call 26; exact totalB_quiet (by omega) (by omega) (by omega) (by omega) Ke.out.ints)))
      go_wp2
      go_ret
      exact ⟨rfl, below_drewN Te.out _⟩
end Go.Proofs.Ytjfckplogjekaaa
