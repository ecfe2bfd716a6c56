/-
  FnPlaces: its walk. No condition.
-/
import Derived.Test.YtjfckplogjekaaaDrawQ
import Derived.Test.YtjfckplogjekaaaSpecW
import Derived.Test.YtjfckplogjekaaaPlaceI
import Derived.Test.YtjfckplogjekaaaTurned
import Derived.Outline
import Derived.Deep.QuietTactic
import Derived.BigQuiet
namespace Go.Proofs.Ytjfckplogjekaaa
open Go.RowKit
set_option linter.unusedVariables false

theorem leftL_get (a e : Int) (zs : List Int) {n j : Nat} (h : j < n) : (leftL a e zs n)[j]? = some (leftW a e zs j) := by simp [leftL, h]
theorem leftW_sum {a e : Int} {zs : List Int} (he : 0 ≤ e) : ∀ k, k ≤ zs.length → leftW a e zs k = sumL (zs.take k) + (bandsN (zs.take k) : Int) * a + min e (bandsN (zs.take k))
  | 0, _ => by simp [leftW, wideL, sumL, bandsN]; omega
  | k + 1, hk => by
    have ih := leftW_sum (a := a) (zs := zs) he k (by omega)
    obtain ⟨x, hx⟩ : ∃ x, zs[k]? = some x := ⟨_, List.getElem?_eq_getElem (show k < zs.length by omega)⟩
    have h1 := sumL_at hx
    have h2 := bandsN_at hx
    rw [leftW_succ, ih, h1, h2]
    by_cases h0 : x = 0
    · subst h0
      rw [wideW_band hx, if_pos rfl]
      unfold bandW
      have h3 : ((bandsN (zs.take k) + 1 : Nat) : Int) * a = (bandsN (zs.take k) : Int) * a + a := by rw [Int.natCast_add, Int.add_mul]; simp
      rw [h3]
      generalize (bandsN (zs.take k) : Int) * a = y
      split <;> omega
    · rw [wideW_item hx h0, if_neg h0]
      have h3 : ((bandsN (zs.take k) + 0 : Nat) : Int) = (bandsN (zs.take k) : Int) := by omega
      rw [h3]
      omega
/-- the right side of the last item lies within the measure -/
theorem left_end {m : Msr} {zs : List Int} (hg : goodB m zs = true) : leftW (m.t + riseL m zs) (moreL m zs) zs zs.length ≤ m.w := by
  obtain ⟨m0, _⟩ := more_bound hg
  obtain ⟨p0, p1, p2, p3, p4⟩ := rise_spec hg
  rw [leftW_sum m0 _ (Nat.le_refl _), List.take_length]
  have hr : restL m zs = m.w - (sumL zs + (bandsN zs : Int) * (m.t + riseL m zs)) := rfl
  have hm : moreL m zs ≤ restL m zs := by unfold moreL; split <;> omega
  omega
theorem bandsN_room {zs : List Int} {k : Nat} (h : zs[k]? = some 0) : bandsN (zs.take k) < bandsN zs := by
  have h1 := bandsN_at h
  rw [if_pos rfl] at h1
  have h2 : bandsN (zs.take (k + 1)) ≤ bandsN zs := by
    conv => rhs; rw [← List.take_append_drop (k + 1) zs]
    rw [bandsN_append]; omega
  omega

set_option maxRecDepth 100000 in
set_option maxHeartbeats 1600000 in
theorem fnPlaces_walk (A : Option Addr) (n c : Nat) (bs : List Int) (w : World) (hn : bs.length = n) (hm : n ≤ maxLen) (h : Bytes w A bs) (wf : ∀ z ∈ bs, (Lit.int .u8 z).wf = true) :
    Calls Try.prog 4 #[.slice A n c] w fun e w' => e = .returned (.bool true) ∧ Below w.heap.size w w' := by
  have H := Lib.hid h; have Hn := Lib.hid hn; have Hwf := Lib.hid wf
  clear h hn wf
  have hm0 := hm
  unfold maxLen at hm
  by_cases hbig : 1048576 < n
  · go_enter Try.func4, Try.ntmps4
    go_wp2
    go_ret
    exact ⟨rfl, Below.refl _ _⟩
  go_enter Try.func4, Try.ntmps4
  go_wp2_with fail
  refine (drawPlaces_any _ _ _ bs _ Hn.out hm0 H.out Hwf.out).mono ?_
  rintro e w1 ⟨W, t, k, gb, m, c1, zs, rfl, hl, hm1, hmc, hcm, hO1, hb1⟩
  have I1 := Lib.hid (IntsB.of (own_ints1 hO1)); have Hl := Lib.hid hl; have T1 := Lib.hid hb1
  have z1 := hb1.size
  have hm2 : m ≤ maxLen := by unfold maxLen; omega
  clear hO1 hl hb1 hcm
  obtain ⟨wa, hwa⟩ : ∃ wa, w1.alloc (.cells #[.int .i64 W, .int .i64 t, .int .i64 k] 24) = wa := ⟨_, rfl⟩
  have hb2 : Below w1.heap.size w1 wa := by rw [← hwa]; exact below_new _ _
  have Pa : Hid (wa.cell? ⟨w1.heap.size, 0, none⟩ = some (.int .i64 W) ∧ wa.cell? ⟨w1.heap.size, 1, none⟩ = some (.int .i64 t) ∧ wa.cell? ⟨w1.heap.size, 2, none⟩ = some (.int .i64 k)) := by show _ ∧ _; rw [← hwa]; exact lay3 w1 _ _ _ _
  have za : w1.heap.size < wa.heap.size := by rw [← hwa]; simp
  have Ia := Lib.hid (I1.out.keep (Nat.le_refl _) hb2); have Ta := Lib.hid (T1.out.trans (hb2.mono z1))
  clear hb2 I1 T1
  obtain ⟨p0, p1, p2⟩ := Pa.out
  cases hg : goodB ⟨W, t, k⟩ zs
  · have hPL : placesL ⟨W, t, k⟩ zs = [] := by unfold placesL; rw [hg]; rfl
    have hBL : bandsL ⟨W, t, k⟩ zs = [] := by unfold bandsL; rw [hg]; rfl
    go_wp2_with fail
    clear hwa
    refine (implPlaces_any W t k _ m c1 zs _ Hl.out hm2 Ia.out.ints).mono ?_
    clear p0 p1 p2
    rintro e wb ⟨v5, rfl, hO5, hb⟩
    rw [hPL] at hO5
    obtain ⟨A5, c5, hv5, _⟩ := hO5.form
    subst hv5
    clear hO5
    rw [List.length_nil]
    have Pb := Lib.hid (hold3 hb za Pa.out)
    have Ib := Lib.hid (Ia.out.keep (by omega) hb)
    have Tb := Lib.hid (Ta.out.trans (hb.mono (B' := w.heap.size) (by omega)))
    have zb : w1.heap.size < wb.heap.size := Nat.lt_of_lt_of_le za hb.size
    have yb := hb.size
    clear hb Pa Ia Ta 
    obtain ⟨p0, p1, p2⟩ := Pb.out
    go_wp2_with fail
    have hq := specSpread_any W t k _ m c1 zs _ Hl.out hm2 Ib.out.ints
    rw [hg] at hq
    refine hq.mono ?_
    clear hq p0 p1 p2
    rintro e wc ⟨rfl, hb⟩
    have Pc := Lib.hid (hold3 hb zb Pb.out)
    have Ic := Lib.hid (Ib.out.keep (by omega) hb)
    have Tc := Lib.hid (Tb.out.trans (hb.mono (B' := w.heap.size) (by omega)))
    have zc : w1.heap.size < wc.heap.size := Nat.lt_of_lt_of_le zb hb.size
    have yc := hb.size
    clear hb Pb Ib Tb 
    obtain ⟨p0, p1, p2⟩ := Pc.out
    go_wp2_with fail
    refine (implBand_any W t k _ m c1 zs _ Hl.out hm2 Ic.out.ints).mono ?_
    clear p0 p1 p2
    rintro e wd ⟨v9, rfl, hO9, hb⟩
    rw [hBL] at hO9
    obtain ⟨A9, c9, hv9, _⟩ := hO9.form
    subst hv9
    rw [List.length_nil]
    have Pd := Lib.hid (hold3 hb zc Pc.out)
    have Id := Lib.hid (Ic.out.keep (by omega) hb)
    have Td := Lib.hid (Tc.out.trans (hb.mono (B' := w.heap.size) (by omega)))
    have zd : w1.heap.size < wd.heap.size := Nat.lt_of_lt_of_le zc hb.size
    have yd := hb.size
    clear hb Pc Ic Tc 
    go_wp2
    go_ret
    exact ⟨rfl, Td.out⟩
  have hPL : placesL ⟨W, t, k⟩ zs = leftL (t + riseL ⟨W, t, k⟩ zs) (moreL ⟨W, t, k⟩ zs) zs zs.length := by unfold placesL; rw [hg]; rfl
  have hBL : bandsL ⟨W, t, k⟩ zs = bandL (t + riseL ⟨W, t, k⟩ zs) (moreL ⟨W, t, k⟩ zs) (bandsN zs) := by unfold bandsL; rw [hg]; rfl
  have HE : Hid (leftW (t + riseL ⟨W, t, k⟩ zs) (moreL ⟨W, t, k⟩ zs) zs m ≤ W) := by show _ ≤ _; rw [← Hl.out]; exact left_end hg
  obtain ⟨a0, a1⟩ := riseThin hg
  obtain ⟨_, hli, _⟩ := goodB_parts hg
  have HZ := Lib.hid (lineB_parts hli).1
  simp only at a0 a1
  clear hli
  have hB1 : bandsN zs ≤ 122 := Nat.le_trans (bandsN_le zs) (by rw [Hl.out]; exact hm1)
  obtain ⟨a, ha⟩ : ∃ a, t + riseL ⟨W, t, k⟩ zs = a := ⟨_, rfl⟩
  obtain ⟨x, hx⟩ : ∃ x, moreL ⟨W, t, k⟩ zs = x := ⟨_, rfl⟩
  rw [ha, hx] at hPL hBL HE
  rw [ha] at a0 a1
  clear ha hx
  go_wp2_with fail
  clear hwa
  refine (implPlaces_any W t k _ m c1 zs _ Hl.out hm2 Ia.out.ints).mono ?_
  clear p0 p1 p2
  rintro e wb ⟨v5, rfl, hO5, hb⟩
  rw [hPL] at hO5
  obtain ⟨A5, c5, hv5, _⟩ := hO5.form
  subst hv5
  have Jb := Lib.hid (IntsB.of (own_ints1 hO5))
  clear hO5
  rw [leftL_len, Hl.out]
  have Pb := Lib.hid (hold3 hb za Pa.out)
  have Ib := Lib.hid (Ia.out.keep (by omega) hb)
  have Tb := Lib.hid (Ta.out.trans (hb.mono (B' := w.heap.size) (by omega)))
  have zb : w1.heap.size < wb.heap.size := Nat.lt_of_lt_of_le za hb.size
  have yb := hb.size
  clear hb Pa Ia Ta 
  have HB := Lib.hid hBL
  clear hPL hBL
  obtain ⟨p0, p1, p2⟩ := Pb.out
  go_wp2_with fail
  have hq := specSpread_any W t k _ m c1 zs _ Hl.out hm2 Ib.out.ints
  rw [hg] at hq
  refine hq.mono ?_
  clear hq p0 p1 p2
  rintro e wc ⟨rfl, hb⟩
  have Pc := Lib.hid (hold3 hb zb Pb.out)
  have Ic := Lib.hid (Ib.out.keep (by omega) hb)
  have Jc := Lib.hid (Jb.out.keep (by first | exact Nat.le_refl _ | omega) hb)
  have Tc := Lib.hid (Tb.out.trans (hb.mono (B' := w.heap.size) (by omega)))
  have zc : w1.heap.size < wc.heap.size := Nat.lt_of_lt_of_le zb hb.size
  have yc := hb.size
  clear hb Pb Ib Tb Jb
  obtain ⟨p0, p1, p2⟩ := Pc.out
  go_wp2_with fail
  refine (implBand_any W t k _ m c1 zs _ Hl.out hm2 Ic.out.ints).mono ?_
  clear p0 p1 p2
  rintro e wd ⟨v9, rfl, hO9, hb⟩
  rw [HB.out] at hO9
  obtain ⟨A9, c9, hv9, _⟩ := hO9.form
  subst hv9
  have Kd := Lib.hid (IntsB.of (own_ints1 hO9))
  clear hO9
  rw [bandL_len]
  have Pd := Lib.hid (hold3 hb zc Pc.out)
  have Id := Lib.hid (Ic.out.keep (by omega) hb)
  have Jd := Lib.hid (Jc.out.keep (by first | exact Nat.le_refl _ | omega) hb)
  have Td := Lib.hid (Tc.out.trans (hb.mono (B' := w.heap.size) (by omega)))
  have zd : w1.heap.size < wd.heap.size := Nat.lt_of_lt_of_le zc hb.size
  have yd := hb.size
  clear hb Pc Ic Tc Jc
  clear HB hg
  go_wp2_with fail
  refine (lawCount_any _ m c1 zs 0 _ Hl.out hm2 Id.out.ints).mono ?_
  rintro e wd2 ⟨rfl, rfl⟩
  rw [cntOf_bands]
  go_wp2
  go_loop [10, 11, 61] (fun p b i => ∃ j : Nat, j ≤ m ∧ i = .int .i64 j ∧ p = .int .i64 (leftW a x zs j) ∧ b = .int .i64 (bandsN (zs.take j))) (fun _ _ i => m - (intOf i).toNat)
  case atStart => exact ⟨0, Nat.zero_le _, rfl, rfl, rfl⟩
  case round =>
    obtain ⟨j, hj, rfl, rfl, rfl⟩ := hrel
    by_cases hlt : j < m
    · obtain ⟨ad, y, hade, hy, hc⟩ := Id.out.ints.at_ (k := j) (by rw [Hl.out]; exact hlt)
      injection hade with hade
      subst hade
      rw [add_zero_at] at hc
      obtain ⟨ad5, y5, rfl, hy5, hc5⟩ := Jd.out.ints.at_ (k := j) (by rw [leftL_len, Hl.out]; exact hlt)
      have e5 := hy5.out
      rw [leftL_get _ _ _ (by rw [Hl.out]; exact hlt)] at e5
      injection e5 with e5
      subst e5
      have hs := leftW_succ a x zs j
      have b1 := leftW_bound (e := x) a0 a1 HZ.out j
      have b2 := wideW_bound (e := x) a0 a1 HZ.out j
      have hN := Lib.hid (bandsN_at hy.out)
      by_cases hy0 : y = 0
      · subst hy0
        have hr := bandsN_room hy.out
        obtain ⟨ad9, y9, rfl, hy9, hc9⟩ := Kd.out.ints.at_ (k := bandsN (zs.take j)) (by rw [bandL_len]; exact hr)
        have e9 := hy9.out
        rw [bandL_get _ _ hr, ← wideW_band hy.out] at e9
        injection e9 with e9
        subst e9
        rw [if_pos rfl] at hN
        obtain ⟨l, hL⟩ : ∃ l, leftW a x zs j = l := ⟨_, rfl⟩
        obtain ⟨u, hU⟩ : ∃ u, wideW a x zs j = u := ⟨_, rfl⟩
        obtain ⟨b, hb⟩ : ∃ b, bandsN (zs.take j) = b := ⟨_, rfl⟩
        rw [hL, hU] at hs
        rw [hL] at b1
        rw [hU] at b2
        rw [hb] at hr hc9 hN ⊢
        rw [hL] at hc5 ⊢
        rw [hU] at hc9
        have HS := Lib.hid hs; have HN := hN
        clear hs hL hU hb hy5 hy9 hy hN
        have hr2 : (b : Int) < (bandsN zs : Int) := by omega
        go_wp2
        go_round
        case rel => exact ⟨j + 1, by omega, by go_num, by rw [HS.out], by rw [HN.out]; go_num⟩
        case measure => simp [intOf]; omega
      · have h0 : (y == 0) = false := by simpa using hy0
        rw [if_neg hy0] at hN
        rw [wideW_item hy.out hy0] at hs b2
        obtain ⟨l, hL⟩ : ∃ l, leftW a x zs j = l := ⟨_, rfl⟩
        rw [hL] at hs b1 hc5 ⊢
        have HS := Lib.hid hs; have HN := hN
        clear hs hL hy5 hy hN
        go_wp2
        go_round
        case rel => exact ⟨j + 1, by omega, by go_num, by rw [HS.out], by rw [HN.out]; rfl⟩
        case measure => simp [intOf]; omega
    · obtain rfl : j = m := by omega
      have hd : decide (leftW a x zs j ≤ W) = true := decide_eq_true HE.out
      obtain ⟨p0, p1, p2⟩ := Pd.out
      go_wp2
      go_ret
      exact ⟨rfl, Td.out⟩
end Go.Proofs.Ytjfckplogjekaaa
