/-
  BandWidths and PlacesOf of the model by contract. Condition: lengths within the reach of a slice.
-/
import Derived.Test.YtjfckplogjekaaaWide
import Derived.Test.YtjfckplogjekaaaPush
namespace Go.Proofs.Ytjfckplogjekaaa
open Go.RowKit
set_option linter.unusedVariables false

set_option maxRecDepth 100000 in
set_option maxHeartbeats 3200000 in
theorem specBand_any (W t k : Int) (A : Option Addr) (n c : Nat) (zs : List Int) (w : World) (hn : zs.length = n) (hm : n ≤ maxLen) (h : Ints w A zs) :
    Calls Try.prog 47 #[.agg #[.int .i64 W, .int .i64 t, .int .i64 k], .slice A n c] w fun e w' => ∃ v, e = .returned v ∧ Own w' w.heap.size v (bandsL ⟨W, t, k⟩ zs) ∧ Below w.heap.size w w' := by
  have Hn := Lib.hid hn
  obtain ⟨w0, hw0, hb0, hz0, P⟩ := msWorld w W t k
  have T0 := Lib.hid hb0; have P0 := Lib.hid P; have Z0 := Lib.hid hz0
  have I0 := Lib.hid ((IntsB.of h).keep (Nat.le_refl _) hb0)
  have hzz := Z0.out
  clear hb0 hz0 P hn h
  obtain ⟨p0, p1, p2⟩ := P0.out
  cases hms : msrB ⟨W, t, k⟩
  · have HR : Hid (bandsL ⟨W, t, k⟩ zs = []) := by show _ = _; unfold bandsL; rw [good_no hms]; rfl
    go_enter Try.func47, Try.ntmps47
    go_wp2_with fail
    clear hw0
    refine (specMeasureOk_any W t k _).mono ?_
    rintro e' w1 ⟨he', hb1⟩
    rw [hms] at he'; subst he'
    have T1 := Lib.hid (T0.out.trans (hb1.mono (by omega)))
    have P1 := Lib.hid (hold3 hb1 (by omega) P0.out)
    have I1 := Lib.hid (I0.out.keep (by omega) hb1)
    have z1 := hb1.size
    clear hb1 p0 p1 p2
    obtain ⟨p0, p1, p2⟩ := P1.out
    go_wp2
    go_ret
    exact ⟨_, rfl, by rw [HR.out]; exact ⟨rfl, .inl ⟨rfl, rfl⟩⟩, T1.out⟩
  have HM := Lib.hid hms
  cases hfi : fitsB ⟨W, t, k⟩ zs
  · have HR : Hid (bandsL ⟨W, t, k⟩ zs = []) := by show _ = _; unfold bandsL goodB; rw [hfi, Bool.and_false]; rfl
    go_enter Try.func47, Try.ntmps47
    go_wp2_with fail
    clear hw0
    refine (specMeasureOk_any W t k _).mono ?_
    rintro e' w1 ⟨he', hb1⟩
    rw [hms] at he'; subst he'
    have T1 := Lib.hid (T0.out.trans (hb1.mono (by omega)))
    have P1 := Lib.hid (hold3 hb1 (by omega) P0.out)
    have I1 := Lib.hid (I0.out.keep (by omega) hb1)
    have z1 := hb1.size
    clear hb1 p0 p1 p2
    obtain ⟨p0, p1, p2⟩ := P1.out
    go_wp2_with fail
    refine (l3Fits_any W t k A n c zs _ HM.out Hn.out hm I1.out.ints).mono ?_
    rintro e' w2 ⟨he', hb2⟩
    rw [hfi] at he'; subst he'
    have T2 := Lib.hid (T1.out.trans (hb2.mono (by omega)))
    have P2 := Lib.hid (hold3 hb2 (by omega) P1.out)
    have I2 := Lib.hid (I1.out.keep (by omega) hb2)
    have z2 := hb2.size
    clear hb2 p0 p1 p2 I1 I0 P1 P0
    obtain ⟨p0, p1, p2⟩ := P2.out
    go_wp2
    go_ret
    exact ⟨_, rfl, by rw [HR.out]; exact ⟨rfl, .inl ⟨rfl, rfl⟩⟩, T2.out⟩
  have hg : goodB ⟨W, t, k⟩ zs = true := by unfold goodB; rw [hfi, hms]; rfl
  have HG := Lib.hid hg
  obtain ⟨_, hli, _⟩ := goodB_parts hg
  obtain ⟨hz, hlen⟩ := lineB_parts hli
  have hm1 : n ≤ 120 := by rw [← Hn.out]; exact hlen
  obtain ⟨ht0, ht1⟩ := riseThin hg
  obtain ⟨a, ha⟩ : ∃ a, t + riseL ⟨W, t, k⟩ zs = a := ⟨_, rfl⟩
  obtain ⟨e, he⟩ : ∃ e, moreL ⟨W, t, k⟩ zs = e := ⟨_, rfl⟩
  have Ha := Lib.hid ha; have He := Lib.hid he
  simp only at ht0 ht1
  rw [ha] at ht0 ht1
  have HR : Hid (bandsL ⟨W, t, k⟩ zs = bandL a e (bandsN (zs.take n))) := by show _ = _; unfold bandsL; rw [hg, if_pos rfl, take_all Hn.out, ← ha, ← he]
  clear hli hz hlen hg ha he
  go_enter Try.func47, Try.ntmps47
  go_wp2_with fail
  clear hw0
  refine (specMeasureOk_any W t k _).mono ?_
  rintro e' w1 ⟨he', hb1⟩
  rw [hms] at he'; subst he'
  have T1 := Lib.hid (T0.out.trans (hb1.mono (by omega)))
  have P1 := Lib.hid (hold3 hb1 (by omega) P0.out)
  have I1 := Lib.hid (I0.out.keep (by omega) hb1)
  have z1 := hb1.size
  clear hb1 p0 p1 p2
  obtain ⟨p0, p1, p2⟩ := P1.out
  go_wp2_with fail
  refine (l3Fits_any W t k A n c zs _ HM.out Hn.out hm I1.out.ints).mono ?_
  rintro e' w2 ⟨he', hb2⟩
  rw [hfi] at he'; subst he'
  have T2 := Lib.hid (T1.out.trans (hb2.mono (by omega)))
  have P2 := Lib.hid (hold3 hb2 (by omega) P1.out)
  have I2 := Lib.hid (I1.out.keep (by omega) hb2)
  have z2 := hb2.size
  clear hb2 p0 p1 p2 I1 I0 P1 P0
  obtain ⟨p0, p1, p2⟩ := P2.out
  obtain ⟨w3, hw3⟩ : ∃ w3, w2.alloc (.cells #[] 3) = w3 := ⟨_, rfl⟩
  have hb3 : Below w2.heap.size w2 w3 := by rw [← hw3]; exact below_new _ _
  have hO3 : Own w3 w2.heap.size (.slice (some ⟨w2.heap.size, 0, none⟩) 0 0) [] := by rw [← hw3]; exact World.ownsRow_lit w2 #[] 0 (Nat.le_refl _) (Nat.zero_le _) rfl
  have T3 := Lib.hid (T2.out.trans (hb3.mono (by omega)))
  have I3 := Lib.hid (I2.out.keep (by omega) hb3)
  have z3 : w3.heap.size = w2.heap.size + 1 := by rw [← hw3]; simp
  have P3 := hold3 hb3 (by omega) P2.out
  clear p0 p1 p2
  obtain ⟨p0, p1, p2⟩ := P3
  go_wp2_with fail
  clear hb3 hw3
  refine (l3Wide_any W t k A n c zs w3 HG.out Hn.out I3.out.ints).mono ?_
  rintro e' w4 ⟨v4, rfl, hO4, hb4⟩
  rw [Ha.out, He.out] at hO4
  obtain ⟨A4, c4, hv4, hI4, hA4, _⟩ := hO4.form
  have HA4 : Hid (∀ ad, A4 = some ad → w3.heap.size ≤ ad.block ∧ ad.block < w4.heap.size) := fun ad h => by
    obtain ⟨g, rfl, h1, h2⟩ := hA4 ad h
    exact ⟨h1, h2⟩
  clear hA4
  rw [wideL_len] at hv4
  subst hv4
  have J4 := Lib.hid (IntsB.of hI4)
  have O4 := Lib.hid (Own.below hO3 hb4)
  have T4 := Lib.hid (T3.out.trans (hb4.mono (by omega)))
  have I4 := Lib.hid (I3.out.keep (by omega) hb4)
  have z4 := hb4.size
  clear hb4 hO3 hO4 hI4 I3 I2 T3 T2 p0 p1 p2
  go_wp2
  go_loopw [5, 22] (fun v i wr => ∃ j : Nat, j ≤ n ∧ i = .int .i64 j ∧ Own wr w2.heap.size v (bandL a e (bandsN (zs.take j))) ∧ Below w2.heap.size w4 wr ∧ IntsB wr w4.heap.size A4 (wideL a e zs n) ∧ IntsB wr w.heap.size A zs ∧ (∀ g, v.ownBlock = some g → g < w3.heap.size ∨ w4.heap.size ≤ g)) (fun _ i _ => n - (intOf i).toNat)
  case atStart => exact ⟨0, Nat.zero_le _, rfl, O4.out, Below.refl _ _, J4.out, I4.out, fun g hg => Or.inl (by injection hg with hg; subst hg; show w2.heap.size < _; omega)⟩
  case round =>
    clear O4 J4 I4
    obtain ⟨j, hj, rfl, hown, hb, hJ, hI, hD⟩ := hrel
    have hsz := hb.size
    have HO := Lib.hid hown; have HB := Lib.hid hb; have HD := Lib.hid hD
    clear hown hb hD
    by_cases hlt : j < n
    · obtain ⟨ad, x, rfl, hx, hc⟩ := hI.ints.at_ (k := j) (by rw [Hn.out]; exact hlt)
      obtain ⟨bd, y, rfl, hy, hd⟩ := hJ.ints.at_ (k := j) (by rw [wideL_len]; exact hlt)
      have HY : Hid (y = wideW a e zs j) := by have := hy.out; rw [wideL_get _ _ _ hlt] at this; injection this with this; exact this.symm
      have HJ := Lib.hid hJ; have HI := Lib.hid hI
      have hbl := bandsN_le (zs.take j)
      rw [List.length_take] at hbl
      have Hlen : Hid ((bandL a e (bandsN (zs.take j))).length ≤ 1048576) := by show _ ≤ _; rw [bandL_len]; omega
      clear hJ hI hbl
      by_cases h0 : x = 0
      · subst h0
        have HN : Hid (bandL a e (bandsN (zs.take (j + 1))) = bandL a e (bandsN (zs.take j)) ++ [y]) := by
          show _ = _
          rw [bandsN_at hx.out, if_pos rfl, bandL_succ, HY.out, wideW_band hx.out]
        go_wp2_with (at_builtin; refine wpl_push2 _ rfl (.tmp 32) (.tmp 34) rfl w2.heap.size _ _ y rfl rfl HO.out (by omega) Hlen.out ?_; intro v' w5 hO5 hg5 hl5)
        rw [← HN.out] at hO5
        have HO5 := Lib.hid hO5; have hB5 : Below w2.heap.size wr w5 := (Below.refl w2.heap.size wr).grown hg5 (by omega) (fun q hq => (World.ownsRow.lt HO.out q hq).1); have HB5 := Lib.hid (HB.out.trans hB5)
        have HD5 : Hid (∀ g, v'.ownBlock = some g → g < w3.heap.size ∨ w4.heap.size ≤ g) := fun q hq => by
            rcases hl5 q hq with h | h
            · exact HD.out q h
            · right; omega
        have HJ5 := Lib.hid (HJ.out.grown hg5 (by omega) (fun ad he hq => by have h1 := HA4.out ad he; have h2 := HD.out _ hq; omega)); have HI5 := Lib.hid (HI.out.keep (by omega) hB5)
        clear hO5 hB5 hg5 hl5
        go_roundw
        case rel => exact ⟨j + 1, by omega, by go_num, HO5.out, HB5.out, HJ5.out, HI5.out, HD5.out⟩
        case measure => simp [intOf]; omega
      · have HN : Hid (bandsN (zs.take (j + 1)) = bandsN (zs.take j)) := by show _ = _; rw [bandsN_at hx.out, if_neg h0, Nat.add_zero]
        have h0' : (x == 0) = false := by simpa using h0
        clear h0
        go_wp2
        go_roundw
        case rel => exact ⟨j + 1, by omega, by go_num, by rw [HN.out]; exact HO.out, HB.out, HJ.out, HI.out, HD.out⟩
        case measure => simp [intOf]; omega
    · have hjn : j = n := by omega
      subst hjn
      go_wp2
      go_ret
      exact ⟨_, rfl, by rw [HR.out]; exact own_down HO.out (by omega), T4.out.trans (HB.out.mono (by omega))⟩

set_option maxRecDepth 100000 in
set_option maxHeartbeats 3200000 in
theorem specPlaces_any (W t k : Int) (A : Option Addr) (n c : Nat) (zs : List Int) (w : World) (hn : zs.length = n) (hm : n ≤ maxLen) (h : Ints w A zs) :
    Calls Try.prog 50 #[.agg #[.int .i64 W, .int .i64 t, .int .i64 k], .slice A n c] w fun e w' => ∃ v, e = .returned v ∧ Own w' w.heap.size v (placesL ⟨W, t, k⟩ zs) ∧ Below w.heap.size w w' := by
  have Hn := Lib.hid hn
  obtain ⟨w0, hw0, hb0, hz0, P⟩ := msWorld w W t k
  have T0 := Lib.hid hb0; have P0 := Lib.hid P; have Z0 := Lib.hid hz0
  have I0 := Lib.hid ((IntsB.of h).keep (Nat.le_refl _) hb0)
  have hzz := Z0.out
  clear hb0 hz0 P hn h
  obtain ⟨p0, p1, p2⟩ := P0.out
  cases hms : msrB ⟨W, t, k⟩
  · have HR : Hid (placesL ⟨W, t, k⟩ zs = []) := by show _ = _; unfold placesL; rw [good_no hms]; rfl
    go_enter Try.func50, Try.ntmps50
    go_wp2_with fail
    clear hw0
    refine (specMeasureOk_any W t k _).mono ?_
    rintro e' w1 ⟨he', hb1⟩
    rw [hms] at he'; subst he'
    have T1 := Lib.hid (T0.out.trans (hb1.mono (by omega)))
    have P1 := Lib.hid (hold3 hb1 (by omega) P0.out)
    have I1 := Lib.hid (I0.out.keep (by omega) hb1)
    have z1 := hb1.size
    clear hb1 p0 p1 p2
    obtain ⟨p0, p1, p2⟩ := P1.out
    go_wp2
    go_ret
    exact ⟨_, rfl, by rw [HR.out]; exact ⟨rfl, .inl ⟨rfl, rfl⟩⟩, T1.out⟩
  have HM := Lib.hid hms
  cases hfi : fitsB ⟨W, t, k⟩ zs
  · have HR : Hid (placesL ⟨W, t, k⟩ zs = []) := by show _ = _; unfold placesL goodB; rw [hfi, Bool.and_false]; rfl
    go_enter Try.func50, Try.ntmps50
    go_wp2_with fail
    clear hw0
    refine (specMeasureOk_any W t k _).mono ?_
    rintro e' w1 ⟨he', hb1⟩
    rw [hms] at he'; subst he'
    have T1 := Lib.hid (T0.out.trans (hb1.mono (by omega)))
    have P1 := Lib.hid (hold3 hb1 (by omega) P0.out)
    have I1 := Lib.hid (I0.out.keep (by omega) hb1)
    have z1 := hb1.size
    clear hb1 p0 p1 p2
    obtain ⟨p0, p1, p2⟩ := P1.out
    go_wp2_with fail
    refine (l3Fits_any W t k A n c zs _ HM.out Hn.out hm I1.out.ints).mono ?_
    rintro e' w2 ⟨he', hb2⟩
    rw [hfi] at he'; subst he'
    have T2 := Lib.hid (T1.out.trans (hb2.mono (by omega)))
    have P2 := Lib.hid (hold3 hb2 (by omega) P1.out)
    have I2 := Lib.hid (I1.out.keep (by omega) hb2)
    have z2 := hb2.size
    clear hb2 p0 p1 p2 I1 I0 P1 P0
    obtain ⟨p0, p1, p2⟩ := P2.out
    go_wp2
    go_ret
    exact ⟨_, rfl, by rw [HR.out]; exact ⟨rfl, .inl ⟨rfl, rfl⟩⟩, T2.out⟩
  have hg : goodB ⟨W, t, k⟩ zs = true := by unfold goodB; rw [hfi, hms]; rfl
  have HG := Lib.hid hg
  obtain ⟨_, hli, _⟩ := goodB_parts hg
  obtain ⟨hz, hlen⟩ := lineB_parts hli
  have hm1 : n ≤ 120 := by rw [← Hn.out]; exact hlen
  obtain ⟨ht0, ht1⟩ := riseThin hg
  obtain ⟨a, ha⟩ : ∃ a, t + riseL ⟨W, t, k⟩ zs = a := ⟨_, rfl⟩
  obtain ⟨e, he⟩ : ∃ e, moreL ⟨W, t, k⟩ zs = e := ⟨_, rfl⟩
  have Ha := Lib.hid ha; have He := Lib.hid he
  simp only at ht0 ht1
  rw [ha] at ht0 ht1
  have HR : Hid (placesL ⟨W, t, k⟩ zs = leftL a e zs n) := by show _ = _; unfold placesL; rw [hg, if_pos rfl, Hn.out, ← ha, ← he]
  have HLW := Lib.hid (fun j => leftW_bound (e := e) ht0 ht1 hz j)
  have HWW := Lib.hid (fun j => wideW_bound (e := e) ht0 ht1 hz j)
  clear hli hz hlen hg ha he
  go_enter Try.func50, Try.ntmps50
  go_wp2_with fail
  clear hw0
  refine (specMeasureOk_any W t k _).mono ?_
  rintro e' w1 ⟨he', hb1⟩
  rw [hms] at he'; subst he'
  have T1 := Lib.hid (T0.out.trans (hb1.mono (by omega)))
  have P1 := Lib.hid (hold3 hb1 (by omega) P0.out)
  have I1 := Lib.hid (I0.out.keep (by omega) hb1)
  have z1 := hb1.size
  clear hb1 p0 p1 p2
  obtain ⟨p0, p1, p2⟩ := P1.out
  go_wp2_with fail
  refine (l3Fits_any W t k A n c zs _ HM.out Hn.out hm I1.out.ints).mono ?_
  rintro e' w2 ⟨he', hb2⟩
  rw [hfi] at he'; subst he'
  have T2 := Lib.hid (T1.out.trans (hb2.mono (by omega)))
  have P2 := Lib.hid (hold3 hb2 (by omega) P1.out)
  have I2 := Lib.hid (I1.out.keep (by omega) hb2)
  have z2 := hb2.size
  clear hb2 p0 p1 p2 I1 I0 P1 P0
  obtain ⟨p0, p1, p2⟩ := P2.out
  obtain ⟨w3, hw3⟩ : ∃ w3, w2.alloc (.cells #[] 3) = w3 := ⟨_, rfl⟩
  have hb3 : Below w2.heap.size w2 w3 := by rw [← hw3]; exact below_new _ _
  have hO3 : Own w3 w2.heap.size (.slice (some ⟨w2.heap.size, 0, none⟩) 0 0) [] := by rw [← hw3]; exact World.ownsRow_lit w2 #[] 0 (Nat.le_refl _) (Nat.zero_le _) rfl
  have T3 := Lib.hid (T2.out.trans (hb3.mono (by omega)))
  have I3 := Lib.hid (I2.out.keep (by omega) hb3)
  have z3 : w3.heap.size = w2.heap.size + 1 := by rw [← hw3]; simp
  have P3 := hold3 hb3 (by omega) P2.out
  clear p0 p1 p2
  obtain ⟨p0, p1, p2⟩ := P3
  go_wp2_with fail
  clear hb3 hw3
  refine (l3Wide_any W t k A n c zs w3 HG.out Hn.out I3.out.ints).mono ?_
  rintro e' w4 ⟨v4, rfl, hO4, hb4⟩
  rw [Ha.out, He.out] at hO4
  obtain ⟨A4, c4, hv4, hI4, hA4, _⟩ := hO4.form
  have HA4 : Hid (∀ ad, A4 = some ad → w3.heap.size ≤ ad.block ∧ ad.block < w4.heap.size) := fun ad h => by
    obtain ⟨g, rfl, h1, h2⟩ := hA4 ad h
    exact ⟨h1, h2⟩
  clear hA4
  rw [wideL_len] at hv4
  subst hv4
  have J4 := Lib.hid (IntsB.of hI4)
  have O4 := Lib.hid (Own.below hO3 hb4)
  have T4 := Lib.hid (T3.out.trans (hb4.mono (by omega)))
  have I4 := Lib.hid (I3.out.keep (by omega) hb4)
  have z4 := hb4.size
  clear hb4 hO3 hO4 hI4 I3 I2 T3 T2 p0 p1 p2
  go_wp2
  go_loopw [5, 6, 23] (fun v u i wr => ∃ j : Nat, j ≤ n ∧ i = .int .i64 j ∧ u = .int .i64 (leftW a e zs j) ∧ Own wr w2.heap.size v (leftL a e zs j) ∧ Below w2.heap.size w4 wr ∧ IntsB wr w4.heap.size A4 (wideL a e zs n) ∧ (∀ g, v.ownBlock = some g → g < w3.heap.size ∨ w4.heap.size ≤ g)) (fun _ _ i _ => n - (intOf i).toNat)
  case atStart => exact ⟨0, Nat.zero_le _, rfl, rfl, O4.out, Below.refl _ _, J4.out, fun g hg => Or.inl (by injection hg with hg; subst hg; show w2.heap.size < _; omega)⟩
  case round =>
    clear O4 J4 I4
    obtain ⟨j, hj, rfl, rfl, hown, hb, hJ, hD⟩ := hrel
    have hsz := hb.size
    have HO := Lib.hid hown; have HB := Lib.hid hb; have HD := Lib.hid hD
    clear hown hb hD
    by_cases hlt : j < n
    · obtain ⟨bd, y, rfl, hy, hd⟩ := hJ.ints.at_ (k := j) (by rw [wideL_len]; exact hlt)
      have HY : Hid (y = wideW a e zs j) := by have := hy.out; rw [wideL_get _ _ _ hlt] at this; injection this with this; exact this.symm
      have HJ := Lib.hid hJ
      have Hlen : Hid ((leftL a e zs j).length ≤ 1048576) := by show _ ≤ _; rw [leftL_len]; omega
      have hl1 := HLW.out j
      have hw1 := HWW.out j
      rw [← HY.out] at hw1
      obtain ⟨lf, hlf⟩ : ∃ x, leftW a e zs j = x := ⟨_, rfl⟩
      have HN : Hid (leftL a e zs (j + 1) = leftL a e zs j ++ [lf]) := by show _ = _; rw [leftL_succ, hlf]
      have HN2 : Hid (leftW a e zs (j + 1) = lf + y) := by show _ = _; rw [leftW_succ, hlf, HY.out]
      rw [hlf] at hl1 ⊢
      clear hJ hlf
      go_wp2_with (at_builtin; refine wpl_push2 _ rfl (.tmp 27) (.tmp 29) rfl w2.heap.size _ _ lf rfl rfl HO.out (by omega) Hlen.out ?_; intro v' w5 hO5 hg5 hl5)
      rw [← HN.out] at hO5
      have HO5 := Lib.hid hO5; have hB5 : Below w2.heap.size wr w5 := (Below.refl w2.heap.size wr).grown hg5 (by omega) (fun q hq => (World.ownsRow.lt HO.out q hq).1); have HB5 := Lib.hid (HB.out.trans hB5)
      have HD5 : Hid (∀ g, v'.ownBlock = some g → g < w3.heap.size ∨ w4.heap.size ≤ g) := fun q hq => by
            rcases hl5 q hq with h | h
            · exact HD.out q h
            · right; omega
      have HJ5 := Lib.hid (HJ.out.grown hg5 (by omega) (fun ad he hq => by have h1 := HA4.out ad he; have h2 := HD.out _ hq; omega))
      clear hO5 hB5 hg5 hl5
      go_roundw
      case rel => exact ⟨j + 1, by omega, by go_num, by rw [HN2.out], HO5.out, HB5.out, HJ5.out, HD5.out⟩
      case measure => simp [intOf]; omega
    · have hjn : j = n := by omega
      subst hjn
      go_wp2
      go_ret
      exact ⟨_, rfl, by rw [HR.out]; exact own_down HO.out (by omega), T4.out.trans (HB.out.mono (by omega))⟩
end Go.Proofs.Ytjfckplogjekaaa
