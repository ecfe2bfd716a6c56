/-
  BandWidths and PlacesOf of the program by contract. Condition: lengths within the reach of a slice.
-/
import Derived.Test.YtjfckplogjekaaaBandI
import Derived.Test.YtjfckplogjekaaaPush
namespace Go.Proofs.Ytjfckplogjekaaa
open Go.RowKit
set_option linter.unusedVariables false

theorem more_is {m : Msr} {zs : List Int} : moreF m (sumL zs) (bandsN zs) = moreL m zs := rfl

set_option maxRecDepth 100000 in
set_option maxHeartbeats 3200000 in
theorem implBand_any (W t k : Int) (A : Option Addr) (n c : Nat) (zs : List Int) (w : World) (hn : zs.length = n) (hm : n ≤ maxLen) (h : Ints w A zs) :
    Calls Try.prog 22 #[.agg #[.int .i64 W, .int .i64 t, .int .i64 k], .slice A n c] w fun e w' => ∃ v, e = .returned v ∧ Own w' w.heap.size v (bandsL ⟨W, t, k⟩ zs) ∧ Below w.heap.size w w' := by
  have Hn := Lib.hid hn
  obtain ⟨w0, hw0, hb0, hz0, P⟩ := msWorld w W t k
  have T0 := Lib.hid hb0; have P0 := Lib.hid P; have Z0 := Lib.hid hz0
  have I0 := Lib.hid ((IntsB.of h).keep (Nat.le_refl _) hb0)
  have hzz := Z0.out
  clear hb0 hz0 P hn h
  obtain ⟨p0, p1, p2⟩ := P0.out
  cases hg : goodB ⟨W, t, k⟩ zs
  · have HR : Hid (bandsL ⟨W, t, k⟩ zs = []) := by show _ = _; unfold bandsL; rw [hg]; rfl
    go_enter Try.func22, Try.ntmps22
    go_wp2_with fail
    clear hw0
    refine (isFitting_any W t k A n c zs _ Hn.out hm I0.out.ints).mono ?_
    rintro e' w1 ⟨he', hb1⟩
    rw [hg] at he'; subst he'
    have T1 := Lib.hid (T0.out.trans (hb1.mono (by omega)))
    clear hb1
    go_wp2
    go_ret
    exact ⟨_, rfl, by rw [HR.out]; exact ⟨rfl, .inl ⟨rfl, rfl⟩⟩, T1.out⟩
  have HR : Hid (bandsL ⟨W, t, k⟩ zs = bandL (t + riseF ⟨W, t, k⟩ (sumL zs) (bandsN zs)) (moreF ⟨W, t, k⟩ (sumL zs) (bandsN zs)) (bandsN zs)) := by show _ = _; unfold bandsL; rw [hg]; rfl
  obtain ⟨hms, hli, hfi⟩ := goodB_parts hg
  have HL := Lib.hid hli; have HM := Lib.hid hms; have HF : Hid (widF (sumL zs) (bandsN zs) t ≤ W) := hfi
  obtain ⟨s0, s1, s2⟩ := lineB_sum hli
  clear hms hli hfi
  go_enter Try.func22, Try.ntmps22
  go_wp2_with fail
  clear hw0
  refine (isFitting_any W t k A n c zs _ Hn.out hm I0.out.ints).mono ?_
  rintro e' w1 ⟨he', hb1⟩
  rw [hg] at he'; subst he'
  have T1 := Lib.hid (T0.out.trans (hb1.mono (by omega))); have P1 := Lib.hid (hold3 hb1 (by omega) P0.out); have I1 := Lib.hid (I0.out.keep (by omega) hb1)
  have z1 := hb1.size
  clear hb1 p0 p1 p2 hg
  obtain ⟨p0, p1, p2⟩ := P1.out
  go_wp2_with fail
  first
    | go_region_held3 (fun w' => w'.cell? ⟨w.heap.size, 0, none⟩ = some (.int .i64 W) ∧ w'.cell? ⟨w.heap.size, 1, none⟩ = some (.int .i64 t) ∧ w'.cell? ⟨w.heap.size, 2, none⟩ = some (.int .i64 k)) (first | go_keep | exact P2.out | exact P3.out)
      (first
        | (go_at_call 56; refine (loadOf_any A n c zs w1.drew Hn.out (I1.out.keep (Nat.le_refl _) (below_drewN (Below.refl w.heap.size w1) 1)).ints HL.out).mono ?_; rintro e' w2 ⟨rfl, hb2⟩; have hc2 : Below w1.heap.size w1 w2 := undrew hb2; have P2 := Lib.hid (hold3 hc2 (by omega) P1.out); have T2 := Lib.hid (T1.out.trans (hc2.mono (B' := w.heap.size) (by omega))); have z2 := hc2.size; clear hb2 hc2)
        | (go_at_call 60; refine (bandWidths_any (sumL zs) (bandsN zs) W t k _ s0 (by omega) s2 HM.out HF.out).mono ?_; rintro e' w3 ⟨g, rfl, hg3, hO3, hb3⟩; have P3 := Lib.hid (hold3 hb3 (by omega) P2.out); have T3 := Lib.hid (T2.out.trans (hb3.mono (B' := w.heap.size) (by omega))); have z3 := hb3.size; have O3 := Lib.hid hO3; clear hb3 hO3))
    | fail "the region"
  go_wp2
  go_ret
  exact ⟨_, rfl, by rw [HR.out]; exact own_base0 O3.out (by omega), T3.out⟩

/-- the address of band b on: where its slice is not empty -/
def BandsAt (w : World) (g b r : Nat) (A : Option Addr) (zs : List Int) : Prop := 0 < r → A = some ⟨g, b, none⟩ ∧ ∀ j x, zs[j]? = some x → w.cell? ⟨g, j, none⟩ = some (.int .i64 x)

set_option maxRecDepth 100000 in
set_option maxHeartbeats 3200000 in
theorem implPlaces_any (W t k : Int) (A : Option Addr) (n c : Nat) (zs : List Int) (w : World) (hn : zs.length = n) (hm : n ≤ maxLen) (h : Ints w A zs) :
    Calls Try.prog 23 #[.agg #[.int .i64 W, .int .i64 t, .int .i64 k], .slice A n c] w fun e w' => ∃ v, e = .returned v ∧ Own w' w.heap.size v (placesL ⟨W, t, k⟩ zs) ∧ Below w.heap.size w w' := by
  have Hn := Lib.hid hn
  obtain ⟨w0, hw0, hb0, hz0, P⟩ := msWorld w W t k
  have T0 := Lib.hid hb0; have P0 := Lib.hid P; have Z0 := Lib.hid hz0
  have I0 := Lib.hid ((IntsB.of h).keep (Nat.le_refl _) hb0)
  have hzz := Z0.out
  clear hb0 hz0 P hn h
  obtain ⟨p0, p1, p2⟩ := P0.out
  cases hg : goodB ⟨W, t, k⟩ zs
  · have HR : Hid (placesL ⟨W, t, k⟩ zs = []) := by show _ = _; unfold placesL; rw [hg]; rfl
    go_enter Try.func23, Try.ntmps23
    go_wp2_with fail
    clear hw0
    refine (isFitting_any W t k A n c zs _ Hn.out hm I0.out.ints).mono ?_
    rintro e' w1 ⟨he', hb1⟩
    rw [hg] at he'; subst he'
    have T1 := Lib.hid (T0.out.trans (hb1.mono (by omega)))
    clear hb1
    go_wp2
    go_ret
    exact ⟨_, rfl, by rw [HR.out]; exact ⟨rfl, .inl ⟨rfl, rfl⟩⟩, T1.out⟩
  obtain ⟨hms, hli, hfi⟩ := goodB_parts hg
  obtain ⟨hz, hlen⟩ := lineB_parts hli
  have hm1 : n ≤ 120 := by rw [← Hn.out]; exact hlen
  obtain ⟨ht0, ht1⟩ := riseThin hg
  simp only at ht0 ht1
  obtain ⟨a, ha⟩ : ∃ a, t + riseL ⟨W, t, k⟩ zs = a := ⟨_, rfl⟩
  obtain ⟨e, he⟩ : ∃ e, moreL ⟨W, t, k⟩ zs = e := ⟨_, rfl⟩
  rw [ha] at ht0 ht1
  have Ha : Hid (t + riseF ⟨W, t, k⟩ (sumL zs) (bandsN zs) = a) := ha
  have He : Hid (moreF ⟨W, t, k⟩ (sumL zs) (bandsN zs) = e) := he
  have HR : Hid (placesL ⟨W, t, k⟩ zs = leftL a e zs n) := by show _ = _; unfold placesL; rw [hg, if_pos rfl, Hn.out, ← ha, ← he]
  have HLW := Lib.hid (fun j => leftW_bound (e := e) ht0 ht1 hz j)
  have HWW := Lib.hid (fun j => wideW_bound (e := e) ht0 ht1 hz j)
  have HL := Lib.hid hli; have HM := Lib.hid hms; have HF : Hid (widF (sumL zs) (bandsN zs) t ≤ W) := hfi
  obtain ⟨s0, s1, s2⟩ := lineB_sum hli
  clear hms hli hfi hz hlen ha he
  go_enter Try.func23, Try.ntmps23
  go_wp2_with fail
  clear hw0
  refine (isFitting_any W t k A n c zs _ Hn.out hm I0.out.ints).mono ?_
  rintro e' w1 ⟨he', hb1⟩
  rw [hg] at he'; subst he'
  have T1 := Lib.hid (T0.out.trans (hb1.mono (by omega))); have P1 := Lib.hid (hold3 hb1 (by omega) P0.out); have I1 := Lib.hid (I0.out.keep (by omega) hb1)
  have z1 := hb1.size
  clear hb1 p0 p1 p2 hg
  obtain ⟨p0, p1, p2⟩ := P1.out
  go_wp2_with fail
  first
    | go_region_held3 (fun w' => w'.cell? ⟨w.heap.size, 0, none⟩ = some (.int .i64 W) ∧ w'.cell? ⟨w.heap.size, 1, none⟩ = some (.int .i64 t) ∧ w'.cell? ⟨w.heap.size, 2, none⟩ = some (.int .i64 k)) (first | go_keep | exact P2.out | exact P3.out)
      (first
        | (go_at_call 56; refine (loadOf_any A n c zs w1.drew Hn.out (I1.out.keep (Nat.le_refl _) (below_drewN (Below.refl w.heap.size w1) 1)).ints HL.out).mono ?_; rintro e' w2 ⟨rfl, hb2⟩; have hc2 : Below w1.heap.size w1 w2 := undrew hb2; have P2 := Lib.hid (hold3 hc2 (by omega) P1.out); have T2 := Lib.hid (T1.out.trans (hc2.mono (B' := w.heap.size) (by omega))); have z2 := hc2.size; have I2 := Lib.hid (I1.out.keep (by omega) hc2); clear hb2 hc2)
        | (go_at_call 60; refine (bandWidths_any (sumL zs) (bandsN zs) W t k _ s0 (by omega) s2 HM.out HF.out).mono ?_; rintro e' w3 ⟨g, rfl, hg3, hO3, hb3⟩; have P3 := Lib.hid (hold3 hb3 (by omega) P2.out); have T3 := Lib.hid (T2.out.trans (hb3.mono (B' := w.heap.size) (by omega))); have z3 := hb3.size; have O3 := Lib.hid hO3; have I3 := Lib.hid (I2.out.keep (by omega) hb3); clear hb3 hO3))
    | fail "the region"
  have hg4 : g < w3.heap.size := (World.ownsRow.lt O3.out g rfl).2
  have HC3 : Hid (∀ j x, (bandL a e (bandsN zs))[j]? = some x → w3.cell? ⟨g, j, none⟩ = some (.int .i64 x)) := fun j x hx => by
    have h1 := World.ownsRow.cells O3.out (g := g) rfl j (.int .i64 x) (by
      rw [Ha.out, He.out, List.getElem?_map, hx]; rfl)
    rwa [add_zero_at] at h1
  go_wp2_with (at_make; refine wpl_make_int _ rfl (.tmp 19) rfl n _ rfl rfl (by omega) ?_; intro w4 hown4 hb4)
  have R4 := Lib.hid hown4; have B4 := Lib.hid hb4
  have z4 := hb4.size
  clear hown4 hb4 p0 p1 p2
  go_loopw [5, 7, 23] (fun u p i wr => ∃ j b r : Nat, ∃ A5 c5, j ≤ n ∧ i = .int .i64 j ∧ p = .int .i64 (leftW a e zs j) ∧ u = .slice A5 r c5 ∧ r ≤ c5 ∧ c5 ≤ 120 ∧ bandsN (zs.take j) = b ∧ b + r = bandsN zs ∧ (0 < r → A5 = some ⟨g, b, none⟩) ∧ wr.ownsRow w3.heap.size 3 1 (.slice (some ⟨w3.heap.size, 0, none⟩) n n) n (half (leftL a e zs n) n j) ∧ Below w3.heap.size w3 wr) (fun _ _ i _ => n - (intOf i).toNat)
  case atStart => exact ⟨0, 0, bandsN zs, _, _, Nat.zero_le _, rfl, rfl, rfl, Nat.le_refl _, s2, rfl, by omega, fun _ => rfl, by have := R4.out; simpa [half] using this, B4.out⟩
  case round =>
    obtain ⟨j, b, r, A5, c5, hj, rfl, rfl, rfl, hrc, hc5, hbn, hbr, hA5, hown, hb⟩ := hrel
    have hsz := hb.size
    have HO := Lib.hid hown; have HB := Lib.hid hb; have Hbn := Lib.hid hbn; have HA := Lib.hid hA5
    clear hown hb hbn hA5
    by_cases hlt : j < n
    · obtain ⟨ad, x, rfl, hx, hc⟩ := (I3.out.keep (by omega) HB.out).ints.at_ (k := j) (by rw [Hn.out]; exact hlt)
      have hl1 := HLW.out j
      have hw1 := HWW.out j
      obtain ⟨lf, hlf⟩ : ∃ x, leftW a e zs j = x := ⟨_, rfl⟩
      have Hlf := Lib.hid hlf
      have HS2 := Lib.hid (leftW_succ a e zs j)
      rw [hlf] at hl1 HS2 ⊢
      obtain ⟨v0, hv0⟩ := half_cell (leftL a e zs n) n j (leftL_len _ _ _ _) hlt
      have hd := (HO.out.cellAt j (by omega)).trans hv0
      have hf := HO.out.frozenAt j
      have hgl : (leftL a e zs n)[j]? = some lf := by simp [leftL, hlt, hlf]
      have S6 := Lib.hid (HO.out.stored j (.int .i64 lf)).1
      rw [half_set (leftL_len a e zs n) hgl] at S6
      have B6 := Lib.hid (HB.out.setCell (p := ⟨w3.heap.size, j, none⟩) (Nat.le_refl _) (.int .i64 lf))
      have hN := bandsN_at hx.out
      rw [Hbn.out] at hN
      clear hlf hv0 hgl
      by_cases h0 : x = 0
      · subst h0
        rw [if_pos rfl] at hN
        have hle := bandsN_take zs (j + 1)
        have hrp : 0 < r := by omega
        obtain ⟨r', rfl⟩ : ∃ r', r = r' + 1 := ⟨r - 1, by omega⟩
        obtain rfl := HA.out hrp
        have HW : Hid (wideW a e zs j = bandW a e b) := by show _ = _; rw [wideW_band hx.out, Hbn.out]
        rw [HW.out] at hw1 HS2
        obtain ⟨bw, hbw⟩ : ∃ x, bandW a e b = x := ⟨_, rfl⟩
        have hcb : w3.cell? ⟨g, b, none⟩ = some (.int .i64 bw) := HC3.out b bw (by rw [bandL_get a e (show b < bandsN zs by omega), hbw])
        have hcb2 : (wr.setCell ⟨w3.heap.size, j, none⟩ (.int .i64 lf)).cell? ⟨g, b, none⟩ = some (.int .i64 bw) := (B6.out.cell (p := ⟨g, b, none⟩) (by exact hg4)).trans hcb
        have hcb3 : (wr.setCell ⟨w3.heap.size, j, none⟩ (.int .i64 lf)).cell? ((⟨g, b, none⟩ : Addr).add 0) = some (.int .i64 bw) := hcb2
        rw [hbw] at hw1 HS2
        have HN := Lib.hid hN
        clear hN hle hcb hbw
        go_wp2
        go_roundw
        case rel => exact ⟨j + 1, b + 1, r', _, _, by omega, by go_num, by rw [HS2.out], rfl, by omega, by omega, HN.out, by omega, fun h => by rw [if_neg (by omega)], S6.out, B6.out⟩
        case measure => simp [intOf]; omega
      · rw [if_neg h0, Nat.add_zero] at hN
        have HW : Hid (wideW a e zs j = x) := wideW_item hx.out h0
        rw [HW.out] at hw1 HS2
        have h0' : (x == 0) = false := by simpa using h0
        have HN := Lib.hid hN
        clear h0 hN
        go_wp2
        go_roundw
        case rel => exact ⟨j + 1, b, r, _, _, by omega, by go_num, by rw [HS2.out], rfl, hrc, hc5, HN.out, hbr, HA.out, S6.out, B6.out⟩
        case measure => simp [intOf]; omega
    · have hjn : j = n := by omega
      subst hjn
      go_wp2
      go_ret
      refine ⟨_, rfl, ?_, T3.out.trans (HB.out.mono (by omega))⟩
      rw [HR.out]
      have := HO.out
      rw [half_full (leftL_len _ _ _ _)] at this
      refine own_base0 ⟨by simp [leftL_len], .inr ?_⟩ (show w.heap.size ≤ w3.heap.size by omega)
      rcases this.2 with ⟨h, _⟩ | ⟨g, cap, cur, hv, hg, rest⟩
      · cases h
      · exact ⟨g, cap, cur, by rw [leftL_len]; exact hv, by omega, by rw [leftL_len]; exact rest⟩
end Go.Proofs.Ytjfckplogjekaaa
