/-
  Contracts and plain mathematics (SpecW, Wide, BandS), each with its conditions in its own statement.
-/
import Derived.Test.YtimhnkpccbcohaaGreatDoorZPkF
import Derived.Test.YtimhnkpccbcohaaGreatDoorZPkA
namespace Go.Proofs.YtimhnkpccbcohaaGreatDoor
open Go.RowKit
set_option linter.unusedVariables false

set_option maxHeartbeats 1600000 in
theorem specSpread_any (W t k : Int) (A : Option Addr) (n c : Nat) (zs : List Int) (w : World) (hn : zs.length = n) (hm : n ≤ maxLen) (h : Ints w A zs) :
    Calls Tryz.prog 88 #[.agg #[.int .i64 W, .int .i64 t, .int .i64 k], .slice A n c] w fun e w' => e = .returned (.tuple #[.int .i64 (rise1 ⟨W, t, k⟩ zs), .int .i64 (rest1 ⟨W, t, k⟩ zs), .bool (goodB ⟨W, t, k⟩ zs)]) ∧ Below w.heap.size w w' := by
  have Hn := Lib.hid hn
  obtain ⟨w0, hw0, hb0, hz0, P⟩ := msWorld w W t k
  have T0 := Lib.hid hb0; have P0 := Lib.hid P; have Z0 := Lib.hid hz0
  have I0 := Lib.hid (h.below hb0)
  clear hb0 hz0 P hn h
  obtain ⟨p0, p1, p2⟩ := P0.out
  cases hms : msrB ⟨W, t, k⟩
  · have hg := good_no (zs := zs) hms
    obtain ⟨r1, r2⟩ := spr_no hg
    rw [r1, r2, hg]
    clear hg r1 r2
    go_enter Tryz.func88, Tryz.ntmps88
    go_wp2_with fail
    clear hw0
    have hz := Z0.out
    refine (specMeasureOk_any W t k _).mono ?_
    rintro e w1 ⟨he, hb1⟩
    rw [hms] at he; subst he
    have T1 := Lib.hid (T0.out.trans (hb1.mono (B' := w.heap.size) (by omega)))
    have P1 := Lib.hid (hold3 hb1 (by omega) P0.out)
    have I1 := Lib.hid (I0.out.below hb1)
    have z1 := hb1.size
    clear hb1 p0 p1 p2
    obtain ⟨p0, p1, p2⟩ := P1.out
    go_wp2
    go_ret3
    exact ⟨rfl, T1.out⟩
  have HM := Lib.hid hms
  cases hfi : fitsB ⟨W, t, k⟩ zs
  · have hg : goodB ⟨W, t, k⟩ zs = false := by unfold goodB; rw [hfi]; simp
    obtain ⟨r1, r2⟩ := spr_no hg
    rw [r1, r2, hg]
    clear hg r1 r2
    go_enter Tryz.func88, Tryz.ntmps88
    go_wp2_with fail
    clear hw0
    have hz := Z0.out
    refine (specMeasureOk_any W t k _).mono ?_
    rintro e w1 ⟨he, hb1⟩
    rw [hms] at he; subst he
    have T1 := Lib.hid (T0.out.trans (hb1.mono (B' := w.heap.size) (by omega)))
    have P1 := Lib.hid (hold3 hb1 (by omega) P0.out)
    have I1 := Lib.hid (I0.out.below hb1)
    have z1 := hb1.size
    clear hb1 p0 p1 p2
    obtain ⟨p0, p1, p2⟩ := P1.out
    go_wp2_with fail
    refine (l3Fits_any W t k A n c zs _ HM.out Hn.out hm I1.out).mono ?_
    rintro e w2 ⟨he, hb2⟩
    rw [hfi] at he; subst he
    have T2 := Lib.hid (T1.out.trans (hb2.mono (B' := w.heap.size) (by omega)))
    have P2 := Lib.hid (hold3 hb2 (by omega) P1.out)
    have I2 := Lib.hid (I1.out.below hb2)
    have z2 := hb2.size
    clear hb2 p0 p1 p2
    obtain ⟨p0, p1, p2⟩ := P2.out
    go_wp2
    go_ret3
    exact ⟨rfl, T2.out⟩
  have hg : goodB ⟨W, t, k⟩ zs = true := by unfold goodB; rw [hfi, hms]; rfl
  obtain ⟨r1, r2⟩ := spr_is hg
  rw [r1, r2, hg]
  have HG := Lib.hid hg
  clear hg r1 r2
  go_enter Tryz.func88, Tryz.ntmps88
  go_wp2_with fail
  clear hw0
  have hz := Z0.out
  refine (specMeasureOk_any W t k _).mono ?_
  rintro e w1 ⟨he, hb1⟩
  rw [hms] at he; subst he
  have T1 := Lib.hid (T0.out.trans (hb1.mono (B' := w.heap.size) (by omega)))
  have P1 := Lib.hid (hold3 hb1 (by omega) P0.out)
  have I1 := Lib.hid (I0.out.below hb1)
  have z1 := hb1.size
  clear hb1 p0 p1 p2
  obtain ⟨p0, p1, p2⟩ := P1.out
  go_wp2_with fail
  refine (l3Fits_any W t k A n c zs _ HM.out Hn.out hm I1.out).mono ?_
  rintro e w2 ⟨he, hb2⟩
  rw [hfi] at he; subst he
  have T2 := Lib.hid (T1.out.trans (hb2.mono (B' := w.heap.size) (by omega)))
  have P2 := Lib.hid (hold3 hb2 (by omega) P1.out)
  have I2 := Lib.hid (I1.out.below hb2)
  have z2 := hb2.size
  clear hb2 p0 p1 p2
  obtain ⟨p0, p1, p2⟩ := P2.out
  go_wp2_with fail
  refine (l3Spread_any W t k A n c zs _ HG.out Hn.out I2.out).mono ?_
  rintro e w3 ⟨rfl, hb3⟩
  have T3 := Lib.hid (T2.out.trans (hb3.mono (B' := w.heap.size) (by omega)))
  clear hb3
  go_wp2
  go_ret3
  exact ⟨rfl, T3.out⟩

set_option maxHeartbeats 1600000 in
theorem specIsFull_any (W t k : Int) (A : Option Addr) (n c : Nat) (zs : List Int) (w : World) (hn : zs.length = n) (hm : n ≤ maxLen) (h : Ints w A zs) :
    Calls Tryz.prog 52 #[.agg #[.int .i64 W, .int .i64 t, .int .i64 k], .slice A n c] w fun e w' => e = .returned (.bool (fullB ⟨W, t, k⟩ zs)) ∧ Below w.heap.size w w' := by
  have Hn := Lib.hid hn
  obtain ⟨w0, hw0, hb0, hz0, P⟩ := msWorld w W t k
  have T0 := Lib.hid hb0; have P0 := Lib.hid P; have Z0 := Lib.hid hz0
  have I0 := Lib.hid (h.below hb0)
  clear hb0 hz0 P hn h
  obtain ⟨p0, p1, p2⟩ := P0.out
  cases hg : goodB ⟨W, t, k⟩ zs
  · have HR : Hid (fullB ⟨W, t, k⟩ zs = false) := by show _ = _; unfold fullB; rw [hg]; rfl
    obtain ⟨r1, r2⟩ := spr_no hg
    go_enter Tryz.func52, Tryz.ntmps52
    go_wp2_with fail
    clear hw0
    have hz := Z0.out
    refine (specSpread_any W t k A n c zs _ Hn.out hm I0.out).mono ?_
    rintro e w1 ⟨he, hb1⟩
    rw [r1, r2, hg] at he; subst he
    have T1 := Lib.hid (T0.out.trans (hb1.mono (B' := w.heap.size) (by omega)))
    have I1 := Lib.hid (I0.out.below hb1)
    clear hb1
    go_wp2_with fail
    refine (l3Sum_any A n c zs _ Hn.out hm I1.out).mono ?_
    rintro e w2 ⟨s, b, rfl, -, rfl⟩
    go_wp2
    go_ret
    exact ⟨ret_bool HR.out.symm, T1.out⟩
  obtain ⟨r1, r2⟩ := spr_is hg
  obtain ⟨hms, hli, _⟩ := goodB_parts hg
  have HL := Lib.hid hli
  obtain ⟨r, hr⟩ : ∃ r, restL ⟨W, t, k⟩ zs = r := ⟨_, rfl⟩
  have HR : Hid (fullB ⟨W, t, k⟩ zs = (r == 0 || decide (r < (bandsN zs : Int)))) := by show _ = _; unfold fullB fullL fullF; unfold restL at hr; rw [hg, hr]; rfl
  rw [hr] at r2
  have R1 := Lib.hid r1; have R2 := Lib.hid r2; have HG := Lib.hid hg
  clear r1 r2 hr hms hli
  cases hr0 : (r == 0)
  · go_enter Tryz.func52, Tryz.ntmps52
    go_wp2_with fail
    clear hw0
    have hz := Z0.out
    refine (specSpread_any W t k A n c zs _ Hn.out hm I0.out).mono ?_
    rintro e w1 ⟨he, hb1⟩
    rw [R1.out, R2.out, HG.out] at he; subst he
    have T1 := Lib.hid (T0.out.trans (hb1.mono (B' := w.heap.size) (by omega)))
    have I1 := Lib.hid (I0.out.below hb1)
    clear hb1
    go_wp2_with fail
    refine (l3Sum_yes A n c zs _ Hn.out I1.out HL.out).mono ?_
    rintro e w2 ⟨rfl, rfl⟩
    go_wp2
    go_ret
    exact ⟨ret_bool (by rw [HR.out, hr0]; rfl), T1.out⟩
  · go_enter Tryz.func52, Tryz.ntmps52
    go_wp2_with fail
    clear hw0
    have hz := Z0.out
    refine (specSpread_any W t k A n c zs _ Hn.out hm I0.out).mono ?_
    rintro e w1 ⟨he, hb1⟩
    rw [R1.out, R2.out, HG.out] at he; subst he
    have T1 := Lib.hid (T0.out.trans (hb1.mono (B' := w.heap.size) (by omega)))
    have I1 := Lib.hid (I0.out.below hb1)
    clear hb1
    go_wp2_with fail
    refine (l3Sum_yes A n c zs _ Hn.out I1.out HL.out).mono ?_
    rintro e w2 ⟨rfl, rfl⟩
    go_wp2
    go_ret
    exact ⟨ret_bool (by rw [HR.out, hr0]; rfl), T1.out⟩
end Go.Proofs.YtimhnkpccbcohaaGreatDoor

namespace Go.Proofs.YtimhnkpccbcohaaGreatDoor
open Go.RowKit
set_option linter.unusedVariables false

theorem own_down {w : World} {B B' : Nat} {v : Value} {zs : List Int} (h : Own w B v zs) (hB : B' ≤ B) : Own w B' v zs := by
  refine ⟨h.1, ?_⟩
  rcases h.2 with hn | ⟨g, cap, cur, hv, hg, rest⟩
  · exact .inl hn
  · exact .inr ⟨g, cap, cur, hv, by omega, rest⟩
/-- what of e is left behind b bands -/
def remW (e : Int) (b : Nat) : Int := if (b : Int) < e then e - b else 0
theorem remW_zero {e : Int} (h : 0 ≤ e) : remW e 0 = e := by unfold remW; split <;> omega
theorem remW_pos {e : Int} {b : Nat} (h : (b : Int) < e) : remW e b = e - b ∧ remW e (b + 1) = e - b - 1 ∧ (∀ a, bandW a e b = a + 1) := by
  refine ⟨by unfold remW; rw [if_pos h], by unfold remW; split <;> omega, fun a => by unfold bandW; rw [if_pos h]⟩
theorem remW_none {e : Int} {b : Nat} (h : ¬ (b : Int) < e) : remW e b = 0 ∧ remW e (b + 1) = 0 ∧ (∀ a, bandW a e b = a) := by
  refine ⟨by unfold remW; rw [if_neg h], by unfold remW; rw [if_neg (by omega)], fun a => by unfold bandW; rw [if_neg h, Int.add_zero]⟩
theorem own_wide {w : World} {B : Nat} {v : Value} {a e : Int} {zs : List Int} {k : Nat} {x : Int} (hx : wideW a e zs k = x) (h : Own w B v (wideL a e zs k ++ [x])) : Own w B v (wideL a e zs (k + 1)) := by
  rw [wideL_succ, hx]; exact h

set_option maxRecDepth 100000 in
set_option maxHeartbeats 3200000 in
theorem l3Wide_any (W t k : Int) (A : Option Addr) (n c : Nat) (zs : List Int) (w : World) (hg : goodB ⟨W, t, k⟩ zs = true) (hn : zs.length = n) (h : Ints w A zs) :
    Calls Tryz.prog 90 #[.agg #[.int .i64 W, .int .i64 t, .int .i64 k], .slice A n c] w fun e w' => ∃ v, e = .returned v ∧ Own w' w.heap.size v (wideL (t + riseL ⟨W, t, k⟩ zs) (moreL ⟨W, t, k⟩ zs) zs n) ∧ Below w.heap.size w w' := by
  have Hn := Lib.hid hn
  obtain ⟨w0, hw0, hb0, hz0, P⟩ := msWorld w W t k
  have T0 := Lib.hid hb0; have P0 := Lib.hid P; have Z0 := Lib.hid hz0
  have I0 := Lib.hid ((IntsB.of h).keep (Nat.le_refl _) hb0)
  obtain ⟨p0, p1, p2⟩ := P0.out
  obtain ⟨hms, hli, _⟩ := goodB_parts hg
  obtain ⟨hz, hlen⟩ := lineB_parts hli
  have hm : n ≤ 120 := by omega
  have hm0 : n ≤ maxLen := by unfold maxLen; omega
  have HG := Lib.hid hg
  obtain ⟨ht0, ht1⟩ := riseThin hg
  simp only at ht0 ht1
  obtain ⟨hmo0, hmo1⟩ := more_bound hg
  have hf : fullB ⟨W, t, k⟩ zs = fullL ⟨W, t, k⟩ zs := by unfold fullB; rw [hg]; rfl
  obtain ⟨rs, hrs⟩ : ∃ r, riseL ⟨W, t, k⟩ zs = r := ⟨_, rfl⟩
  obtain ⟨re, hre⟩ : ∃ r, restL ⟨W, t, k⟩ zs = r := ⟨_, rfl⟩
  obtain ⟨e, he⟩ : ∃ e, moreL ⟨W, t, k⟩ zs = e := ⟨_, rfl⟩
  have C1 := Lib.hid (l3Spread_any W t k A n c zs w0 hg hn I0.out.ints)
  have HE : Hid (e = if fullL ⟨W, t, k⟩ zs then re else 0) := by show _ = _; rw [← he, ← hre]; rfl
  rw [hrs, hre] at C1
  rw [hrs] at ht0 ht1 ⊢
  rw [he] at hmo0 hmo1 ⊢
  have HZ := Lib.hid hz
  clear hb0 hn h hms hli hz hlen hg hrs hre he P hz0
  have hzz := Z0.out
  go_enter Tryz.func90, Tryz.ntmps90
  go_wp2_with fail
  clear hw0
  refine C1.out.mono ?_
  rintro e' w1 ⟨rfl, hb1⟩
  have T1 := Lib.hid (T0.out.trans (hb1.mono (by omega))); have P1 := Lib.hid (hold3 hb1 (by omega) P0.out); have I1 := Lib.hid (I0.out.keep (by omega) hb1)
  have z1 := hb1.size
  clear hb1 C1 p0 p1 p2 I0
  obtain ⟨p0, p1, p2⟩ := P1.out
  go_wp2_with fail
  refine (specIsFull_any W t k A n c zs _ Hn.out hm0 I1.out.ints).mono ?_
  rintro e' w2 ⟨rfl, hb2⟩
  rw [hf]
  have T2 := Lib.hid (T1.out.trans (hb2.mono (by omega))); have P2 := Lib.hid (hold3 hb2 (by omega) P1.out); have I2 := Lib.hid (I1.out.keep (by omega) hb2)
  have z2 := hb2.size
  clear hb2 p0 p1 p2 I1 hf
  obtain ⟨p0, p1, p2⟩ := P2.out
  cases hfu : fullL ⟨W, t, k⟩ zs
  all_goals
    have HE2 := HE
    rw [hfu] at HE2
    have H0 : Hid (remW e (bandsN (zs.take 0)) = e) := remW_zero hmo0
    go_wp2
    clear p0 p1 p2
    go_loopw [6, 7, 23] (fun u v i wr => ∃ j : Nat, j ≤ n ∧ i = .int .i64 j ∧ u = .int .i64 (remW e (bandsN (zs.take j))) ∧ Own wr w2.heap.size v (wideL (t + rs) e zs j) ∧ Below w2.heap.size w2 wr) (fun _ _ i _ => n - (intOf i).toNat)
    case atStart => exact ⟨0, Nat.zero_le _, rfl, by rw [H0.out, HE2.out]; rfl, World.ownsRow_lit w2 #[] 0 (Nat.le_refl _) (Nat.zero_le _) rfl, (Below.refl _ _).alloc (Nat.le_refl _) _⟩
    case round =>
      obtain ⟨j, hj, rfl, rfl, hown, hb⟩ := hrel
      have hsz := hb.size
      have HO := Lib.hid hown; have HB := Lib.hid hb
      clear hown hb
      by_cases hlt : j < n
      · obtain ⟨ad, x, rfl, hx, hc⟩ := (I2.out.keep (by omega) HB.out).ints.at_ (k := j) (by rw [Hn.out]; exact hlt)
        have hlen : (wideL (t + rs) e zs j).length ≤ 1048576 := by rw [wideL_len]; omega
        have Hlen := Lib.hid hlen
        obtain ⟨p0, p1, p2⟩ := hold3 HB.out (by omega) P2.out
        by_cases h0 : x = 0
        · subst h0
          obtain ⟨bn, hbn⟩ : ∃ b, bandsN (zs.take j) = b := ⟨_, rfl⟩
          have HN : Hid (bandsN (zs.take (j + 1)) = bn + 1) := by show _ = _; rw [bandsN_at hx.out, hbn, if_pos rfl]
          have HW : Hid (wideW (t + rs) e zs j = bandW (t + rs) e bn) := by show _ = _; rw [wideW_band hx.out, hbn]
          rw [hbn]
          clear hbn hlen
          by_cases hbe : (bn : Int) < e
          · obtain ⟨r1, r2, r3⟩ := remW_pos hbe
            have R2 := Lib.hid r2
            have HX : Hid (wideW (t + rs) e zs j = t + rs + 1) := by show _ = _; rw [HW.out, r3]
            rw [r1]
            clear r1 r2 r3
            have hgt : decide ((0 : Int) < e - (bn : Int)) = true := decide_eq_true (by omega)
            go_wp2_with (at_builtin; refine wpl_push _ rfl (.tmp 39) (.tmp 41) rfl w2.heap.size _ _ (t + rs + 1) rfl rfl HO.out hsz Hlen.out ?_; intro v' w4 hO4 hB4)
            have HO4 := Lib.hid (own_wide HX.out hO4); have HB4 := Lib.hid (HB.out.trans hB4)
            clear hO4 hB4
            go_roundw
            case rel => exact ⟨j + 1, by omega, by go_num, by rw [HN.out, R2.out], HO4.out, HB4.out⟩
            case measure => simp [intOf]; omega
          · obtain ⟨r1, r2, r3⟩ := remW_none hbe
            have R2 := Lib.hid r2
            have HX : Hid (wideW (t + rs) e zs j = t + rs) := by show _ = _; rw [HW.out, r3]
            rw [r1]
            clear r1 r2 r3
            go_wp2_with (at_builtin; refine wpl_push _ rfl (.tmp 39) (.tmp 41) rfl w2.heap.size _ _ (t + rs) rfl rfl HO.out hsz Hlen.out ?_; intro v' w4 hO4 hB4)
            have HO4 := Lib.hid (own_wide HX.out hO4); have HB4 := Lib.hid (HB.out.trans hB4)
            clear hO4 hB4
            go_roundw
            case rel => exact ⟨j + 1, by omega, by go_num, by rw [HN.out, R2.out], HO4.out, HB4.out⟩
            case measure => simp [intOf]; omega
        · have HN : Hid (bandsN (zs.take (j + 1)) = bandsN (zs.take j)) := by show _ = _; rw [bandsN_at hx.out, if_neg h0, Nat.add_zero]
          have HX : Hid (wideW (t + rs) e zs j = x) := wideW_item hx.out h0
          have h0' : (x == 0) = false := by simpa using h0
          clear h0 hlen
          go_wp2_with (at_builtin; refine wpl_push _ rfl (.tmp 39) (.tmp 41) rfl w2.heap.size _ _ x rfl rfl HO.out hsz Hlen.out ?_; intro v' w4 hO4 hB4)
          have HO4 := Lib.hid (own_wide HX.out hO4); have HB4 := Lib.hid (HB.out.trans hB4)
          clear hO4 hB4
          go_roundw
          case rel => exact ⟨j + 1, by omega, by go_num, by rw [HN.out], HO4.out, HB4.out⟩
          case measure => simp [intOf]; omega
      · have hjn : j = n := by omega
        subst hjn
        go_wp2
        go_ret
        exact ⟨_, rfl, own_down HO.out (by omega), T2.out.trans (HB.out.mono (by omega))⟩
end Go.Proofs.YtimhnkpccbcohaaGreatDoor

namespace Go.Proofs.YtimhnkpccbcohaaGreatDoor
open Go.RowKit
set_option linter.unusedVariables false

set_option maxRecDepth 100000 in
set_option maxHeartbeats 3200000 in
theorem specPlaces_any (W t k : Int) (A : Option Addr) (n c : Nat) (zs : List Int) (w : World) (hn : zs.length = n) (hm : n ≤ maxLen) (h : Ints w A zs) :
    Calls Tryz.prog 55 #[.agg #[.int .i64 W, .int .i64 t, .int .i64 k], .slice A n c] w fun e w' => ∃ v, e = .returned v ∧ Own w' w.heap.size v (placesL ⟨W, t, k⟩ zs) ∧ Below w.heap.size w w' := by
  have Hn := Lib.hid hn
  obtain ⟨w0, hw0, hb0, hz0, P⟩ := msWorld w W t k
  have T0 := Lib.hid hb0; have P0 := Lib.hid P; have Z0 := Lib.hid hz0
  have I0 := Lib.hid ((IntsB.of h).keep (Nat.le_refl _) hb0)
  have hzz := Z0.out
  clear hb0 hz0 P hn h
  obtain ⟨p0, p1, p2⟩ := P0.out
  cases hms : msrB ⟨W, t, k⟩
  · have HR : Hid (placesL ⟨W, t, k⟩ zs = []) := by show _ = _; unfold placesL; rw [good_no hms]; rfl
    go_enter Tryz.func55, Tryz.ntmps55
    go_wp2_with fail
    clear hw0
    refine (specMeasureOk_any W t k _).mono ?_
    rintro e' w1 ⟨he', hb1⟩
    rw [hms] at he'; subst he'
    have T1 := Lib.hid (T0.out.trans (hb1.mono (by omega)))
    have P1 := Lib.hid (hold3 hb1 (by omega) P0.out)
    have I1 := Lib.hid (I0.out.keep (by omega) hb1)
    have z1 := hb1.size
    clear hb1 p0 p1 p2
    obtain ⟨p0, p1, p2⟩ := P1.out
    go_wp2
    go_ret
    exact ⟨_, rfl, by rw [HR.out]; exact ⟨rfl, .inl ⟨rfl, rfl⟩⟩, T1.out⟩
  have HM := Lib.hid hms
  cases hfi : fitsB ⟨W, t, k⟩ zs
  · have HR : Hid (placesL ⟨W, t, k⟩ zs = []) := by show _ = _; unfold placesL goodB; rw [hfi, Bool.and_false]; rfl
    go_enter Tryz.func55, Tryz.ntmps55
    go_wp2_with fail
    clear hw0
    refine (specMeasureOk_any W t k _).mono ?_
    rintro e' w1 ⟨he', hb1⟩
    rw [hms] at he'; subst he'
    have T1 := Lib.hid (T0.out.trans (hb1.mono (by omega)))
    have P1 := Lib.hid (hold3 hb1 (by omega) P0.out)
    have I1 := Lib.hid (I0.out.keep (by omega) hb1)
    have z1 := hb1.size
    clear hb1 p0 p1 p2
    obtain ⟨p0, p1, p2⟩ := P1.out
    go_wp2_with fail
    refine (l3Fits_any W t k A n c zs _ HM.out Hn.out hm I1.out.ints).mono ?_
    rintro e' w2 ⟨he', hb2⟩
    rw [hfi] at he'; subst he'
    have T2 := Lib.hid (T1.out.trans (hb2.mono (by omega)))
    have P2 := Lib.hid (hold3 hb2 (by omega) P1.out)
    have I2 := Lib.hid (I1.out.keep (by omega) hb2)
    have z2 := hb2.size
    clear hb2 p0 p1 p2 I1 I0 P1 P0
    obtain ⟨p0, p1, p2⟩ := P2.out
    go_wp2
    go_ret
    exact ⟨_, rfl, by rw [HR.out]; exact ⟨rfl, .inl ⟨rfl, rfl⟩⟩, T2.out⟩
  have hg : goodB ⟨W, t, k⟩ zs = true := by unfold goodB; rw [hfi, hms]; rfl
  have HG := Lib.hid hg
  obtain ⟨_, hli, _⟩ := goodB_parts hg
  obtain ⟨hz, hlen⟩ := lineB_parts hli
  have hm1 : n ≤ 120 := by rw [← Hn.out]; exact hlen
  obtain ⟨ht0, ht1⟩ := riseThin hg
  obtain ⟨a, ha⟩ : ∃ a, t + riseL ⟨W, t, k⟩ zs = a := ⟨_, rfl⟩
  obtain ⟨e, he⟩ : ∃ e, moreL ⟨W, t, k⟩ zs = e := ⟨_, rfl⟩
  have Ha := Lib.hid ha; have He := Lib.hid he
  simp only at ht0 ht1
  rw [ha] at ht0 ht1
  have HR : Hid (placesL ⟨W, t, k⟩ zs = leftL a e zs n) := by show _ = _; unfold placesL; rw [hg, if_pos rfl, Hn.out, ← ha, ← he]
  have HLW := Lib.hid (fun j => leftW_bound (e := e) ht0 ht1 hz j)
  have HWW := Lib.hid (fun j => wideW_bound (e := e) ht0 ht1 hz j)
  clear hli hz hlen hg ha he
  go_enter Tryz.func55, Tryz.ntmps55
  go_wp2_with fail
  clear hw0
  refine (specMeasureOk_any W t k _).mono ?_
  rintro e' w1 ⟨he', hb1⟩
  rw [hms] at he'; subst he'
  have T1 := Lib.hid (T0.out.trans (hb1.mono (by omega)))
  have P1 := Lib.hid (hold3 hb1 (by omega) P0.out)
  have I1 := Lib.hid (I0.out.keep (by omega) hb1)
  have z1 := hb1.size
  clear hb1 p0 p1 p2
  obtain ⟨p0, p1, p2⟩ := P1.out
  go_wp2_with fail
  refine (l3Fits_any W t k A n c zs _ HM.out Hn.out hm I1.out.ints).mono ?_
  rintro e' w2 ⟨he', hb2⟩
  rw [hfi] at he'; subst he'
  have T2 := Lib.hid (T1.out.trans (hb2.mono (by omega)))
  have P2 := Lib.hid (hold3 hb2 (by omega) P1.out)
  have I2 := Lib.hid (I1.out.keep (by omega) hb2)
  have z2 := hb2.size
  clear hb2 p0 p1 p2 I1 I0 P1 P0
  obtain ⟨p0, p1, p2⟩ := P2.out
  obtain ⟨w3, hw3⟩ : ∃ w3, w2.alloc (.cells #[] 3) = w3 := ⟨_, rfl⟩
  have hb3 : Below w2.heap.size w2 w3 := by rw [← hw3]; exact below_new _ _
  have hO3 : Own w3 w2.heap.size (.slice (some ⟨w2.heap.size, 0, none⟩) 0 0) [] := by rw [← hw3]; exact World.ownsRow_lit w2 #[] 0 (Nat.le_refl _) (Nat.zero_le _) rfl
  have T3 := Lib.hid (T2.out.trans (hb3.mono (by omega)))
  have I3 := Lib.hid (I2.out.keep (by omega) hb3)
  have z3 : w3.heap.size = w2.heap.size + 1 := by rw [← hw3]; simp
  have P3 := hold3 hb3 (by omega) P2.out
  clear p0 p1 p2
  obtain ⟨p0, p1, p2⟩ := P3
  go_wp2_with fail
  clear hb3 hw3
  refine (l3Wide_any W t k A n c zs w3 HG.out Hn.out I3.out.ints).mono ?_
  rintro e' w4 ⟨v4, rfl, hO4, hb4⟩
  rw [Ha.out, He.out] at hO4
  obtain ⟨A4, c4, hv4, hI4, hA4, _⟩ := hO4.form
  have HA4 : Hid (∀ ad, A4 = some ad → w3.heap.size ≤ ad.block ∧ ad.block < w4.heap.size) := fun ad h => by
    obtain ⟨g, rfl, h1, h2⟩ := hA4 ad h
    exact ⟨h1, h2⟩
  clear hA4
  rw [wideL_len] at hv4
  subst hv4
  have J4 := Lib.hid (IntsB.of hI4)
  have O4 := Lib.hid (Own.below hO3 hb4)
  have T4 := Lib.hid (T3.out.trans (hb4.mono (by omega)))
  have I4 := Lib.hid (I3.out.keep (by omega) hb4)
  have z4 := hb4.size
  clear hb4 hO3 hO4 hI4 I3 I2 T3 T2 p0 p1 p2
  go_wp2
  go_loopw [5, 6, 23] (fun v u i wr => ∃ j : Nat, j ≤ n ∧ i = .int .i64 j ∧ u = .int .i64 (leftW a e zs j) ∧ Own wr w2.heap.size v (leftL a e zs j) ∧ Below w2.heap.size w4 wr ∧ IntsB wr w4.heap.size A4 (wideL a e zs n) ∧ (∀ g, v.ownBlock = some g → g < w3.heap.size ∨ w4.heap.size ≤ g)) (fun _ _ i _ => n - (intOf i).toNat)
  case atStart => exact ⟨0, Nat.zero_le _, rfl, rfl, O4.out, Below.refl _ _, J4.out, fun g hg => Or.inl (by injection hg with hg; subst hg; show w2.heap.size < _; omega)⟩
  case round =>
    clear O4 J4 I4
    obtain ⟨j, hj, rfl, rfl, hown, hb, hJ, hD⟩ := hrel
    have hsz := hb.size
    have HO := Lib.hid hown; have HB := Lib.hid hb; have HD := Lib.hid hD
    clear hown hb hD
    by_cases hlt : j < n
    · obtain ⟨bd, y, rfl, hy, hd⟩ := hJ.ints.at_ (k := j) (by rw [wideL_len]; exact hlt)
      have HY : Hid (y = wideW a e zs j) := by have := hy.out; rw [wideL_get _ _ _ hlt] at this; injection this with this; exact this.symm
      have HJ := Lib.hid hJ
      have Hlen : Hid ((leftL a e zs j).length ≤ 1048576) := by show _ ≤ _; rw [leftL_len]; omega
      have hl1 := HLW.out j
      have hw1 := HWW.out j
      rw [← HY.out] at hw1
      obtain ⟨lf, hlf⟩ : ∃ x, leftW a e zs j = x := ⟨_, rfl⟩
      have HN : Hid (leftL a e zs (j + 1) = leftL a e zs j ++ [lf]) := by show _ = _; rw [leftL_succ, hlf]
      have HN2 : Hid (leftW a e zs (j + 1) = lf + y) := by show _ = _; rw [leftW_succ, hlf, HY.out]
      rw [hlf] at hl1 ⊢
      clear hJ hlf
      go_wp2_with (at_builtin; refine wpl_push2 _ rfl (.tmp 27) (.tmp 29) rfl w2.heap.size _ _ lf rfl rfl HO.out (by omega) Hlen.out ?_; intro v' w5 hO5 hg5 hl5)
      rw [← HN.out] at hO5
      have HO5 := Lib.hid hO5; have hB5 : Below w2.heap.size wr w5 := (Below.refl w2.heap.size wr).grown hg5 (by omega) (fun q hq => (World.ownsRow.lt HO.out q hq).1); have HB5 := Lib.hid (HB.out.trans hB5)
      have HD5 : Hid (∀ g, v'.ownBlock = some g → g < w3.heap.size ∨ w4.heap.size ≤ g) := fun q hq => by
            rcases hl5 q hq with h | h
            · exact HD.out q h
            · right; omega
      have HJ5 := Lib.hid (HJ.out.grown hg5 (by omega) (fun ad he hq => by have h1 := HA4.out ad he; have h2 := HD.out _ hq; omega))
      clear hO5 hB5 hg5 hl5
      go_roundw
      case rel => exact ⟨j + 1, by omega, by go_num, by rw [HN2.out], HO5.out, HB5.out, HJ5.out, HD5.out⟩
      case measure => simp [intOf]; omega
    · have hjn : j = n := by omega
      subst hjn
      go_wp2
      go_ret
      exact ⟨_, rfl, by rw [HR.out]; exact own_down HO.out (by omega), T4.out.trans (HB.out.mono (by omega))⟩
end Go.Proofs.YtimhnkpccbcohaaGreatDoor
