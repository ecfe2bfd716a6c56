/-
  l3Wide, BandWidths, PlacesOf of the model by contract. Condition: lengths within the reach of a slice.
-/
import Derived.Test.YtjfckplogjekaaaSpecW
import Derived.Test.YtjfckplogjekaaaMemI
import Derived.Test.YtjfckplogjekaaaKeep
namespace Go.Proofs.Ytjfckplogjekaaa
open Go.RowKit
set_option linter.unusedVariables false

theorem own_down {w : World} {B B' : Nat} {v : Value} {zs : List Int} (h : Own w B v zs) (hB : B' ≤ B) : Own w B' v zs := by
  refine ⟨h.1, ?_⟩
  rcases h.2 with hn | ⟨g, cap, cur, hv, hg, rest⟩
  · exact .inl hn
  · exact .inr ⟨g, cap, cur, hv, by omega, rest⟩
/-- what of e is left behind b bands -/
def remW (e : Int) (b : Nat) : Int := if (b : Int) < e then e - b else 0
theorem remW_zero {e : Int} (h : 0 ≤ e) : remW e 0 = e := by unfold remW; split <;> omega
theorem remW_pos {e : Int} {b : Nat} (h : (b : Int) < e) : remW e b = e - b ∧ remW e (b + 1) = e - b - 1 ∧ (∀ a, bandW a e b = a + 1) := by
  refine ⟨by unfold remW; rw [if_pos h], by unfold remW; split <;> omega, fun a => by unfold bandW; rw [if_pos h]⟩
theorem remW_none {e : Int} {b : Nat} (h : ¬ (b : Int) < e) : remW e b = 0 ∧ remW e (b + 1) = 0 ∧ (∀ a, bandW a e b = a) := by
  refine ⟨by unfold remW; rw [if_neg h], by unfold remW; rw [if_neg (by omega)], fun a => by unfold bandW; rw [if_neg h, Int.add_zero]⟩
theorem own_wide {w : World} {B : Nat} {v : Value} {a e : Int} {zs : List Int} {k : Nat} {x : Int} (hx : wideW a e zs k = x) (h : Own w B v (wideL a e zs k ++ [x])) : Own w B v (wideL a e zs (k + 1)) := by
  rw [wideL_succ, hx]; exact h

set_option maxRecDepth 100000 in
set_option maxHeartbeats 3200000 in
theorem l3Wide_any (W t k : Int) (A : Option Addr) (n c : Nat) (zs : List Int) (w : World) (hg : goodB ⟨W, t, k⟩ zs = true) (hn : zs.length = n) (h : Ints w A zs) :
    Calls Try.prog 80 #[.agg #[.int .i64 W, .int .i64 t, .int .i64 k], .slice A n c] w fun e w' => ∃ v, e = .returned v ∧ Own w' w.heap.size v (wideL (t + riseL ⟨W, t, k⟩ zs) (moreL ⟨W, t, k⟩ zs) zs n) ∧ Below w.heap.size w w' := by
  have Hn := Lib.hid hn
  obtain ⟨w0, hw0, hb0, hz0, P⟩ := msWorld w W t k
  have T0 := Lib.hid hb0; have P0 := Lib.hid P; have Z0 := Lib.hid hz0
  have I0 := Lib.hid ((IntsB.of h).keep (Nat.le_refl _) hb0)
  obtain ⟨p0, p1, p2⟩ := P0.out
  obtain ⟨hms, hli, _⟩ := goodB_parts hg
  obtain ⟨hz, hlen⟩ := lineB_parts hli
  have hm : n ≤ 120 := by omega
  have hm0 : n ≤ maxLen := by unfold maxLen; omega
  have HG := Lib.hid hg
  obtain ⟨ht0, ht1⟩ := riseThin hg
  simp only at ht0 ht1
  obtain ⟨hmo0, hmo1⟩ := more_bound hg
  have hf : fullB ⟨W, t, k⟩ zs = fullL ⟨W, t, k⟩ zs := by unfold fullB; rw [hg]; rfl
  obtain ⟨rs, hrs⟩ : ∃ r, riseL ⟨W, t, k⟩ zs = r := ⟨_, rfl⟩
  obtain ⟨re, hre⟩ : ∃ r, restL ⟨W, t, k⟩ zs = r := ⟨_, rfl⟩
  obtain ⟨e, he⟩ : ∃ e, moreL ⟨W, t, k⟩ zs = e := ⟨_, rfl⟩
  have C1 := Lib.hid (l3Spread_any W t k A n c zs w0 hg hn I0.out.ints)
  have HE : Hid (e = if fullL ⟨W, t, k⟩ zs then re else 0) := by show _ = _; rw [← he, ← hre]; rfl
  rw [hrs, hre] at C1
  rw [hrs] at ht0 ht1 ⊢
  rw [he] at hmo0 hmo1 ⊢
  have HZ := Lib.hid hz
  clear hb0 hn h hms hli hz hlen hg hrs hre he P hz0
  have hzz := Z0.out
  go_enter Try.func80, Try.ntmps80
  go_wp2_with fail
  clear hw0
  refine C1.out.mono ?_
  rintro e' w1 ⟨rfl, hb1⟩
  have T1 := Lib.hid (T0.out.trans (hb1.mono (by omega))); have P1 := Lib.hid (hold3 hb1 (by omega) P0.out); have I1 := Lib.hid (I0.out.keep (by omega) hb1)
  have z1 := hb1.size
  clear hb1 C1 p0 p1 p2 I0
  obtain ⟨p0, p1, p2⟩ := P1.out
  go_wp2_with fail
  refine (specIsFull_any W t k A n c zs _ Hn.out hm0 I1.out.ints).mono ?_
  rintro e' w2 ⟨rfl, hb2⟩
  rw [hf]
  have T2 := Lib.hid (T1.out.trans (hb2.mono (by omega))); have P2 := Lib.hid (hold3 hb2 (by omega) P1.out); have I2 := Lib.hid (I1.out.keep (by omega) hb2)
  have z2 := hb2.size
  clear hb2 p0 p1 p2 I1 hf
  obtain ⟨p0, p1, p2⟩ := P2.out
  cases hfu : fullL ⟨W, t, k⟩ zs
  all_goals
    have HE2 := HE
    rw [hfu] at HE2
    have H0 : Hid (remW e (bandsN (zs.take 0)) = e) := remW_zero hmo0
    go_wp2
    clear p0 p1 p2
    go_loopw [6, 7, 23] (fun u v i wr => ∃ j : Nat, j ≤ n ∧ i = .int .i64 j ∧ u = .int .i64 (remW e (bandsN (zs.take j))) ∧ Own wr w2.heap.size v (wideL (t + rs) e zs j) ∧ Below w2.heap.size w2 wr) (fun _ _ i _ => n - (intOf i).toNat)
    case atStart => exact ⟨0, Nat.zero_le _, rfl, by rw [H0.out, HE2.out]; rfl, World.ownsRow_lit w2 #[] 0 (Nat.le_refl _) (Nat.zero_le _) rfl, (Below.refl _ _).alloc (Nat.le_refl _) _⟩
    case round =>
      obtain ⟨j, hj, rfl, rfl, hown, hb⟩ := hrel
      have hsz := hb.size
      have HO := Lib.hid hown; have HB := Lib.hid hb
      clear hown hb
      by_cases hlt : j < n
      · obtain ⟨ad, x, rfl, hx, hc⟩ := (I2.out.keep (by omega) HB.out).ints.at_ (k := j) (by rw [Hn.out]; exact hlt)
        have hlen : (wideL (t + rs) e zs j).length ≤ 1048576 := by rw [wideL_len]; omega
        have Hlen := Lib.hid hlen
        obtain ⟨p0, p1, p2⟩ := hold3 HB.out (by omega) P2.out
        by_cases h0 : x = 0
        · subst h0
          obtain ⟨bn, hbn⟩ : ∃ b, bandsN (zs.take j) = b := ⟨_, rfl⟩
          have HN : Hid (bandsN (zs.take (j + 1)) = bn + 1) := by show _ = _; rw [bandsN_at hx.out, hbn, if_pos rfl]
          have HW : Hid (wideW (t + rs) e zs j = bandW (t + rs) e bn) := by show _ = _; rw [wideW_band hx.out, hbn]
          rw [hbn]
          clear hbn hlen
          by_cases hbe : (bn : Int) < e
          · obtain ⟨r1, r2, r3⟩ := remW_pos hbe
            have R2 := Lib.hid r2
            have HX : Hid (wideW (t + rs) e zs j = t + rs + 1) := by show _ = _; rw [HW.out, r3]
            rw [r1]
            clear r1 r2 r3
            have hgt : decide ((0 : Int) < e - (bn : Int)) = true := decide_eq_true (by omega)
            go_wp2_with (at_builtin; refine wpl_push _ rfl (.tmp 39) (.tmp 41) rfl w2.heap.size _ _ (t + rs + 1) rfl rfl HO.out hsz Hlen.out ?_; intro v' w4 hO4 hB4)
            have HO4 := Lib.hid (own_wide HX.out hO4); have HB4 := Lib.hid (HB.out.trans hB4)
            clear hO4 hB4
            go_roundw
            case rel => exact ⟨j + 1, by omega, by go_num, by rw [HN.out, R2.out], HO4.out, HB4.out⟩
            case measure => simp [intOf]; omega
          · obtain ⟨r1, r2, r3⟩ := remW_none hbe
            have R2 := Lib.hid r2
            have HX : Hid (wideW (t + rs) e zs j = t + rs) := by show _ = _; rw [HW.out, r3]
            rw [r1]
            clear r1 r2 r3
            go_wp2_with (at_builtin; refine wpl_push _ rfl (.tmp 39) (.tmp 41) rfl w2.heap.size _ _ (t + rs) rfl rfl HO.out hsz Hlen.out ?_; intro v' w4 hO4 hB4)
            have HO4 := Lib.hid (own_wide HX.out hO4); have HB4 := Lib.hid (HB.out.trans hB4)
            clear hO4 hB4
            go_roundw
            case rel => exact ⟨j + 1, by omega, by go_num, by rw [HN.out, R2.out], HO4.out, HB4.out⟩
            case measure => simp [intOf]; omega
        · have HN : Hid (bandsN (zs.take (j + 1)) = bandsN (zs.take j)) := by show _ = _; rw [bandsN_at hx.out, if_neg h0, Nat.add_zero]
          have HX : Hid (wideW (t + rs) e zs j = x) := wideW_item hx.out h0
          have h0' : (x == 0) = false := by simpa using h0
          clear h0 hlen
          go_wp2_with (at_builtin; refine wpl_push _ rfl (.tmp 39) (.tmp 41) rfl w2.heap.size _ _ x rfl rfl HO.out hsz Hlen.out ?_; intro v' w4 hO4 hB4)
          have HO4 := Lib.hid (own_wide HX.out hO4); have HB4 := Lib.hid (HB.out.trans hB4)
          clear hO4 hB4
          go_roundw
          case rel => exact ⟨j + 1, by omega, by go_num, by rw [HN.out], HO4.out, HB4.out⟩
          case measure => simp [intOf]; omega
      · have hjn : j = n := by omega
        subst hjn
        go_wp2
        go_ret
        exact ⟨_, rfl, own_down HO.out (by omega), T2.out.trans (HB.out.mono (by omega))⟩
end Go.Proofs.Ytjfckplogjekaaa
