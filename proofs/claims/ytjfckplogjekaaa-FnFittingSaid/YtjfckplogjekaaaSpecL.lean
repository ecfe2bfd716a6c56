/-
  Chapter 4 of the model by contract: l3Sum, l3Fits, l3Spread, WidthsOf, SpreadLine, IsFull. Conditions: lengths within the reach of a slice; for l3Fits and l3Spread the measure is one.
-/
import Derived.Test.YtjfckplogjekaaaFitI
namespace Go.Proofs.Ytjfckplogjekaaa
open Go.RowKit
set_option linter.unusedVariables false

set_option maxHeartbeats 800000 in
theorem l3Sum_yes (A : Option Addr) (n c : Nat) (zs : List Int) (w : World) (hn : zs.length = n) (h : Ints w A zs) (hl : lineB zs = true) :
    Calls Try.prog 79 #[.slice A n c] w fun e w' => e = .returned (.tuple #[.int .i64 (sumL zs), .int .i64 (bandsN zs)]) ∧ w = w' := by
  obtain ⟨hz, hlen⟩ := lineB_parts hl
  have HZ := Lib.hid hz
  have HL := Lib.hid (lineB_take hl)
  have Hn := Lib.hid hn
  have hm : n ≤ 120 := by omega
  clear hz hlen hn hl
  go_enter Try.func79, Try.ntmps79
  go_wp2
  go_loop [4, 5, 10] (fun s b i => ∃ k : Nat, k ≤ n ∧ i = .int .i64 k ∧ s = .int .i64 (sumL (zs.take k)) ∧ b = .int .i64 (bandsN (zs.take k))) (fun _ _ i => n - (intOf i).toNat)
  case atStart => exact ⟨0, Nat.zero_le _, rfl, rfl, rfl⟩
  case round =>
    obtain ⟨k, hk, rfl, rfl, rfl⟩ := hrel
    by_cases hlt : k < n
    · obtain ⟨ad, x, rfl, hx, hc⟩ := h.at_ (k := k) (by rw [Hn.out]; exact hlt)
      have HS := Lib.hid (sumL_at hx.out)
      have HN := Lib.hid (bandsN_at hx.out)
      have hb1 := HL.out k
      have hx2 := HZ.out x (mem_at hx.out)
      obtain ⟨sm, hsm⟩ : ∃ s, sumL (zs.take k) = s := ⟨_, rfl⟩
      obtain ⟨bn, hbn⟩ : ∃ b, bandsN (zs.take k) = b := ⟨_, rfl⟩
      rw [hsm] at HS hb1 ⊢
      rw [hbn] at HN hb1 ⊢
      clear hsm hbn
      by_cases h0 : x = 0
      · subst h0
        go_wp2
        go_round
        case rel => exact ⟨k + 1, by omega, by go_num, by rw [HS.out, Int.add_zero], by rw [HN.out, if_pos rfl]; go_num⟩
        case measure => simp [intOf]; omega
      · have h0' : (x == 0) = false := by simpa using h0
        have HN2 : Hid (bandsN (zs.take (k + 1)) = bn) := by show _ = _; rw [HN.out, if_neg h0]; rfl
        clear h0
        go_wp2
        go_round
        case rel => exact ⟨k + 1, by omega, by go_num, by rw [HS.out], by rw [HN2.out]⟩
        case measure => simp [intOf]; omega
    · have hkn : k = n := by omega
      subst hkn
      rw [take_all Hn.out]
      go_wp2
      go_ret2
      exact ⟨rfl, rfl⟩

set_option maxHeartbeats 800000 in
theorem l3Sum_no (A : Option Addr) (n c : Nat) (zs : List Int) (w : World) (hn : zs.length = n) (hm : n ≤ maxLen) (h : Ints w A zs) :
    Calls Try.prog 79 #[.slice A n c] w fun e w' => ∃ s b : Int, e = .returned (.tuple #[.int .i64 s, .int .i64 b]) ∧ w = w' := by
  unfold maxLen at hm
  have Hn := Lib.hid hn
  clear hn
  go_enter Try.func79, Try.ntmps79
  go_wp2
  go_loop [4, 5, 10] (fun s b i => ∃ k : Nat, ∃ p q : Int, k ≤ n ∧ i = .int .i64 k ∧ s = .int .i64 p ∧ b = .int .i64 q) (fun _ _ i => n - (intOf i).toNat)
  case atStart => exact ⟨0, 0, 0, Nat.zero_le _, rfl, rfl, rfl⟩
  case round =>
    obtain ⟨k, p, q, hk, rfl, rfl, rfl⟩ := hrel
    by_cases hlt : k < n
    · obtain ⟨ad, x, rfl, hx, hc⟩ := h.at_ (k := k) (by rw [Hn.out]; exact hlt)
      by_cases h0 : x = 0
      · subst h0
        go_wp2
        go_round
        case rel => exact ⟨k + 1, _, _, by omega, by go_num, rfl, rfl⟩
        case measure => simp [intOf]; omega
      · have h0' : (x == 0) = false := by simpa using h0
        clear h0
        go_wp2
        go_round
        case rel => exact ⟨k + 1, _, _, by omega, by go_num, rfl, rfl⟩
        case measure => simp [intOf]; omega
    · have hkn : k = n := by omega
      subst hkn
      go_wp2
      go_ret2
      exact ⟨⟨p, q, rfl⟩, rfl⟩

theorem l3Sum_any (A : Option Addr) (n c : Nat) (zs : List Int) (w : World) (hn : zs.length = n) (hm : n ≤ maxLen) (h : Ints w A zs) :
    Calls Try.prog 79 #[.slice A n c] w fun e w' => ∃ s b : Int, e = .returned (.tuple #[.int .i64 s, .int .i64 b]) ∧ (lineB zs = true → s = sumL zs ∧ b = bandsN zs) ∧ w = w' := by
  cases hl : lineB zs
  · refine (l3Sum_no A n c zs w hn hm h).mono ?_
    rintro e w' ⟨s, b, rfl, rfl⟩
    exact ⟨s, b, rfl, (fun h => by cases h), rfl⟩
  · refine (l3Sum_yes A n c zs w hn h hl).mono ?_
    rintro e w' ⟨rfl, rfl⟩
    exact ⟨sumL zs, bandsN zs, rfl, fun _ => ⟨rfl, rfl⟩, rfl⟩

set_option maxHeartbeats 800000 in
theorem l3Fits_any (W t k : Int) (A : Option Addr) (n c : Nat) (zs : List Int) (w : World) (hms : msrB ⟨W, t, k⟩ = true) (hn : zs.length = n) (hm : n ≤ maxLen) (h : Ints w A zs) :
    Calls Try.prog 62 #[.agg #[.int .i64 W, .int .i64 t, .int .i64 k], .slice A n c] w fun e w' => e = .returned (.bool (fitsB ⟨W, t, k⟩ zs)) ∧ Below w.heap.size w w' := by
  have Hn := Lib.hid hn
  obtain ⟨w0, hw0, hb0, hz0, P⟩ := msWorld w W t k
  have T0 := Lib.hid hb0; have Z0 := Lib.hid hz0
  have I0 := Lib.hid (h.below hb0)
  obtain ⟨p0, p1, p2⟩ := P
  clear hb0 hz0 hn h
  have hM := msrB_iff.1 hms
  simp only at hM
  cases hl : lineB zs
  · have HR : Hid (fitsB ⟨W, t, k⟩ zs = false) := by show _ = _; unfold fitsB; rw [hl]; rfl
    go_enter Try.func62, Try.ntmps62
    go_wp2_with fail
    clear hw0
    refine (l3Sum_any A n c zs _ Hn.out hm I0.out).mono ?_
    rintro e w1 ⟨s, b, rfl, -, rfl⟩
    go_wp2_with fail
    refine (specLineOk_any A n c zs _ Hn.out hm I0.out).mono ?_
    rintro e w1 ⟨he, rfl⟩
    rw [hl] at he; subst he
    go_wp2
    go_ret
    exact ⟨ret_bool HR.out.symm, T0.out⟩
  · have HR : Hid (fitsB ⟨W, t, k⟩ zs = decide (sumL zs + bandsN zs * t ≤ W)) := by show _ = _; unfold fitsB fitL widL widF; rw [hl]; rfl
    obtain ⟨s0, s1, s2⟩ := lineB_sum hl
    have hmu := mul_small (B := bandsN zs) (e := t) (by omega) (by omega) (by omega) (by omega)
    have HL := Lib.hid hl
    clear hl
    go_enter Try.func62, Try.ntmps62
    go_wp2_with fail
    clear hw0
    refine (l3Sum_yes A n c zs _ Hn.out I0.out HL.out).mono ?_
    rintro e w1 ⟨rfl, rfl⟩
    go_wp2_with fail
    refine (specLineOk_any A n c zs _ Hn.out hm I0.out).mono ?_
    rintro e w1 ⟨he, rfl⟩
    rw [HL.out] at he; subst he
    go_wp2
    go_ret
    exact ⟨ret_bool HR.out.symm, T0.out⟩

set_option maxHeartbeats 1600000 in
theorem l3Spread_any (W t k : Int) (A : Option Addr) (n c : Nat) (zs : List Int) (w : World) (hg : goodB ⟨W, t, k⟩ zs = true) (hn : zs.length = n) (h : Ints w A zs) :
    Calls Try.prog 63 #[.agg #[.int .i64 W, .int .i64 t, .int .i64 k], .slice A n c] w fun e w' => e = .returned (.tuple #[.int .i64 (riseL ⟨W, t, k⟩ zs), .int .i64 (restL ⟨W, t, k⟩ zs)]) ∧ Below w.heap.size w w' := by
  have Hn := Lib.hid hn
  obtain ⟨w0, hw0, hb0, hz0, P⟩ := msWorld w W t k
  have T0 := Lib.hid hb0; have Z0 := Lib.hid hz0
  have I0 := Lib.hid (h.below hb0)
  obtain ⟨p0, p1, p2⟩ := P
  obtain ⟨hms, hli, hf⟩ := goodB_parts hg
  have HM := Lib.hid hms; have HL := Lib.hid hli
  have HF : Hid (widF (sumL zs) (bandsN zs) t ≤ W) := hf
  have hM := msrB_iff.1 hms
  simp only at hM
  obtain ⟨s0, s1, s2⟩ := lineB_sum hli
  have hmu := mul_small (B := bandsN zs) (e := t) (by omega) (by omega) (by omega) (by omega)
  have hf1 : sumL zs + bandsN zs * t ≤ W := hf
  have HK : Hid (∀ (r : Nat) (R : Int), R = W - widF (sumL zs) (bandsN zs) (t + r) → 0 ≤ R → (r : Int) ≤ k - t → (bandsN zs = 0 → r = 0) → (bandsN zs = 0 ∨ k - t ≤ r ∨ R < bandsN zs) → riseL ⟨W, t, k⟩ zs = r ∧ restL ⟨W, t, k⟩ zs = R) := fun r R hR h0 h1 h2 h3 => by
    have e1 : riseL ⟨W, t, k⟩ zs = r := by
      unfold riseL
      refine riseF_is hms hf (by omega) h1 (by show 0 ≤ W - widF _ _ (t + r); omega) (fun hb => by rw [h2 hb]; rfl) (fun hb hr => ?_)
      show W - widF _ _ (t + r) < _
      have hr' : (r : Int) < k - t := hr
      rcases h3 with h3 | h3 | h3
      · omega
      · omega
      · omega
    refine ⟨e1, ?_⟩
    unfold restL restF
    unfold riseL at e1
    rw [e1, hR]
  have HST : Hid (∀ r : Nat, W - widF (sumL zs) (bandsN zs) (t + r) - bandsN zs = W - widF (sumL zs) (bandsN zs) (t + ((r + 1 : Nat) : Int))) := fun r => by
    unfold widF
    have : (bandsN zs : Int) * (t + ((r + 1 : Nat) : Int)) = (bandsN zs : Int) * (t + r) + bandsN zs := by
      rw [show t + ((r + 1 : Nat) : Int) = (t + r) + 1 from by omega, Int.mul_add, Int.mul_one]
    omega
  have HS0 : Hid (W - sumL zs - bandsN zs * t = W - widF (sumL zs) (bandsN zs) (t + ((0 : Nat) : Int))) := by
    show _ = _
    unfold widF
    rw [show t + ((0 : Nat) : Int) = t from by omega]
    omega
  clear hb0 hz0 hn h hms hli hf hg
  obtain ⟨sm, hsm⟩ : ∃ s, sumL zs = s := ⟨_, rfl⟩
  obtain ⟨bn, hbn⟩ : ∃ b, bandsN zs = b := ⟨_, rfl⟩
  have C := l3Sum_yes A n c zs w0 Hn.out I0.out HL.out
  rw [hsm, hbn] at C
  rw [hsm] at HF HK HST HS0 s0 s1 hf1
  rw [hbn] at HF HK HST HS0 s2 hmu hf1
  have CC := Lib.hid C
  clear hsm hbn C
  go_enter Try.func63, Try.ntmps63
  go_wp2_with fail
  clear hw0
  refine CC.out.mono ?_
  rintro e w1 ⟨rfl, rfl⟩
  go_wp2
  go_loop [8, 9] (fun u v => ∃ r : Nat, ∃ R : Int, u = .int .i64 R ∧ v = .int .i64 r ∧ Hid (R = W - widF sm bn (t + r)) ∧ 0 ≤ R ∧ R ≤ 2000 ∧ (r : Int) ≤ k - t ∧ (bn = 0 → r = 0)) (fun _ v => (k - t).toNat - (intOf v).toNat)
  case atStart => exact ⟨0, _, rfl, rfl, HS0.out, by omega, by omega, by omega, fun _ => rfl⟩
  case round =>
    obtain ⟨r, R, rfl, rfl, hR, hR0, hR1, hr, hr0⟩ := hrel
    by_cases hb : bn = 0
    · obtain rfl := hr0 hb
      obtain ⟨e1, e2⟩ := HK.out 0 R hR.out hR0 hr hr0 (Or.inl hb)
      have E1 := Lib.hid e1; have E2 := Lib.hid e2
      subst hb
      clear e1 e2
      go_wp2
      go_ret2
      exact ⟨by rw [E1.out, E2.out]; rfl, T0.out⟩
    · have hbp : decide ((0 : Int) < (bn : Int)) = true := decide_eq_true (by omega)
      by_cases hrk : (r : Int) < k - t
      · by_cases hRB : (bn : Int) ≤ R
        · have HN := Lib.hid ((HST.out r))
          rw [← hR.out] at HN
          go_wp2
          go_round
          case rel => exact ⟨r + 1, _, rfl, by go_num, HN.out, by omega, by omega, by omega, fun h => absurd h hb⟩
          case measure => simp [intOf]; omega
        · obtain ⟨e1, e2⟩ := HK.out r R hR.out hR0 hr hr0 (Or.inr (Or.inr (by omega)))
          have E1 := Lib.hid e1; have E2 := Lib.hid e2
          clear e1 e2
          go_wp2
          go_ret2
          exact ⟨by rw [E1.out, E2.out]; rfl, T0.out⟩
      · obtain ⟨e1, e2⟩ := HK.out r R hR.out hR0 hr hr0 (Or.inr (Or.inl (by omega)))
        have E1 := Lib.hid e1; have E2 := Lib.hid e2
        clear e1 e2
        go_wp2
        go_ret2
        exact ⟨by rw [E1.out, E2.out]; rfl, T0.out⟩
end Go.Proofs.Ytjfckplogjekaaa
