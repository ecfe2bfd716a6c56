/-
  Chapter 4 of the model by contract: l3Sum, l3Fits, l3Spread, WidthsOf, SpreadLine, IsFull. Conditions: lengths within the reach of a slice; for l3Fits and l3Spread the measure is one.
-/
import Derived.Test.YthoepelgmplcmaaPkC
namespace Go.Proofs.Ythoepelgmplcmaa
open Go.RowKit
set_option linter.unusedVariables false

set_option maxHeartbeats 800000 in
theorem l3Sum_yes (A : Option Addr) (n c : Nat) (zs : List Int) (w : World) (hn : zs.length = n) (h : Ints w A zs) (hl : lineB zs = true) :
    Calls Try.prog 166 #[.slice A n c] w fun e w' => e = .returned (.tuple #[.int .i64 (sumL zs), .int .i64 (bandsN zs)]) ∧ w = w' := by
  obtain ⟨hz, hlen⟩ := lineB_parts hl
  have HZ := Lib.hid hz
  have HL := Lib.hid (lineB_take hl)
  have Hn := Lib.hid hn
  have hm : n ≤ 120 := by omega
  clear hz hlen hn hl
  go_enter Try.func166, Try.ntmps166
  go_wp2
  go_loop [4, 5, 10] (fun s b i => ∃ k : Nat, k ≤ n ∧ i = .int .i64 k ∧ s = .int .i64 (sumL (zs.take k)) ∧ b = .int .i64 (bandsN (zs.take k))) (fun _ _ i => n - (intOf i).toNat)
  case atStart => exact ⟨0, Nat.zero_le _, rfl, rfl, rfl⟩
  case round =>
    obtain ⟨k, hk, rfl, rfl, rfl⟩ := hrel
    by_cases hlt : k < n
    · obtain ⟨ad, x, rfl, hx, hc⟩ := h.at_ (k := k) (by rw [Hn.out]; exact hlt)
      have HS := Lib.hid (sumL_at hx.out)
      have HN := Lib.hid (bandsN_at hx.out)
      have hb1 := HL.out k
      have hx2 := HZ.out x (mem_at hx.out)
      obtain ⟨sm, hsm⟩ : ∃ s, sumL (zs.take k) = s := ⟨_, rfl⟩
      obtain ⟨bn, hbn⟩ : ∃ b, bandsN (zs.take k) = b := ⟨_, rfl⟩
      rw [hsm] at HS hb1 ⊢
      rw [hbn] at HN hb1 ⊢
      clear hsm hbn
      by_cases h0 : x = 0
      · subst h0
        go_wp2
        go_round
        case rel => exact ⟨k + 1, by omega, by go_num, by rw [HS.out, Int.add_zero], by rw [HN.out, if_pos rfl]; go_num⟩
        case measure => simp [intOf]; omega
      · have h0' : (x == 0) = false := by simpa using h0
        have HN2 : Hid (bandsN (zs.take (k + 1)) = bn) := by show _ = _; rw [HN.out, if_neg h0]; rfl
        clear h0
        go_wp2
        go_round
        case rel => exact ⟨k + 1, by omega, by go_num, by rw [HS.out], by rw [HN2.out]⟩
        case measure => simp [intOf]; omega
    · have hkn : k = n := by omega
      subst hkn
      rw [take_all Hn.out]
      go_wp2
      go_ret2
      exact ⟨rfl, rfl⟩

set_option maxHeartbeats 800000 in
theorem l3Sum_no (A : Option Addr) (n c : Nat) (zs : List Int) (w : World) (hn : zs.length = n) (hm : n ≤ maxLen) (h : Ints w A zs) :
    Calls Try.prog 166 #[.slice A n c] w fun e w' => ∃ s b : Int, e = .returned (.tuple #[.int .i64 s, .int .i64 b]) ∧ w = w' := by
  unfold maxLen at hm
  have Hn := Lib.hid hn
  clear hn
  go_enter Try.func166, Try.ntmps166
  go_wp2
  go_loop [4, 5, 10] (fun s b i => ∃ k : Nat, ∃ p q : Int, k ≤ n ∧ i = .int .i64 k ∧ s = .int .i64 p ∧ b = .int .i64 q) (fun _ _ i => n - (intOf i).toNat)
  case atStart => exact ⟨0, 0, 0, Nat.zero_le _, rfl, rfl, rfl⟩
  case round =>
    obtain ⟨k, p, q, hk, rfl, rfl, rfl⟩ := hrel
    by_cases hlt : k < n
    · obtain ⟨ad, x, rfl, hx, hc⟩ := h.at_ (k := k) (by rw [Hn.out]; exact hlt)
      by_cases h0 : x = 0
      · subst h0
        go_wp2
        go_round
        case rel => exact ⟨k + 1, _, _, by omega, by go_num, rfl, rfl⟩
        case measure => simp [intOf]; omega
      · have h0' : (x == 0) = false := by simpa using h0
        clear h0
        go_wp2
        go_round
        case rel => exact ⟨k + 1, _, _, by omega, by go_num, rfl, rfl⟩
        case measure => simp [intOf]; omega
    · have hkn : k = n := by omega
      subst hkn
      go_wp2
      go_ret2
      exact ⟨⟨p, q, rfl⟩, rfl⟩

theorem l3Sum_any (A : Option Addr) (n c : Nat) (zs : List Int) (w : World) (hn : zs.length = n) (hm : n ≤ maxLen) (h : Ints w A zs) :
    Calls Try.prog 166 #[.slice A n c] w fun e w' => ∃ s b : Int, e = .returned (.tuple #[.int .i64 s, .int .i64 b]) ∧ (lineB zs = true → s = sumL zs ∧ b = bandsN zs) ∧ w = w' := by
  cases hl : lineB zs
  · refine (l3Sum_no A n c zs w hn hm h).mono ?_
    rintro e w' ⟨s, b, rfl, rfl⟩
    exact ⟨s, b, rfl, (fun h => by cases h), rfl⟩
  · refine (l3Sum_yes A n c zs w hn h hl).mono ?_
    rintro e w' ⟨rfl, rfl⟩
    exact ⟨sumL zs, bandsN zs, rfl, fun _ => ⟨rfl, rfl⟩, rfl⟩

set_option maxHeartbeats 800000 in
theorem l3Fits_any (W t k : Int) (A : Option Addr) (n c : Nat) (zs : List Int) (w : World) (hms : msrB ⟨W, t, k⟩ = true) (hn : zs.length = n) (hm : n ≤ maxLen) (h : Ints w A zs) :
    Calls Try.prog 106 #[.agg #[.int .i64 W, .int .i64 t, .int .i64 k], .slice A n c] w fun e w' => e = .returned (.bool (fitsB ⟨W, t, k⟩ zs)) ∧ Below w.heap.size w w' := by
  have Hn := Lib.hid hn
  obtain ⟨w0, hw0, hb0, hz0, P⟩ := msWorld w W t k
  have T0 := Lib.hid hb0; have Z0 := Lib.hid hz0
  have I0 := Lib.hid (h.below hb0)
  obtain ⟨p0, p1, p2⟩ := P
  clear hb0 hz0 hn h
  have hM := msrB_iff.1 hms
  simp only at hM
  cases hl : lineB zs
  · have HR : Hid (fitsB ⟨W, t, k⟩ zs = false) := by show _ = _; unfold fitsB; rw [hl]; rfl
    go_enter Try.func106, Try.ntmps106
    go_wp2_with fail
    clear hw0
    refine (l3Sum_any A n c zs _ Hn.out hm I0.out).mono ?_
    rintro e w1 ⟨s, b, rfl, -, rfl⟩
    go_wp2_with fail
    refine (specLineOk_any A n c zs _ Hn.out hm I0.out).mono ?_
    rintro e w1 ⟨he, rfl⟩
    rw [hl] at he; subst he
    go_wp2
    go_ret
    exact ⟨ret_bool HR.out.symm, T0.out⟩
  · have HR : Hid (fitsB ⟨W, t, k⟩ zs = decide (sumL zs + bandsN zs * t ≤ W)) := by show _ = _; unfold fitsB fitL widL widF; rw [hl]; rfl
    obtain ⟨s0, s1, s2⟩ := lineB_sum hl
    have hmu := mul_small (B := bandsN zs) (e := t) (by omega) (by omega) (by omega) (by omega)
    have HL := Lib.hid hl
    clear hl
    go_enter Try.func106, Try.ntmps106
    go_wp2_with fail
    clear hw0
    refine (l3Sum_yes A n c zs _ Hn.out I0.out HL.out).mono ?_
    rintro e w1 ⟨rfl, rfl⟩
    go_wp2_with fail
    refine (specLineOk_any A n c zs _ Hn.out hm I0.out).mono ?_
    rintro e w1 ⟨he, rfl⟩
    rw [HL.out] at he; subst he
    go_wp2
    go_ret
    exact ⟨ret_bool HR.out.symm, T0.out⟩

end Go.Proofs.Ythoepelgmplcmaa
