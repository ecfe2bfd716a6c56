/-
  Lines of words and their costs, as the program has them (isLine, costOf), by contract. Conditions: the measure is one, the words are a text, a line has at least one word.
-/
import Derived.Test.YtddkedinkgnboaaSetM
namespace Go.Proofs.Ytddkedinkgnboaa
open Go.RowKit
set_option linter.unusedVariables false

set_option maxRecDepth 100000 in
set_option maxHeartbeats 1600000 in
theorem stLine_any (W t k : Int) (ad : Addr) (n c : Nat) (zs : List Int) (a b : Nat) (w : World) (hn : zs.length = n) (hc : n ≤ c) (hcm : c ≤ maxLen) (h : Ints w (some ad) zs) (hm : msrB ⟨W, t, k⟩ = true) (ht : textB zs = true) (hab : a < b) (hb : b ≤ n) :
    Calls Try.prog 53 #[stV W t k ad n c, .int .i64 a, .int .i64 b] w fun e w' => e = .returned (.bool (lineW ⟨W, t, k⟩ zs a b)) ∧ Below w.heap.size w w' := by
  have C := fun (w : World) (hI : Ints w (some ad) zs) => stKind_any W t k ad n c zs a b w hn hc hcm hI hm ht hab hb
  have HR : Hid (lineW ⟨W, t, k⟩ zs a b = (kindW ⟨W, t, k⟩ zs a b == 2 || (kindW ⟨W, t, k⟩ zs a b == 1 && decide (b = n)))) := by show _ = _; unfold lineW; rw [hn]
  obtain ⟨K, hK⟩ : ∃ K, kindW ⟨W, t, k⟩ zs a b = K := ⟨_, rfl⟩
  have hK3 : K = 0 ∨ K = 1 ∨ K = 2 := by rw [← hK]; exact kindF_cases _ _ _
  rw [hK] at C HR
  have CC := Lib.hid C
  clear C hK
  obtain ⟨w0, hw0, hb0, hz0, P⟩ := stWorld w W t k (.slice (some ad) n c)
  have T0 := Lib.hid hb0; have P0 := Lib.hid P; have Z0 := Lib.hid hz0
  have I0 := Lib.hid (h.below hb0)
  obtain ⟨p0, p1, p2, p3⟩ := P
  clear hb0 hz0 hn h hc hcm ht hab hb hm
  go_enter Try.func53, Try.ntmps53
  go_wp2_with fail
  clear hw0 p0 p1 p2 p3
  refine (CC.out _ I0.out).mono ?_
  rintro e w1 ⟨rfl, hb1⟩
  have T1 := Lib.hid (T0.out.trans (hb1.mono (B' := w.heap.size) (by have := Z0.out; omega)))
  obtain ⟨p0, p1, p2, p3⟩ := St.hold hb1 (by have := Z0.out; omega) P0.out
  clear hb1 P0 T0 Z0 I0 CC
  rcases hK3 with rfl | rfl | rfl
  · go_wp2
    go_ret
    exact ⟨ret_bool (by rw [HR.out]; simp), T1.out⟩
  · by_cases hbn : b = n
    · subst hbn
      go_wp2
      go_ret
      exact ⟨ret_bool (by rw [HR.out]; simp), T1.out⟩
    · have hd : ((b : Int) == (n : Int)) = false := by rw [beq_eq_false_iff_ne]; omega
      have hd2 : Hid (decide (b = n) = false) := by show _ = _; exact decide_eq_false hbn
      clear hbn
      go_wp2
      go_ret
      exact ⟨ret_bool (by rw [HR.out, hd2.out]; simp), T1.out⟩
  · go_wp2
    go_ret
    exact ⟨ret_bool (by rw [HR.out]; simp), T1.out⟩

theorem lineW_rise {m : Msr} {zs : List Int} {a b : Nat} (hm : msrB m = true) (ht : textB zs = true) (hb : b ≤ zs.length) (hl : lineW m zs a b = true) : 0 ≤ riseW m zs a b ∧ riseW m zs a b ≤ 99 := by
  obtain ⟨hz, hl1, hl2⟩ := textB_parts ht
  have hf := lineW_fits hl
  have hM := msrB_iff.1 hm
  have := riseF_spec hm hf
  unfold riseW
  omega
theorem riseW_bound {m : Msr} {zs : List Int} {a b : Nat} (hm : msrB m = true) (ht : textB zs = true) (hb : b ≤ zs.length) : -2000000 ≤ riseW m zs a b ∧ riseW m zs a b ≤ 100 := by
  obtain ⟨hz, hl1, hl2⟩ := textB_parts ht
  obtain ⟨s0, s1⟩ := words_sum (ys := seg zs a b) (fun x hx => hz x (seg_mem hx)) (by rw [seg_len hb]; omega)
  exact riseF_bound s0 (by omega) (by omega) hm
theorem sq_bound {r : Int} (h0 : -2000000 ≤ r) (h1 : r ≤ 2000000) : 0 ≤ r * r ∧ r * r ≤ 4000000000000 := by
  by_cases h : 0 ≤ r
  · have := Int.mul_nonneg h h
    have h2 : r * r ≤ 2000000 * 2000000 := Int.mul_le_mul h1 h1 h (by omega)
    omega
  · obtain ⟨y, rfl⟩ : ∃ y, r = -y := ⟨-r, by omega⟩
    have := Int.mul_nonneg (a := y) (b := y) (by omega) (by omega)
    have h2 : y * y ≤ 2000000 * 2000000 := Int.mul_le_mul (by omega) (by omega) (by omega) (by omega)
    rw [Int.neg_mul_neg]
    omega

set_option maxRecDepth 100000 in
set_option maxHeartbeats 1600000 in
theorem stCost_any (W t k : Int) (ad : Addr) (n c : Nat) (zs : List Int) (a b : Nat) (w : World) (hn : zs.length = n) (hc : n ≤ c) (hcm : c ≤ maxLen) (h : Ints w (some ad) zs) (hm : msrB ⟨W, t, k⟩ = true) (ht : textB zs = true) (hab : a < b) (hb : b ≤ n) :
    Calls Try.prog 62 #[stV W t k ad n c, .int .i64 a, .int .i64 b] w fun e w' => e = .returned (.int .i64 (costW ⟨W, t, k⟩ zs a b)) ∧ Below w.heap.size w w' := by
  obtain ⟨w0, hw0, hb0, hz0, P⟩ := stWorld w W t k (.slice (some ad) n c)
  have T0 := Lib.hid hb0; have P0 := Lib.hid P; have Z0 := Lib.hid hz0
  have I0 := Lib.hid (h.below hb0)
  obtain ⟨p0, p1, p2, p3⟩ := P
  by_cases hbn : b = n
  · have HR : Hid (costW ⟨W, t, k⟩ zs a b = 0) := by show _ = _; unfold costW; rw [if_pos (by omega)]
    clear hb0 hz0 hn h hc hcm ht hab hb hm
    subst hbn
    go_enter Try.func62, Try.ntmps62
    go_wp2_with fail
    go_ret
    exact ⟨ret_int HR.out.symm, T0.out⟩
  have hd : ((b : Int) == (n : Int)) = false := by rw [beq_eq_false_iff_ne]; omega
  have HR : Hid (costW ⟨W, t, k⟩ zs a b = riseW ⟨W, t, k⟩ zs a b * riseW ⟨W, t, k⟩ zs a b) := by show _ = _; unfold costW; rw [if_neg (by omega)]
  obtain ⟨hr0, hr1⟩ := riseW_bound (a := a) (b := b) hm ht (by omega)
  obtain ⟨hq0, hq1⟩ := sq_bound hr0 (by omega)
  obtain ⟨hz, hl1, hl2⟩ := textB_parts ht
  obtain ⟨s0, s1⟩ := words_sum (ys := seg zs a b) (fun x hx => hz x (seg_mem hx)) (by rw [seg_len (by omega)]; omega)
  have C := fun (w : World) (hI : Ints w (some ad) zs) => stLoad_any W t k ad n c zs a b w hn hc hcm hI ht hab hb
  have HK : Hid (riseW ⟨W, t, k⟩ zs a b = riseF ⟨W, t, k⟩ (sumL (seg zs a b)) (b - a - 1)) := rfl
  obtain ⟨B, hBe⟩ : ∃ B, b - a - 1 = B := ⟨_, rfl⟩
  obtain ⟨L, hLe⟩ : ∃ L, sumL (seg zs a b) = L := ⟨_, rfl⟩
  rw [hLe, hBe] at C HK
  rw [hLe] at s0 s1
  have h3 : B ≤ 120 := by omega
  obtain ⟨r, hre⟩ : ∃ r, riseW ⟨W, t, k⟩ zs a b = r := ⟨_, rfl⟩
  rw [hre] at HR HK hq0 hq1
  have e1 : IntKind.i64.wrap (r * r) = r * r := by rw [IntKind.wrap_i64]; omega
  have CC := Lib.hid C
  clear C hLe hBe hz hl1 hl2 hre hr0 hr1 hbn
  clear hb0 hn h hc hcm ht hab hb
  go_enter Try.func62, Try.ntmps62
  go_wp2_with fail
  clear hw0
  have hz := Z0.out
  first
    | go_region_held3 (fun w' => w'.cell? ⟨w.heap.size, 0, none⟩ = some (.int .i64 W) ∧ w'.cell? ⟨w.heap.size, 1, none⟩ = some (.int .i64 t) ∧ w'.cell? ⟨w.heap.size, 2, none⟩ = some (.int .i64 k) ∧ w'.cell? ⟨w.heap.size, 3, none⟩ = some (.slice (some ad) n c)) (first | go_keep | exact P1.out | exact P2.out) (first
        | (go_at_call 78; refine (CC.out _ I0.out.drew).mono ?_; rintro e w1 ⟨rfl, hb1⟩; have hc1 : Below w0.heap.size w0 w1 := undrew hb1; have P1 := Lib.hid (St.hold hc1 (by omega) P0.out); have T1 := Lib.hid (T0.out.trans (hc1.mono (B' := w.heap.size) (by omega))); have z1 := hc1.size; clear hb1 hc1)
        | (go_at_call 79; refine (ldRise_any L B W t k _ s0 (by omega) h3 hm).mono ?_; rintro e w2 ⟨he, hb2⟩; rw [← HK.out] at he; subst he; have P2 := Lib.hid (St.hold hb2 (by omega) P1.out); have T2 := Lib.hid (T1.out.trans (hb2.mono (B' := w.heap.size) (by omega))); clear hb2))
    | fail "the region"
  all_goals
    go_wp2
    go_ret
    exact ⟨ret_int HR.out.symm, T2.out⟩
end Go.Proofs.Ytddkedinkgnboaa
