/-
  l3Blanks: at most nine numbers. No condition but the cursor.
-/
import Derived.Test.YtpenmheacpapaaaDrawP
import Derived.Test.YtpenmheacpapaaaPush
namespace Go.Proofs.Ytpenmheacpapaaa
open Go.RowKit
set_option linter.unusedVariables false

theorem intsB_drop1 {w : World} {b x : Nat} {q : Int} {qs : List Int} (h : IntsB w b (some ⟨x, 0, none⟩) (q :: qs)) : IntsB w b (some ⟨x, 1, none⟩) qs := fun hn => by
  obtain ⟨ad, e, hb, hc⟩ := h (by simp)
  injection e with e
  subst e
  refine ⟨_, rfl, hb, fun j hj => ?_⟩
  have h1 := hc (j + 1) (by simp; omega)
  rw [add_zero_at] at h1
  have h2 : (⟨x, 1, none⟩ : Addr).add j = ⟨x, j + 1, none⟩ := by unfold Addr.add; split <;> simp_all <;> omega
  rw [h2, h1]
  simp [List.getD]
theorem own_intsA {w : World} {B n c : Nat} {A : Option Addr} {zs : List Int} (h : Own w B (.slice A n c) zs) : Ints w A zs := by
  obtain ⟨A', c', hv, hI, _⟩ := h.form
  injection hv with h1 h2 h3
  subst h1
  exact hI
theorem IntsB.keep_up {w : World} {b b' : Nat} {A : Option Addr} {zs : List Int} (h : IntsB w b A zs) (hb : b ≤ b') : IntsB w b' A zs := fun hn => by
  obtain ⟨ad, e, h1, h2⟩ := h hn
  exact ⟨ad, e, Nat.lt_of_lt_of_le h1 hb, h2⟩
theorem intsB_nil {w : World} {b : Nat} : IntsB w b none [] := fun hn => absurd hn (by simp)

set_option maxRecDepth 100000 in
set_option maxHeartbeats 1600000 in
theorem l3Blanks_any (g : Nat) (w : World) (hc : Cur w g) :
    Calls Try.prog 99 #[.pointer (some ⟨g, 0, none⟩)] w fun e w' => ∃ A m c qs, e = .returned (.slice A m c) ∧ qs.length = m ∧ m ≤ 9 ∧ IntsB w' w'.heap.size A qs ∧ (∀ ad, A = some ad → w.heap.size ≤ ad.block) ∧ CM w w' g := by
  have hgw := hc.lt
  obtain ⟨wa, hwa⟩ : ∃ wa, w.alloc (.cells #[] 3) = wa := ⟨_, rfl⟩
  have CA : CM w wa g := by rw [← hwa]; exact (CM.of hc).alloc _
  have OA : Own wa w.heap.size (.slice (some ⟨w.heap.size, 0, none⟩) 0 0) [] := by rw [← hwa]; exact World.ownsRow_lit w #[] 0 (Nat.le_refl _) (Nat.zero_le _) rfl
  have za : w.heap.size < wa.heap.size := by rw [← hwa]; simp
  have CA := Lib.hid CA; have OA := Lib.hid OA
  clear hc
  go_enter Try.func99, Try.ntmps99
  go_wp2_with fail
  clear hwa
  refine (below_cm wa g _ _ (by omega) (CM.of CA.out.1)).mono ?_
  rintro e w1 ⟨x0, rfl, hx0, hc1, -⟩
  have C1 := Lib.hid (CA.out.trans hc1); have O1 := Lib.hid (OA.out.grown_lt hc1.2 (fun q hq => by injection hq with hq; omega))
  clear hc1 CA OA
  obtain ⟨x1, hx1⟩ : ∃ x1 : Int, (1 : Int) + (x0 : Int) = x1 := ⟨_, rfl⟩
  have hx1' : 1 ≤ x1 ∧ x1 ≤ 30 := by omega
  go_wp2
  go_loopw [3, 4] (fun v y wr => ∃ (qs : List Int) (m gr c' : Nat) (x : Int), v = .slice (some ⟨gr, 0, none⟩) m c' ∧ y = .int .i64 x ∧ qs.length = m ∧ m ≤ 8 ∧ -12 ≤ x ∧ x ≤ 30 ∧ w.heap.size ≤ gr ∧ Own wr w.heap.size (.slice (some ⟨gr, 0, none⟩) m c') qs ∧ CM w wr g) (fun v _ _ => 9 - lenS v)
  case atStart => exact ⟨[], 0, w.heap.size, 0, 1 + (x0 : Int), rfl, by go_num, rfl, by omega, by omega, by omega, Nat.le_refl _, O1.out, C1.out⟩
  case round =>
    clear O1 C1
    obtain ⟨qs, m, gr, c', x, rfl, rfl, hl, hm, hxa, hxb, hgr, hO, hC⟩ := hrel
    have Hl := Lib.hid hl; have HO := Lib.hid hO; have HC := Lib.hid hC
    have hszr := hC.2.size
    have hI := Lib.hid (IntsB.of (own_intsA hO))
    clear hl hO hC
    by_cases hlt : m < 8
    case neg =>
      have hd : decide ((m : Int) < 8) = false := decide_eq_false (by omega)
      go_wp2_with fail
      refine (below_cm wr g _ _ (by omega) (CM.of HC.out.1)).mono ?_
      rintro e w2 ⟨kd, rfl, hk, hc2, -⟩
      have C2 := Lib.hid (HC.out.trans hc2); have O2 := Lib.hid (HO.out.grown_lt hc2.2 (fun q hq => by injection hq with hq; omega))
      have z2 := C2.out.2.size
      clear hc2 HC HO hI
      by_cases h0 : kd = 0
      · have hb0 : ((kd : Int) == 0) = true := by simp; omega
        clear h0
        go_wp2_with fail
        refine (int_cm w2 g 5 5 [0, 1, 60, 61, -3] _ (CM.of C2.out.1) rfl (by omega) (by omega)).mono ?_
        rintro e w4 ⟨u, rfl, hc4, -⟩
        have C4 := Lib.hid (C2.out.trans hc4); have O4 := Lib.hid (O2.out.grown_lt hc4.2 (fun q hq => by injection hq with hq; omega))
        have z4 := C4.out.2.size
        clear hc4
        go_wp2_with (at_builtin; refine wpl_push w4 rfl (.tmp 29) (.tmp 33) rfl w.heap.size _ qs u rfl rfl O4.out z4 (by rw [Hl.out]; omega) ?_; intro v2 w6 hO6 hb6; obtain ⟨g6, m6, c6, rfl, hm6, hg6, hmc6, hcm6, hO6', hr6⟩ := own_form2 hO6 (by simp))
        have C6 := Lib.hid (C4.out.belowB hb6 (Nat.le_refl _) hgw); have I6 := Lib.hid (IntsB.of (own_intsA hO6')); have Hm6 := Lib.hid hm6
        have hm7 : m6 ≤ 9 := by rw [← hm6, List.length_append, Hl.out]; simp; omega
        clear hb6 hO6 hO6' hr6 hm6 hcm6
        go_ret
        exact ⟨_, m6, c6, qs ++ [u], rfl, Hm6.out, hm7, I6.out, (fun ad h => by injection h with h; subst h; exact hg6), C6.out⟩
      have hb0 : ((kd : Int) == 0) = false := by simp; omega
      by_cases h1 : kd = 1
      · have hb1 : ((kd : Int) == 1) = true := by simp; omega
        clear h0 h1
        go_wp2
        go_ret
        exact ⟨none, 0, 0, [], rfl, rfl, by omega, intsB_nil, (fun ad h => by cases h), C2.out⟩
      have hb1 : ((kd : Int) == 1) = false := by simp; omega
      by_cases h2 : kd = 2
      · have hb2 : ((kd : Int) == 2) = true := by simp; omega
        clear h0 h1 h2
        obtain ⟨w3, hw3⟩ : ∃ w3, w2.alloc (.cells (([9, 8, 7, 6, 5, 4, 3, 2, 1] : List Int).map (Value.int .i64)).toArray 3) = w3 := ⟨_, rfl⟩
        have hI3 : IntsB w3 (w2.heap.size + 1) (some ⟨w2.heap.size, 0, none⟩) [9, 8, 7, 6, 5, 4, 3, 2, 1] := by rw [← hw3]; exact lit_ints w2 _
        have hC3 : CM w w3 g := by rw [← hw3]; exact C2.out.alloc _
        have z3 : w3.heap.size = w2.heap.size + 1 := by rw [← hw3]; simp
        have C3 := Lib.hid hC3; have I3 := Lib.hid hI3; have Z3 := Lib.hid z3
        clear hC3 hI3 z3
        simp only [List.map_cons, List.map_nil] at hw3
        go_wp2_with fail
        clear hw3
        refine (below_cm w3 g _ _ (by omega) (CM.of C3.out.1)).mono ?_
        rintro e w4 ⟨q, rfl, hq, hc4, -⟩
        have C4 := Lib.hid (C3.out.trans hc4)
        have I4 := Lib.hid (I3.out.grown hc4.2 (by rw [Z3.out]; exact Nat.le_refl _) (fun ad had => by injection had with had; subst had; intro hh; injection hh with hh; have hh2 : g = w2.heap.size := hh; omega))
        have z4 : w2.heap.size + 1 ≤ w4.heap.size := by have h1 := hc4.2.size; have h2 := Z3.out; omega
        clear hc4 C3 I3
        by_cases hq0 : q = 0
        · subst hq0
          go_wp2
          go_ret
          exact ⟨_, 9, 9, _, rfl, rfl, by omega, I4.out.keep_up z4, (fun ad h => by injection h with h; subst h; exact z2), C4.out⟩
        obtain rfl : q = 1 := by omega
        go_wp2
        go_ret
        exact ⟨_, 8, 8, _, rfl, rfl, by omega, (intsB_drop1 I4.out).keep_up z4, (fun ad h => by injection h with h; subst h; exact z2), C4.out⟩
      have hb2 : ((kd : Int) == 2) = false := by simp; omega
      have I2 := Lib.hid (IntsB.of (own_intsA O2.out))
      clear h0 h1 h2
      go_wp2
      go_ret
      exact ⟨_, m, c', qs, rfl, Hl.out, by omega, I2.out, (fun ad h => by injection h with h; subst h; exact hgr), C2.out⟩
    have hd : decide ((m : Int) < 8) = true := decide_eq_true (by omega)
    by_cases hx : 0 < x
    case neg =>
      have hd2 : decide (0 < x) = false := decide_eq_false hx
      go_wp2_with fail
      refine (below_cm wr g _ _ (by omega) (CM.of HC.out.1)).mono ?_
      rintro e w2 ⟨kd, rfl, hk, hc2, -⟩
      have C2 := Lib.hid (HC.out.trans hc2); have O2 := Lib.hid (HO.out.grown_lt hc2.2 (fun q hq => by injection hq with hq; omega))
      have z2 := C2.out.2.size
      clear hc2 HC HO hI
      by_cases h0 : kd = 0
      · have hb0 : ((kd : Int) == 0) = true := by simp; omega
        clear h0
        go_wp2_with fail
        refine (int_cm w2 g 5 5 [0, 1, 60, 61, -3] _ (CM.of C2.out.1) rfl (by omega) (by omega)).mono ?_
        rintro e w4 ⟨u, rfl, hc4, -⟩
        have C4 := Lib.hid (C2.out.trans hc4); have O4 := Lib.hid (O2.out.grown_lt hc4.2 (fun q hq => by injection hq with hq; omega))
        have z4 := C4.out.2.size
        clear hc4
        go_wp2_with (at_builtin; refine wpl_push w4 rfl (.tmp 29) (.tmp 33) rfl w.heap.size _ qs u rfl rfl O4.out z4 (by rw [Hl.out]; omega) ?_; intro v2 w6 hO6 hb6; obtain ⟨g6, m6, c6, rfl, hm6, hg6, hmc6, hcm6, hO6', hr6⟩ := own_form2 hO6 (by simp))
        have C6 := Lib.hid (C4.out.belowB hb6 (Nat.le_refl _) hgw); have I6 := Lib.hid (IntsB.of (own_intsA hO6')); have Hm6 := Lib.hid hm6
        have hm7 : m6 ≤ 9 := by rw [← hm6, List.length_append, Hl.out]; simp; omega
        clear hb6 hO6 hO6' hr6 hm6 hcm6
        go_ret
        exact ⟨_, m6, c6, qs ++ [u], rfl, Hm6.out, hm7, I6.out, (fun ad h => by injection h with h; subst h; exact hg6), C6.out⟩
      have hb0 : ((kd : Int) == 0) = false := by simp; omega
      by_cases h1 : kd = 1
      · have hb1 : ((kd : Int) == 1) = true := by simp; omega
        clear h0 h1
        go_wp2
        go_ret
        exact ⟨none, 0, 0, [], rfl, rfl, by omega, intsB_nil, (fun ad h => by cases h), C2.out⟩
      have hb1 : ((kd : Int) == 1) = false := by simp; omega
      by_cases h2 : kd = 2
      · have hb2 : ((kd : Int) == 2) = true := by simp; omega
        clear h0 h1 h2
        obtain ⟨w3, hw3⟩ : ∃ w3, w2.alloc (.cells (([9, 8, 7, 6, 5, 4, 3, 2, 1] : List Int).map (Value.int .i64)).toArray 3) = w3 := ⟨_, rfl⟩
        have hI3 : IntsB w3 (w2.heap.size + 1) (some ⟨w2.heap.size, 0, none⟩) [9, 8, 7, 6, 5, 4, 3, 2, 1] := by rw [← hw3]; exact lit_ints w2 _
        have hC3 : CM w w3 g := by rw [← hw3]; exact C2.out.alloc _
        have z3 : w3.heap.size = w2.heap.size + 1 := by rw [← hw3]; simp
        have C3 := Lib.hid hC3; have I3 := Lib.hid hI3; have Z3 := Lib.hid z3
        clear hC3 hI3 z3
        simp only [List.map_cons, List.map_nil] at hw3
        go_wp2_with fail
        clear hw3
        refine (below_cm w3 g _ _ (by omega) (CM.of C3.out.1)).mono ?_
        rintro e w4 ⟨q, rfl, hq, hc4, -⟩
        have C4 := Lib.hid (C3.out.trans hc4)
        have I4 := Lib.hid (I3.out.grown hc4.2 (by rw [Z3.out]; exact Nat.le_refl _) (fun ad had => by injection had with had; subst had; intro hh; injection hh with hh; have hh2 : g = w2.heap.size := hh; omega))
        have z4 : w2.heap.size + 1 ≤ w4.heap.size := by have h1 := hc4.2.size; have h2 := Z3.out; omega
        clear hc4 C3 I3
        by_cases hq0 : q = 0
        · subst hq0
          go_wp2
          go_ret
          exact ⟨_, 9, 9, _, rfl, rfl, by omega, I4.out.keep_up z4, (fun ad h => by injection h with h; subst h; exact z2), C4.out⟩
        obtain rfl : q = 1 := by omega
        go_wp2
        go_ret
        exact ⟨_, 8, 8, _, rfl, rfl, by omega, (intsB_drop1 I4.out).keep_up z4, (fun ad h => by injection h with h; subst h; exact z2), C4.out⟩
      have hb2 : ((kd : Int) == 2) = false := by simp; omega
      have I2 := Lib.hid (IntsB.of (own_intsA O2.out))
      clear h0 h1 h2
      go_wp2
      go_ret
      exact ⟨_, m, c', qs, rfl, Hl.out, by omega, I2.out, (fun ad h => by injection h with h; subst h; exact hgr), C2.out⟩
    have hd2 : decide (0 < x) = true := decide_eq_true hx
    go_wp2_with (at_builtin; refine wpl_push wr rfl (.tmp 16) (.tmp 18) rfl w.heap.size _ qs x rfl rfl HO.out hszr (by rw [Hl.out]; omega) ?_; intro v2 w5 hO5 hb5; obtain ⟨g5, m5, c5, rfl, hm5, hg5, hmc5, hcm5, hO5', hr5⟩ := own_form2 hO5 (by simp))
    have C5 := Lib.hid (HC.out.belowB hb5 (Nat.le_refl _) hgw); have O5 := Lib.hid hO5'; have Hm5 := Lib.hid hm5
    have hm6 : Hid (m5 = m + 1) := by show _ = _; rw [← hm5, List.length_append, Hl.out]; rfl
    clear hb5 hO5 hO5' hr5 hm5 hcm5 hd hd2
    go_wp2_with fail
    refine (below_cm w5 g _ _ (by omega) (CM.of C5.out.1)).mono ?_
    rintro e w6 ⟨y, rfl, hy, hc6, -⟩
    have C6 := Lib.hid (C5.out.trans hc6); have O6 := Lib.hid (O5.out.grown_lt hc6.2 (fun q hq => by injection hq with hq; omega))
    clear hc6 C5 O5
    go_wp2
    go_roundw
    case rel => exact ⟨qs ++ [x], m5, g5, c5, x - 1 - (y : Int), rfl, by go_num, Hm5.out, by have := hm6.out; omega, by omega, by omega, hg5, O6.out, C6.out⟩
    case measure => have := hm6.out; simp [lenS]; omega
end Go.Proofs.Ytpenmheacpapaaa
