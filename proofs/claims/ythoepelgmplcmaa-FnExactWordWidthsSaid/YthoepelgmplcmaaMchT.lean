/-
  The laws' helpers szMachine, toMachine, eqMachine by contract. Conditions: lengths of at most 2^20.
-/
import Derived.Test.YthoepelgmplcmaaMchM
import Derived.Test.YthoepelgmplcmaaLnKit
namespace Go.Proofs.Ythoepelgmplcmaa
open Go.RowKit
set_option linter.unusedVariables false

set_option maxRecDepth 100000 in
set_option maxHeartbeats 3200000 in
theorem szMachine_any (lo hi : Nat) (v : Value) (X : Mch) (left : Int) (w : World) (h : MchV w lo hi v X) (hhi : hi ≤ w.heap.size) (h0 : 0 ≤ left) (h1 : left ≤ 1048576) :
    Calls Try.prog 32 #[v, .int .i64 left] w fun e w' => e = .returned (.int .i64 (takeOff left X.big)) ∧ Below w.heap.size w w' := by
  obtain ⟨s, A, n, c, A2, m, d, M, q, e0, L, l, lc, T, r, tc, rfl, hf, hq, hM, hqe, hem, hl, hL, hllc, hlm, hr, hT, hrt, htm⟩ := h.parts
  have hqm : q ≤ maxLen := by omega
  have hlm2 : l ≤ maxLen := by omega
  have hrm : r ≤ maxLen := by omega
  have hbig : X.big = X.f.big + magBig X.ms + l + r := by unfold Mch.big; rw [hl, hr]
  rw [hbig]
  obtain ⟨a, ha⟩ : ∃ a, X.f.big = a := ⟨_, rfl⟩
  obtain ⟨b, hb⟩ : ∃ b, magBig X.ms = b := ⟨_, rfl⟩
  rw [ha, hb]
  have Ha := Lib.hid ha; have Hb := Lib.hid hb; have Hq := Lib.hid hq
  have tok1 : True := trivial
  obtain ⟨w0, hw0, hb0, hz0, K0⟩ := mxWorld w #[.string s, .slice A n c, .slice A2 m d, .slice M q e0, .int .i64 X.sp, .int .i64 X.w, .int .i64 X.t, .int .i64 X.k, .slice L l lc, .slice T r tc] 56
  have V0 := Lib.hid (hf.below hhi hb0); have M0 := Lib.hid (hM.below hhi hb0); have T0 := Lib.hid hb0; have K0 := Lib.hid K0; have Z0 := Lib.hid hz0
  obtain ⟨c0, c1, c2, c3, c4, c5, c6, c7, c8, c9⟩ := K0.out.ten
  clear h hf hq hM hqe hem hl hL hllc hlm hr hT hrt htm hbig ha hb hb0 hz0
  by_cases l1 : left < (a : Int)
  · have Q1 : Hid (takeOff left a = -1) := by show _ = _; unfold takeOff; rw [if_pos l1]
    have HK : Hid (takeOff left ((a + b + l + r : Nat) : Int) = -1) := by show _ = _; unfold takeOff; rw [if_pos (by omega)]
    clear l1
    go_enter Try.func32, Try.ntmps32
    go_wp2_with (first
        | (go_at_call 37; clear hw0; refine (szFont_any lo hi _ X.f _ w0 V0.out (by omega) (by omega)).mono ?_; rintro e w1 ⟨he, hb1⟩; rw [Ha.out, Q1.out] at he; subst he; have K1 := Lib.hid (K0.out.below hb1 (by have := Z0.out; omega)); have M1 := Lib.hid (M0.out.below (by have := Z0.out; omega) hb1); have T1 := Lib.hid (T0.out.trans (hb1.mono (by have := Z0.out; omega))); clear hb1 c0 c1 c2 c3 c4 c5 c6 c7 c8 c9; obtain ⟨c0, c1, c2, c3, c4, c5, c6, c7, c8, c9⟩ := K1.out.ten))
    go_ret
    exact ⟨ret_int HK.out.symm, T1.out⟩
  have Q1 : Hid (takeOff left a = left - a) := by show _ = _; unfold takeOff; rw [if_neg l1]
  obtain ⟨x1, hx1⟩ : ∃ x, left - (a : Int) = x := ⟨_, rfl⟩
  have p1 : 0 ≤ x1 := by omega
  have p1' : x1 ≤ 1048576 := by omega
  rw [hx1] at Q1
  by_cases l2 : x1 < (b : Int)
  · have Q2 : Hid (takeOff x1 b = -1) := by show _ = _; unfold takeOff; rw [if_pos l2]
    have HK : Hid (takeOff left ((a + b + l + r : Nat) : Int) = -1) := by show _ = _; unfold takeOff; rw [if_pos (by omega)]
    clear l1 l2 hx1
    go_enter Try.func32, Try.ntmps32
    go_wp2_with (first
        | (go_at_call 37; clear hw0; refine (szFont_any lo hi _ X.f _ w0 V0.out (by omega) (by omega)).mono ?_; rintro e w1 ⟨he, hb1⟩; rw [Ha.out, Q1.out] at he; subst he; have K1 := Lib.hid (K0.out.below hb1 (by have := Z0.out; omega)); have M1 := Lib.hid (M0.out.below (by have := Z0.out; omega) hb1); have T1 := Lib.hid (T0.out.trans (hb1.mono (by have := Z0.out; omega))); clear hb1 c0 c1 c2 c3 c4 c5 c6 c7 c8 c9; obtain ⟨c0, c1, c2, c3, c4, c5, c6, c7, c8, c9⟩ := K1.out.ten)
        | (go_at_call 103; refine (szMatrixSS_any lo hi _ _ _ X.ms _ w1 Hq.out hqm M1.out (by omega) (by omega)).mono ?_; rintro e w1' ⟨he, rfl⟩; rw [Hb.out, Q2.out] at he; subst he))
    go_ret
    exact ⟨ret_int HK.out.symm, T1.out⟩
  have Q2 : Hid (takeOff x1 b = x1 - b) := by show _ = _; unfold takeOff; rw [if_neg l2]
  obtain ⟨x2, hx2⟩ : ∃ x, x1 - (b : Int) = x := ⟨_, rfl⟩
  have p2 : 0 ≤ x2 := by omega
  have p2' : x2 ≤ 1048576 := by omega
  rw [hx2] at Q2
  by_cases l3 : x2 < (l : Int)
  · have Q3 : Hid (takeOff x2 l = -1) := by show _ = _; unfold takeOff; rw [if_pos l3]
    have HK : Hid (takeOff left ((a + b + l + r : Nat) : Int) = -1) := by show _ = _; unfold takeOff; rw [if_pos (by omega)]
    clear l1 l2 l3 hx1 hx2
    go_enter Try.func32, Try.ntmps32
    go_wp2_with (first
        | (go_at_call 37; clear hw0; refine (szFont_any lo hi _ X.f _ w0 V0.out (by omega) (by omega)).mono ?_; rintro e w1 ⟨he, hb1⟩; rw [Ha.out, Q1.out] at he; subst he; have K1 := Lib.hid (K0.out.below hb1 (by have := Z0.out; omega)); have M1 := Lib.hid (M0.out.below (by have := Z0.out; omega) hb1); have T1 := Lib.hid (T0.out.trans (hb1.mono (by have := Z0.out; omega))); clear hb1 c0 c1 c2 c3 c4 c5 c6 c7 c8 c9; obtain ⟨c0, c1, c2, c3, c4, c5, c6, c7, c8, c9⟩ := K1.out.ten)
        | (go_at_call 103; refine (szMatrixSS_any lo hi _ _ _ X.ms _ w1 Hq.out hqm M1.out (by omega) (by omega)).mono ?_; rintro e w1' ⟨he, rfl⟩; rw [Hb.out, Q2.out] at he; subst he)
        | (go_at_call 104; clear tok1; refine (szMatrixS_any _ _ _ x2 w1 hlm2 (by omega) (by omega)).mono ?_; rintro e w1' ⟨he, rfl⟩; rw [Q3.out] at he; subst he))
    go_ret
    exact ⟨ret_int HK.out.symm, T1.out⟩
  have Q3 : Hid (takeOff x2 l = x2 - l) := by show _ = _; unfold takeOff; rw [if_neg l3]
  obtain ⟨x3, hx3⟩ : ∃ x, x2 - (l : Int) = x := ⟨_, rfl⟩
  have p3 : 0 ≤ x3 := by omega
  have p3' : x3 ≤ 1048576 := by omega
  rw [hx3] at Q3
  by_cases l4 : x3 < (r : Int)
  · have Q4 : Hid (takeOff x3 r = -1) := by show _ = _; unfold takeOff; rw [if_pos l4]
    have HK : Hid (takeOff left ((a + b + l + r : Nat) : Int) = -1) := by show _ = _; unfold takeOff; rw [if_pos (by omega)]
    clear l1 l2 l3 l4 hx1 hx2 hx3
    go_enter Try.func32, Try.ntmps32
    go_wp2_with (first
        | (go_at_call 37; clear hw0; refine (szFont_any lo hi _ X.f _ w0 V0.out (by omega) (by omega)).mono ?_; rintro e w1 ⟨he, hb1⟩; rw [Ha.out, Q1.out] at he; subst he; have K1 := Lib.hid (K0.out.below hb1 (by have := Z0.out; omega)); have M1 := Lib.hid (M0.out.below (by have := Z0.out; omega) hb1); have T1 := Lib.hid (T0.out.trans (hb1.mono (by have := Z0.out; omega))); clear hb1 c0 c1 c2 c3 c4 c5 c6 c7 c8 c9; obtain ⟨c0, c1, c2, c3, c4, c5, c6, c7, c8, c9⟩ := K1.out.ten)
        | (go_at_call 103; refine (szMatrixSS_any lo hi _ _ _ X.ms _ w1 Hq.out hqm M1.out (by omega) (by omega)).mono ?_; rintro e w1' ⟨he, rfl⟩; rw [Hb.out, Q2.out] at he; subst he)
        | (go_at_call 104; clear tok1; refine (szMatrixS_any _ _ _ x2 w1 hlm2 (by omega) (by omega)).mono ?_; rintro e w1' ⟨he, rfl⟩; rw [Q3.out] at he; subst he)
        | (go_at_call 104; refine (szMatrixS_any _ _ _ x3 w1 hrm (by omega) (by omega)).mono ?_; rintro e w1' ⟨he, rfl⟩; rw [Q4.out] at he; subst he))
    go_ret
    exact ⟨ret_int HK.out.symm, T1.out⟩
  have Q4 : Hid (takeOff x3 r = x3 - r) := by show _ = _; unfold takeOff; rw [if_neg l4]
  obtain ⟨x4, hx4⟩ : ∃ x, x3 - (r : Int) = x := ⟨_, rfl⟩
  have p4 : 0 ≤ x4 := by omega
  rw [hx4] at Q4
  have HK : Hid (takeOff left ((a + b + l + r : Nat) : Int) = x4) := by show _ = _; unfold takeOff; rw [if_neg (by omega)]; omega
  clear l1 l2 l3 l4 hx1 hx2 hx3 hx4
  go_enter Try.func32, Try.ntmps32
  go_wp2_with (first
      | (go_at_call 37; clear hw0; refine (szFont_any lo hi _ X.f _ w0 V0.out (by omega) (by omega)).mono ?_; rintro e w1 ⟨he, hb1⟩; rw [Ha.out, Q1.out] at he; subst he; have K1 := Lib.hid (K0.out.below hb1 (by have := Z0.out; omega)); have M1 := Lib.hid (M0.out.below (by have := Z0.out; omega) hb1); have T1 := Lib.hid (T0.out.trans (hb1.mono (by have := Z0.out; omega))); clear hb1 c0 c1 c2 c3 c4 c5 c6 c7 c8 c9; obtain ⟨c0, c1, c2, c3, c4, c5, c6, c7, c8, c9⟩ := K1.out.ten)
      | (go_at_call 103; refine (szMatrixSS_any lo hi _ _ _ X.ms _ w1 Hq.out hqm M1.out (by omega) (by omega)).mono ?_; rintro e w1' ⟨he, rfl⟩; rw [Hb.out, Q2.out] at he; subst he)
      | (go_at_call 104; clear tok1; refine (szMatrixS_any _ _ _ x2 w1 hlm2 (by omega) (by omega)).mono ?_; rintro e w1' ⟨he, rfl⟩; rw [Q3.out] at he; subst he)
      | (go_at_call 104; refine (szMatrixS_any _ _ _ x3 w1 hrm (by omega) (by omega)).mono ?_; rintro e w1' ⟨he, rfl⟩; rw [Q4.out] at he; subst he))
  go_ret
  exact ⟨ret_int HK.out.symm, T1.out⟩

theorem eqMeasure_any (W t k : Int) (w : World) : Calls Try.prog 118 #[.agg #[.int .i64 W, .int .i64 t, .int .i64 k], .agg #[.int .i64 W, .int .i64 t, .int .i64 k]] w fun e w' => e = .returned (.bool true) ∧ Below w.heap.size w w' := by
  have b1 : (W != W) = false := by simp
  have b2 : (t != t) = false := by simp
  have b3 : (k != k) = false := by simp
  have HW := Lib.hid (((Below.refl w.heap.size w).alloc (Nat.le_refl _) (.cells #[.int .i64 W, .int .i64 t, .int .i64 k] 59)).alloc (by simp) (.cells #[.int .i64 W, .int .i64 t, .int .i64 k] 59))
  go_enter Try.func118, Try.ntmps118
  go_wp2
  go_ret
  exact ⟨rfl, HW.out⟩
theorem eqMatrixS_same (lo hi lo2 hi2 : Nat) (A B : Option Addr) (n c d : Nat) (xs : List Mat) (w : World) (hn : xs.length = n) (hl : n ≤ 1048576) (hhi : hi ≤ w.heap.size) (hhi2 : hi2 ≤ w.heap.size) (h : MatsI w lo hi A xs) (h2 : MatsI w lo2 hi2 B xs) :
    Calls Try.prog 119 #[.slice A n c, .slice B n d] w fun e w' => e = .returned (.bool true) ∧ Below w.heap.size w w' := by
  refine (eqMatrixS_any lo hi lo2 hi2 A B n n c d xs xs w hn hn hl (by unfold maxLen; omega) hhi hhi2 h h2).mono ?_
  rintro e w' ⟨rfl, hb⟩
  exact ⟨by simp, hb⟩
/-- the words of a second machine that reads alike -/
theorem MchV.again {w : World} {lo hi lo2 hi2 : Nat} {X : Mch} {v u : Value} (h : MchV w lo hi v X) (h2 : MchV w lo2 hi2 u X) : ∃ s A n c A2 m d M q e L l lc T r tc B b B2 b2 N e' L' lc' T' tc',
    v = .agg #[.string s, .slice A n c, .slice A2 m d, .slice M q e, .int .i64 X.sp, .int .i64 X.w, .int .i64 X.t, .int .i64 X.k, .slice L l lc, .slice T r tc]
    ∧ u = .agg #[.string s, .slice B n b, .slice B2 m b2, .slice N q e', .int .i64 X.sp, .int .i64 X.w, .int .i64 X.t, .int .i64 X.k, .slice L' l lc', .slice T' r tc']
    ∧ FontV w lo hi (.agg #[.string s, .slice A n c, .slice A2 m d]) X.f ∧ FontV w lo2 hi2 (.agg #[.string s, .slice B n b, .slice B2 m b2]) X.f
    ∧ X.ms.length = q ∧ MagI w lo hi M X.ms ∧ MagI w lo2 hi2 N X.ms ∧ X.ln.length = l ∧ MatsI w lo hi L X.ln ∧ MatsI w lo2 hi2 L' X.ln ∧ X.wt.length = r ∧ MatsI w lo hi T X.wt ∧ MatsI w lo2 hi2 T' X.wt := by
  obtain ⟨A, c, A2, d, M, e, L, lc, T, tc, hv, hp⟩ := h
  obtain ⟨B, b, B2, b2, N, e', L', lc', T', tc', hu, hp2⟩ := h2
  exact ⟨_, A, _, c, A2, _, d, M, _, e, L, _, lc, T, _, tc, B, b, B2, b2, N, e', L', lc', T', tc', hv, hu, hp.font, hp2.font, rfl, hp.mag, hp2.mag, rfl, hp.line, hp2.line, rfl, hp.wait, hp2.wait⟩
set_option maxRecDepth 100000 in
set_option maxHeartbeats 3200000 in
theorem eqMachine_same (lo hi lo2 hi2 : Nat) (v u : Value) (X : Mch) (w : World) (h : MchV w lo hi v X) (h2 : MchV w lo2 hi2 u X) (hhi : hi ≤ w.heap.size) (hhi2 : hi2 ≤ w.heap.size) (hs : SmallX X) :
    Calls Try.prog 36 #[v, u] w fun e w' => e = .returned (.bool true) ∧ Below w.heap.size w w' := by
  obtain ⟨s, A, n, c, A2, m, d, M, q, e0, L, l, lc, T, r, tc, B, b, B2, b2, N, e', L', lc', T', tc', rfl, rfl, hf, hf2, hq, hM, hM2, hl, hL, hL2, hr, hT, hT2⟩ := h.again h2
  have Hq := Lib.hid hq; have Hl := Lib.hid hl; have Hr := Lib.hid hr; have HS := Lib.hid hs
  have hq1 : q ≤ 1048576 := by rw [← hq]; exact hs.ms
  have hl1 : l ≤ 1048576 := by rw [← hl]; exact hs.ln
  have hr1 : r ≤ 1048576 := by rw [← hr]; exact hs.wt
  obtain ⟨sp, hsp⟩ : ∃ x, X.sp = x := ⟨_, rfl⟩
  obtain ⟨W, hW⟩ : ∃ x, X.w = x := ⟨_, rfl⟩
  obtain ⟨t, ht⟩ : ∃ x, X.t = x := ⟨_, rfl⟩
  obtain ⟨k, hk⟩ : ∃ x, X.k = x := ⟨_, rfl⟩
  rw [hsp, hW, ht, hk] at h h2 ⊢
  have b1 : (sp != sp) = false := by simp
  obtain ⟨w0, hw0, hb0, hz0, K0⟩ := mxWorld w #[.string s, .slice A n c, .slice A2 m d, .slice M q e0, .int .i64 sp, .int .i64 W, .int .i64 t, .int .i64 k, .slice L l lc, .slice T r tc] 61
  obtain ⟨w1, hw1, hb1, hz1, J1⟩ := mxWorld w0 #[.string s, .slice B n b, .slice B2 m b2, .slice N q e', .int .i64 sp, .int .i64 W, .int .i64 t, .int .i64 k, .slice L' l lc', .slice T' r tc'] 61
  have K1 := Lib.hid (K0.below hb1 (by omega))
  have hb01 := hb0.trans (hb1.mono (by omega))
  have J1 := Lib.hid J1; have T1 := Lib.hid hb01
  have F1 := Lib.hid (hf.below hhi hb01); have G1 := Lib.hid (hf2.below hhi2 hb01)
  have M1 := Lib.hid (hM.below hhi hb01); have N1 := Lib.hid (hM2.below hhi2 hb01)
  have L1 := Lib.hid (hL.below hhi hb01); have L1' := Lib.hid (hL2.below hhi2 hb01)
  have W1 := Lib.hid (hT.below hhi hb01); have W1' := Lib.hid (hT2.below hhi2 hb01)
  have Z1 : Hid (w1.heap.size = w.heap.size + 2) := by show _ = _; omega
  have Z0 := Lib.hid hz0
  clear h h2 hf hf2 hM hM2 hL hL2 hT hT2 hq hl hr hs hsp hW ht hk hb0 hb1 hb01 K0 hz0 hz1
  have z0 : w0.heap.size ≤ w.heap.size + 1 := by have := Z0.out; omega
  obtain ⟨c0, c1, c2, c3, c4, c5, c6, c7, c8, c9⟩ := K1.out.ten
  obtain ⟨dc0, dc1, dc2, dc3, dc4, dc5, dc6, dc7, dc8, dc9⟩ := J1.out.ten
  have z1 := Z1.out
  have tok1 : True := trivial
  clear Z0 Z1
  go_enter Try.func36, Try.ntmps36
  go_wp2_with (first
      | (go_at_call 42; clear hw0 hw1; refine (eqFont_same lo hi lo2 hi2 _ _ X.f w1 F1.out G1.out (by omega) (by omega) HS.out.f).mono ?_; rintro e w2 ⟨rfl, hb⟩; have K2 := Lib.hid (K1.out.below hb (by omega)); have J2 := Lib.hid (J1.out.below hb (by omega)); have T2 := Lib.hid (T1.out.trans (hb.mono (by omega))); have z2 : w.heap.size + 2 ≤ w2.heap.size := (by have := hb.size; omega); have M2 := Lib.hid (M1.out.below (by omega) hb); have N2 := Lib.hid (N1.out.below (by omega) hb); have L2 := Lib.hid (L1.out.below (by omega) hb); have L2' := Lib.hid (L1'.out.below (by omega) hb); have W2 := Lib.hid (W1.out.below (by omega) hb); have W2' := Lib.hid (W1'.out.below (by omega) hb); clear hb c0 c1 c2 c3 c4 c5 c6 c7 c8 c9 dc0 dc1 dc2 dc3 dc4 dc5 dc6 dc7 dc8 dc9; obtain ⟨c0, c1, c2, c3, c4, c5, c6, c7, c8, c9⟩ := K2.out.ten; obtain ⟨dc0, dc1, dc2, dc3, dc4, dc5, dc6, dc7, dc8, dc9⟩ := J2.out.ten)
      | (go_at_call 117; refine (eqMatrixSS_same lo hi lo2 hi2 _ _ _ _ _ X.ms w2 Hq.out hq1 HS.out.row (by omega) (by omega) M2.out N2.out).mono ?_; rintro e w3 ⟨rfl, hb⟩; have K3 := Lib.hid (K2.out.below hb (by omega)); have J3 := Lib.hid (J2.out.below hb (by omega)); have T3 := Lib.hid (T2.out.trans (hb.mono (by omega))); have z3 : w.heap.size + 2 ≤ w3.heap.size := (by have := hb.size; omega); have L3 := Lib.hid (L2.out.below (by omega) hb); have L3' := Lib.hid (L2'.out.below (by omega) hb); have W3 := Lib.hid (W2.out.below (by omega) hb); have W3' := Lib.hid (W2'.out.below (by omega) hb); clear hb c0 c1 c2 c3 c4 c5 c6 c7 c8 c9 dc0 dc1 dc2 dc3 dc4 dc5 dc6 dc7 dc8 dc9; obtain ⟨c0, c1, c2, c3, c4, c5, c6, c7, c8, c9⟩ := K3.out.ten; obtain ⟨dc0, dc1, dc2, dc3, dc4, dc5, dc6, dc7, dc8, dc9⟩ := J3.out.ten)
      | (go_at_call 118; refine (eqMeasure_any W t k w3).mono ?_; rintro e w4 ⟨rfl, hb⟩; have K4 := Lib.hid (K3.out.below hb (by omega)); have J4 := Lib.hid (J3.out.below hb (by omega)); have T4 := Lib.hid (T3.out.trans (hb.mono (by omega))); have z4 : w.heap.size + 2 ≤ w4.heap.size := (by have := hb.size; omega); have L4 := Lib.hid (L3.out.below (by omega) hb); have L4' := Lib.hid (L3'.out.below (by omega) hb); have W4 := Lib.hid (W3.out.below (by omega) hb); have W4' := Lib.hid (W3'.out.below (by omega) hb); clear hb c0 c1 c2 c3 c4 c5 c6 c7 c8 c9 dc0 dc1 dc2 dc3 dc4 dc5 dc6 dc7 dc8 dc9; obtain ⟨c0, c1, c2, c3, c4, c5, c6, c7, c8, c9⟩ := K4.out.ten; obtain ⟨dc0, dc1, dc2, dc3, dc4, dc5, dc6, dc7, dc8, dc9⟩ := J4.out.ten)
      | (go_at_call 119; clear tok1; refine (eqMatrixS_same lo hi lo2 hi2 _ _ _ _ _ X.ln w4 Hl.out hl1 (by omega) (by omega) L4.out L4'.out).mono ?_; rintro e w5 ⟨rfl, hb⟩; have K5 := Lib.hid (K4.out.below hb (by omega)); have J5 := Lib.hid (J4.out.below hb (by omega)); have T5 := Lib.hid (T4.out.trans (hb.mono (by omega))); have z5 : w.heap.size + 2 ≤ w5.heap.size := (by have := hb.size; omega); have W5 := Lib.hid (W4.out.below (by omega) hb); have W5' := Lib.hid (W4'.out.below (by omega) hb); clear hb c0 c1 c2 c3 c4 c5 c6 c7 c8 c9 dc0 dc1 dc2 dc3 dc4 dc5 dc6 dc7 dc8 dc9; obtain ⟨c0, c1, c2, c3, c4, c5, c6, c7, c8, c9⟩ := K5.out.ten; obtain ⟨dc0, dc1, dc2, dc3, dc4, dc5, dc6, dc7, dc8, dc9⟩ := J5.out.ten)
      | (go_at_call 119; refine (eqMatrixS_same lo hi lo2 hi2 _ _ _ _ _ X.wt w5 Hr.out hr1 (by omega) (by omega) W5.out W5'.out).mono ?_; rintro e w6 ⟨rfl, hb⟩; have K6 := Lib.hid (K5.out.below hb (by omega)); have J6 := Lib.hid (J5.out.below hb (by omega)); have T6 := Lib.hid (T5.out.trans (hb.mono (by omega))); have z6 : w.heap.size + 2 ≤ w6.heap.size := (by have := hb.size; omega); clear hb c0 c1 c2 c3 c4 c5 c6 c7 c8 c9 dc0 dc1 dc2 dc3 dc4 dc5 dc6 dc7 dc8 dc9; obtain ⟨c0, c1, c2, c3, c4, c5, c6, c7, c8, c9⟩ := K6.out.ten; obtain ⟨dc0, dc1, dc2, dc3, dc4, dc5, dc6, dc7, dc8, dc9⟩ := J6.out.ten))
  go_ret
  exact ⟨rfl, T6.out⟩

end Go.Proofs.Ythoepelgmplcmaa
