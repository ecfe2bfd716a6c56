/-
  The exact law of MarksOf: its walk. No condition.
-/
import Derived.Test.YtgngekolnlbddaaLawsRst
import Derived.Test.YtgngekolnlbddaaMks
namespace Go.Proofs.Ytgngekolnlbddaa
open Go.RowKit
set_option linter.unusedVariables false

set_option maxRecDepth 100000 in
set_option maxHeartbeats 1600000 in
theorem fnExactMarksOf_walk (A0 : Option Addr) (n0 c0 : Nat) (ss0 : List ByteArray) (A1 : Option Addr) (n1 c1 : Nat) (ss1 : List ByteArray) (w : World) (hn0 : ss0.length = n0) (hm0 : n0 ≤ maxLen) (h0 : Strs w A0 ss0) (wf0 : ∀ s ∈ ss0, s.size ≤ maxLen) (hn1 : ss1.length = n1) (hm1 : n1 ≤ maxLen) (h1 : Strs w A1 ss1) (wf1 : ∀ s ∈ ss1, s.size ≤ maxLen) :
    Calls Try.prog 9 #[.slice A0 n0 c0, .slice A1 n1 c1] w fun e w' => e = .returned (.bool true) ∧ Below w.heap.size w w' := by
  have N0 := Lib.hid hn0; have H0 := Lib.hid h0; have Wf0 := Lib.hid wf0
  have N1 := Lib.hid hn1; have H1 := Lib.hid h1; have Wf1 := Lib.hid wf1
  clear hn0 h0 wf0 hn1 h1 wf1
  obtain ⟨q0, hq0⟩ : ∃ q, szI 1048576 ss0 = q := ⟨_, rfl⟩
  have Q0 := Lib.hid hq0; clear hq0
  by_cases hb0 : q0 < 0
  · go_enter Try.func9, Try.ntmps9
    go_wp2_with fail
    refine (szStringS_any _ _ _ ss0 1048576 _ N0.out hm0 H0.out Wf0.out (by omega) (by omega)).mono ?_
    rintro e w' ⟨rfl, rfl⟩
    rw [Q0.out]
    go_wp2
    go_ret
    exact ⟨rfl, Below.refl _ _⟩
  have G0 := Lib.hid (szI_good (left := 1048576) (ss := ss0) (by rw [Q0.out]; omega))
  have g0 : q0 ≤ 1048576 ∧ n0 ≤ 1048576 := by have h := G0.out; have e := Q0.out; have hN := N0.out; unfold szL at h; rw [hN] at h; omega
  obtain ⟨q1, hq1⟩ : ∃ q, szI q0 ss1 = q := ⟨_, rfl⟩
  have Q1 := Lib.hid hq1; clear hq1
  by_cases hb1 : q1 < 0
  · go_enter Try.func9, Try.ntmps9
    go_wp2_with fail
    refine (szStringS_any _ _ _ ss0 1048576 _ N0.out hm0 H0.out Wf0.out (by omega) (by omega)).mono ?_
    rintro e w' ⟨rfl, rfl⟩
    rw [Q0.out]
    go_wp2_with fail
    refine (szStringS_any _ _ _ ss1 q0 _ N1.out hm1 H1.out Wf1.out (by omega) (by omega)).mono ?_
    rintro e w' ⟨rfl, rfl⟩
    rw [Q1.out]
    go_wp2
    go_ret
    exact ⟨rfl, Below.refl _ _⟩
  have G1 := Lib.hid (szI_good (left := q0) (ss := ss1) (by rw [Q1.out]; omega))
  have g1 : q1 ≤ 1048576 ∧ n1 ≤ 1048576 := by have h := G1.out; have e := Q1.out; have hN := N1.out; unfold szL at h; rw [hN] at h; omega
  obtain ⟨g0a, g0b⟩ := g0
  obtain ⟨g1a, g1b⟩ := g1
  have T0 := Lib.hid (Below.refl w.heap.size w)
  have A0x0 := Lib.hid (StrsB.of H0.out)
  have A1x0 := Lib.hid (StrsB.of H1.out)
  have hbe := str_eq (mksS ss0 ss1)
  go_enter Try.func9, Try.ntmps9
  go_wp2_with fail
  refine (szStringS_any _ _ _ ss0 1048576 _ N0.out hm0 H0.out Wf0.out (by omega) (by omega)).mono ?_
  rintro e w' ⟨rfl, rfl⟩
  rw [Q0.out]
  go_wp2_with fail
  refine (szStringS_any _ _ _ ss1 q0 _ N1.out hm1 H1.out Wf1.out (by omega) (by omega)).mono ?_
  rintro e w' ⟨rfl, rfl⟩
  rw [Q1.out]
  go_wp2_with fail
  refine (toStringS_t _ _ _ ss0 _ N0.out g0b A0x0.out.ints).mono ?_
  rintro e w1 ⟨B0, d0, rfl, hI, k0a, k0b, hb1⟩
  have T1 := Lib.hid (T0.out.trans (hb1.mono (by omega)))
  have A0x1 := Lib.hid (A0x0.out.keep (by omega) hb1)
  have A1x1 := Lib.hid (A1x0.out.keep (by omega) hb1)
  have z1 := hb1.size
  clear hb1 T0 A0x0 A1x0
  have Y0x1 := Lib.hid (StrsB.of hI)
  clear hI
  go_wp2_with fail
  refine (toStringS_t _ _ _ ss1 _ N1.out g1b A1x1.out.ints).mono ?_
  rintro e w2 ⟨B1, d1, rfl, hI, k1a, k1b, hb2⟩
  have T2 := Lib.hid (T1.out.trans (hb2.mono (by omega)))
  have A0x2 := Lib.hid (A0x1.out.keep (by omega) hb2)
  have A1x2 := Lib.hid (A1x1.out.keep (by omega) hb2)
  have Y0x2 := Lib.hid (Y0x1.out.keep (by omega) hb2)
  have z2 := hb2.size
  clear hb2 T1 A0x1 A1x1 Y0x1
  have Y1x2 := Lib.hid (StrsB.of hI)
  clear hI
  go_wp2_with fail
  refine (specMks_any _ _ _ _ _ _ ss0 ss1 _ N0.out N1.out g0b g1b Y0x2.out.ints Y1x2.out.ints).mono ?_
  rintro e w3 ⟨rfl, hb3⟩
  have T3 := Lib.hid (T2.out.trans (hb3.mono (by omega)))
  have A0x3 := Lib.hid (A0x2.out.keep (by omega) hb3)
  have A1x3 := Lib.hid (A1x2.out.keep (by omega) hb3)
  have Y0x3 := Lib.hid (Y0x2.out.keep (by omega) hb3)
  have Y1x3 := Lib.hid (Y1x2.out.keep (by omega) hb3)
  have z3 := hb3.size
  clear hb3 T2 A0x2 A1x2 Y0x2 Y1x2
  clear Y0x3
  clear Y1x3
  go_wp2_with fail
  refine (toStringS_t _ _ _ ss0 _ N0.out g0b A0x3.out.ints).mono ?_
  rintro e w4 ⟨E0, f0, rfl, hI, l0a, l0b, hb4⟩
  have T4 := Lib.hid (T3.out.trans (hb4.mono (by omega)))
  have A0x4 := Lib.hid (A0x3.out.keep (by omega) hb4)
  have A1x4 := Lib.hid (A1x3.out.keep (by omega) hb4)
  have z4 := hb4.size
  clear hb4 T3 A0x3 A1x3
  have X0x4 := Lib.hid (StrsB.of hI)
  clear hI
  go_wp2_with fail
  refine (toStringS_t _ _ _ ss1 _ N1.out g1b A1x4.out.ints).mono ?_
  rintro e w5 ⟨E1, f1, rfl, hI, l1a, l1b, hb5⟩
  have T5 := Lib.hid (T4.out.trans (hb5.mono (by omega)))
  have A0x5 := Lib.hid (A0x4.out.keep (by omega) hb5)
  have A1x5 := Lib.hid (A1x4.out.keep (by omega) hb5)
  have X0x5 := Lib.hid (X0x4.out.keep (by omega) hb5)
  have z5 := hb5.size
  clear hb5 T4 A0x4 A1x4 X0x4
  have X1x5 := Lib.hid (StrsB.of hI)
  clear hI
  go_wp2_with fail
  refine (implMks_any _ _ _ _ _ _ ss0 ss1 _ N0.out N1.out g0b g1b X0x5.out.ints X1x5.out.ints).mono ?_
  rintro e w6 ⟨rfl, hb6⟩
  have T6 := Lib.hid (T5.out.trans (hb6.mono (by omega)))
  have A0x6 := Lib.hid (A0x5.out.keep (by omega) hb6)
  have A1x6 := Lib.hid (A1x5.out.keep (by omega) hb6)
  have X0x6 := Lib.hid (X0x5.out.keep (by omega) hb6)
  have X1x6 := Lib.hid (X1x5.out.keep (by omega) hb6)
  have z6 := hb6.size
  clear hb6 T5 A0x5 A1x5 X0x5 X1x5
  go_wp2_with fail
  refine (toStringS_t _ _ _ ss0 _ N0.out g0b A0x6.out.ints).mono ?_
  rintro e w7 ⟨P0, r0, rfl, hI, m0a, m0b, hb7⟩
  have T7 := Lib.hid (T6.out.trans (hb7.mono (by omega)))
  have A0x7 := Lib.hid (A0x6.out.keep (by omega) hb7)
  have A1x7 := Lib.hid (A1x6.out.keep (by omega) hb7)
  have X0x7 := Lib.hid (X0x6.out.keep (by omega) hb7)
  have X1x7 := Lib.hid (X1x6.out.keep (by omega) hb7)
  have z7 := hb7.size
  clear hb7 T6 A0x6 A1x6 X0x6 X1x6
  have Z0x7 := Lib.hid (StrsB.of hI)
  clear hI
  go_wp2_with fail
  refine (eqStringS_t _ _ _ _ _ ss0 _ N0.out g0b X0x7.out.ints Z0x7.out.ints).mono ?_
  rintro e w8 ⟨rfl, hb8⟩
  have T8 := Lib.hid (T7.out.trans (hb8.mono (by omega)))
  have A0x8 := Lib.hid (A0x7.out.keep (by omega) hb8)
  have A1x8 := Lib.hid (A1x7.out.keep (by omega) hb8)
  have X0x8 := Lib.hid (X0x7.out.keep (by omega) hb8)
  have X1x8 := Lib.hid (X1x7.out.keep (by omega) hb8)
  have Z0x8 := Lib.hid (Z0x7.out.keep (by omega) hb8)
  have z8 := hb8.size
  clear hb8 T7 A0x7 A1x7 X0x7 X1x7 Z0x7
  clear Z0x8
  go_wp2_with fail
  refine (toStringS_t _ _ _ ss1 _ N1.out g1b A1x8.out.ints).mono ?_
  rintro e w9 ⟨P1, r1, rfl, hI, m1a, m1b, hb9⟩
  have T9 := Lib.hid (T8.out.trans (hb9.mono (by omega)))
  have A0x9 := Lib.hid (A0x8.out.keep (by omega) hb9)
  have A1x9 := Lib.hid (A1x8.out.keep (by omega) hb9)
  have X0x9 := Lib.hid (X0x8.out.keep (by omega) hb9)
  have X1x9 := Lib.hid (X1x8.out.keep (by omega) hb9)
  have z9 := hb9.size
  clear hb9 T8 A0x8 A1x8 X0x8 X1x8
  have Z1x9 := Lib.hid (StrsB.of hI)
  clear hI
  go_wp2_with fail
  refine (eqStringS_t _ _ _ _ _ ss1 _ N1.out g1b X1x9.out.ints Z1x9.out.ints).mono ?_
  rintro e w10 ⟨rfl, hb10⟩
  have T10 := Lib.hid (T9.out.trans (hb10.mono (by omega)))
  have A0x10 := Lib.hid (A0x9.out.keep (by omega) hb10)
  have A1x10 := Lib.hid (A1x9.out.keep (by omega) hb10)
  have X0x10 := Lib.hid (X0x9.out.keep (by omega) hb10)
  have X1x10 := Lib.hid (X1x9.out.keep (by omega) hb10)
  have Z1x10 := Lib.hid (Z1x9.out.keep (by omega) hb10)
  have z10 := hb10.size
  clear hb10 T9 A0x9 A1x9 X0x9 X1x9 Z1x9
  clear Z1x10
  go_wp2
  go_ret
  exact ⟨rfl, T10.out⟩
end Go.Proofs.Ytgngekolnlbddaa
