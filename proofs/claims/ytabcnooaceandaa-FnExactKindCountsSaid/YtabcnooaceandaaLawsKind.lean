/-
  The exact law of KindCounts: its walk. No condition.
-/
import Derived.Test.YtabcnooaceandaaLawsMag
import Derived.Test.YtabcnooaceandaaKind
import Derived.Test.YtabcnooaceandaaMarkS
import Derived.Test.YtabcnooaceandaaKeep
namespace Go.Proofs.Ytabcnooaceandaa
open Go.RowKit
set_option linter.unusedVariables false

set_option maxRecDepth 100000 in
set_option maxHeartbeats 6400000 in
theorem fnExactKindCounts_walk (lo hi : Nat) (v : Value) (f : Fnt) (lo2 hi2 : Nat) (A : Option Addr) (c : Nat) (ms : List (List Mat)) (w : World) (h : FontV w lo hi v f) (hhi : hi ≤ w.heap.size) (hcc : ms.length ≤ c) (hcm : c ≤ maxLen) (hM : MagI w lo2 hi2 A ms) (hhi2 : hi2 ≤ w.heap.size) (wfm : wfM ms) :
    Calls Try.prog 11 #[v, .slice A ms.length c] w fun e w' => e = .returned (.bool true) ∧ Below w.heap.size w w' := by
  obtain ⟨B, d, B2, d2, hv⟩ := fontForm h
  obtain ⟨s, hs0⟩ : ∃ s, f.s = s := ⟨_, rfl⟩
  obtain ⟨p, hp⟩ : ∃ n, f.ws.length = n := ⟨_, rfl⟩
  obtain ⟨q, hq⟩ : ∃ m, f.cs.length = m := ⟨_, rfl⟩
  obtain ⟨n, hn⟩ : ∃ n, ms.length = n := ⟨_, rfl⟩
  rw [hs0, hp, hq] at hv
  rw [hv] at h
  rw [hv, hn]
  rw [hn] at hcc
  have hnm : n ≤ maxLen := by omega
  have hW : Below w.heap.size w (w.alloc (.cells #[.string s, .slice B p d, .slice B2 q d2] 46)) := (Below.refl _ _).alloc (Nat.le_refl _) _
  have V0 := Lib.hid (h.below hhi hW)
  have M0 := Lib.hid (hM.below hhi2 hW)
  have X0 := Lib.hid (new3 w (.string s) (.slice B p d) (.slice B2 q d2) 46)
  have T0 := Lib.hid hW
  have Hn := Lib.hid hn
  clear hv hs0 hp hq h hW hM hn hcc hcm
  by_cases hbig : (1048576 : Int) < f.big
  · have Hk := Lib.hid (takeOff_bad hbig)
    go_enter Try.func11, Try.ntmps11
    go_wp2_with fail
    refine (szFont_any lo hi _ f _ _ V0.out (by omega) (by omega)).mono ?_
    rintro e w1 ⟨rfl, hb1⟩
    rw [Hk.out]
    have T1 := Lib.hid (T0.out.trans (hb1.mono (by simp)))
    clear hb1
    go_wp2
    go_ret
    exact ⟨rfl, T1.out⟩
  have Hk := Lib.hid (takeOff_good hbig)
  have hs := big_small hbig
  have hk0 : 0 ≤ 1048576 - (f.big : Int) := by omega
  by_cases hbig2 : 1048576 - (f.big : Int) < magBig ms
  · have Hk2 := Lib.hid (takeOff_bad hbig2)
    have td : decide (1048576 - (f.big : Int) < 0) = false := by rw [decide_eq_false_iff_not]; omega
    clear hbig hbig2
    go_enter Try.func11, Try.ntmps11
    go_wp2_with fail
    refine (szFont_any lo hi _ f _ _ V0.out (by omega) (by omega)).mono ?_
    rintro e w1 ⟨rfl, hb1⟩
    rw [Hk.out]
    have T1 := Lib.hid (T0.out.trans (hb1.mono (by simp)))
    have M1 := Lib.hid (M0.out.below (by simp; omega) hb1)
    clear hb1
    go_wp2_with fail
    refine (szMatrixSS_any lo2 hi2 _ _ _ ms _ _ Hn.out hnm M1.out hk0 (by omega)).mono ?_
    rintro e w' ⟨rfl, rfl⟩
    rw [Hk2.out]
    go_wp2
    go_ret
    exact ⟨rfl, T1.out⟩
  have Hk2 := Lib.hid (takeOff_good hbig2)
  obtain ⟨hn1, hlim⟩ := magBig_lim (ms := ms) (n := 1048576) (by omega)
  rw [Hn.out] at hn1
  have hk2 : 0 ≤ 1048576 - (f.big : Int) - (magBig ms : Int) := by omega
  have td : decide (1048576 - (f.big : Int) < 0) = false := by rw [decide_eq_false_iff_not]; omega
  have td2 : decide (1048576 - (f.big : Int) - (magBig ms : Int) < 0) = false := by rw [decide_eq_false_iff_not]; omega
  have Hlim := Lib.hid hlim
  have hfb : f.ws.length + f.cs.length ≤ 1048576 := by unfold Fnt.big at hbig; omega
  have htm : tot ms ≤ 1048576 := by unfold magBig at hbig2; omega
  obtain ⟨m, hm1⟩ : ∃ m, (kindL f ms).length = m := ⟨_, rfl⟩
  have hms : m ≤ 1048576 := by rw [← hm1]; exact kindL_len f ms (by rw [Hn.out]; exact hn1)
  have Hm := Lib.hid hm1
  clear hbig hbig2 hlim hm1
  go_enter Try.func11, Try.ntmps11
  go_wp2_with fail
  refine (szFont_any lo hi _ f _ _ V0.out (by omega) (by omega)).mono ?_
  rintro e w1 ⟨rfl, hb1⟩
  rw [Hk.out]
  have V1 := Lib.hid (V0.out.below (by simp; omega) hb1)
  have M1 := Lib.hid (M0.out.below (by simp; omega) hb1)
  have T1 := Lib.hid (T0.out.trans (hb1.mono (by simp)))
  have X1 := Lib.hid (keep3 hb1 (by simp) X0.out)
  have s1 := hb1.size
  simp only [World.size_alloc] at s1
  clear hb1 X0 V0 T0 M0
  go_wp2_with fail
  refine (szMatrixSS_any lo2 hi2 _ _ _ ms _ _ Hn.out hnm M1.out hk0 (by omega)).mono ?_
  rintro e w' ⟨rfl, rfl⟩
  rw [Hk2.out]
  obtain ⟨q0, q1, q2⟩ := X1.out
  go_wp2_with fail
  refine (toFont_any lo hi _ f _ V1.out (by omega) hs).mono ?_
  rintro e w3 ⟨v3, rfl, hO3, hb3⟩
  have F3 := Lib.hid hO3.font
  have V3 := Lib.hid (V1.out.below (by omega) hb3)
  have M3 := Lib.hid (M1.out.below (by omega) hb3)
  have T3 := Lib.hid (T1.out.trans (hb3.mono (by omega)))
  have X3 := Lib.hid (keep3 hb3 (by omega) X1.out)
  have s3 := hb3.size
  clear hb3 X1 V1 T1 M1 q0 q1 q2 hO3
  go_wp2_with fail
  refine (toMatrixSS_any lo2 hi2 _ _ _ ms _ Hn.out hn1 Hlim.out (by omega) M3.out).mono ?_
  rintro e w4 ⟨u4, hs4, rfl, hO4, hb4⟩
  obtain ⟨A4, c4, hu4, _⟩ := hO4.form
  rw [Hn.out] at hu4
  subst hu4
  have G4 := Lib.hid hO4.reads
  have F4 := Lib.hid (F3.out.below (Nat.le_refl _) hb4)
  have V4 := Lib.hid (V3.out.below (by omega) hb4)
  have M4 := Lib.hid (M3.out.below (by omega) hb4)
  have T4 := Lib.hid (T3.out.trans (hb4.mono (by omega)))
  have X4 := Lib.hid (keep3 hb4 (by omega) X3.out)
  have s4 := hb4.size
  clear hb4 X3 V3 T3 M3 F3 hO4
  go_wp2_with fail
  refine (specKind_any _ _ _ _ _ f _ _ _ ms _ F4.out (by omega) hs Hn.out hn1 G4.out (Nat.le_refl _)).mono ?_
  rintro e w5 ⟨u0, rfl, hO5, hb5⟩
  obtain ⟨A0, c0, rfl, hI0, _⟩ := hO5.form
  rw [Hm.out]
  have I5 := Lib.hid (IntsB.of hI0)
  have V5 := Lib.hid (V4.out.below (by omega) hb5)
  have M5 := Lib.hid (M4.out.below (by omega) hb5)
  have T5 := Lib.hid (T4.out.trans (hb5.mono (by omega)))
  have X5 := Lib.hid (keep3 hb5 (by omega) X4.out)
  have s5 := hb5.size
  clear V4 M4 T4 X4 F4 G4 hb5 hO5 hI0
  obtain ⟨q0, q1, q2⟩ := X5.out
  go_wp2_with fail
  refine (toFont_any lo hi _ f _ V5.out (by omega) hs).mono ?_
  rintro e w6 ⟨v6, rfl, hO6, hb6⟩
  obtain ⟨A6, c6, B6, d6, hv6⟩ := fontForm hO6.font
  have F6 := Lib.hid hO6.font
  have FO6 := Lib.hid hO6
  have V6 := Lib.hid (V5.out.below (by omega) hb6)
  have M6 := Lib.hid (M5.out.below (by omega) hb6)
  have T6 := Lib.hid (T5.out.trans (hb6.mono (by omega)))
  have X6 := Lib.hid (keep3 hb6 (by omega) X5.out)
  have I6 := Lib.hid (I5.out.keep (by omega) hb6)
  have s6 := hb6.size
  clear V5 M5 T5 X5 I5 hb6 hO6 q0 q1 q2
  obtain ⟨s', hs'⟩ : ∃ s, f.s = s := ⟨_, rfl⟩
  obtain ⟨p', hp'⟩ : ∃ n, f.ws.length = n := ⟨_, rfl⟩
  obtain ⟨q', hq'⟩ : ∃ m, f.cs.length = m := ⟨_, rfl⟩
  rw [hs', hp', hq'] at hv6
  subst hv6
  clear hs' hp' hq'
  have hb7 : Below w6.heap.size w6 (w6.alloc (.cells #[.string s', .slice A6 p' c6, .slice B6 q' d6] 25)) := (Below.refl _ _).alloc (Nat.le_refl _) _
  have Y7 := Lib.hid (new3 w6 (.string s') (.slice A6 p' c6) (.slice B6 q' d6) 25)
  have V7 := Lib.hid (V6.out.below (by omega) hb7)
  have M7 := Lib.hid (M6.out.below (by omega) hb7)
  have T7 := Lib.hid (T6.out.trans (hb7.mono (by omega)))
  have X7 := Lib.hid (keep3 hb7 (by omega) X6.out)
  have I7 := Lib.hid (I6.out.keep (by omega) hb7)
  have F7 := Lib.hid (F6.out.below (by omega) hb7)
  have FO7 := Lib.hid (FO6.out.below hb7)
  have s7 := hb7.size
  clear V6 M6 T6 X6 I6 F6 FO6 hb7
  simp only [World.size_alloc] at s7
  go_wp2_with fail
  refine (toMatrixSS_any lo2 hi2 _ _ _ ms _ Hn.out hn1 Hlim.out (by simp; omega) M7.out).mono ?_
  rintro e w8 ⟨u8, hs8, rfl, hO8, hb8⟩
  obtain ⟨A8, c8, hu8, _⟩ := hO8.form
  rw [Hn.out] at hu8
  subst hu8
  have G8 := Lib.hid hO8.reads
  have Q8 := Lib.hid hO8
  have V8 := Lib.hid (V7.out.below (by simp; omega) hb8)
  have M8 := Lib.hid (M7.out.below (by simp; omega) hb8)
  have T8 := Lib.hid (T7.out.trans (hb8.mono (by simp; omega)))
  have X8 := Lib.hid (keep3 hb8 (by simp; omega) X7.out)
  have I8 := Lib.hid (I7.out.keep (by simp; omega) hb8)
  have F8 := Lib.hid (F7.out.below (by simp) hb8)
  have FO8 := Lib.hid (FO7.out.below hb8)
  have Y8 := Lib.hid (keep3 hb8 (by simp) Y7.out)
  have s8 := hb8.size
  clear V7 M7 T7 X7 I7 F7 FO7 Y7 hb8 hO8
  simp only [World.size_alloc] at s8
  obtain ⟨r0, r1, r2⟩ := Y8.out
  go_wp2_with fail
  refine (implKind_any _ _ _ _ _ f _ _ _ ms _ F8.out (by omega) hs Hn.out hn1 G8.out (Nat.le_refl _) wfm).mono ?_
  rintro e w9 ⟨vg, rfl, hO9, hb9⟩
  obtain ⟨Ag, cg, rfl, hIg, _⟩ := hO9.form
  rw [Hm.out] at hO9 ⊢
  have W9 := Lib.hid hO9
  have V9 := Lib.hid (V8.out.below (by omega) hb9)
  have M9 := Lib.hid (M8.out.below (by omega) hb9)
  have T9 := Lib.hid (T8.out.trans (hb9.mono (by omega)))
  have X9 := Lib.hid (keep3 hb9 (by omega) X8.out)
  have I9 := Lib.hid (I8.out.keep (by omega) hb9)
  have F9 := Lib.hid (F8.out.below (by omega) hb9)
  have FO9 := Lib.hid (FO8.out.below hb9)
  have Y9 := Lib.hid (keep3 hb9 (by omega) Y8.out)
  have Q9 := Lib.hid (Q8.out.below hb9)
  have G9 := Lib.hid (G8.out.below (by omega) hb9)
  have s9 := hb9.size
  clear V8 M8 T8 X8 I8 F8 FO8 Y8 Q8 G8 hb9 hO9 r0 r1 r2
  go_wp2_with fail
  refine (eqIntS_t _ _ _ _ _ (kindL f ms) _ Hm.out hms hIg I9.out.ints).mono ?_
  rintro e w10 ⟨rfl, hb10⟩
  have V10 := Lib.hid (V9.out.below (by omega) hb10)
  have M10 := Lib.hid (M9.out.below (by omega) hb10)
  have T10 := Lib.hid (T9.out.trans (hb10.mono (by omega)))
  have X10 := Lib.hid (keep3 hb10 (by omega) X9.out)
  have I10 := Lib.hid (I9.out.keep (by omega) hb10)
  have F10 := Lib.hid (F9.out.below (by omega) hb10)
  have FO10 := Lib.hid (FO9.out.below hb10)
  have Y10 := Lib.hid (keep3 hb10 (by omega) Y9.out)
  have Q10 := Lib.hid (Q9.out.below hb10)
  have G10 := Lib.hid (G9.out.below (by omega) hb10)
  have W10 := Lib.hid (W9.out.below hb10)
  have s10 := hb10.size
  clear V9 M9 T9 X9 I9 F9 FO9 Y9 Q9 G9 W9 hb10 hIg
  go_wp2_with fail
  obtain ⟨q0, q1, q2⟩ := X10.out
  obtain ⟨r0, r1, r2⟩ := Y10.out
  have C10 := Lib.hid (toFont_any lo hi _ f w10.drew (V10.out.below (B := w10.heap.size) (by omega) (Below.refl _ _).drew) (by show _ ≤ w10.heap.size; omega) hs)
  go_region_held3 (fun w' => (w'.cell? ⟨w.heap.size, 0, none⟩ = some (.string s) ∧ w'.cell? ⟨w.heap.size, 1, none⟩ = some (.slice B p d) ∧ w'.cell? ⟨w.heap.size, 2, none⟩ = some (.slice B2 q d2)) ∧ (w'.cell? ⟨w6.heap.size, 0, none⟩ = some (.string s') ∧ w'.cell? ⟨w6.heap.size, 1, none⟩ = some (.slice A6 p' c6) ∧ w'.cell? ⟨w6.heap.size, 2, none⟩ = some (.slice B6 q' d6)))
    (first | go_keep | exact ⟨X11.out, Y11.out⟩ | exact ⟨keep3 hb12 (by omega) X11.out, keep3 hb12 (by omega) Y11.out⟩)
    (first
      | (go_at_call 29; refine C10.out.mono ?_; rintro e w11 ⟨v11, rfl, hO11, hb11⟩; have s11 : w10.heap.size ≤ w11.heap.size := hb11.size; have hb1011 : Below w10.heap.size w10 w11 := (Below.refl _ w10).drew.trans hb11; have H11 := Lib.hid hO11.font; have F11 := Lib.hid (F10.out.below (B := w10.heap.size) (by omega) hb1011); have FO11 := Lib.hid (FO10.out.below hb1011); have T11 := Lib.hid (T10.out.trans (hb1011.mono (B' := w.heap.size) (by omega))); have X11 := Lib.hid (keep3 hb1011 (by omega) X10.out); have Y11 := Lib.hid (keep3 hb1011 (by omega) Y10.out); have G11 := Lib.hid (G10.out.below (by omega) hb1011); have M11 := Lib.hid (M10.out.below (by omega) hb1011); have V11 := Lib.hid (V10.out.below (by omega) hb1011); have I11 := Lib.hid (I10.out.keep (by omega) hb1011); have W11 := Lib.hid (W10.out.below hb1011); have Q11 := Lib.hid (Q10.out.below hb1011); clear hb11 hb1011)
      | (go_at_call 31; refine (eqFont_same _ _ _ _ _ _ f _ F11.out H11.out (by omega) (Nat.le_refl _) hs).mono ?_; rintro e w12 ⟨rfl, hb12⟩))
  have T12 := Lib.hid (T11.out.trans (hb12.mono (by omega)))
  have X12 := Lib.hid (keep3 hb12 (by omega) X11.out)
  have Y12 := Lib.hid (keep3 hb12 (by omega) Y11.out)
  have G12 := Lib.hid (G11.out.below (by omega) hb12)
  have M12 := Lib.hid (M11.out.below (by omega) hb12)
  have V12 := Lib.hid (V11.out.below (by omega) hb12)
  have I12 := Lib.hid (I11.out.keep (by omega) hb12)
  have W12 := Lib.hid (W11.out.below hb12)
  have Q12 := Lib.hid (Q11.out.below hb12)
  have FO12 := Lib.hid (FO11.out.below hb12)
  have s12 := hb12.size
  clear T11 X11 Y11 G11 M11 V11 I11 W11 Q11 FO11 F11 H11 hb12 C10 X10 Y10 T10 G10 M10 F10 V10 I10 W10 Q10 FO10 q0 q1 q2 r0 r1 r2
  go_wp2_with fail
  refine (toMatrixSS_any lo2 hi2 _ _ _ ms _ Hn.out hn1 Hlim.out (by omega) M12.out).mono ?_
  rintro e w13 ⟨u13, hs13, rfl, hO13, hb13⟩
  obtain ⟨A13, c13, hu13, _⟩ := hO13.form
  rw [Hn.out] at hu13
  subst hu13
  have E13 := Lib.hid hO13.reads
  have T13 := Lib.hid (T12.out.trans (hb13.mono (by omega)))
  have X13 := Lib.hid (keep3 hb13 (by omega) X12.out)
  have Y13 := Lib.hid (keep3 hb13 (by omega) Y12.out)
  have G13 := Lib.hid (G12.out.below (by omega) hb13)
  have M13 := Lib.hid (M12.out.below (by omega) hb13)
  have V13 := Lib.hid (V12.out.below (by omega) hb13)
  have I13 := Lib.hid (I12.out.keep (by omega) hb13)
  have W13 := Lib.hid (W12.out.below hb13)
  have Q13 := Lib.hid (Q12.out.below hb13)
  have FO13 := Lib.hid (FO12.out.below hb13)
  have s13 := hb13.size
  clear T12 X12 Y12 G12 M12 V12 I12 W12 Q12 FO12 hO13 hb13
  go_wp2_with fail
  refine (eqMatrixSS_same _ _ _ _ _ _ _ _ _ ms _ Hn.out hn1 Hlim.out (by omega) (Nat.le_refl _) G13.out E13.out).mono ?_
  rintro e w14 ⟨rfl, hb14⟩
  have T14 := Lib.hid (T13.out.trans (hb14.mono (by omega)))
  have X14 := Lib.hid (keep3 hb14 (by omega) X13.out)
  have Y14 := Lib.hid (keep3 hb14 (by omega) Y13.out)
  have M14 := Lib.hid (M13.out.below (by omega) hb14)
  have V14 := Lib.hid (V13.out.below (by omega) hb14)
  have I14 := Lib.hid (I13.out.keep (by omega) hb14)
  have W14 := Lib.hid (W13.out.below hb14)
  have Q14 := Lib.hid (Q13.out.below hb14)
  have FO14 := Lib.hid (FO13.out.below hb14)
  have s14 := hb14.size
  clear T13 X13 Y13 M13 V13 I13 W13 Q13 FO13 hb14 G13 E13
  obtain ⟨r0, r1, r2⟩ := Y14.out
  go_wp2_with fail
  refine (markFont_wide _ _ _ f 1 _ FO14.out (by omega) (by omega) hs (by omega) (by omega)).mono ?_
  rintro e w15 ⟨rfl, hc15⟩
  obtain ⟨K, hK⟩ : ∃ K : Int, 1 + (f.ws.length : Int) + f.cs.length = K := ⟨_, rfl⟩
  rw [hK]
  have hK0 : 0 ≤ K := by omega
  have hK1 : K ≤ 2097152 := by omega
  have hb15 := hc15.below (by omega)
  have W15 := Lib.hid (hc15.own W14.out (fun k hk => by have := (World.ownsRow.lt W14.out k hk).1; omega))
  have Q15 := Lib.hid (Q14.out.chg hc15 (by simp))
  have T15 := Lib.hid (T14.out.trans (hb15.mono (by omega)))
  have X15 := Lib.hid (keep3 hb15 (by omega) X14.out)
  have M15 := Lib.hid (M14.out.below (by omega) hb15)
  have V15 := Lib.hid (V14.out.below (by omega) hb15)
  have I15 := Lib.hid (I14.out.keep (by omega) hb15)
  have s15 := hb15.size
  clear T14 X14 M14 V14 I14 Y14 W14 Q14 FO14 hb15 hc15 r0 r1 r2 hK
  go_wp2_with fail
  refine (markMatrixSS_any _ _ _ _ K ms _ hK0 hK1 (by rw [Hn.out]; exact hn1) htm Q15.out).mono ?_
  rintro e w16 ⟨rfl, -, hc16⟩
  obtain ⟨K2, hK2⟩ : ∃ K2 : Int, K + 2 * (tot ms : Int) = K2 := ⟨_, rfl⟩
  rw [hK2]
  have hK3 : 0 ≤ K2 := by omega
  have hK4 : decide (K2 < 0) = false := by rw [decide_eq_false_iff_not]; omega
  have hb16 := hc16.below (by simp; omega)
  have W16 := Lib.hid (hc16.own W15.out (fun k hk => by have := (World.ownsRow.lt W15.out k hk).1; omega))
  have T16 := Lib.hid (T15.out.trans (hb16.mono (by simp; omega)))
  have X16 := Lib.hid (keep3 hb16 (by simp; omega) X15.out)
  have M16 := Lib.hid (M15.out.below (by simp; omega) hb16)
  have V16 := Lib.hid (V15.out.below (by simp; omega) hb16)
  have I16 := Lib.hid (I15.out.keep (by simp; omega) hb16)
  have s16 := hb16.size
  clear T15 X15 M15 V15 I15 W15 Q15 hb16 hc16 hK2
  obtain ⟨Ag', cg', hv16, hIg16, _⟩ := W16.out.form
  obtain rfl : Ag' = Ag := by injection hv16 with h1; exact h1.symm
  clear hv16
  go_wp2_with fail
  refine (eqIntS_t _ _ _ _ _ (kindL f ms) _ Hm.out hms hIg16 I16.out.ints).mono ?_
  rintro e w17 ⟨rfl, hb17⟩
  have T17 := Lib.hid (T16.out.trans (hb17.mono (by omega)))
  have X17 := Lib.hid (keep3 hb17 (by omega) X16.out)
  have M17 := Lib.hid (M16.out.below (by omega) hb17)
  have V17 := Lib.hid (V16.out.below (by omega) hb17)
  have I17 := Lib.hid (I16.out.keep (by omega) hb17)
  have W17 := Lib.hid (W16.out.below hb17)
  have s17 := hb17.size
  clear T16 X16 M16 V16 I16 W16 hb17 hIg16
  go_wp2_with fail
  refine (markIntS_t _ _ _ w8.heap.size (kindL f ms) _ Hm.out hms (by omega) W17.out).mono ?_
  rintro e w18 ⟨rfl, hO18, hg18, hI18, hb18⟩
  have Z18 := Lib.hid (IntsB.of hI18)
  have T18 := Lib.hid (T17.out.trans (hb18.mono (by omega)))
  have X18 := Lib.hid (keep3 hb18 (by omega) X17.out)
  have M18 := Lib.hid (M17.out.below (by omega) hb18)
  have V18 := Lib.hid (V17.out.below (by omega) hb18)
  have I18 := Lib.hid (I17.out.keep (by omega) hb18)
  have s18 := hb18.size
  clear T17 X17 M17 V17 I17 W17 hO18 hg18 hb18
  go_wp2_with fail
  refine (heldIntS_any _ _ _ 1 _ (by omega) (by omega) hms hI18).mono ?_
  rintro e w' ⟨rfl, rfl⟩
  clear hI18
  obtain ⟨q0, q1, q2⟩ := X18.out
  go_wp2_with fail
  refine (toFont_any lo hi _ f _ V18.out (by omega) hs).mono ?_
  rintro e w19 ⟨v19, rfl, hO19, hb19⟩
  have F19 := Lib.hid hO19.font
  have T19 := Lib.hid (T18.out.trans (hb19.mono (by omega)))
  have M19 := Lib.hid (M18.out.below (by omega) hb19)
  have I19 := Lib.hid (I18.out.keep (by omega) hb19)
  have Z19 := Lib.hid (Z18.out.keep (by omega) hb19)
  have s19 := hb19.size
  clear T18 M18 I18 Z18 V18 X18 hO19 hb19 q0 q1 q2
  go_wp2_with fail
  refine (toMatrixSS_any lo2 hi2 _ _ _ ms _ Hn.out hn1 Hlim.out (by omega) M19.out).mono ?_
  rintro e w20 ⟨u20, hs20, rfl, hO20, hb20⟩
  obtain ⟨A20, c20, hu20, _⟩ := hO20.form
  rw [Hn.out] at hu20
  subst hu20
  have G20 := Lib.hid hO20.reads
  have T20 := Lib.hid (T19.out.trans (hb20.mono (by omega)))
  have F20 := Lib.hid (F19.out.below (by omega) hb20)
  have I20 := Lib.hid (I19.out.keep (by omega) hb20)
  have Z20 := Lib.hid (Z19.out.keep (by omega) hb20)
  have s20 := hb20.size
  clear T19 F19 I19 Z19 M19 hO20 hb20
  go_wp2_with fail
  refine (implKind_any _ _ _ _ _ f _ _ _ ms _ F20.out (by omega) hs Hn.out hn1 G20.out (Nat.le_refl _) wfm).mono ?_
  rintro e w21 ⟨vh, rfl, hO21, hb21⟩
  obtain ⟨Ah, ch, rfl, hIh, _⟩ := hO21.form
  rw [Hm.out]
  have T21 := Lib.hid (T20.out.trans (hb21.mono (by omega)))
  have I21 := Lib.hid (I20.out.keep (by omega) hb21)
  have Z21 := Lib.hid (Z20.out.keep (by omega) hb21)
  have s21 := hb21.size
  clear T20 I20 Z20 F20 G20 hO21 hb21
  go_wp2_with fail
  refine (eqIntS_t _ _ _ _ _ (kindL f ms) _ Hm.out hms hIh I21.out.ints).mono ?_
  rintro e w22 ⟨rfl, hb22⟩
  have T22 := Lib.hid (T21.out.trans (hb22.mono (by omega)))
  have Z22 := Lib.hid (Z21.out.keep (by omega) hb22)
  have s22 := hb22.size
  clear T21 Z21 I21 hIh hb22
  go_wp2_with fail
  refine (heldIntS_any _ _ _ 1 _ (by omega) (by omega) hms Z22.out.ints).mono ?_
  rintro e w' ⟨rfl, rfl⟩
  go_wp2
  go_ret
  exact ⟨rfl, T22.out⟩
end Go.Proofs.Ytabcnooaceandaa
