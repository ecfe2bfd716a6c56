/-
  The exact law of LettersOf: its walk. No condition.
-/
import Derived.Test.YtabcnooaceandaaLett
import Derived.Test.YtabcnooaceandaaMagH
import Derived.Test.YtabcnooaceandaaLawsFont
import Derived.Deep.RegionHeld3
namespace Go.Proofs.Ytabcnooaceandaa
open Go.RowKit
set_option linter.unusedVariables false

set_option maxRecDepth 100000 in
set_option maxHeartbeats 6400000 in
theorem fnExactLettersOf_walk (lo hi : Nat) (v : Value) (f : Fnt) (lo2 hi2 : Nat) (A : Option Addr) (c : Nat) (ms : List Mat) (w : World) (h : FontV w lo hi v f) (hhi : hi ≤ w.heap.size) (hcc : ms.length ≤ c) (hcm : c ≤ maxLen) (hM : MatsI w lo2 hi2 A ms) (hhi2 : hi2 ≤ w.heap.size) (wfm : ∀ x ∈ ms, (Lit.int .i64 x.2).wf = true) :
    Calls Try.prog 14 #[v, .slice A ms.length c] w fun e w' => e = .returned (.bool true) ∧ Below w.heap.size w w' := by
  obtain ⟨B, d, B2, d2, hv⟩ := fontForm h
  obtain ⟨s, hs0⟩ : ∃ s, f.s = s := ⟨_, rfl⟩
  obtain ⟨p, hp⟩ : ∃ n, f.ws.length = n := ⟨_, rfl⟩
  obtain ⟨q, hq⟩ : ∃ m, f.cs.length = m := ⟨_, rfl⟩
  obtain ⟨n, hn⟩ : ∃ n, ms.length = n := ⟨_, rfl⟩
  rw [hs0, hp, hq] at hv
  rw [hv] at h
  rw [hv, hn]
  rw [hn] at hcc
  have hnm : n ≤ maxLen := by omega
  have hW : Below w.heap.size w (w.alloc (.cells #[.string s, .slice B p d, .slice B2 q d2] 46)) := (Below.refl _ _).alloc (Nat.le_refl _) _
  have V0 := Lib.hid (h.below hhi hW)
  have M0 := Lib.hid (hM.below hhi2 hW)
  have X0 := Lib.hid (new3 w (.string s) (.slice B p d) (.slice B2 q d2) 46)
  have T0 := Lib.hid hW
  have Hn := Lib.hid hn
  clear hv hs0 hp hq h hW hM hn hcc hcm
  by_cases hbig : (1048576 : Int) < f.big
  · have Hk := Lib.hid (takeOff_bad hbig)
    go_enter Try.func14, Try.ntmps14
    go_wp2_with fail
    refine (szFont_any lo hi _ f _ _ V0.out (by omega) (by omega)).mono ?_
    rintro e w1 ⟨rfl, hb1⟩
    rw [Hk.out]
    have T1 := Lib.hid (T0.out.trans (hb1.mono (by simp)))
    clear hb1
    go_wp2
    go_ret
    exact ⟨rfl, T1.out⟩
  have Hk := Lib.hid (takeOff_good hbig)
  have hs := big_small hbig
  have hk0 : 0 ≤ 1048576 - (f.big : Int) := by omega
  by_cases hbig2 : 1048576 - (f.big : Int) < n
  · have Hk2 := Lib.hid (takeOff_bad hbig2)
    have td : decide (1048576 - (f.big : Int) < 0) = false := by rw [decide_eq_false_iff_not]; omega
    clear hbig hbig2
    go_enter Try.func14, Try.ntmps14
    go_wp2_with fail
    refine (szFont_any lo hi _ f _ _ V0.out (by omega) (by omega)).mono ?_
    rintro e w1 ⟨rfl, hb1⟩
    rw [Hk.out]
    have T1 := Lib.hid (T0.out.trans (hb1.mono (by simp)))
    have M1 := Lib.hid (M0.out.below (by simp; omega) hb1)
    clear hb1
    go_wp2_with fail
    refine (szMatrixS_any _ _ _ _ _ hnm hk0 (by omega)).mono ?_
    rintro e w' ⟨rfl, rfl⟩
    rw [Hk2.out]
    go_wp2
    go_ret
    exact ⟨rfl, T1.out⟩
  have Hk2 := Lib.hid (takeOff_good hbig2)
  have hn1 : n ≤ 1048576 := by omega
  have hk2 : 0 ≤ 1048576 - (f.big : Int) - (n : Int) := by omega
  have td : decide (1048576 - (f.big : Int) < 0) = false := by rw [decide_eq_false_iff_not]; omega
  have td2 : decide (1048576 - (f.big : Int) - (n : Int) < 0) = false := by rw [decide_eq_false_iff_not]; omega
  clear hbig hbig2
  go_enter Try.func14, Try.ntmps14
  go_wp2_with fail
  refine (szFont_any lo hi _ f _ _ V0.out (by omega) (by omega)).mono ?_
  rintro e w1 ⟨rfl, hb1⟩
  rw [Hk.out]
  have V1 := Lib.hid (V0.out.below (by simp; omega) hb1)
  have M1 := Lib.hid (M0.out.below (by simp; omega) hb1)
  have T1 := Lib.hid (T0.out.trans (hb1.mono (by simp)))
  have X1 := Lib.hid (keep3 hb1 (by simp) X0.out)
  have s1 := hb1.size
  simp only [World.size_alloc] at s1
  clear hb1 X0 V0 T0 M0
  go_wp2_with fail
  refine (szMatrixS_any _ _ _ _ _ hnm hk0 (by omega)).mono ?_
  rintro e w' ⟨rfl, rfl⟩
  rw [Hk2.out]
  obtain ⟨q0, q1, q2⟩ := X1.out
  go_wp2_with fail
  refine (toFont_any lo hi _ f _ V1.out (by omega) hs).mono ?_
  rintro e w3 ⟨v3, rfl, hO3, hb3⟩
  have F3 := Lib.hid hO3.font
  have V3 := Lib.hid (V1.out.below (by omega) hb3)
  have M3 := Lib.hid (M1.out.below (by omega) hb3)
  have T3 := Lib.hid (T1.out.trans (hb3.mono (by omega)))
  have X3 := Lib.hid (keep3 hb3 (by omega) X1.out)
  have s3 := hb3.size
  clear hb3 X1 V1 T1 M1 q0 q1 q2 hO3
  go_wp2_with fail
  refine (toMatrixS_any lo2 hi2 _ _ _ ms _ Hn.out hn1 (by omega) M3.out).mono ?_
  rintro e w4 ⟨u4, rfl, hO4, hb4⟩
  obtain ⟨A4, c4, hu4, _⟩ := hO4.form
  rw [Hn.out] at hu4
  subst hu4
  have G4 := Lib.hid hO4.reads
  have F4 := Lib.hid (F3.out.below (Nat.le_refl _) hb4)
  have V4 := Lib.hid (V3.out.below (by omega) hb4)
  have M4 := Lib.hid (M3.out.below (by omega) hb4)
  have T4 := Lib.hid (T3.out.trans (hb4.mono (by omega)))
  have X4 := Lib.hid (keep3 hb4 (by omega) X3.out)
  have s4 := hb4.size
  clear hb4 X3 V3 T3 M3 F3 hO4
  go_wp2_with fail
  refine (specLetters_any _ _ _ _ _ f _ _ _ ms _ F4.out (by omega) hs Hn.out hn1 G4.out (Nat.le_refl _)).mono ?_
  rintro e w5 ⟨rfl, hb5⟩
  have V5 := Lib.hid (V4.out.below (by omega) hb5)
  have M5 := Lib.hid (M4.out.below (by omega) hb5)
  have T5 := Lib.hid (T4.out.trans (hb5.mono (by omega)))
  have X5 := Lib.hid (keep3 hb5 (by omega) X4.out)
  have s5 := hb5.size
  clear hb5 X4 V4 T4 M4 F4 G4
  obtain ⟨q0, q1, q2⟩ := X5.out
  go_wp2_with fail
  refine (toFont_any lo hi _ f _ V5.out (by omega) hs).mono ?_
  rintro e w6 ⟨v6, rfl, hO6, hb6⟩
  obtain ⟨A6, c6, B6, d6, hv6⟩ := fontForm hO6.font
  have F6 := Lib.hid hO6.font
  have V6 := Lib.hid (V5.out.below (by omega) hb6)
  have M6 := Lib.hid (M5.out.below (by omega) hb6)
  have T6 := Lib.hid (T5.out.trans (hb6.mono (by omega)))
  have X6 := Lib.hid (keep3 hb6 (by omega) X5.out)
  have s6 := hb6.size
  clear hb6 X5 V5 T5 M5 q0 q1 q2 hO6
  obtain ⟨s', hs'⟩ : ∃ s, f.s = s := ⟨_, rfl⟩
  obtain ⟨p', hp'⟩ : ∃ n, f.ws.length = n := ⟨_, rfl⟩
  obtain ⟨q', hq'⟩ : ∃ m, f.cs.length = m := ⟨_, rfl⟩
  rw [hs', hp', hq'] at hv6
  subst hv6
  clear hs' hp' hq'
  have hA7 : Below w6.heap.size w6 (w6.alloc (.cells #[.string s', .slice A6 p' c6, .slice B6 q' d6] 25)) := (Below.refl _ _).alloc (Nat.le_refl _) _
  have F7 := Lib.hid (F6.out.below (Nat.le_refl _) hA7)
  have Y7 := Lib.hid (new3 w6 (.string s') (.slice A6 p' c6) (.slice B6 q' d6) 25)
  have V7 := Lib.hid (V6.out.below (by omega) hA7)
  have M7 := Lib.hid (M6.out.below (by omega) hA7)
  have T7 := Lib.hid (T6.out.trans (hA7.mono (by omega)))
  have X7 := Lib.hid (keep3 hA7 (by omega) X6.out)
  clear hA7 F6 V6 T6 X6 M6
  go_wp2_with fail
  refine (toMatrixS_any lo2 hi2 _ _ _ ms _ Hn.out hn1 (by simp; omega) M7.out).mono ?_
  rintro e w8 ⟨u8, rfl, hO8, hb8⟩
  obtain ⟨A8, c8, hu8, _⟩ := hO8.form
  rw [Hn.out] at hu8
  subst hu8
  have G8 := Lib.hid hO8.reads
  have F8 := Lib.hid (F7.out.below (by simp) hb8)
  have Y8 := Lib.hid (keep3 hb8 (by simp) Y7.out)
  have V8 := Lib.hid (V7.out.below (by simp; omega) hb8)
  have M8 := Lib.hid (M7.out.below (by simp; omega) hb8)
  have T8 := Lib.hid (T7.out.trans (hb8.mono (by simp; omega)))
  have X8 := Lib.hid (keep3 hb8 (by simp; omega) X7.out)
  have s8 := hb8.size
  simp only [World.size_alloc] at s8
  clear hb8 X7 Y7 V7 T7 M7 F7 hO8
  obtain ⟨r0, r1, r2⟩ := Y8.out
  go_wp2_with fail
  refine (implLetters_any _ _ _ _ _ f _ _ _ ms _ F8.out (by omega) hs Hn.out hn1 G8.out (Nat.le_refl _) wfm).mono ?_
  rintro e w9 ⟨rfl, hb9⟩
  have G9 := Lib.hid (G8.out.below (by omega) hb9)
  have F9 := Lib.hid (F8.out.below (by omega) hb9)
  have Y9 := Lib.hid (keep3 hb9 (by omega) Y8.out)
  have V9 := Lib.hid (V8.out.below (by omega) hb9)
  have M9 := Lib.hid (M8.out.below (by omega) hb9)
  have T9 := Lib.hid (T8.out.trans (hb9.mono (by omega)))
  have X9 := Lib.hid (keep3 hb9 (by omega) X8.out)
  have s9 := hb9.size
  clear hb9 X8 Y8 V8 T8 M8 F8 G8 r0 r1 r2
  go_wp2_with fail
  obtain ⟨q0, q1, q2⟩ := X9.out
  obtain ⟨r0, r1, r2⟩ := Y9.out
  have C9 := Lib.hid (toFont_any lo hi _ f w9.drew (V9.out.below (B := w9.heap.size) (by omega) (Below.refl _ _).drew) (by show _ ≤ w9.heap.size; omega) hs)
  go_region_held3 (fun w' => (w'.cell? ⟨w.heap.size, 0, none⟩ = some (.string s) ∧ w'.cell? ⟨w.heap.size, 1, none⟩ = some (.slice B p d) ∧ w'.cell? ⟨w.heap.size, 2, none⟩ = some (.slice B2 q d2)) ∧ (w'.cell? ⟨w6.heap.size, 0, none⟩ = some (.string s') ∧ w'.cell? ⟨w6.heap.size, 1, none⟩ = some (.slice A6 p' c6) ∧ w'.cell? ⟨w6.heap.size, 2, none⟩ = some (.slice B6 q' d6)))
    (first | go_keep | exact ⟨X10.out, Y10.out⟩ | exact ⟨keep3 hb11 (by omega) X10.out, keep3 hb11 (by omega) Y10.out⟩)
    (first
      | (go_at_call 29; refine C9.out.mono ?_; rintro e w10 ⟨v10, rfl, hO10, hb10⟩; have s10 : w9.heap.size ≤ w10.heap.size := hb10.size; have hb910 : Below w9.heap.size w9 w10 := (Below.refl _ w9).drew.trans hb10; have F10 := Lib.hid (F9.out.below (B := w9.heap.size) (by omega) hb910); have T10 := Lib.hid (T9.out.trans (hb910.mono (B' := w.heap.size) (by omega))); have X10 := Lib.hid (keep3 hb910 (by omega) X9.out); have Y10 := Lib.hid (keep3 hb910 (by omega) Y9.out); have G10 := Lib.hid (G9.out.below (by omega) hb910); have M10 := Lib.hid (M9.out.below (by omega) hb910); have H10 := Lib.hid hO10.font; clear hb10 hb910)
      | (go_at_call 31; refine (eqFont_same _ _ _ _ _ _ f _ F10.out H10.out (by omega) (Nat.le_refl _) hs).mono ?_; rintro e w11 ⟨rfl, hb11⟩))
  have T11 := Lib.hid (T10.out.trans (hb11.mono (by omega)))
  have G11 := Lib.hid (G10.out.below (by omega) hb11)
  have M11 := Lib.hid (M10.out.below (by omega) hb11)
  have s11 := hb11.size
  clear hb11 X9 Y9 X10 Y10 C9 T9 T10 G9 G10 M9 M10 F9 F10 H10 V9 q0 q1 q2 r0 r1 r2
  go_wp2_with fail
  refine (toMatrixS_any lo2 hi2 _ _ _ ms _ Hn.out hn1 (by omega) M11.out).mono ?_
  rintro e w12 ⟨u12, rfl, hO12, hb12⟩
  obtain ⟨A12, c12, hu12, _⟩ := hO12.form
  rw [Hn.out] at hu12
  subst hu12
  have G12 := Lib.hid (G11.out.below (by omega) hb12)
  have E12 := Lib.hid hO12.reads
  have T12 := Lib.hid (T11.out.trans (hb12.mono (by omega)))
  have s12 := hb12.size
  clear hb12 hO12 G11 M11 T11
  go_wp2_with fail
  refine (eqMatrixS_any _ _ _ _ _ _ n n _ _ ms ms _ Hn.out Hn.out hn1 hnm (by omega) (Nat.le_refl _) G12.out E12.out).mono ?_
  rintro e w13 ⟨rfl, hb13⟩
  rw [show decide (ms = ms) = true from decide_eq_true rfl]
  have T13 := Lib.hid (T12.out.trans (hb13.mono (by omega)))
  clear hb13
  go_wp2
  go_ret
  exact ⟨rfl, T13.out⟩
end Go.Proofs.Ytabcnooaceandaa
