/-
  The exact law of FillMagazine: its walk. No condition.
-/
import Derived.Test.YtabcnooaceandaaFill
import Derived.Test.YtabcnooaceandaaHeld
import Derived.Test.YtabcnooaceandaaMagE
import Derived.Test.YtabcnooaceandaaLawsFont
import Derived.Deep.RegionHeld3
namespace Go.Proofs.Ytabcnooaceandaa
open Go.RowKit
set_option linter.unusedVariables false

theorem tot_bound {ms : List (List Mat)} {b : Nat} (h : ∀ xs ∈ ms, xs.length ≤ b) : tot ms ≤ b * ms.length := by
  induction ms with
  | nil => simp [tot]
  | cons xs ms ih =>
    rw [tot_cons, List.length_cons, Nat.mul_succ]
    have h1 := h xs (by simp)
    have h2 := ih (fun ys hy => h ys (by simp [hy]))
    omega
theorem fillL_lim (f : Fnt) (E : Int) : (fillL f E).length ≤ 40 ∧ ∀ xs ∈ fillL f E, xs.length ≤ 20 := by
  unfold fillL
  split
  · rename_i h
    unfold fillOk at h
    rw [Bool.and_eq_true] at h
    have hbl := bar_len (fontB_codes h.1).2.2
    have he := (inB_iff _ _ _).1 h.2
    refine ⟨by rw [fillTo_len (Nat.le_refl _)]; omega, fun xs hx => ?_⟩
    unfold fillTo at hx
    rw [List.mem_append] at hx
    rcases hx with hx | hx
    · rw [List.mem_map] at hx
      obtain ⟨i, -, rfl⟩ := hx
      rw [fillRow_len]; omega
    · rw [List.mem_replicate] at hx
      rw [hx.2]; simp
  · exact ⟨by simp, fun xs hx => by simp at hx⟩
theorem magMark {w : World} {B hi n c : Nat} {A : Option Addr} {hs : List Value} {ms : List (List Mat)} (h : OwnMag w B hi (.slice A n c) hs ms) : MagI w B hi A ms := h.reads

set_option maxRecDepth 100000 in
set_option maxHeartbeats 6400000 in
theorem fnExactFillMagazine_walk (lo hi : Nat) (v : Value) (f : Fnt) (E : Int) (w : World) (h : FontV w lo hi v f) (hhi : hi ≤ w.heap.size) (wf : (Lit.int .i64 E).wf = true) :
    Calls Try.prog 9 #[v, .int .i64 E] w fun e w' => e = .returned (.bool true) ∧ Below w.heap.size w w' := by
  obtain ⟨B, d, B2, d2, hv⟩ := fontForm h
  obtain ⟨s, hs0⟩ : ∃ s, f.s = s := ⟨_, rfl⟩
  obtain ⟨p, hp⟩ : ∃ n, f.ws.length = n := ⟨_, rfl⟩
  obtain ⟨q, hq⟩ : ∃ m, f.cs.length = m := ⟨_, rfl⟩
  obtain ⟨n, hn⟩ : ∃ n, (fillL f E).length = n := ⟨_, rfl⟩
  obtain ⟨ok, hok⟩ : ∃ ok, fillOk f E = ok := ⟨_, rfl⟩
  obtain ⟨hl1, hl2⟩ := fillL_lim f E
  have ht := tot_bound hl2
  rw [hn] at hl1 ht
  have hn1 : n ≤ 1048576 := by omega
  have htm : tot (fillL f E) ≤ 1048576 := by omega
  have Hlim : Hid (∀ xs ∈ fillL f E, xs.length ≤ 1048576) := fun xs hx => by have := hl2 xs hx; omega
  have Hn := Lib.hid hn
  have Hok := Lib.hid hok
  rw [hs0, hp, hq] at hv
  rw [hv] at h
  rw [hv]
  have hW : Below w.heap.size w (w.alloc (.cells #[.string s, .slice B p d, .slice B2 q d2] 46)) := (Below.refl _ _).alloc (Nat.le_refl _) _
  have V0 := Lib.hid (h.below hhi hW)
  have X0 := Lib.hid (new3 w (.string s) (.slice B p d) (.slice B2 q d2) 46)
  have T0 := Lib.hid hW
  clear hv hs0 hp hq h hW hn hl2 hl1 ht hok
  by_cases hbig : (1048576 : Int) < f.big
  · have Hk := Lib.hid (takeOff_bad hbig)
    go_enter Try.func9, Try.ntmps9
    go_wp2_with fail
    refine (szFont_any lo hi _ f _ _ V0.out (by omega) (by omega)).mono ?_
    rintro e w1 ⟨rfl, hb1⟩
    rw [Hk.out]
    have T1 := Lib.hid (T0.out.trans (hb1.mono (by simp)))
    clear hb1
    go_wp2
    go_ret
    exact ⟨rfl, T1.out⟩
  have Hk := Lib.hid (takeOff_good hbig)
  have hs := big_small hbig
  have hfb : f.ws.length + f.cs.length ≤ 1048576 := by unfold Fnt.big at hbig; omega
  have hk0 : 0 ≤ 1048576 - (f.big : Int) := by omega
  go_enter Try.func9, Try.ntmps9
  go_wp2_with fail
  refine (szFont_any lo hi _ f _ _ V0.out (by omega) (by omega)).mono ?_
  rintro e w1 ⟨rfl, hb1⟩
  rw [Hk.out]
  have V1 := Lib.hid (V0.out.below (by simp; omega) hb1)
  have T1 := Lib.hid (T0.out.trans (hb1.mono (by simp)))
  have X1 := Lib.hid (keep3 hb1 (by simp) X0.out)
  have s1 := hb1.size
  simp only [World.size_alloc] at s1
  clear hb1 X0 V0 T0 hbig
  obtain ⟨q0, q1, q2⟩ := X1.out
  go_wp2_with fail
  refine (toFont_any lo hi _ f _ V1.out (by omega) hs).mono ?_
  rintro e w3 ⟨v3, rfl, hO3, hb3⟩
  have F3 := Lib.hid hO3.font
  have V3 := Lib.hid (V1.out.below (by omega) hb3)
  have T3 := Lib.hid (T1.out.trans (hb3.mono (by omega)))
  have X3 := Lib.hid (keep3 hb3 (by omega) X1.out)
  have s3 := hb3.size
  clear V1 T1 X1 hb3 hO3 q0 q1 q2
  go_wp2_with fail
  refine (specFill_any _ _ _ f E _ F3.out (by omega) hs).mono ?_
  rintro e w5 ⟨u0, hs5, rfl, hO5, hb5⟩
  obtain ⟨A0, c0, hu0, -⟩ := hO5.form
  rw [Hn.out] at hu0
  subst hu0
  rw [Hok.out]
  have I5 := Lib.hid (magMark hO5)
  have V5 := Lib.hid (V3.out.below (by omega) hb5)
  have T5 := Lib.hid (T3.out.trans (hb5.mono (by omega)))
  have X5 := Lib.hid (keep3 hb5 (by omega) X3.out)
  have s5 := hb5.size
  clear V3 T3 X3 F3 hb5 hO5
  obtain ⟨q0, q1, q2⟩ := X5.out
  go_wp2_with fail
  refine (toFont_any lo hi _ f _ V5.out (by omega) hs).mono ?_
  rintro e w6 ⟨v6, rfl, hO6, hb6⟩
  obtain ⟨A6, c6, B6, d6, hv6⟩ := fontForm hO6.font
  have F6 := Lib.hid hO6.font
  have FO6 := Lib.hid hO6
  have V6 := Lib.hid (V5.out.below (by omega) hb6)
  have T6 := Lib.hid (T5.out.trans (hb6.mono (by omega)))
  have X6 := Lib.hid (keep3 hb6 (by omega) X5.out)
  have I6 := Lib.hid (I5.out.below (by omega) hb6)
  have s6 := hb6.size
  clear V5 T5 X5 I5 hb6 hO6 q0 q1 q2
  obtain ⟨s', hs'⟩ : ∃ s, f.s = s := ⟨_, rfl⟩
  obtain ⟨p', hp'⟩ : ∃ n, f.ws.length = n := ⟨_, rfl⟩
  obtain ⟨q', hq'⟩ : ∃ m, f.cs.length = m := ⟨_, rfl⟩
  rw [hs', hp', hq'] at hv6
  subst hv6
  clear hs' hp' hq'
  obtain ⟨w7, hw7⟩ : ∃ w7, w7 = w6.alloc (.cells #[.string s', .slice A6 p' c6, .slice B6 q' d6] 25) := ⟨_, rfl⟩
  have hb7 : Below w6.heap.size w6 w7 := by rw [hw7]; exact (Below.refl _ _).alloc (Nat.le_refl _) _
  have Y7 := Lib.hid (new3 w6 (.string s') (.slice A6 p' c6) (.slice B6 q' d6) 25)
  rw [← hw7] at Y7
  have z7 : w6.heap.size < w7.heap.size := by rw [hw7]; simp
  have V7 := Lib.hid (V6.out.below (by omega) hb7)
  have T7 := Lib.hid (T6.out.trans (hb7.mono (by omega)))
  have X7 := Lib.hid (keep3 hb7 (by omega) X6.out)
  have I7 := Lib.hid (I6.out.below (by omega) hb7)
  have F7 := Lib.hid (F6.out.below (by omega) hb7)
  have FO7 := Lib.hid (FO6.out.below hb7)
  have s7 := hb7.size
  clear V6 T6 X6 I6 F6 FO6 hb7
  obtain ⟨r0, r1, r2⟩ := Y7.out
  go_wp2_with fail
  rw [← hw7]
  clear hw7
  refine (implFill_any _ _ _ f E _ F7.out (by omega) hs).mono ?_
  rintro e w9 ⟨vg, hs9, rfl, hO9, hb9⟩
  obtain ⟨Ag, cg, hvg, -⟩ := hO9.form
  rw [Hn.out] at hvg
  subst hvg
  rw [Hok.out]
  have W9 := Lib.hid hO9
  have V9 := Lib.hid (V7.out.below (by omega) hb9)
  have T9 := Lib.hid (T7.out.trans (hb9.mono (by omega)))
  have X9 := Lib.hid (keep3 hb9 (by omega) X7.out)
  have I9 := Lib.hid (I7.out.below (by omega) hb9)
  have F9 := Lib.hid (F7.out.below (by omega) hb9)
  have FO9 := Lib.hid (FO7.out.below hb9)
  have Y9 := Lib.hid (keep3 hb9 (by omega) Y7.out)
  have s9 := hb9.size
  clear V7 T7 X7 I7 F7 FO7 Y7 hb9 hO9 r0 r1 r2
  have hbb : (ok != ok) = false := by simp
  go_wp2_with (go_at_call 39; refine (eqMatrixSS_same _ _ _ _ _ _ _ _ _ (fillL f E) _ Hn.out hn1 Hlim.out (Nat.le_refl _) (by omega) W9.out.reads I9.out).mono ?_; rintro e w10 ⟨rfl, hb10⟩; have V10 := Lib.hid (V9.out.below (by omega) hb10); have T10 := Lib.hid (T9.out.trans (hb10.mono (by omega))); have X10 := Lib.hid (keep3 hb10 (by omega) X9.out); have I10 := Lib.hid (I9.out.below (by omega) hb10); have F10 := Lib.hid (F9.out.below (by omega) hb10); have FO10 := Lib.hid (FO9.out.below hb10); have Y10 := Lib.hid (keep3 hb10 (by omega) Y9.out); have W10 := Lib.hid (W9.out.below hb10); have s10 := hb10.size; clear V9 T9 X9 I9 F9 FO9 Y9 W9 hb10)
  obtain ⟨q0, q1, q2⟩ := X10.out
  obtain ⟨r0, r1, r2⟩ := Y10.out
  have C10 := Lib.hid (toFont_any lo hi _ f w10.drew (V10.out.below (B := w10.heap.size) (by omega) (Below.refl _ _).drew) (by show _ ≤ w10.heap.size; omega) hs)
  go_region_held3 (fun w' => (w'.cell? ⟨w.heap.size, 0, none⟩ = some (.string s) ∧ w'.cell? ⟨w.heap.size, 1, none⟩ = some (.slice B p d) ∧ w'.cell? ⟨w.heap.size, 2, none⟩ = some (.slice B2 q d2)) ∧ (w'.cell? ⟨w6.heap.size, 0, none⟩ = some (.string s') ∧ w'.cell? ⟨w6.heap.size, 1, none⟩ = some (.slice A6 p' c6) ∧ w'.cell? ⟨w6.heap.size, 2, none⟩ = some (.slice B6 q' d6)))
    (first | go_keep | exact ⟨X11.out, Y11.out⟩ | exact ⟨keep3 hb12 (by omega) X11.out, keep3 hb12 (by omega) Y11.out⟩)
    (first
      | (go_at_call 29; refine C10.out.mono ?_; rintro e w11 ⟨v11, rfl, hO11, hb11⟩; have hb1011 : Below w10.heap.size w10 w11 := (Below.refl _ w10).drew.trans hb11; have H11 := Lib.hid hO11.font; have F11 := Lib.hid (F10.out.below (B := w10.heap.size) (by omega) hb1011); have FO11 := Lib.hid (FO10.out.below hb1011); have T11 := Lib.hid (T10.out.trans (hb1011.mono (B' := w.heap.size) (by omega))); have X11 := Lib.hid (keep3 hb1011 (by omega) X10.out); have Y11 := Lib.hid (keep3 hb1011 (by omega) Y10.out); have V11 := Lib.hid (V10.out.below (B := w10.heap.size) (by omega) hb1011); have I11 := Lib.hid (I10.out.below (B := w10.heap.size) (by omega) hb1011); have W11 := Lib.hid (W10.out.below hb1011); have s11 := hb1011.size; clear hb11 hb1011)
      | (go_at_call 31; refine (eqFont_same _ _ _ _ _ _ f _ F11.out H11.out (by omega) (Nat.le_refl _) hs).mono ?_; rintro e w12 ⟨rfl, hb12⟩))
  have T12 := Lib.hid (T11.out.trans (hb12.mono (by omega)))
  have X12 := Lib.hid (keep3 hb12 (by omega) X11.out)
  have Y12 := Lib.hid (keep3 hb12 (by omega) Y11.out)
  have V12 := Lib.hid (V11.out.below (by omega) hb12)
  have I12 := Lib.hid (I11.out.below (by omega) hb12)
  have W12 := Lib.hid (W11.out.below hb12)
  have FO12 := Lib.hid (FO11.out.below hb12)
  have s12 := hb12.size
  clear T11 X11 Y11 V11 I11 W11 FO11 F11 H11 hb12 C10 X10 Y10 T10 F10 V10 I10 W10 FO10 q0 q1 q2 r0 r1 r2
  obtain ⟨r0, r1, r2⟩ := Y12.out
  go_wp2_with fail
  refine (markFont_wide _ _ _ f 1 _ FO12.out (by omega) (by omega) hs (by omega) (by omega)).mono ?_
  rintro e w15 ⟨rfl, hc15⟩
  obtain ⟨K, hK⟩ : ∃ K : Int, 1 + (f.ws.length : Int) + f.cs.length = K := ⟨_, rfl⟩
  rw [hK]
  have hK4 : decide (K < 0) = false := by rw [decide_eq_false_iff_not]; omega
  have hb15 := hc15.below (by omega)
  have W15 := Lib.hid (W12.out.chg hc15 (by omega))
  have T15 := Lib.hid (T12.out.trans (hb15.mono (by omega)))
  have X15 := Lib.hid (keep3 hb15 (by omega) X12.out)
  have V15 := Lib.hid (V12.out.below (by omega) hb15)
  have I15 := Lib.hid (I12.out.below (by omega) hb15)
  have s15 := hb15.size
  clear T12 X12 V12 I12 Y12 W12 FO12 hb15 hc15 r0 r1 r2 hK
  go_wp2_with (go_at_call 39; refine (eqMatrixSS_same _ _ _ _ _ _ _ _ _ (fillL f E) _ Hn.out hn1 Hlim.out (by omega) (by omega) W15.out.reads I15.out).mono ?_; rintro e w17 ⟨rfl, hb17⟩; have V17 := Lib.hid (V15.out.below (by omega) hb17); have T17 := Lib.hid (T15.out.trans (hb17.mono (by omega))); have X17 := Lib.hid (keep3 hb17 (by omega) X15.out); have I17 := Lib.hid (I15.out.below (by omega) hb17); have W17 := Lib.hid (W15.out.below hb17); have s17 := hb17.size; clear V15 T15 X15 I15 W15 hb17)
  refine (markMatrixSS_any _ _ _ _ 1 (fillL f E) _ (by omega) (by omega) (by rw [Hn.out]; exact hn1) htm W17.out).mono ?_
  rintro e w18 ⟨rfl, hO18, hc18⟩
  have Z18 := Lib.hid (magMark hO18)
  have hb18 := hc18.below (by omega)
  have T18 := Lib.hid (T17.out.trans (hb18.mono (by omega)))
  have X18 := Lib.hid (keep3 hb18 (by omega) X17.out)
  have V18 := Lib.hid (V17.out.below (by omega) hb18)
  have I18 := Lib.hid (I17.out.below (by omega) hb18)
  have s18 := hb18.size
  clear T17 X17 V17 I17 W17 hb18 hc18 hO18
  obtain ⟨K2, hK2⟩ : ∃ K2 : Int, 1 + 2 * (tot (fillL f E) : Int) = K2 := ⟨_, rfl⟩
  have hK5 : decide (K2 < 0) = false := by rw [decide_eq_false_iff_not]; omega
  have hK6 : (K2 != K2) = false := by simp
  have HK2 := Lib.hid hK2
  rw [hK2]
  clear hK2
  go_wp2_with fail
  refine (heldMatrixSS_any _ _ _ _ _ 1 (fillL f E) _ Hn.out (by omega) (by omega) hn1 htm Z18.out).mono ?_
  rintro e w' ⟨rfl, rfl⟩
  rw [HK2.out]
  obtain ⟨q0, q1, q2⟩ := X18.out
  go_wp2_with fail
  refine (toFont_any lo hi _ f _ V18.out (by omega) hs).mono ?_
  rintro e w19 ⟨v19, rfl, hO19, hb19⟩
  have F19 := Lib.hid hO19.font
  have T19 := Lib.hid (T18.out.trans (hb19.mono (by omega)))
  have I19 := Lib.hid (I18.out.below (by omega) hb19)
  have Z19 := Lib.hid (Z18.out.below (by omega) hb19)
  have s19 := hb19.size
  clear T18 I18 Z18 V18 X18 hO19 hb19 q0 q1 q2
  go_wp2_with fail
  refine (implFill_any _ _ _ f E _ F19.out (by omega) hs).mono ?_
  rintro e w21 ⟨vh, hs21, rfl, hO21, hb21⟩
  obtain ⟨Ah, ch, hvh, -⟩ := hO21.form
  rw [Hn.out] at hvh
  subst hvh
  rw [Hok.out]
  have G21 := Lib.hid (magMark hO21)
  have T21 := Lib.hid (T19.out.trans (hb21.mono (by omega)))
  have I21 := Lib.hid (I19.out.below (by omega) hb21)
  have Z21 := Lib.hid (Z19.out.below (by omega) hb21)
  have s21 := hb21.size
  clear T19 I19 Z19 F19 hO21 hb21
  go_wp2_with (go_at_call 39; refine (eqMatrixSS_same _ _ _ _ _ _ _ _ _ (fillL f E) _ Hn.out hn1 Hlim.out (by omega) (by omega) G21.out I21.out).mono ?_; rintro e w22 ⟨rfl, hb22⟩; have T22 := Lib.hid (T21.out.trans (hb22.mono (by omega))); have Z22 := Lib.hid (Z21.out.below (by omega) hb22); have s22 := hb22.size; clear T21 Z21 I21 G21 hb22)
  refine (heldMatrixSS_any _ _ _ _ _ 1 (fillL f E) _ Hn.out (by omega) (by omega) hn1 htm Z22.out).mono ?_
  rintro e w' ⟨rfl, rfl⟩
  rw [HK2.out]
  go_wp2
  go_ret
  exact ⟨rfl, T22.out⟩
end Go.Proofs.Ytabcnooaceandaa
