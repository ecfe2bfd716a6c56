/-
  The exact laws of FontOk and KeyOf: their walks. No condition.
-/
import Derived.Test.YtabcnooaceandaaFontI
import Derived.Deep.RegionHeld3
namespace Go.Proofs.Ytabcnooaceandaa
open Go.RowKit
set_option linter.unusedVariables false

theorem keep3 {w w' : World} {B g : Nat} {a b c : Value} (hb : Below B w w') (hg : g < B) (h : w.cell? ⟨g, 0, none⟩ = some a ∧ w.cell? ⟨g, 1, none⟩ = some b ∧ w.cell? ⟨g, 2, none⟩ = some c) :
    w'.cell? ⟨g, 0, none⟩ = some a ∧ w'.cell? ⟨g, 1, none⟩ = some b ∧ w'.cell? ⟨g, 2, none⟩ = some c :=
  ⟨(hb.cell (p := ⟨g, 0, none⟩) hg).trans h.1, (hb.cell (p := ⟨g, 1, none⟩) hg).trans h.2.1, (hb.cell (p := ⟨g, 2, none⟩) hg).trans h.2.2⟩
theorem new3 (w : World) (a b c : Value) (t : TypeId) : (w.alloc (.cells #[a, b, c] t)).cell? ⟨w.heap.size, 0, none⟩ = some a ∧ (w.alloc (.cells #[a, b, c] t)).cell? ⟨w.heap.size, 1, none⟩ = some b ∧ (w.alloc (.cells #[a, b, c] t)).cell? ⟨w.heap.size, 2, none⟩ = some c := by
  refine ⟨?_, ?_, ?_⟩ <;> (rw [World.cell?_alloc_at _ _ _ _ rfl]; rfl)
theorem fontForm {w : World} {lo hi : Nat} {v : Value} {f : Fnt} (h : FontV w lo hi v f) : ∃ A c B d, v = .agg #[.string f.s, .slice A f.ws.length c, .slice B f.cs.length d] := by
  obtain ⟨A, c, B, d, rfl, _⟩ := h
  exact ⟨A, c, B, d, rfl⟩
theorem big_small {f : Fnt} (h : ¬ (1048576 : Int) < f.big) : Small f := by
  unfold Fnt.big at h
  exact ⟨by omega, by omega, by omega⟩

set_option maxRecDepth 100000 in
set_option maxHeartbeats 3200000 in
theorem fnExactFontOk_walk (lo hi : Nat) (v : Value) (f : Fnt) (w : World) (h : FontV w lo hi v f) (hhi : hi ≤ w.heap.size) :
    Calls Try.prog 5 #[v] w fun e w' => e = .returned (.bool true) ∧ Below w.heap.size w w' := by
  obtain ⟨A, c, A2, d, hv⟩ := fontForm h
  obtain ⟨s, hs0⟩ : ∃ s, f.s = s := ⟨_, rfl⟩
  obtain ⟨n, hn⟩ : ∃ n, f.ws.length = n := ⟨_, rfl⟩
  obtain ⟨m, hm⟩ : ∃ m, f.cs.length = m := ⟨_, rfl⟩
  rw [hs0, hn, hm] at hv
  have hW : Below w.heap.size w (w.alloc (.cells #[.string s, .slice A n c, .slice A2 m d] 46)) := (Below.refl _ _).alloc (Nat.le_refl _) _
  rw [hv] at h
  rw [hv]
  have V0 := Lib.hid (h.below hhi hW)
  have T0 := Lib.hid hW
  have X0 := Lib.hid (new3 w (.string s) (.slice A n c) (.slice A2 m d) 46)
  clear hv hs0 hn hm h hW
  by_cases hbig : (1048576 : Int) < f.big
  · have Hk := Lib.hid (takeOff_bad hbig)
    go_enter Try.func5, Try.ntmps5
    go_wp2_with fail
    refine (szFont_any lo hi _ f _ _ V0.out (by omega) (by omega)).mono ?_
    rintro e w1 ⟨rfl, hb1⟩
    rw [Hk.out]
    have T1 := Lib.hid (T0.out.trans (hb1.mono (by simp)))
    clear hb1
    go_wp2
    go_ret
    exact ⟨rfl, T1.out⟩
  · have Hk := Lib.hid (takeOff_good hbig)
    have hs := big_small hbig
    have hk0 : 0 ≤ 1048576 - (f.big : Int) := by omega
    go_enter Try.func5, Try.ntmps5
    go_wp2_with fail
    refine (szFont_any lo hi _ f _ _ V0.out (by omega) (by omega)).mono ?_
    rintro e w1 ⟨rfl, hb1⟩
    rw [Hk.out]
    have V1 := Lib.hid (V0.out.below (by simp; omega) hb1)
    have T1 := Lib.hid (T0.out.trans (hb1.mono (by simp)))
    have X1 := Lib.hid (keep3 hb1 (by simp) X0.out)
    have s1 := hb1.size
    simp only [World.size_alloc] at s1
    clear hb1 X0 V0 T0
    obtain ⟨q0, q1, q2⟩ := X1.out
    go_wp2_with fail
    refine (toFont_any lo hi _ f _ V1.out (by omega) hs).mono ?_
    rintro e w2 ⟨v2, rfl, hO2, hb2⟩
    have F2 := Lib.hid hO2.font
    have V2 := Lib.hid (V1.out.below (by omega) hb2)
    have T2 := Lib.hid (T1.out.trans (hb2.mono (by omega)))
    have X2 := Lib.hid (keep3 hb2 (by omega) X1.out)
    have s2 := hb2.size
    clear hb2 X1 V1 T1 q0 q1 q2 hO2
    go_wp2_with fail
    refine (specFontOk_any _ _ _ f _ F2.out (Nat.le_refl _) hs).mono ?_
    rintro e w3 ⟨rfl, hb3⟩
    have V3 := Lib.hid (V2.out.below (by omega) hb3)
    have T3 := Lib.hid (T2.out.trans (hb3.mono (by omega)))
    have X3 := Lib.hid (keep3 hb3 (by omega) X2.out)
    have s3 := hb3.size
    clear hb3 X2 V2 T2 F2
    obtain ⟨q0, q1, q2⟩ := X3.out
    go_wp2_with fail
    refine (toFont_any lo hi _ f _ V3.out (by omega) hs).mono ?_
    rintro e w4 ⟨v4, rfl, hO4, hb4⟩
    obtain ⟨A4, c4, B4, d4, hv4⟩ := fontForm hO4.font
    have F4 := Lib.hid hO4.font
    have V4 := Lib.hid (V3.out.below (by omega) hb4)
    have T4 := Lib.hid (T3.out.trans (hb4.mono (by omega)))
    have X4 := Lib.hid (keep3 hb4 (by omega) X3.out)
    have s4 := hb4.size
    clear hb4 X3 V3 T3 q0 q1 q2 hO4
    obtain ⟨s', hs'⟩ : ∃ s, f.s = s := ⟨_, rfl⟩
    obtain ⟨n', hn'⟩ : ∃ n, f.ws.length = n := ⟨_, rfl⟩
    obtain ⟨m', hm'⟩ : ∃ m, f.cs.length = m := ⟨_, rfl⟩
    rw [hs', hn', hm'] at hv4
    subst hv4
    clear hs' hn' hm'
    have hA5 : Below w4.heap.size w4 (w4.alloc (.cells #[.string s', .slice A4 n' c4, .slice B4 m' d4] 25)) := (Below.refl _ _).alloc (Nat.le_refl _) _
    have F5 := Lib.hid (F4.out.below (Nat.le_refl _) hA5)
    have Y5 := Lib.hid (new3 w4 (.string s') (.slice A4 n' c4) (.slice B4 m' d4) 25)
    have V5 := Lib.hid (V4.out.below (by omega) hA5)
    have T5 := Lib.hid (T4.out.trans (hA5.mono (by omega)))
    have X5 := Lib.hid (keep3 hA5 (by omega) X4.out)
    clear hA5 F4 V4 T4 X4
    go_wp2_with fail
    refine (implFontOk_any _ _ _ f _ F5.out (by simp) hs).mono ?_
    rintro e w6 ⟨rfl, hb6⟩
    have F6 := Lib.hid (F5.out.below (by simp) hb6)
    have Y6 := Lib.hid (keep3 hb6 (by simp) Y5.out)
    have V6 := Lib.hid (V5.out.below (by simp; omega) hb6)
    have T6 := Lib.hid (T5.out.trans (hb6.mono (by simp; omega)))
    have X6 := Lib.hid (keep3 hb6 (by simp; omega) X5.out)
    have s6 := hb6.size
    simp only [World.size_alloc] at s6
    have hbb : (fontB f != fontB f) = false := by simp
    clear hb6 F5 Y5 V5 T5 X5
    go_wp2_with fail
    obtain ⟨q0, q1, q2⟩ := X6.out
    obtain ⟨r0, r1, r2⟩ := Y6.out
    have C7 := Lib.hid (toFont_any lo hi _ f w6.drew (V6.out.below (B := w6.heap.size) (by omega) (Below.refl _ _).drew) (by show _ ≤ w6.heap.size; omega) hs)
    go_region_held3 (fun w' => (w'.cell? ⟨w.heap.size, 0, none⟩ = some (.string s) ∧ w'.cell? ⟨w.heap.size, 1, none⟩ = some (.slice A n c) ∧ w'.cell? ⟨w.heap.size, 2, none⟩ = some (.slice A2 m d)) ∧ (w'.cell? ⟨w4.heap.size, 0, none⟩ = some (.string s') ∧ w'.cell? ⟨w4.heap.size, 1, none⟩ = some (.slice A4 n' c4) ∧ w'.cell? ⟨w4.heap.size, 2, none⟩ = some (.slice B4 m' d4)))
      (first | go_keep | exact ⟨X7.out, Y7.out⟩ | exact ⟨keep3 hb8 (by omega) X7.out, keep3 hb8 (by omega) Y7.out⟩)
      (first
        | (go_at_call 29; refine C7.out.mono ?_; rintro e w7 ⟨v7, rfl, hO7, hb7⟩; have s7 : w6.heap.size ≤ w7.heap.size := hb7.size; have hb67 : Below w6.heap.size w6 w7 := (Below.refl _ w6).drew.trans hb7; have F7 := Lib.hid (F6.out.below (B := w6.heap.size) (by omega) hb67); have T7 := Lib.hid (T6.out.trans (hb67.mono (B' := w.heap.size) (by omega))); have X7 := Lib.hid (keep3 hb67 (by omega) X6.out); have Y7 := Lib.hid (keep3 hb67 (by omega) Y6.out); have G7 := Lib.hid hO7.font; clear hb7)
        | (go_at_call 31; refine (eqFont_same _ _ _ _ _ _ f _ F7.out G7.out (by omega) (Nat.le_refl _) hs).mono ?_; rintro e w8 ⟨rfl, hb8⟩))
    have T8 := Lib.hid (T7.out.trans (hb8.mono (by omega)))
    clear hb8
    go_wp2
    go_ret
    exact ⟨rfl, T8.out⟩
set_option maxRecDepth 100000 in
set_option maxHeartbeats 3200000 in
theorem fnExactKeyOf_walk (lo hi : Nat) (v : Value) (f : Fnt) (x : Int) (w : World) (h : FontV w lo hi v f) (hhi : hi ≤ w.heap.size) (wf : (Lit.int .i64 x).wf = true) :
    Calls Try.prog 6 #[v, .int .i64 x] w fun e w' => e = .returned (.bool true) ∧ Below w.heap.size w w' := by
  obtain ⟨A, c, A2, d, hv⟩ := fontForm h
  obtain ⟨s, hs0⟩ : ∃ s, f.s = s := ⟨_, rfl⟩
  obtain ⟨n, hn⟩ : ∃ n, f.ws.length = n := ⟨_, rfl⟩
  obtain ⟨m, hm⟩ : ∃ m, f.cs.length = m := ⟨_, rfl⟩
  rw [hs0, hn, hm] at hv
  have hW : Below w.heap.size w (w.alloc (.cells #[.string s, .slice A n c, .slice A2 m d] 46)) := (Below.refl _ _).alloc (Nat.le_refl _) _
  rw [hv] at h
  rw [hv]
  have V0 := Lib.hid (h.below hhi hW)
  have T0 := Lib.hid hW
  have X0 := Lib.hid (new3 w (.string s) (.slice A n c) (.slice A2 m d) 46)
  clear hv hs0 hn hm h hW
  by_cases hbig : (1048576 : Int) < f.big
  · have Hk := Lib.hid (takeOff_bad hbig)
    go_enter Try.func6, Try.ntmps6
    go_wp2_with fail
    refine (szFont_any lo hi _ f _ _ V0.out (by omega) (by omega)).mono ?_
    rintro e w1 ⟨rfl, hb1⟩
    rw [Hk.out]
    have T1 := Lib.hid (T0.out.trans (hb1.mono (by simp)))
    clear hb1
    go_wp2
    go_ret
    exact ⟨rfl, T1.out⟩
  · have Hk := Lib.hid (takeOff_good hbig)
    have hs := big_small hbig
    have hk0 : 0 ≤ 1048576 - (f.big : Int) := by omega
    go_enter Try.func6, Try.ntmps6
    go_wp2_with fail
    refine (szFont_any lo hi _ f _ _ V0.out (by omega) (by omega)).mono ?_
    rintro e w1 ⟨rfl, hb1⟩
    rw [Hk.out]
    have V1 := Lib.hid (V0.out.below (by simp; omega) hb1)
    have T1 := Lib.hid (T0.out.trans (hb1.mono (by simp)))
    have X1 := Lib.hid (keep3 hb1 (by simp) X0.out)
    have s1 := hb1.size
    simp only [World.size_alloc] at s1
    clear hb1 X0 V0 T0
    obtain ⟨q0, q1, q2⟩ := X1.out
    go_wp2_with fail
    refine (toFont_any lo hi _ f _ V1.out (by omega) hs).mono ?_
    rintro e w2 ⟨v2, rfl, hO2, hb2⟩
    have F2 := Lib.hid hO2.font
    have V2 := Lib.hid (V1.out.below (by omega) hb2)
    have T2 := Lib.hid (T1.out.trans (hb2.mono (by omega)))
    have X2 := Lib.hid (keep3 hb2 (by omega) X1.out)
    have s2 := hb2.size
    clear hb2 X1 V1 T1 q0 q1 q2 hO2
    go_wp2_with fail
    refine (specKeyOf_any _ _ _ f x _ F2.out (Nat.le_refl _) hs).mono ?_
    rintro e w3 ⟨rfl, hb3⟩
    have V3 := Lib.hid (V2.out.below (by omega) hb3)
    have T3 := Lib.hid (T2.out.trans (hb3.mono (by omega)))
    have X3 := Lib.hid (keep3 hb3 (by omega) X2.out)
    have s3 := hb3.size
    clear hb3 X2 V2 T2 F2
    obtain ⟨q0, q1, q2⟩ := X3.out
    go_wp2_with fail
    refine (toFont_any lo hi _ f _ V3.out (by omega) hs).mono ?_
    rintro e w4 ⟨v4, rfl, hO4, hb4⟩
    obtain ⟨A4, c4, B4, d4, hv4⟩ := fontForm hO4.font
    have F4 := Lib.hid hO4.font
    have V4 := Lib.hid (V3.out.below (by omega) hb4)
    have T4 := Lib.hid (T3.out.trans (hb4.mono (by omega)))
    have X4 := Lib.hid (keep3 hb4 (by omega) X3.out)
    have s4 := hb4.size
    clear hb4 X3 V3 T3 q0 q1 q2 hO4
    obtain ⟨s', hs'⟩ : ∃ s, f.s = s := ⟨_, rfl⟩
    obtain ⟨n', hn'⟩ : ∃ n, f.ws.length = n := ⟨_, rfl⟩
    obtain ⟨m', hm'⟩ : ∃ m, f.cs.length = m := ⟨_, rfl⟩
    rw [hs', hn', hm'] at hv4
    subst hv4
    clear hs' hn' hm'
    have hA5 : Below w4.heap.size w4 (w4.alloc (.cells #[.string s', .slice A4 n' c4, .slice B4 m' d4] 25)) := (Below.refl _ _).alloc (Nat.le_refl _) _
    have F5 := Lib.hid (F4.out.below (Nat.le_refl _) hA5)
    have Y5 := Lib.hid (new3 w4 (.string s') (.slice A4 n' c4) (.slice B4 m' d4) 25)
    have V5 := Lib.hid (V4.out.below (by omega) hA5)
    have T5 := Lib.hid (T4.out.trans (hA5.mono (by omega)))
    have X5 := Lib.hid (keep3 hA5 (by omega) X4.out)
    clear hA5 F4 V4 T4 X4
    go_wp2_with fail
    refine (implKeyOf_any _ _ _ f x _ F5.out (by simp) hs).mono ?_
    rintro e w6 ⟨rfl, hb6⟩
    have F6 := Lib.hid (F5.out.below (by simp) hb6)
    have Y6 := Lib.hid (keep3 hb6 (by simp) Y5.out)
    have V6 := Lib.hid (V5.out.below (by simp; omega) hb6)
    have T6 := Lib.hid (T5.out.trans (hb6.mono (by simp; omega)))
    have X6 := Lib.hid (keep3 hb6 (by simp; omega) X5.out)
    have s6 := hb6.size
    simp only [World.size_alloc] at s6
    have hbb : (keyI f x != keyI f x) = false := by simp
    clear hb6 F5 Y5 V5 T5 X5
    go_wp2_with fail
    obtain ⟨q0, q1, q2⟩ := X6.out
    obtain ⟨r0, r1, r2⟩ := Y6.out
    have C7 := Lib.hid (toFont_any lo hi _ f w6.drew (V6.out.below (B := w6.heap.size) (by omega) (Below.refl _ _).drew) (by show _ ≤ w6.heap.size; omega) hs)
    go_region_held3 (fun w' => (w'.cell? ⟨w.heap.size, 0, none⟩ = some (.string s) ∧ w'.cell? ⟨w.heap.size, 1, none⟩ = some (.slice A n c) ∧ w'.cell? ⟨w.heap.size, 2, none⟩ = some (.slice A2 m d)) ∧ (w'.cell? ⟨w4.heap.size, 0, none⟩ = some (.string s') ∧ w'.cell? ⟨w4.heap.size, 1, none⟩ = some (.slice A4 n' c4) ∧ w'.cell? ⟨w4.heap.size, 2, none⟩ = some (.slice B4 m' d4)))
      (first | go_keep | exact ⟨X7.out, Y7.out⟩ | exact ⟨keep3 hb8 (by omega) X7.out, keep3 hb8 (by omega) Y7.out⟩)
      (first
        | (go_at_call 29; refine C7.out.mono ?_; rintro e w7 ⟨v7, rfl, hO7, hb7⟩; have s7 : w6.heap.size ≤ w7.heap.size := hb7.size; have hb67 : Below w6.heap.size w6 w7 := (Below.refl _ w6).drew.trans hb7; have F7 := Lib.hid (F6.out.below (B := w6.heap.size) (by omega) hb67); have T7 := Lib.hid (T6.out.trans (hb67.mono (B' := w.heap.size) (by omega))); have X7 := Lib.hid (keep3 hb67 (by omega) X6.out); have Y7 := Lib.hid (keep3 hb67 (by omega) Y6.out); have G7 := Lib.hid hO7.font; clear hb7)
        | (go_at_call 31; refine (eqFont_same _ _ _ _ _ _ f _ F7.out G7.out (by omega) (Nat.le_refl _) hs).mono ?_; rintro e w8 ⟨rfl, hb8⟩))
    have T8 := Lib.hid (T7.out.trans (hb8.mono (by omega)))
    clear hb8
    go_wp2
    go_ret
    exact ⟨rfl, T8.out⟩
end Go.Proofs.Ytabcnooaceandaa
