/-
  The exact law of MatrixOk: its walk. No condition.
-/
import Derived.Test.YtabcnooaceandaaMatOk
import Derived.Test.YtabcnooaceandaaMatE
import Derived.Test.YtabcnooaceandaaLawsFont
import Derived.Deep.RegionHeld3
namespace Go.Proofs.Ytabcnooaceandaa
open Go.RowKit
set_option linter.unusedVariables false

/-- the two cells of a matrix in a box -/
def At2 (w : World) (g : Nat) (k t : Int) : Prop := w.cell? ⟨g, 0, none⟩ = some (.int .i64 k) ∧ w.cell? ⟨g, 1, none⟩ = some (.int .i64 t)
theorem new2 (w : World) (k t : Int) (T : TypeId) : At2 (w.alloc (.cells #[.int .i64 k, .int .i64 t] T)) w.heap.size k t := by
  constructor <;> (rw [World.cell?_alloc_at _ _ _ _ rfl]; rfl)
theorem keep2 {w w' : World} {B g : Nat} {k t : Int} (hb : Below B w w') (hg : g < B) (h : At2 w g k t) : At2 w' g k t :=
  ⟨(hb.cell (p := ⟨g, 0, none⟩) hg).trans h.1, (hb.cell (p := ⟨g, 1, none⟩) hg).trans h.2⟩

set_option maxRecDepth 100000 in
set_option maxHeartbeats 6400000 in
theorem fnExactMatrixOk_walk (lo hi : Nat) (v : Value) (f : Fnt) (x : Mat) (w : World) (h : FontV w lo hi v f) (hhi : hi ≤ w.heap.size) (wf : (Lit.int .i64 x.2).wf = true) :
    Calls Try.prog 7 #[v, .agg #[.int .i64 x.1, .int .i64 x.2]] w fun e w' => e = .returned (.bool true) ∧ Below w.heap.size w w' := by
  obtain ⟨B, d, B2, d2, hv⟩ := fontForm h
  obtain ⟨s, hs0⟩ : ∃ s, f.s = s := ⟨_, rfl⟩
  obtain ⟨p, hp⟩ : ∃ n, f.ws.length = n := ⟨_, rfl⟩
  obtain ⟨q, hq⟩ : ∃ m, f.cs.length = m := ⟨_, rfl⟩
  obtain ⟨k, t⟩ := x
  simp only at wf ⊢
  rw [hs0, hp, hq] at hv
  rw [hv] at h
  rw [hv]
  have hW0 : Below w.heap.size w (w.alloc (.cells #[.string s, .slice B p d, .slice B2 q d2] 46)) := (Below.refl _ _).alloc (Nat.le_refl _) _
  have hWa : Below (w.heap.size + 1) (w.alloc (.cells #[.string s, .slice B p d, .slice B2 q d2] 46)) ((w.alloc (.cells #[.string s, .slice B p d, .slice B2 q d2] 46)).alloc (.cells #[.int .i64 k, .int .i64 t] 52)) := (Below.refl _ _).alloc (by simp) _
  have hW := hW0.trans (hWa.mono (by omega))
  have V0 := Lib.hid (h.below hhi hW)
  have X0 := Lib.hid (keep3 hWa (by omega) (new3 w (.string s) (.slice B p d) (.slice B2 q d2) 46))
  have P0 := Lib.hid (new2 (w.alloc (.cells #[.string s, .slice B p d, .slice B2 q d2] 46)) k t 52)
  simp only [World.size_alloc] at P0
  have T0 := Lib.hid hW
  clear hv hs0 hp hq h hW hWa hW0
  by_cases hbig : (1048576 : Int) < f.big
  · have Hk := Lib.hid (takeOff_bad hbig)
    go_enter Try.func7, Try.ntmps7
    go_wp2_with fail
    refine (szFont_any lo hi _ f _ _ V0.out (by omega) (by omega)).mono ?_
    rintro e w1 ⟨rfl, hb1⟩
    rw [Hk.out]
    have T1 := Lib.hid (T0.out.trans (hb1.mono (by simp; omega)))
    clear hb1
    go_wp2
    go_ret
    exact ⟨rfl, T1.out⟩
  have Hk := Lib.hid (takeOff_good hbig)
  have hs := big_small hbig
  have hk0 : 0 ≤ 1048576 - (f.big : Int) := by omega
  go_enter Try.func7, Try.ntmps7
  go_wp2_with fail
  refine (szFont_any lo hi _ f _ _ V0.out (by omega) (by omega)).mono ?_
  rintro e w1 ⟨rfl, hb1⟩
  rw [Hk.out]
  have V1 := Lib.hid (V0.out.below (by simp; omega) hb1)
  have T1 := Lib.hid (T0.out.trans (hb1.mono (by simp; omega)))
  have X1 := Lib.hid (keep3 hb1 (by simp; omega) X0.out)
  have P1 := Lib.hid (keep2 hb1 (by simp) P0.out)
  have s1 := hb1.size
  simp only [World.size_alloc] at s1
  clear hb1 X0 V0 T0 P0
  go_wp2_with fail
  obtain ⟨q0, q1, q2⟩ := X1.out
  obtain ⟨r0, r1⟩ := P1.out
  have C1 := Lib.hid (toFont_any lo hi _ f w1.drew (V1.out.below (B := w1.heap.size) (by omega) (Below.refl _ _).drew) (by show _ ≤ w1.heap.size; omega) hs)
  go_region_held3 (fun w' => (w'.cell? ⟨w.heap.size, 0, none⟩ = some (.string s) ∧ w'.cell? ⟨w.heap.size, 1, none⟩ = some (.slice B p d) ∧ w'.cell? ⟨w.heap.size, 2, none⟩ = some (.slice B2 q d2)) ∧ (w'.cell? ⟨w.heap.size + 1, 0, none⟩ = some (.int .i64 k) ∧ w'.cell? ⟨w.heap.size + 1, 1, none⟩ = some (.int .i64 t)))
    (first | go_keep | exact ⟨X2.out, P2.out⟩ | exact ⟨X3.out, P3.out⟩ | exact ⟨keep3 hb4 (by omega) X3.out, keep2 hb4 (by omega) P3.out⟩)
    (first
      | (go_at_call 29; refine C1.out.mono ?_; rintro e w2 ⟨v2, rfl, hO2, hb2⟩; have hb12 : Below w1.heap.size w1 w2 := (Below.refl _ w1).drew.trans hb2; have F2 := Lib.hid hO2.font; have V2 := Lib.hid (V1.out.below (B := w1.heap.size) (by omega) hb12); have T2 := Lib.hid (T1.out.trans (hb12.mono (B' := w.heap.size) (by omega))); have X2 := Lib.hid (keep3 hb12 (by omega) X1.out); have P2 := Lib.hid (keep2 hb12 (by omega) P1.out); have s2 := hb12.size; clear hb2 hb12 hO2)
      | (go_at_call 34; refine (toMatrix_any (k, t) _).mono ?_; rintro e w3 ⟨rfl, hb3⟩; have V3 := Lib.hid (V2.out.below (by omega) hb3); have T3 := Lib.hid (T2.out.trans (hb3.mono (by omega))); have X3 := Lib.hid (keep3 hb3 (by omega) X2.out); have P3 := Lib.hid (keep2 hb3 (by omega) P2.out); have F3 := Lib.hid (F2.out.below (by omega) hb3); have s3 := hb3.size; clear hb3)
      | (go_at_call 33; refine (specMatrixOk_any _ _ _ f (k, t) _ F3.out (by omega) hs).mono ?_; rintro e w4 ⟨rfl, hb4⟩))
  have V4 := Lib.hid (V3.out.below (by omega) hb4)
  have T4 := Lib.hid (T3.out.trans (hb4.mono (by omega)))
  have X4 := Lib.hid (keep3 hb4 (by omega) X3.out)
  have P4 := Lib.hid (keep2 hb4 (by omega) P3.out)
  have s4 := hb4.size
  clear V3 T3 X3 P3 V1 T1 X1 P1 V2 T2 X2 P2 C1 F2 F3 hb4 q0 q1 q2 r0 r1
  obtain ⟨q0, q1, q2⟩ := X4.out
  go_wp2_with fail
  refine (toFont_any lo hi _ f _ V4.out (by omega) hs).mono ?_
  rintro e w5 ⟨v5, rfl, hO5, hb5⟩
  obtain ⟨A5, c5, B5, d5, hv5⟩ := fontForm hO5.font
  have F5 := Lib.hid hO5.font
  have V5 := Lib.hid (V4.out.below (by omega) hb5)
  have T5 := Lib.hid (T4.out.trans (hb5.mono (by omega)))
  have X5 := Lib.hid (keep3 hb5 (by omega) X4.out)
  have P5 := Lib.hid (keep2 hb5 (by omega) P4.out)
  have s5 := hb5.size
  clear V4 T4 X4 P4 hb5 hO5 q0 q1 q2
  obtain ⟨s', hs'⟩ : ∃ s, f.s = s := ⟨_, rfl⟩
  obtain ⟨p', hp'⟩ : ∃ n, f.ws.length = n := ⟨_, rfl⟩
  obtain ⟨q', hq'⟩ : ∃ m, f.cs.length = m := ⟨_, rfl⟩
  rw [hs', hp', hq'] at hv5
  subst hv5
  clear hs' hp' hq'
  obtain ⟨w6, hw6⟩ : ∃ w6, w6 = w5.alloc (.cells #[.string s', .slice A5 p' c5, .slice B5 q' d5] 25) := ⟨_, rfl⟩
  have hb6 : Below w5.heap.size w5 w6 := by rw [hw6]; exact (Below.refl _ _).alloc (Nat.le_refl _) _
  have Y6 := Lib.hid (new3 w5 (.string s') (.slice A5 p' c5) (.slice B5 q' d5) 25)
  rw [← hw6] at Y6
  have z6 : w5.heap.size < w6.heap.size := by rw [hw6]; simp
  have V6 := Lib.hid (V5.out.below (by omega) hb6)
  have T6 := Lib.hid (T5.out.trans (hb6.mono (by omega)))
  have X6 := Lib.hid (keep3 hb6 (by omega) X5.out)
  have P6 := Lib.hid (keep2 hb6 (by omega) P5.out)
  have F6 := Lib.hid (F5.out.below (by omega) hb6)
  have s6 := hb6.size
  clear V5 T5 X5 P5 F5 hb6
  go_wp2_with fail
  rw [← hw6]
  clear hw6
  obtain ⟨q0, q1, q2⟩ := X6.out
  obtain ⟨r0, r1⟩ := P6.out
  obtain ⟨y0, y1, y2⟩ := Y6.out
  have C6 := Lib.hid (toMatrix_any (k, t) w6.drew)
  go_region_held3 (fun w' => (w'.cell? ⟨w.heap.size, 0, none⟩ = some (.string s) ∧ w'.cell? ⟨w.heap.size, 1, none⟩ = some (.slice B p d) ∧ w'.cell? ⟨w.heap.size, 2, none⟩ = some (.slice B2 q d2)) ∧ (w'.cell? ⟨w.heap.size + 1, 0, none⟩ = some (.int .i64 k) ∧ w'.cell? ⟨w.heap.size + 1, 1, none⟩ = some (.int .i64 t)) ∧ (w'.cell? ⟨w5.heap.size, 0, none⟩ = some (.string s') ∧ w'.cell? ⟨w5.heap.size, 1, none⟩ = some (.slice A5 p' c5) ∧ w'.cell? ⟨w5.heap.size, 2, none⟩ = some (.slice B5 q' d5)))
    (first | go_keep | exact ⟨X7.out, P7.out, Y7.out⟩ | exact ⟨keep3 hb8 (by omega) X7.out, keep2 hb8 (by omega) P7.out, keep3 hb8 (by omega) Y7.out⟩)
    (first
      | (go_at_call 34; refine C6.out.mono ?_; rintro e w7 ⟨rfl, hb7⟩; have hb67 : Below w6.heap.size w6 w7 := (Below.refl _ w6).drew.trans hb7; have V7 := Lib.hid (V6.out.below (B := w6.heap.size) (by omega) hb67); have T7 := Lib.hid (T6.out.trans (hb67.mono (B' := w.heap.size) (by omega))); have X7 := Lib.hid (keep3 hb67 (by omega) X6.out); have P7 := Lib.hid (keep2 hb67 (by omega) P6.out); have F7 := Lib.hid (F6.out.below (B := w6.heap.size) (by omega) hb67); have Y7 := Lib.hid (keep3 hb67 (by omega) Y6.out); have s7 := hb67.size; clear hb7 hb67)
      | (go_at_call 35; refine (implMatrixOk_any _ _ _ f (k, t) _ F7.out (by omega) hs wf).mono ?_; rintro e w8 ⟨rfl, hb8⟩))
  have V8 := Lib.hid (V7.out.below (by omega) hb8)
  have T8 := Lib.hid (T7.out.trans (hb8.mono (by omega)))
  have X8 := Lib.hid (keep3 hb8 (by omega) X7.out)
  have P8 := Lib.hid (keep2 hb8 (by omega) P7.out)
  have F8 := Lib.hid (F7.out.below (by omega) hb8)
  have Y8 := Lib.hid (keep3 hb8 (by omega) Y7.out)
  have s8 := hb8.size
  clear V7 T7 X7 P7 F7 Y7 V6 T6 X6 P6 F6 Y6 C6 hb8 q0 q1 q2 r0 r1 y0 y1 y2
  have hbb : (matI f (k, t) != matI f (k, t)) = false := by simp
  go_wp2_with fail
  obtain ⟨q0, q1, q2⟩ := X8.out
  obtain ⟨y0, y1, y2⟩ := Y8.out
  have C8 := Lib.hid (toFont_any lo hi _ f w8.drew (V8.out.below (B := w8.heap.size) (by omega) (Below.refl _ _).drew) (by show _ ≤ w8.heap.size; omega) hs)
  go_region_held3 (fun w' => (w'.cell? ⟨w.heap.size, 0, none⟩ = some (.string s) ∧ w'.cell? ⟨w.heap.size, 1, none⟩ = some (.slice B p d) ∧ w'.cell? ⟨w.heap.size, 2, none⟩ = some (.slice B2 q d2)) ∧ (w'.cell? ⟨w5.heap.size, 0, none⟩ = some (.string s') ∧ w'.cell? ⟨w5.heap.size, 1, none⟩ = some (.slice A5 p' c5) ∧ w'.cell? ⟨w5.heap.size, 2, none⟩ = some (.slice B5 q' d5)))
    (first | go_keep | exact ⟨X9.out, Y9.out⟩ | exact ⟨keep3 hb10 (by omega) X9.out, keep3 hb10 (by omega) Y9.out⟩)
    (first
      | (go_at_call 29; refine C8.out.mono ?_; rintro e w9 ⟨v9, rfl, hO9, hb9⟩; have s9 : w8.heap.size ≤ w9.heap.size := hb9.size; have hb89 : Below w8.heap.size w8 w9 := (Below.refl _ w8).drew.trans hb9; have F9 := Lib.hid (F8.out.below (B := w8.heap.size) (by omega) hb89); have T9 := Lib.hid (T8.out.trans (hb89.mono (B' := w.heap.size) (by omega))); have X9 := Lib.hid (keep3 hb89 (by omega) X8.out); have Y9 := Lib.hid (keep3 hb89 (by omega) Y8.out); have G9 := Lib.hid hO9.font; clear hb9)
      | (go_at_call 31; refine (eqFont_same _ _ _ _ _ _ f _ F9.out G9.out (by omega) (Nat.le_refl _) hs).mono ?_; rintro e w10 ⟨rfl, hb10⟩))
  have T10 := Lib.hid (T9.out.trans (hb10.mono (by omega)))
  clear hb10
  go_wp2
  go_ret
  exact ⟨rfl, T10.out⟩
end Go.Proofs.Ytabcnooaceandaa
