/-
  The draws of chapter 4, on: l3Any, l3Line, l3Row, l3Both. Condition: the cursor is whole.
-/
import Derived.Test.YtobakeahbgodbaaGreatDrawM
import Derived.WalkLawsBesides
namespace Go.Proofs.YtobakeahbgodbaaGreat
open Go.RowKit
set_option linter.unusedVariables false

theorem own_base1 {w : World} {B B' : Nat} {v : Value} {zs : List Int} (h : Own w B v zs) (hB : B' ≤ B) : Own w B' v zs := by
  refine ⟨h.1, ?_⟩
  rcases h.2 with hn | ⟨g, cap, cur, hv, hg, rest⟩
  · exact .inl hn
  · exact .inr ⟨g, cap, cur, hv, by omega, rest⟩

set_option maxRecDepth 100000 in
set_option maxHeartbeats 3200000 in
theorem l3Any_any (g : Nat) (w : World) (hc : Cur w g) :
    Calls Tryz.prog 65 #[.pointer (some ⟨g, 0, none⟩)] w fun e w' => ∃ x y z : Int, e = .returned (.agg #[.int .i64 x, .int .i64 y, .int .i64 z]) ∧ CM w w' g := by
  have hgw := hc.lt
  obtain ⟨wa, hwa⟩ : ∃ wa, w.alloc (.cells #[.int .i64 0, .int .i64 0, .int .i64 0] 27) = wa := ⟨_, rfl⟩
  have CA : CM w wa g := by rw [← hwa]; exact (CM.of hc).alloc _
  have RA : M3 wa w.heap.size 0 0 0 := by rw [← hwa]; exact M3.new w 0 0 0
  have CA := Lib.hid CA; have RA := Lib.hid RA
  have za : w.heap.size < wa.heap.size := RA.out.lt
  clear hc
  go_enter Tryz.func65, Tryz.ntmps65
  go_wp2_with fail
  clear hwa
  refine (l3Measure_any g wa CA.out.1).mono ?_
  rintro e w1 ⟨x, y, z, rfl, hy1, hy2, hc1⟩
  have R1 := Lib.hid (RA.out.cm hc1 (by omega)); have C1 := Lib.hid (CA.out.trans hc1)
  have z1 : w.heap.size < w1.heap.size := R1.out.lt
  obtain ⟨w2, hw2⟩ : ∃ w2, w1.alloc (.cells #[.int .i64 x, .int .i64 y, .int .i64 z] 27) = w2 := ⟨_, rfl⟩
  have M2 : M3 w2 w1.heap.size x y z := by rw [← hw2]; exact M3.new w1 _ _ _
  have hb2 : Below w1.heap.size w1 w2 := by rw [← hw2]; exact below_new _ _
  have R2 := Lib.hid (R1.out.below hb2 R1.out.lt); have C2 : Hid (CM w w2 g) := C1.out.step hb2; have M2 := Lib.hid M2
  clear hc1 hb2
  go_wp2_with fail
  clear hw2
  refine (below_cm w2 g _ _ (by omega) (CM.of C2.out.1)).mono ?_
  rintro e w3 ⟨kd, rfl, hk, hc3, -⟩
  have R3 := Lib.hid (R2.out.cm hc3 (by omega)); have C3 := Lib.hid (C2.out.trans hc3); have M3q := Lib.hid (M2.out.cm hc3 (by omega))
  have z3 : w1.heap.size < w3.heap.size := M3q.out.lt
  clear hc3 R2 C2 M2 R1 C1 RA CA
  by_cases h0 : kd = 0
  · have hb0 : ((kd : Int) == 0) = true := by simp; omega
    clear h0
    go_wp2_with fail
    refine (int_cm w3 g 5 5 [0, -1, 2000, 2001, 4611686018427387904] _ (CM.of C3.out.1) rfl (by omega) (by omega)).mono ?_
    rintro e w4 ⟨u, rfl, hc4, -⟩
    have R4 := Lib.hid (R3.out.cm hc4 (by omega)); have M4 := Lib.hid (M3q.out.cm hc4 (by omega)); have C4 := Lib.hid (C3.out.trans hc4)
    clear hc4
    obtain ⟨a0, a1, a2, f0, f1, f2⟩ := M4.out.cells
    have MF := Lib.hid (M4.out.set0 u); have RF := Lib.hid (R4.out.other ⟨w1.heap.size, 0, none⟩ (.int .i64 u) (by show _ ≠ w1.heap.size; omega)); have CF := Lib.hid (C4.out.set (p := ⟨w1.heap.size, 0, none⟩) (Nat.le_of_lt z1) hgw (.int .i64 u))
    obtain ⟨a0, a1, a2, _, _, _⟩ := MF.out.cells
    obtain ⟨b0, b1, b2, g0, g1, g2⟩ := RF.out.cells
    have RG := Lib.hid (RF.out.put u y z)
    obtain ⟨d0, d1, d2, _, _, _⟩ := RG.out.cells
    have CG := Lib.hid (((CF.out.set (p := ⟨w.heap.size, 0, none⟩) (Nat.le_refl _) hgw (.int .i64 u)).set (p := ⟨w.heap.size, 1, none⟩) (Nat.le_refl _) hgw (.int .i64 y)).set (p := ⟨w.heap.size, 2, none⟩) (Nat.le_refl _) hgw (.int .i64 z))
    go_wp2
    exact bodyPost_ret (v := .agg #[.int .i64 u, .int .i64 y, .int .i64 z]) (by simp [results, Tryz.results65, go_sem, d0, d1, d2]) rfl ⟨_, _, _, rfl, CG.out⟩
  have hb0 : ((kd : Int) == 0) = false := by simp; omega
  by_cases h1 : kd = 1
  · have hb1 : ((kd : Int) == 1) = true := by simp; omega
    clear h0 h1
    go_wp2_with fail
    refine (int_cm w3 g 4 4 [0, 100, 101, -7] _ (CM.of C3.out.1) rfl (by omega) (by omega)).mono ?_
    rintro e w4 ⟨u, rfl, hc4, -⟩
    have R4 := Lib.hid (R3.out.cm hc4 (by omega)); have M4 := Lib.hid (M3q.out.cm hc4 (by omega)); have C4 := Lib.hid (C3.out.trans hc4)
    clear hc4
    obtain ⟨a0, a1, a2, f0, f1, f2⟩ := M4.out.cells
    have MF0 := Lib.hid (M4.out.set1 u); have RF0 := Lib.hid (R4.out.other ⟨w1.heap.size, 1, none⟩ (.int .i64 u) (by show _ ≠ w1.heap.size; omega)); have CF0 := Lib.hid (C4.out.set (p := ⟨w1.heap.size, 1, none⟩) (Nat.le_of_lt z1) hgw (.int .i64 u))
    obtain ⟨s0, s1, s2, h0, h1, h2⟩ := MF0.out.cells
    have MF := Lib.hid (MF0.out.set2 u); have RF := Lib.hid (RF0.out.other ⟨w1.heap.size, 2, none⟩ (.int .i64 u) (by show _ ≠ w1.heap.size; omega)); have CF := Lib.hid (CF0.out.set (p := ⟨w1.heap.size, 2, none⟩) (Nat.le_of_lt z1) hgw (.int .i64 u))
    obtain ⟨a0, a1, a2, _, _, _⟩ := MF.out.cells
    obtain ⟨b0, b1, b2, g0, g1, g2⟩ := RF.out.cells
    have RG := Lib.hid (RF.out.put x u u)
    obtain ⟨d0, d1, d2, _, _, _⟩ := RG.out.cells
    have CG := Lib.hid (((CF.out.set (p := ⟨w.heap.size, 0, none⟩) (Nat.le_refl _) hgw (.int .i64 x)).set (p := ⟨w.heap.size, 1, none⟩) (Nat.le_refl _) hgw (.int .i64 u)).set (p := ⟨w.heap.size, 2, none⟩) (Nat.le_refl _) hgw (.int .i64 u))
    go_wp2
    exact bodyPost_ret (v := .agg #[.int .i64 x, .int .i64 u, .int .i64 u]) (by simp [results, Tryz.results65, go_sem, d0, d1, d2]) rfl ⟨_, _, _, rfl, CG.out⟩
  have hb1 : ((kd : Int) == 1) = false := by simp; omega
  by_cases h2 : kd = 2
  · have hb2 : ((kd : Int) == 2) = true := by simp; omega
    clear h0 h1 h2
    obtain ⟨q0, q1, q2, _, _, _⟩ := M3q.out.cells
    go_wp2_with fail
    refine (int_cm w3 g 4 4 [0, 100, 101, y - 1] _ (CM.of C3.out.1) rfl (by omega) (by omega)).mono ?_
    rintro e w4 ⟨u, rfl, hc4, -⟩
    have R4 := Lib.hid (R3.out.cm hc4 (by omega)); have M4 := Lib.hid (M3q.out.cm hc4 (by omega)); have C4 := Lib.hid (C3.out.trans hc4)
    clear hc4
    obtain ⟨a0, a1, a2, f0, f1, f2⟩ := M4.out.cells
    have MF := Lib.hid (M4.out.set2 u); have RF := Lib.hid (R4.out.other ⟨w1.heap.size, 2, none⟩ (.int .i64 u) (by show _ ≠ w1.heap.size; omega)); have CF := Lib.hid (C4.out.set (p := ⟨w1.heap.size, 2, none⟩) (Nat.le_of_lt z1) hgw (.int .i64 u))
    obtain ⟨a0, a1, a2, _, _, _⟩ := MF.out.cells
    obtain ⟨b0, b1, b2, g0, g1, g2⟩ := RF.out.cells
    have RG := Lib.hid (RF.out.put x y u)
    obtain ⟨d0, d1, d2, _, _, _⟩ := RG.out.cells
    have CG := Lib.hid (((CF.out.set (p := ⟨w.heap.size, 0, none⟩) (Nat.le_refl _) hgw (.int .i64 x)).set (p := ⟨w.heap.size, 1, none⟩) (Nat.le_refl _) hgw (.int .i64 y)).set (p := ⟨w.heap.size, 2, none⟩) (Nat.le_refl _) hgw (.int .i64 u))
    go_wp2
    exact bodyPost_ret (v := .agg #[.int .i64 x, .int .i64 y, .int .i64 u]) (by simp [results, Tryz.results65, go_sem, d0, d1, d2]) rfl ⟨_, _, _, rfl, CG.out⟩
  have hb2 : ((kd : Int) == 2) = false := by simp; omega
  clear h0 h1 h2
  have MF := M3q; have RF := R3; have CF := C3
  obtain ⟨a0, a1, a2, _, _, _⟩ := MF.out.cells
  obtain ⟨b0, b1, b2, g0, g1, g2⟩ := RF.out.cells
  have RG := Lib.hid (RF.out.put x y z)
  obtain ⟨d0, d1, d2, _, _, _⟩ := RG.out.cells
  have CG := Lib.hid (((CF.out.set (p := ⟨w.heap.size, 0, none⟩) (Nat.le_refl _) hgw (.int .i64 x)).set (p := ⟨w.heap.size, 1, none⟩) (Nat.le_refl _) hgw (.int .i64 y)).set (p := ⟨w.heap.size, 2, none⟩) (Nat.le_refl _) hgw (.int .i64 z))
  go_wp2
  exact bodyPost_ret (v := .agg #[.int .i64 x, .int .i64 y, .int .i64 z]) (by simp [results, Tryz.results65, go_sem, d0, d1, d2]) rfl ⟨_, _, _, rfl, CG.out⟩

end Go.Proofs.YtobakeahbgodbaaGreat
