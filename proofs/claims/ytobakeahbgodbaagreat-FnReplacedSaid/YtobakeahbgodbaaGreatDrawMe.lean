/-
  The draw of a measure for words: l6Measure returns a measure and leaves the cursor whole. Condition: the cursor is whole.
-/
import Derived.Test.YtobakeahbgodbaaGreatDrawFi
import Derived.Test.YtobakeahbgodbaaGreatDrawN
namespace Go.Proofs.YtobakeahbgodbaaGreat
open Go.RowKit
set_option linter.unusedVariables false

set_option maxRecDepth 100000 in
set_option maxHeartbeats 3200000 in
theorem l6Measure_any (g : Nat) (w : World) (hc : Cur w g) :
    Calls Tryz.prog 30 #[.pointer (some ⟨g, 0, none⟩)] w fun e w' => ∃ x y z : Int, e = .returned (.agg #[.int .i64 x, .int .i64 y, .int .i64 z]) ∧ CM w w' g := by
  have hgw := hc.lt
  obtain ⟨wa, hwa⟩ : ∃ wa, w.alloc (.cells #[.int .i64 0, .int .i64 0, .int .i64 0] 27) = wa := ⟨_, rfl⟩
  have CA : CM w wa g := by rw [← hwa]; exact (CM.of hc).alloc _
  have RA : M3 wa w.heap.size 0 0 0 := by rw [← hwa]; exact M3.new w 0 0 0
  have CA := Lib.hid CA; have RA := Lib.hid RA
  have za : w.heap.size < wa.heap.size := RA.out.lt
  clear hc
  go_enter Tryz.func30, Tryz.ntmps30
  go_wp2_with fail
  clear hwa
  refine (below_cm wa g _ _ (by omega) (CM.of CA.out.1)).mono ?_
  rintro e w1 ⟨x, rfl, hx, hc1, hm1⟩
  have R1 := Lib.hid (RA.out.cm hc1 (by omega)); have C1 := Lib.hid (CA.out.trans hc1)
  clear hc1 hm1
  go_wp2_with fail
  refine (below_cm w1 g _ _ (by omega) (CM.of C1.out.1)).mono ?_
  rintro e w2 ⟨y, rfl, hy, hc2, hm2⟩
  have R2 := Lib.hid (R1.out.cm hc2 (by omega)); have C2 := Lib.hid (C1.out.trans hc2)
  have z2 : w.heap.size < w2.heap.size := R2.out.lt
  obtain ⟨w3a, hw3a⟩ : ∃ w3, w2.alloc (.cells #[.int .i64 (40 + (x : Int)), .int .i64 (1 + (y : Int)), .int .i64 0] 27) = w3 := ⟨_, rfl⟩
  obtain ⟨w3, hw3⟩ : ∃ w3, w3a.setCell ⟨w2.heap.size, 2, none⟩ (.int .i64 0) = w3 := ⟨_, rfl⟩
  have M3a : M3 w3a w2.heap.size (40 + (x : Int)) (1 + (y : Int)) 0 := by rw [← hw3a]; exact M3.new w2 _ _ _
  have M3' : M3 w3 w2.heap.size (40 + (x : Int)) (1 + (y : Int)) 0 := by rw [← hw3]; exact M3a.set2 0
  have hb3 : Below w2.heap.size w2 w3 := by rw [← hw3, ← hw3a]; exact (below_new _ _).setCell (p := ⟨w2.heap.size, 2, none⟩) (Nat.le_refl _) _
  have R3 := Lib.hid (R2.out.below hb3 R2.out.lt); have C3 : Hid (CM w w3 g) := C2.out.step hb3; have MM := Lib.hid M3'
  have z3 : w2.heap.size < w3.heap.size := M3'.lt
  have zg : g < w2.heap.size := by omega
  obtain ⟨m0, m1, m2, f0, f1, f2⟩ := M3'.cells
  obtain ⟨n0, n1, n2, k0, k1, k2⟩ := M3a.cells
  clear hc2 hm2 hb3 M3' R1 C1 RA CA
  go_wp2_with fail
  clear hw3 hw3a M3a n0 n1 n2 k0 k1 k2 m0 m1 m2 f0 f1 f2 R2 C2
  refine wp_region_planT 7 (.take 0 (.take 1 (.take 2 (.take 3 (.one 4 (.take 5 (.take 6 (.last 7)))))))) (fun w' => w'.cell? ⟨w2.heap.size, 0, none⟩ = some (.int .i64 (40 + (x : Int))) ∧ w'.cell? ⟨w2.heap.size, 1, none⟩ = some (.int .i64 (1 + (y : Int))) ∧ w'.cell? ⟨w2.heap.size, 2, none⟩ = some (.int .i64 0)) (by kernel_rfl) (by kernel_rfl) (by kernel_rfl) (by intro c a d v w h; cases d <;> exact h) ⟨MM.out.cells.1, MM.out.cells.2.1, MM.out.cells.2.2.1⟩ ?_
  refine planT_quiet rfl (by rfl) (v := ?_) ?_ ?_; rotate_left; (intro w1 hSw; obtain ⟨h0, h1, h2⟩ := hSw; go_simp; try (with_reducible rfl)); (try simp only [Act.put, List.setIfInBounds_toArray, List.set_cons_zero, List.set_cons_succ])
  refine planT_quiet rfl (by rfl) (v := ?_) ?_ ?_; rotate_left; (intro w1 hSw; obtain ⟨h0, h1, h2⟩ := hSw; go_simp; try (with_reducible rfl)); (try simp only [Act.put, List.setIfInBounds_toArray, List.set_cons_zero, List.set_cons_succ])
  refine planT_quiet rfl (by rfl) (v := ?_) ?_ ?_; rotate_left; (intro w1 hSw; obtain ⟨h0, h1, h2⟩ := hSw; go_simp; try (with_reducible rfl)); (try simp only [Act.put, List.setIfInBounds_toArray, List.set_cons_zero, List.set_cons_succ])
  refine planT_quiet rfl (by rfl) (v := ?_) ?_ ?_; rotate_left; (intro w1 hSw; obtain ⟨h0, h1, h2⟩ := hSw; go_simp; try (with_reducible rfl)); (try simp only [Act.put, List.setIfInBounds_toArray, List.set_cons_zero, List.set_cons_succ])
  refine planT_step rfl (fun Kc hK => ?_)
  rw [if_pos (by rfl)]
  go_simp
  refine (below_cm w3 g _ _ (by omega) (CM.of C3.out.1).drew).mono ?_
  rintro e w4 ⟨u, rfl, hu, hc4, -⟩
  have R4 := Lib.hid (R3.out.cm hc4 (by omega)); have C4 := Lib.hid (C3.out.trans hc4); have M4 := Lib.hid (MM.out.cm hc4 (by omega))
  have z4 : w2.heap.size < w4.heap.size := M4.out.lt
  clear hc4 R3 C3 MM
  refine hK.out _ _ ⟨M4.out.cells.1, M4.out.cells.2.1, M4.out.cells.2.2.1⟩ ?_
  clear hK Kc
  refine planT_quiet rfl (by rfl) (v := ?_) ?_ ?_; rotate_left; (intro w1 hSw; obtain ⟨h0, h1, h2⟩ := hSw; go_simp; try (with_reducible rfl)); (try simp only [Act.put, List.setIfInBounds_toArray, List.set_cons_zero, List.set_cons_succ])
  refine planT_quiet rfl (by rfl) (v := ?_) ?_ ?_; rotate_left; (intro w1 hSw; obtain ⟨h0, h1, h2⟩ := hSw; go_simp; try (with_reducible rfl)); (try simp only [Act.put, List.setIfInBounds_toArray, List.set_cons_zero, List.set_cons_succ])
  obtain ⟨a0, a1, a2, f0, f1, f2⟩ := M4.out.cells
  refine planT_last rfl (fun Kc hK => ?_)
  rw [if_pos (by rfl)]
  go_simp
  refine hK.out _ _ ?_
  clear hK Kc a0 a1 a2 f0 f1 f2
  obtain ⟨T, hT⟩ : ∃ T, IntKind.i64.wrap (IntKind.i64.wrap (1 + (y : Int) + 2) + (u : Int)) = T := ⟨_, rfl⟩
  rw [hT]
  obtain ⟨X, hX⟩ : ∃ X, 40 + (x : Int) = X := ⟨_, rfl⟩
  obtain ⟨Y, hY⟩ : ∃ Y, 1 + (y : Int) = Y := ⟨_, rfl⟩
  rw [hX, hY] at M4
  rw [hX, hY]
  have hM5 := M4.out.set2 T; have hR5 := R4.out.other ⟨w2.heap.size, 2, none⟩ (.int .i64 T) (by show _ ≠ w2.heap.size; omega); have hC5 := C4.out.set (p := ⟨w2.heap.size, 2, none⟩) (Nat.le_of_lt z2) hgw (.int .i64 T)
  obtain ⟨w5, hw5⟩ : ∃ w5, w4.setCell ⟨w2.heap.size, 2, none⟩ (.int .i64 T) = w5 := ⟨_, rfl⟩
  rw [hw5] at hM5 hR5 hC5 ⊢
  have M5 := Lib.hid hM5; have R5 := Lib.hid hR5; have C5 := Lib.hid hC5
  clear hT hX hY hM5 hR5 hC5 hw5 M4 R4 C4 hx hy hu
  go_wp2_with fail
  refine (once_cm w g _ _ C5.out).mono ?_
  rintro e w6 ⟨bb, rfl, hc6, hm6⟩
  have C6 := Lib.hid hc6
  have hc56 : CM w5 w6 g := ⟨hc6.1, hm6⟩
  have M6 := Lib.hid (M5.out.cm hc56 (by omega)); have R6 := Lib.hid (R5.out.cm hc56 (by omega))
  clear hc6 hm6 hc56 M5 R5 C5
  cases bb
  · obtain ⟨a0, a1, a2, _, _, _⟩ := M6.out.cells
    obtain ⟨b0, b1, b2, g0, g1, g2⟩ := R6.out.cells
    have RG := Lib.hid (R6.out.put X Y T)
    obtain ⟨d0, d1, d2, _, _, _⟩ := RG.out.cells
    have CG := Lib.hid (((C6.out.set (p := ⟨w.heap.size, 0, none⟩) (Nat.le_refl _) hgw (.int .i64 X)).set (p := ⟨w.heap.size, 1, none⟩) (Nat.le_refl _) hgw (.int .i64 Y)).set (p := ⟨w.heap.size, 2, none⟩) (Nat.le_refl _) hgw (.int .i64 T))
    go_wp2
    exact bodyPost_ret (v := .agg #[.int .i64 X, .int .i64 Y, .int .i64 T]) (by simp [results, Tryz.results30, go_sem, d0, d1, d2]) rfl ⟨_, _, _, rfl, CG.out⟩
  · go_wp2_with fail
    refine (l3Any_any g w6 C6.out.1).mono ?_
    rintro e w7 ⟨p, q, r, rfl, hc7⟩
    have R7 := Lib.hid (R6.out.cm hc7 (by omega)); have C7 := Lib.hid (C6.out.trans hc7)
    clear hc7 M6 R6 C6
    obtain ⟨b0, b1, b2, g0, g1, g2⟩ := R7.out.cells
    have RG := Lib.hid (R7.out.put p q r)
    obtain ⟨d0, d1, d2, _, _, _⟩ := RG.out.cells
    have CG := Lib.hid (((C7.out.set (p := ⟨w.heap.size, 0, none⟩) (Nat.le_refl _) hgw (.int .i64 p)).set (p := ⟨w.heap.size, 1, none⟩) (Nat.le_refl _) hgw (.int .i64 q)).set (p := ⟨w.heap.size, 2, none⟩) (Nat.le_refl _) hgw (.int .i64 r))
    go_wp2
    exact bodyPost_ret (v := .agg #[.int .i64 p, .int .i64 q, .int .i64 r]) (by simp [results, Tryz.results30, go_sem, d0, d1, d2]) rfl ⟨_, _, _, rfl, CG.out⟩
end Go.Proofs.YtobakeahbgodbaaGreat
