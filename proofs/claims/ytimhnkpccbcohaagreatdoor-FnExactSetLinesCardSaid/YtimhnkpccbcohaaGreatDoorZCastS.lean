/-
 CastLine of the reference model by contract.
-/
import Derived.Test.YtimhnkpccbcohaaGreatDoorZCntMagG
import Derived.Test.YtimhnkpccbcohaaGreatDoorZCastQ
import Derived.Test.YtimhnkpccbcohaaGreatDoorZPkM
namespace Go.Proofs.YtimhnkpccbcohaaGreatDoor
open Go.RowKit Go.Conc
set_option linter.unusedVariables false
set_option linter.unusedSimpArgs false
set_option maxRecDepth 100000 in
set_option maxHeartbeats 6400000 in
theorem specCast_no (lo hi0 : Nat) (v : Value) (X : Mch) (rag : Bool) (w : World) (h : MchV w lo hi0 v X) (hhi : hi0 ≤ w.heap.size) (hs : SmallX X) (hm : machB X = false) :
  Calls Tryz.prog 14 #[v, .bool rag] w fun e w' => ∃ v' vp, e = .returned (.tuple #[v', .string (castT X rag), vp, .bool (castOk X rag)]) ∧ MchX w' w.heap.size w'.heap.size v' (castX X rag) ∧ Own w' w.heap.size vp (castP X rag) ∧ Below w.heap.size w w' := by
 have HOFF : Hid (castOk X rag = false) := by show _ = _; unfold castOk; rw [hm]; rfl
 obtain ⟨s, A, n, c, A2, m, d, M, q, e0, L, l, lc, T, r, tc, hv, hf, hq, hM, hqe, hem, hl, hL, hllc, hlm, hr, hT, hrt, htm⟩ := h.parts
 rw [hv] at h ⊢
 clear hv
 obtain ⟨w0, hw0⟩ : ∃ x, w = x := ⟨_, rfl⟩
 have hww : w.heap.size = w0.heap.size := by rw [hw0]
 have HS := Lib.hid hs
 have T0 : Hid (Below w0.heap.size w0 w0) := Below.refl _ _
 have V0 : Hid (MchV w0 lo hi0 (.agg #[.string s, .slice A n c, .slice A2 m d, .slice M q e0, .int .i64 X.sp, .int .i64 X.w, .int .i64 X.t, .int .i64 X.k, .slice L l lc, .slice T r tc]) X) := by rw [← hw0]; exact h
 have F0 : Hid (FontV w0 lo hi0 (.agg #[.string s, .slice A n c, .slice A2 m d]) X.f) := by rw [← hw0]; exact hf
 have L0 : Hid (MatsI w0 lo hi0 L X.ln) := by rw [← hw0]; exact hL
 have HL := Lib.hid hl
 clear h hs hf hM hT hL hq hqe hem hr hrt htm hl
 obtain ⟨w1, hw1, hb1, hz1, hX1⟩ := mxWorld w0 #[.string s, .slice A n c, .slice A2 m d, .slice M q e0, .int .i64 X.sp, .int .i64 X.w, .int .i64 X.t, .int .i64 X.k, .slice L l lc, .slice T r tc] 37
 have T1 := Lib.hid (T0.out.trans (hb1.mono (by omega)))
 have V1 := Lib.hid (V0.out.below (by omega) hb1)
 have F1 := Lib.hid (F0.out.below (by omega) hb1)
 have L1 := Lib.hid (L0.out.below (by omega) hb1)
 have sz1 : w0.heap.size ≤ w1.heap.size := hb1.size
 clear T0 V0 F0 L0
 have P1 := Lib.hid hX1
 obtain ⟨w2, hw2, hb2, hz2, hX2⟩ := mxWorld w1 #[.string ⟨#[]⟩, .slice none 0 0, .slice none 0 0, .slice none 0 0, .int .i64 0, .int .i64 0, .int .i64 0, .int .i64 0, .slice none 0 0, .slice none 0 0] 37
 have T2 := Lib.hid (T1.out.trans (hb2.mono (by omega)))
 have V2 := Lib.hid (V1.out.below (by omega) hb2)
 have F2 := Lib.hid (F1.out.below (by omega) hb2)
 have L2 := Lib.hid (L1.out.below (by omega) hb2)
 have P2 := Lib.hid (P1.out.below hb2 (by omega))
 have sz2 : w1.heap.size ≤ w2.heap.size := hb2.size
 clear T1 V1 F1 L1 P1
 rw [hz1] at hX2
 have R2 := Lib.hid hX2
 rw [hz1] at hz2
 obtain ⟨p0, p1, p2, p3, p4, p5, p6, p7, p8, p9⟩ := P2.out.ten
 rw [hw0]
 go_enter Tryz.func14, Tryz.ntmps14
 go_wp2_with fail
 clear p0 p1 p2 p3 p4 p5 p6 p7 p8 p9
 refine wp_region_plan (.take 0 (.one 1 (.take 2 (.take 3 (.take 4 (.take 5 (.take 6 (.take 7 (.take 8 (.take 9 (.take 10 (.take 11 (.take 12 (.take 13 (.take 14 (.take 15 (.take 16 (.take 17 (.take 18 (.take 19 (.take 20 (.take 21 (.take 22 (.take 23 .done)))))))))))))))))))))))) (fun w' => w'.cell? ⟨w0.heap.size, 0, none⟩ = some (.string s) ∧ w'.cell? ⟨w0.heap.size, 1, none⟩ = some (.slice A n c) ∧ w'.cell? ⟨w0.heap.size, 2, none⟩ = some (.slice A2 m d) ∧ w'.cell? ⟨w0.heap.size, 3, none⟩ = some (.slice M q e0) ∧ w'.cell? ⟨w0.heap.size, 4, none⟩ = some (.int .i64 X.sp) ∧ w'.cell? ⟨w0.heap.size, 5, none⟩ = some (.int .i64 X.w) ∧ w'.cell? ⟨w0.heap.size, 6, none⟩ = some (.int .i64 X.t) ∧ w'.cell? ⟨w0.heap.size, 7, none⟩ = some (.int .i64 X.k) ∧ w'.cell? ⟨w0.heap.size, 8, none⟩ = some (.slice L l lc) ∧ w'.cell? ⟨w0.heap.size, 9, none⟩ = some (.slice T r tc)) (by kernel_rfl) (by kernel_rfl) (by kernel_rfl) (by intro c a d v w h; cases d <;> exact h) P2.out.ten ?_
 obtain ⟨w3, hwd⟩ : ∃ x, w2.drew = x := ⟨_, rfl⟩
 have hb3 : Below w2.heap.size w2 w3 := by rw [← hwd]; exact (Below.refl _ _).drew
 have hsz3 : w3.heap.size = w2.heap.size := by rw [← hwd]; rfl
 have T3 := Lib.hid (T2.out.trans (hb3.mono (by omega)))
 have V3 := Lib.hid (V2.out.below (by omega) hb3)
 have F3 := Lib.hid (F2.out.below (by omega) hb3)
 have L3 := Lib.hid (L2.out.below (by omega) hb3)
 have P3 := Lib.hid (P2.out.below hb3 (by omega))
 have R3 := Lib.hid (R2.out.below hb3 (by omega))
 have sz3 : w2.heap.size ≤ w3.heap.size := hb3.size
 clear T2 V2 F2 L2 P2 R2
 rw [hwd]
 clear hwd
 refine plan_quiet rfl (by rfl) (v := ?_) ?_ ?_; rotate_left; (intro w1 hSw; obtain ⟨hs0, hs1, hs2, hs3, hs4, hs5, hs6, hs7, hs8, hs9⟩ := hSw; go_simp; try (with_reducible rfl)); (try simp only [Act.put, List.setIfInBounds_toArray, List.set_cons_zero, List.set_cons_succ])
 refine plan_step rfl (fun Kc hK => ?_)
 rw [if_pos (by rfl)]
 go_simp
 refine (specMachine_any lo hi0 _ X w3 V3.out (by omega) HS.out).mono ?_
 rintro e w4 ⟨rfl, hb4⟩
 have T4 := Lib.hid (T3.out.trans (hb4.mono (by omega)))
 have V4 := Lib.hid (V3.out.below (by omega) hb4)
 have F4 := Lib.hid (F3.out.below (by omega) hb4)
 have L4 := Lib.hid (L3.out.below (by omega) hb4)
 have P4 := Lib.hid (P3.out.below hb4 (by omega))
 have R4 := Lib.hid (R3.out.below hb4 (by omega))
 have sz4 : w3.heap.size ≤ w4.heap.size := hb4.size
 clear T3 V3 F3 L3 P3 R3
 rw [hm]
 refine hK.out _ _ P4.out.ten ?_
 clear hK Kc
 iterate 2 (refine plan_quiet rfl (by rfl) (v := ?_) ?_ ?_; rotate_left; (intro w1 hSw; obtain ⟨hs0, hs1, hs2, hs3, hs4, hs5, hs6, hs7, hs8, hs9⟩ := hSw; go_simp; try (with_reducible rfl)); (try simp only [Act.put, List.setIfInBounds_toArray, List.set_cons_zero, List.set_cons_succ]))
 iterate 4 (refine plan_skip rfl (by rfl) ?_; (try simp only [Act.put, List.setIfInBounds_toArray, List.set_cons_zero, List.set_cons_succ]))
 iterate 2 (refine plan_quiet rfl (by rfl) (v := ?_) ?_ ?_; rotate_left; (intro w1 hSw; obtain ⟨hs0, hs1, hs2, hs3, hs4, hs5, hs6, hs7, hs8, hs9⟩ := hSw; go_simp; try (with_reducible rfl)); (try simp only [Act.put, List.setIfInBounds_toArray, List.set_cons_zero, List.set_cons_succ]))
 iterate 13 (refine plan_skip rfl (by rfl) ?_; (try simp only [Act.put, List.setIfInBounds_toArray, List.set_cons_zero, List.set_cons_succ]))
 refine plan_quiet rfl (by rfl) (v := ?_) ?_ ?_; rotate_left; (intro w1 hSw; obtain ⟨hs0, hs1, hs2, hs3, hs4, hs5, hs6, hs7, hs8, hs9⟩ := hSw; go_simp; try (with_reducible rfl)); (try simp only [Act.put, List.setIfInBounds_toArray, List.set_cons_zero, List.set_cons_succ])
 refine plan_end ?_
 obtain ⟨r0, r1, r2, r3, r4, r5, r6, r7, r8, r9⟩ := R4.out.ten
 have ff := R4.out.warm
 go_wp2
 obtain ⟨w9, hw9, hc9, hR⟩ := R4.out.put10 (.string ⟨#[]⟩) (.slice none 0 0) (.slice none 0 0) (.slice none 0 0) (.int .i64 0) (.int .i64 0) (.int .i64 0) (.int .i64 0) (.slice none 0 0) (.slice none 0 0)
 (try rw [hw9])
 clear hw9 r0 r1 r2 r3 r4 r5 r6 r7 r8 r9
 obtain ⟨r0, r1, r2, r3, r4, r5, r6, r7, r8, r9⟩ := hR.ten
 (try simp only [Exit.inBlock, Exit.then])
 refine bodyPost_ret (v := .tuple #[.agg #[.string ⟨#[]⟩, .slice none 0 0, .slice none 0 0, .slice none 0 0, .int .i64 0, .int .i64 0, .int .i64 0, .int .i64 0, .slice none 0 0, .slice none 0 0], .string ⟨#[]⟩, .slice none 0 0, .bool false]) (by simp [results, Tryz.results14, go_sem, r0, r1, r2, r3, r4, r5, r6, r7, r8, r9]) rfl ?_
 obtain ⟨z1, z2, z3⟩ := cast_off HOFF.out
 rw [HOFF.out, z1, z2, z3]
 exact ⟨_, _, rfl, (zeroX_own w9 w0.heap.size).wide (Nat.le_refl _) (by have := hc9.size; omega), own_none _ _, T4.out.trans ((hc9.below (by omega)).mono (by omega))⟩
set_option maxRecDepth 100000 in
set_option maxHeartbeats 6400000 in
theorem specCast_empty (lo hi0 : Nat) (v : Value) (X : Mch) (rag : Bool) (w : World) (h : MchV w lo hi0 v X) (hhi : hi0 ≤ w.heap.size) (hs : SmallX X) (hm : machB X = true) (hz : X.ln.length = 0) :
  Calls Tryz.prog 14 #[v, .bool rag] w fun e w' => ∃ v' vp, e = .returned (.tuple #[v', .string (castT X rag), vp, .bool (castOk X rag)]) ∧ MchX w' w.heap.size w'.heap.size v' (castX X rag) ∧ Own w' w.heap.size vp (castP X rag) ∧ Below w.heap.size w w' := by
 have HOFF : Hid (castOk X rag = false) := by show _ = _; unfold castOk castGo; rw [hz]; simp
 obtain ⟨s, A, n, c, A2, m, d, M, q, e0, L, l, lc, T, r, tc, hv, hf, hq, hM, hqe, hem, hl, hL, hllc, hlm, hr, hT, hrt, htm⟩ := h.parts
 rw [hz] at hl
 subst hl
 rw [hv] at h ⊢
 clear hv
 obtain ⟨w0, hw0⟩ : ∃ x, w = x := ⟨_, rfl⟩
 have hww : w.heap.size = w0.heap.size := by rw [hw0]
 have HS := Lib.hid hs
 have T0 : Hid (Below w0.heap.size w0 w0) := Below.refl _ _
 have V0 : Hid (MchV w0 lo hi0 (.agg #[.string s, .slice A n c, .slice A2 m d, .slice M q e0, .int .i64 X.sp, .int .i64 X.w, .int .i64 X.t, .int .i64 X.k, .slice L 0 lc, .slice T r tc]) X) := by rw [← hw0]; exact h
 have F0 : Hid (FontV w0 lo hi0 (.agg #[.string s, .slice A n c, .slice A2 m d]) X.f) := by rw [← hw0]; exact hf
 have L0 : Hid (MatsI w0 lo hi0 L X.ln) := by rw [← hw0]; exact hL
 
 clear h hs hf hM hT hL hq hqe hem hr hrt htm
 obtain ⟨w1, hw1, hb1, hz1, hX1⟩ := mxWorld w0 #[.string s, .slice A n c, .slice A2 m d, .slice M q e0, .int .i64 X.sp, .int .i64 X.w, .int .i64 X.t, .int .i64 X.k, .slice L 0 lc, .slice T r tc] 37
 have T1 := Lib.hid (T0.out.trans (hb1.mono (by omega)))
 have V1 := Lib.hid (V0.out.below (by omega) hb1)
 have F1 := Lib.hid (F0.out.below (by omega) hb1)
 have L1 := Lib.hid (L0.out.below (by omega) hb1)
 have sz1 : w0.heap.size ≤ w1.heap.size := hb1.size
 clear T0 V0 F0 L0
 have P1 := Lib.hid hX1
 obtain ⟨w2, hw2, hb2, hz2, hX2⟩ := mxWorld w1 #[.string ⟨#[]⟩, .slice none 0 0, .slice none 0 0, .slice none 0 0, .int .i64 0, .int .i64 0, .int .i64 0, .int .i64 0, .slice none 0 0, .slice none 0 0] 37
 have T2 := Lib.hid (T1.out.trans (hb2.mono (by omega)))
 have V2 := Lib.hid (V1.out.below (by omega) hb2)
 have F2 := Lib.hid (F1.out.below (by omega) hb2)
 have L2 := Lib.hid (L1.out.below (by omega) hb2)
 have P2 := Lib.hid (P1.out.below hb2 (by omega))
 have sz2 : w1.heap.size ≤ w2.heap.size := hb2.size
 clear T1 V1 F1 L1 P1
 rw [hz1] at hX2
 have R2 := Lib.hid hX2
 rw [hz1] at hz2
 obtain ⟨p0, p1, p2, p3, p4, p5, p6, p7, p8, p9⟩ := P2.out.ten
 rw [hw0]
 go_enter Tryz.func14, Tryz.ntmps14
 go_wp2_with fail
 clear p0 p1 p2 p3 p4 p5 p6 p7 p8 p9
 refine wp_region_plan (.take 0 (.one 1 (.take 2 (.take 3 (.take 4 (.take 5 (.take 6 (.take 7 (.take 8 (.take 9 (.take 10 (.take 11 (.take 12 (.take 13 (.take 14 (.take 15 (.take 16 (.take 17 (.take 18 (.take 19 (.take 20 (.take 21 (.take 22 (.take 23 .done)))))))))))))))))))))))) (fun w' => w'.cell? ⟨w0.heap.size, 0, none⟩ = some (.string s) ∧ w'.cell? ⟨w0.heap.size, 1, none⟩ = some (.slice A n c) ∧ w'.cell? ⟨w0.heap.size, 2, none⟩ = some (.slice A2 m d) ∧ w'.cell? ⟨w0.heap.size, 3, none⟩ = some (.slice M q e0) ∧ w'.cell? ⟨w0.heap.size, 4, none⟩ = some (.int .i64 X.sp) ∧ w'.cell? ⟨w0.heap.size, 5, none⟩ = some (.int .i64 X.w) ∧ w'.cell? ⟨w0.heap.size, 6, none⟩ = some (.int .i64 X.t) ∧ w'.cell? ⟨w0.heap.size, 7, none⟩ = some (.int .i64 X.k) ∧ w'.cell? ⟨w0.heap.size, 8, none⟩ = some (.slice L 0 lc) ∧ w'.cell? ⟨w0.heap.size, 9, none⟩ = some (.slice T r tc)) (by kernel_rfl) (by kernel_rfl) (by kernel_rfl) (by intro c a d v w h; cases d <;> exact h) P2.out.ten ?_
 obtain ⟨w3, hwd⟩ : ∃ x, w2.drew = x := ⟨_, rfl⟩
 have hb3 : Below w2.heap.size w2 w3 := by rw [← hwd]; exact (Below.refl _ _).drew
 have hsz3 : w3.heap.size = w2.heap.size := by rw [← hwd]; rfl
 have T3 := Lib.hid (T2.out.trans (hb3.mono (by omega)))
 have V3 := Lib.hid (V2.out.below (by omega) hb3)
 have F3 := Lib.hid (F2.out.below (by omega) hb3)
 have L3 := Lib.hid (L2.out.below (by omega) hb3)
 have P3 := Lib.hid (P2.out.below hb3 (by omega))
 have R3 := Lib.hid (R2.out.below hb3 (by omega))
 have sz3 : w2.heap.size ≤ w3.heap.size := hb3.size
 clear T2 V2 F2 L2 P2 R2
 rw [hwd]
 clear hwd
 refine plan_quiet rfl (by rfl) (v := ?_) ?_ ?_; rotate_left; (intro w1 hSw; obtain ⟨hs0, hs1, hs2, hs3, hs4, hs5, hs6, hs7, hs8, hs9⟩ := hSw; go_simp; try (with_reducible rfl)); (try simp only [Act.put, List.setIfInBounds_toArray, List.set_cons_zero, List.set_cons_succ])
 refine plan_step rfl (fun Kc hK => ?_)
 rw [if_pos (by rfl)]
 go_simp
 refine (specMachine_any lo hi0 _ X w3 V3.out (by omega) HS.out).mono ?_
 rintro e w4 ⟨rfl, hb4⟩
 have T4 := Lib.hid (T3.out.trans (hb4.mono (by omega)))
 have V4 := Lib.hid (V3.out.below (by omega) hb4)
 have F4 := Lib.hid (F3.out.below (by omega) hb4)
 have L4 := Lib.hid (L3.out.below (by omega) hb4)
 have P4 := Lib.hid (P3.out.below hb4 (by omega))
 have R4 := Lib.hid (R3.out.below hb4 (by omega))
 have sz4 : w3.heap.size ≤ w4.heap.size := hb4.size
 clear T3 V3 F3 L3 P3 R3
 rw [hm]
 refine hK.out _ _ P4.out.ten ?_
 clear hK Kc
 iterate 2 (refine plan_quiet rfl (by rfl) (v := ?_) ?_ ?_; rotate_left; (intro w1 hSw; obtain ⟨hs0, hs1, hs2, hs3, hs4, hs5, hs6, hs7, hs8, hs9⟩ := hSw; go_simp; try (with_reducible rfl)); (try simp only [Act.put, List.setIfInBounds_toArray, List.set_cons_zero, List.set_cons_succ]))
 iterate 4 (refine plan_quiet rfl (by rfl) (v := ?_) ?_ ?_; rotate_left; (intro w1 hSw; obtain ⟨hs0, hs1, hs2, hs3, hs4, hs5, hs6, hs7, hs8, hs9⟩ := hSw; go_simp; try (with_reducible rfl)); (try simp only [Act.put, List.setIfInBounds_toArray, List.set_cons_zero, List.set_cons_succ]))
 iterate 2 (refine plan_quiet rfl (by rfl) (v := ?_) ?_ ?_; rotate_left; (intro w1 hSw; obtain ⟨hs0, hs1, hs2, hs3, hs4, hs5, hs6, hs7, hs8, hs9⟩ := hSw; go_simp; try (with_reducible rfl)); (try simp only [Act.put, List.setIfInBounds_toArray, List.set_cons_zero, List.set_cons_succ]))
 iterate 13 (refine plan_skip rfl (by rfl) ?_; (try simp only [Act.put, List.setIfInBounds_toArray, List.set_cons_zero, List.set_cons_succ]))
 refine plan_quiet rfl (by rfl) (v := ?_) ?_ ?_; rotate_left; (intro w1 hSw; obtain ⟨hs0, hs1, hs2, hs3, hs4, hs5, hs6, hs7, hs8, hs9⟩ := hSw; go_simp; try (with_reducible rfl)); (try simp only [Act.put, List.setIfInBounds_toArray, List.set_cons_zero, List.set_cons_succ])
 refine plan_end ?_
 obtain ⟨r0, r1, r2, r3, r4, r5, r6, r7, r8, r9⟩ := R4.out.ten
 have ff := R4.out.warm
 go_wp2
 obtain ⟨w9, hw9, hc9, hR⟩ := R4.out.put10 (.string ⟨#[]⟩) (.slice none 0 0) (.slice none 0 0) (.slice none 0 0) (.int .i64 0) (.int .i64 0) (.int .i64 0) (.int .i64 0) (.slice none 0 0) (.slice none 0 0)
 (try rw [hw9])
 clear hw9 r0 r1 r2 r3 r4 r5 r6 r7 r8 r9
 obtain ⟨r0, r1, r2, r3, r4, r5, r6, r7, r8, r9⟩ := hR.ten
 (try simp only [Exit.inBlock, Exit.then])
 refine bodyPost_ret (v := .tuple #[.agg #[.string ⟨#[]⟩, .slice none 0 0, .slice none 0 0, .slice none 0 0, .int .i64 0, .int .i64 0, .int .i64 0, .int .i64 0, .slice none 0 0, .slice none 0 0], .string ⟨#[]⟩, .slice none 0 0, .bool false]) (by simp [results, Tryz.results14, go_sem, r0, r1, r2, r3, r4, r5, r6, r7, r8, r9]) rfl ?_
 obtain ⟨z1, z2, z3⟩ := cast_off HOFF.out
 rw [HOFF.out, z1, z2, z3]
 exact ⟨_, _, rfl, (zeroX_own w9 w0.heap.size).wide (Nat.le_refl _) (by have := hc9.size; omega), own_none _ _, T4.out.trans ((hc9.below (by omega)).mono (by omega))⟩
set_option maxRecDepth 100000 in
set_option maxHeartbeats 6400000 in
theorem specCast_loose (lo hi0 : Nat) (v : Value) (X : Mch) (rag : Bool) (w : World) (h : MchV w lo hi0 v X) (hhi : hi0 ≤ w.heap.size) (hs : SmallX X) (hm : machB X = true) (hz : ¬ X.ln.length = 0) (hr : rag = false) (hfl : fullB ⟨X.w, X.t, X.k⟩ (itemsM X.f X.ln) = false) :
  Calls Tryz.prog 14 #[v, .bool rag] w fun e w' => ∃ v' vp, e = .returned (.tuple #[v', .string (castT X rag), vp, .bool (castOk X rag)]) ∧ MchX w' w.heap.size w'.heap.size v' (castX X rag) ∧ Own w' w.heap.size vp (castP X rag) ∧ Below w.heap.size w w' := by
 subst hr
 have HOFF : Hid (castOk X false = false) := by show _ = _; unfold castOk castGo; rw [hfl]; simp
 have hmf := mach_facts hm
 have HWD : Hid (∀ x ∈ X.ln, hasWid X.f x) := fun x hx => by
  rcases hmf.2.1 x hx with h1 | h1
  ·left; unfold bandM at h1; simp only [Bool.and_eq_true, beq_iff_eq] at h1; omega
  ·exact .inr h1.2
 clear hmf
 obtain ⟨s, A, n, c, A2, m, d, M, q, e0, L, l, lc, T, r, tc, hv, hf, hq, hM, hqe, hem, hl, hL, hllc, hlm, hr, hT, hrt, htm⟩ := h.parts
 rw [hv] at h ⊢
 clear hv
 obtain ⟨w0, hw0⟩ : ∃ x, w = x := ⟨_, rfl⟩
 have hww : w.heap.size = w0.heap.size := by rw [hw0]
 have HS := Lib.hid hs
 have T0 : Hid (Below w0.heap.size w0 w0) := Below.refl _ _
 have V0 : Hid (MchV w0 lo hi0 (.agg #[.string s, .slice A n c, .slice A2 m d, .slice M q e0, .int .i64 X.sp, .int .i64 X.w, .int .i64 X.t, .int .i64 X.k, .slice L l lc, .slice T r tc]) X) := by rw [← hw0]; exact h
 have F0 : Hid (FontV w0 lo hi0 (.agg #[.string s, .slice A n c, .slice A2 m d]) X.f) := by rw [← hw0]; exact hf
 have L0 : Hid (MatsI w0 lo hi0 L X.ln) := by rw [← hw0]; exact hL
 have HL := Lib.hid hl
 clear h hs hf hM hT hL hq hqe hem hr hrt htm hl
 have hl0 : ¬ l = 0 := by rw [← HL.out]; exact hz
 have hl1 : l ≤ 1048576 := by have := HS.out.ln; rw [HL.out] at this; exact this
 obtain ⟨w1, hw1, hb1, hz1, hX1⟩ := mxWorld w0 #[.string s, .slice A n c, .slice A2 m d, .slice M q e0, .int .i64 X.sp, .int .i64 X.w, .int .i64 X.t, .int .i64 X.k, .slice L l lc, .slice T r tc] 37
 have T1 := Lib.hid (T0.out.trans (hb1.mono (by omega)))
 have V1 := Lib.hid (V0.out.below (by omega) hb1)
 have F1 := Lib.hid (F0.out.below (by omega) hb1)
 have L1 := Lib.hid (L0.out.below (by omega) hb1)
 have sz1 : w0.heap.size ≤ w1.heap.size := hb1.size
 clear T0 V0 F0 L0
 have P1 := Lib.hid hX1
 obtain ⟨w2, hw2, hb2, hz2, hX2⟩ := mxWorld w1 #[.string ⟨#[]⟩, .slice none 0 0, .slice none 0 0, .slice none 0 0, .int .i64 0, .int .i64 0, .int .i64 0, .int .i64 0, .slice none 0 0, .slice none 0 0] 37
 have T2 := Lib.hid (T1.out.trans (hb2.mono (by omega)))
 have V2 := Lib.hid (V1.out.below (by omega) hb2)
 have F2 := Lib.hid (F1.out.below (by omega) hb2)
 have L2 := Lib.hid (L1.out.below (by omega) hb2)
 have P2 := Lib.hid (P1.out.below hb2 (by omega))
 have sz2 : w1.heap.size ≤ w2.heap.size := hb2.size
 clear T1 V1 F1 L1 P1
 rw [hz1] at hX2
 have R2 := Lib.hid hX2
 rw [hz1] at hz2
 obtain ⟨p0, p1, p2, p3, p4, p5, p6, p7, p8, p9⟩ := P2.out.ten
 rw [hw0]
 go_enter Tryz.func14, Tryz.ntmps14
 go_wp2_with fail
 clear p0 p1 p2 p3 p4 p5 p6 p7 p8 p9
 have hdl : ((l : Int) == 0) = false := by simp; omega
 refine wp_region_plan (.take 0 (.one 1 (.take 2 (.take 3 (.take 4 (.take 5 (.take 6 (.take 7 (.take 8 (.take 9 (.take 10 (.take 11 (.take 12 (.take 13 (.take 14 (.take 15 (.take 16 (.take 17 (.take 18 (.one 19 (.one 20 (.take 21 (.take 22 (.take 23 .done)))))))))))))))))))))))) (fun w' => w'.cell? ⟨w0.heap.size, 0, none⟩ = some (.string s) ∧ w'.cell? ⟨w0.heap.size, 1, none⟩ = some (.slice A n c) ∧ w'.cell? ⟨w0.heap.size, 2, none⟩ = some (.slice A2 m d) ∧ w'.cell? ⟨w0.heap.size, 3, none⟩ = some (.slice M q e0) ∧ w'.cell? ⟨w0.heap.size, 4, none⟩ = some (.int .i64 X.sp) ∧ w'.cell? ⟨w0.heap.size, 5, none⟩ = some (.int .i64 X.w) ∧ w'.cell? ⟨w0.heap.size, 6, none⟩ = some (.int .i64 X.t) ∧ w'.cell? ⟨w0.heap.size, 7, none⟩ = some (.int .i64 X.k) ∧ w'.cell? ⟨w0.heap.size, 8, none⟩ = some (.slice L l lc) ∧ w'.cell? ⟨w0.heap.size, 9, none⟩ = some (.slice T r tc)) (by kernel_rfl) (by kernel_rfl) (by kernel_rfl) (by intro c a d v w h; cases d <;> exact h) P2.out.ten ?_
 obtain ⟨w3, hwd⟩ : ∃ x, w2.drew = x := ⟨_, rfl⟩
 have hb3 : Below w2.heap.size w2 w3 := by rw [← hwd]; exact (Below.refl _ _).drew
 have hsz3 : w3.heap.size = w2.heap.size := by rw [← hwd]; rfl
 have T3 := Lib.hid (T2.out.trans (hb3.mono (by omega)))
 have V3 := Lib.hid (V2.out.below (by omega) hb3)
 have F3 := Lib.hid (F2.out.below (by omega) hb3)
 have L3 := Lib.hid (L2.out.below (by omega) hb3)
 have P3 := Lib.hid (P2.out.below hb3 (by omega))
 have R3 := Lib.hid (R2.out.below hb3 (by omega))
 have sz3 : w2.heap.size ≤ w3.heap.size := hb3.size
 clear T2 V2 F2 L2 P2 R2
 rw [hwd]
 clear hwd
 refine plan_quiet rfl (by rfl) (v := ?_) ?_ ?_; rotate_left; (intro w1 hSw; obtain ⟨hs0, hs1, hs2, hs3, hs4, hs5, hs6, hs7, hs8, hs9⟩ := hSw; go_simp; try (with_reducible rfl)); (try simp only [Act.put, List.setIfInBounds_toArray, List.set_cons_zero, List.set_cons_succ])
 refine plan_step rfl (fun Kc hK => ?_)
 rw [if_pos (by rfl)]
 go_simp
 refine (specMachine_any lo hi0 _ X w3 V3.out (by omega) HS.out).mono ?_
 rintro e w4 ⟨rfl, hb4⟩
 have T4 := Lib.hid (T3.out.trans (hb4.mono (by omega)))
 have V4 := Lib.hid (V3.out.below (by omega) hb4)
 have F4 := Lib.hid (F3.out.below (by omega) hb4)
 have L4 := Lib.hid (L3.out.below (by omega) hb4)
 have P4 := Lib.hid (P3.out.below hb4 (by omega))
 have R4 := Lib.hid (R3.out.below hb4 (by omega))
 have sz4 : w3.heap.size ≤ w4.heap.size := hb4.size
 clear T3 V3 F3 L3 P3 R3
 rw [hm]
 refine hK.out _ _ P4.out.ten ?_
 clear hK Kc
 iterate 2 (refine plan_quiet rfl (by rfl) (v := ?_) ?_ ?_; rotate_left; (intro w1 hSw; obtain ⟨hs0, hs1, hs2, hs3, hs4, hs5, hs6, hs7, hs8, hs9⟩ := hSw; go_simp; try (with_reducible rfl)); (try simp only [Act.put, List.setIfInBounds_toArray, List.set_cons_zero, List.set_cons_succ]))
 iterate 4 (refine plan_quiet rfl (by rfl) (v := ?_) ?_ ?_; rotate_left; (intro w1 hSw; obtain ⟨hs0, hs1, hs2, hs3, hs4, hs5, hs6, hs7, hs8, hs9⟩ := hSw; go_simp; try (with_reducible rfl)); (try simp only [Act.put, List.setIfInBounds_toArray, List.set_cons_zero, List.set_cons_succ]))
 (try simp only [hdl])
 iterate 2 (refine plan_quiet rfl (by rfl) (v := ?_) ?_ ?_; rotate_left; (intro w1 hSw; obtain ⟨hs0, hs1, hs2, hs3, hs4, hs5, hs6, hs7, hs8, hs9⟩ := hSw; go_simp; try (with_reducible rfl)); (try simp only [Act.put, List.setIfInBounds_toArray, List.set_cons_zero, List.set_cons_succ]))
 iterate 9 (refine plan_quiet rfl (by rfl) (v := ?_) ?_ ?_; rotate_left; (intro w1 hSw; obtain ⟨hs0, hs1, hs2, hs3, hs4, hs5, hs6, hs7, hs8, hs9⟩ := hSw; go_simp; try (with_reducible rfl)); (try simp only [Act.put, List.setIfInBounds_toArray, List.set_cons_zero, List.set_cons_succ]))
 refine plan_step rfl (fun Kc hK => ?_)
 rw [if_pos (by rfl)]
 go_simp
 refine (l5Items_any lo hi0 lo hi0 _ X.f L l lc X.ln w4 F4.out (by omega) HL.out (by omega) L4.out (by omega) HWD.out).mono ?_
 rintro e w5 ⟨u, rfl, hO, hb5⟩
 obtain ⟨A5, c5, rfl, hI5, -, hc5, hcm5⟩ := hO.form
 obtain ⟨n5, hn5⟩ : ∃ y, (itemsM X.f X.ln).length = y := ⟨_, rfl⟩
 have hn6 : n5 = l := by rw [← hn5]; unfold itemsM; rw [List.length_map]; exact HL.out
 rw [hn5] at hc5 ⊢
 have HN5 := Lib.hid hn5
 clear hn5
 have T5 := Lib.hid (T4.out.trans (hb5.mono (by omega)))
 have V5 := Lib.hid (V4.out.below (by omega) hb5)
 have F5 := Lib.hid (F4.out.below (by omega) hb5)
 have L5 := Lib.hid (L4.out.below (by omega) hb5)
 have P5 := Lib.hid (P4.out.below hb5 (by omega))
 have R5 := Lib.hid (R4.out.below hb5 (by omega))
 have sz5 : w4.heap.size ≤ w5.heap.size := hb5.size
 clear T4 V4 F4 L4 P4 R4
 have I5 : Hid (Ints w5 A5 (itemsM X.f X.ln)) := hI5
 clear hO hI5
 refine hK.out _ _ P5.out.ten ?_
 clear hK Kc
 refine plan_step rfl (fun Kc hK => ?_)
 rw [if_pos (by rfl)]
 go_simp
 refine (specIsFull_any X.w X.t X.k A5 l c5 (itemsM X.f X.ln) w5 (HN5.out.trans hn6) (by unfold maxLen; omega) I5.out).mono ?_
 rintro e w6 ⟨rfl, hb6⟩
 have T6 := Lib.hid (T5.out.trans (hb6.mono (by omega)))
 have V6 := Lib.hid (V5.out.below (by omega) hb6)
 have F6 := Lib.hid (F5.out.below (by omega) hb6)
 have L6 := Lib.hid (L5.out.below (by omega) hb6)
 have P6 := Lib.hid (P5.out.below hb6 (by omega))
 have R6 := Lib.hid (R5.out.below hb6 (by omega))
 have I6 := Lib.hid (I5.out.below hb6)
 have sz6 : w5.heap.size ≤ w6.heap.size := hb6.size
 clear T5 V5 F5 L5 P5 R5 I5
 rw [hfl]
 refine hK.out _ _ P6.out.ten ?_
 clear hK Kc
 iterate 3 (refine plan_quiet rfl (by rfl) (v := ?_) ?_ ?_; rotate_left; (intro w1 hSw; obtain ⟨hs0, hs1, hs2, hs3, hs4, hs5, hs6, hs7, hs8, hs9⟩ := hSw; go_simp; try (with_reducible rfl)); (try simp only [Act.put, List.setIfInBounds_toArray, List.set_cons_zero, List.set_cons_succ]))
 refine plan_end ?_
 obtain ⟨r0, r1, r2, r3, r4, r5, r6, r7, r8, r9⟩ := R6.out.ten
 have ff := R6.out.warm
 go_wp2
 obtain ⟨w9, hw9, hc9, hR⟩ := R6.out.put10 (.string ⟨#[]⟩) (.slice none 0 0) (.slice none 0 0) (.slice none 0 0) (.int .i64 0) (.int .i64 0) (.int .i64 0) (.int .i64 0) (.slice none 0 0) (.slice none 0 0)
 (try rw [hw9])
 clear hw9 r0 r1 r2 r3 r4 r5 r6 r7 r8 r9
 obtain ⟨r0, r1, r2, r3, r4, r5, r6, r7, r8, r9⟩ := hR.ten
 (try simp only [Exit.inBlock, Exit.then])
 refine bodyPost_ret (v := .tuple #[.agg #[.string ⟨#[]⟩, .slice none 0 0, .slice none 0 0, .slice none 0 0, .int .i64 0, .int .i64 0, .int .i64 0, .int .i64 0, .slice none 0 0, .slice none 0 0], .string ⟨#[]⟩, .slice none 0 0, .bool false]) (by simp [results, Tryz.results14, go_sem, r0, r1, r2, r3, r4, r5, r6, r7, r8, r9]) rfl ?_
 obtain ⟨z1, z2, z3⟩ := cast_off HOFF.out
 rw [HOFF.out, z1, z2, z3]
 exact ⟨_, _, rfl, (zeroX_own w9 w0.heap.size).wide (Nat.le_refl _) (by have := hc9.size; omega), own_none _ _, T6.out.trans ((hc9.below (by omega)).mono (by omega))⟩
end Go.Proofs.YtimhnkpccbcohaaGreatDoor
