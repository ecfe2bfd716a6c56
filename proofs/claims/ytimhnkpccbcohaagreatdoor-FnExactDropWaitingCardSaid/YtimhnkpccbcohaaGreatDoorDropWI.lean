/-
  DropWaiting of the program by contract. Conditions: lengths of at most 2^20; errFull reads as laid.
-/
import Derived.Test.YtimhnkpccbcohaaGreatDoorEngD
namespace Go.Proofs.YtimhnkpccbcohaaGreatDoor
open Go.RowKit Go.Conc
set_option linter.unusedVariables false
set_option linter.unusedSimpArgs false

set_option maxRecDepth 100000 in
set_option maxHeartbeats 6400000 in
theorem implDropW_no (lo hi0 : Nat) (v : Value) (X : Mch) (most : Int) (w : World) (h : MchV w lo hi0 v X) (hhi : hi0 ≤ w.heap.size) (hs : SmallX X) (wf : WfX X) (wfm : (Lit.int .i64 most).wf = true) (hm : machB X = false) :
    Calls Tryz.prog 10 #[v, .int .i64 most] w fun e w' => ∃ v', e = .returned (.tuple #[v', .int .i64 (dropXN X most)]) ∧ MchY w' w.heap.size w'.heap.size v' (dropXX X most) ∧ Below w.heap.size w w' := by
  have HOFF : Hid (dropXOk X most = false) := by show _ = _; unfold dropXOk; rw [hm]; rfl
  obtain ⟨s, A, n, c, A2, m, d, M, q, e0, L, l, lc, T, r, tc, hv, -⟩ := h.parts
  rw [hv] at h ⊢
  clear hv
  obtain ⟨w0, hw0⟩ : ∃ x, w = x := ⟨_, rfl⟩
  have hww : w.heap.size = w0.heap.size := by rw [hw0]
  have HS := Lib.hid hs; have HWF := Lib.hid wf; have HWM := Lib.hid wfm
  have T0 : Hid (Below w0.heap.size w0 w0) := Below.refl _ _
  have V0 : Hid (MchV w0 lo hi0 (.agg #[.string s, .slice A n c, .slice A2 m d, .slice M q e0, .int .i64 X.sp, .int .i64 X.w, .int .i64 X.t, .int .i64 X.k, .slice L l lc, .slice T r tc]) X) := by rw [← hw0]; exact h
  clear h hs wf wfm
  obtain ⟨w1, hw1, hb1, hz1, hX1⟩ := mxWorld w0 #[.string s, .slice A n c, .slice A2 m d, .slice M q e0, .int .i64 X.sp, .int .i64 X.w, .int .i64 X.t, .int .i64 X.k, .slice L l lc, .slice T r tc] 37
  have T1 : Hid (Below w0.heap.size w0 w1) := T0.out.trans (hb1.mono (by omega))
  have V1 : Hid (MchV w1 lo hi0 (.agg #[.string s, .slice A n c, .slice A2 m d, .slice M q e0, .int .i64 X.sp, .int .i64 X.w, .int .i64 X.t, .int .i64 X.k, .slice L l lc, .slice T r tc]) X) := V0.out.below (by omega) hb1
  have sz1 : w0.heap.size ≤ w1.heap.size := hb1.size
  clear T0 V0
  have P1 : Hid (Blk w1 (w0.heap.size) #[.string s, .slice A n c, .slice A2 m d, .slice M q e0, .int .i64 X.sp, .int .i64 X.w, .int .i64 X.t, .int .i64 X.k, .slice L l lc, .slice T r tc] 37) := by show Blk _ _ _ _; exact hX1
  obtain ⟨w2, hw2, hb2, hz2, hX2⟩ := mxWorld w1 #[.string ⟨#[]⟩, .slice none 0 0, .slice none 0 0, .slice none 0 0, .int .i64 0, .int .i64 0, .int .i64 0, .int .i64 0, .slice none 0 0, .slice none 0 0] 37
  have T2 : Hid (Below w0.heap.size w0 w2) := T1.out.trans (hb2.mono (by omega))
  have V2 : Hid (MchV w2 lo hi0 (.agg #[.string s, .slice A n c, .slice A2 m d, .slice M q e0, .int .i64 X.sp, .int .i64 X.w, .int .i64 X.t, .int .i64 X.k, .slice L l lc, .slice T r tc]) X) := V1.out.below (by omega) hb2
  have P2 : Hid (Blk w2 (w0.heap.size) #[.string s, .slice A n c, .slice A2 m d, .slice M q e0, .int .i64 X.sp, .int .i64 X.w, .int .i64 X.t, .int .i64 X.k, .slice L l lc, .slice T r tc] 37) := P1.out.below hb2 (by omega)
  have sz2 : w1.heap.size ≤ w2.heap.size := hb2.size
  clear T1 V1 P1
  have R2 : Hid (Blk w2 (w0.heap.size + 1) #[.string ⟨#[]⟩, .slice none 0 0, .slice none 0 0, .slice none 0 0, .int .i64 0, .int .i64 0, .int .i64 0, .int .i64 0, .slice none 0 0, .slice none 0 0] 37) := by show Blk _ _ _ _; rw [← hz1]; exact hX2
  rw [hz1] at hz2
  have p0 := cellOfBlk P2.out 0
  have p1 := cellOfBlk P2.out 1
  have p2 := cellOfBlk P2.out 2
  have p3 := cellOfBlk P2.out 3
  have p4 := cellOfBlk P2.out 4
  have p5 := cellOfBlk P2.out 5
  have p6 := cellOfBlk P2.out 6
  have p7 := cellOfBlk P2.out 7
  have p8 := cellOfBlk P2.out 8
  have p9 := cellOfBlk P2.out 9
  rw [hw0]
  go_enter Tryz.func10, Tryz.ntmps10
  go_wp2_with fail
  clear p0 p1 p2 p3 p4 p5 p6 p7 p8 p9
  refine (implMachine_any lo hi0 _ X w2 V2.out (by omega) HS.out HWF.out).mono ?_
  rintro e w3 ⟨rfl, hb3⟩
  have T3 : Hid (Below w0.heap.size w0 w3) := T2.out.trans (hb3.mono (by omega))
  have V3 : Hid (MchV w3 lo hi0 (.agg #[.string s, .slice A n c, .slice A2 m d, .slice M q e0, .int .i64 X.sp, .int .i64 X.w, .int .i64 X.t, .int .i64 X.k, .slice L l lc, .slice T r tc]) X) := V2.out.below (by omega) hb3
  have P3 : Hid (Blk w3 (w0.heap.size) #[.string s, .slice A n c, .slice A2 m d, .slice M q e0, .int .i64 X.sp, .int .i64 X.w, .int .i64 X.t, .int .i64 X.k, .slice L l lc, .slice T r tc] 37) := P2.out.below hb3 (by omega)
  have R3 : Hid (Blk w3 (w0.heap.size + 1) #[.string ⟨#[]⟩, .slice none 0 0, .slice none 0 0, .slice none 0 0, .int .i64 0, .int .i64 0, .int .i64 0, .int .i64 0, .slice none 0 0, .slice none 0 0] 37) := R2.out.below hb3 (by omega)
  have sz3 : w2.heap.size ≤ w3.heap.size := hb3.size
  clear T2 V2 P2 R2
  rw [hm]
  have r0 := cellOfBlk R3.out 0
  have r1 := cellOfBlk R3.out 1
  have r2 := cellOfBlk R3.out 2
  have r3 := cellOfBlk R3.out 3
  have r4 := cellOfBlk R3.out 4
  have r5 := cellOfBlk R3.out 5
  have r6 := cellOfBlk R3.out 6
  have r7 := cellOfBlk R3.out 7
  have r8 := cellOfBlk R3.out 8
  have r9 := cellOfBlk R3.out 9
  have ff := R3.out.warm
  go_wp2
  have hR := R3.out.fill (.string ⟨#[]⟩) (.slice none 0 0) (.slice none 0 0) (.slice none 0 0) (.int .i64 0) (.int .i64 0) (.int .i64 0) (.int .i64 0) (.slice none 0 0) (.slice none 0 0)
  have hc9 := chg_ten w3 (w0.heap.size + 1) (.string ⟨#[]⟩) (.slice none 0 0) (.slice none 0 0) (.slice none 0 0) (.int .i64 0) (.int .i64 0) (.int .i64 0) (.int .i64 0) (.slice none 0 0) (.slice none 0 0)
  obtain ⟨w9, hw9⟩ : ∃ x, ((((((((((w3.setCell ⟨w0.heap.size + 1, 0, none⟩ (.string ⟨#[]⟩)).setCell ⟨w0.heap.size + 1, 1, none⟩ (.slice none 0 0)).setCell ⟨w0.heap.size + 1, 2, none⟩ (.slice none 0 0)).setCell ⟨w0.heap.size + 1, 3, none⟩ (.slice none 0 0)).setCell ⟨w0.heap.size + 1, 4, none⟩ (.int .i64 0)).setCell ⟨w0.heap.size + 1, 5, none⟩ (.int .i64 0)).setCell ⟨w0.heap.size + 1, 6, none⟩ (.int .i64 0)).setCell ⟨w0.heap.size + 1, 7, none⟩ (.int .i64 0)).setCell ⟨w0.heap.size + 1, 8, none⟩ (.slice none 0 0)).setCell ⟨w0.heap.size + 1, 9, none⟩ (.slice none 0 0)) = x := ⟨_, rfl⟩
  rw [hw9] at hR hc9
  (try rw [hw9])
  clear hw9 r0 r1 r2 r3 r4 r5 r6 r7 r8 r9
  have r0 := cellOfBlk hR 0
  have r1 := cellOfBlk hR 1
  have r2 := cellOfBlk hR 2
  have r3 := cellOfBlk hR 3
  have r4 := cellOfBlk hR 4
  have r5 := cellOfBlk hR 5
  have r6 := cellOfBlk hR 6
  have r7 := cellOfBlk hR 7
  have r8 := cellOfBlk hR 8
  have r9 := cellOfBlk hR 9
  (try simp only [Exit.inBlock, Exit.then])
  refine bodyPost_ret (v := .tuple #[.agg #[.string ⟨#[]⟩, .slice none 0 0, .slice none 0 0, .slice none 0 0, .int .i64 0, .int .i64 0, .int .i64 0, .int .i64 0, .slice none 0 0, .slice none 0 0], .int .i64 (-1)]) (by simp [results, Tryz.results10, go_sem, r0, r1, r2, r3, r4, r5, r6, r7, r8, r9]) rfl ?_
  obtain ⟨z1, z2⟩ := dropX_off HOFF.out
  rw [z1, z2]
  exact ⟨_, rfl, ((zeroX_own w9 w0.heap.size).tailed).wide (Nat.le_refl _) (by have := hc9.size; omega), T3.out.trans ((hc9.below (by omega)).mono (by omega))⟩
set_option maxRecDepth 100000 in
set_option maxHeartbeats 6400000 in
theorem implDropW_neg (lo hi0 : Nat) (v : Value) (X : Mch) (most : Int) (w : World) (h : MchV w lo hi0 v X) (hhi : hi0 ≤ w.heap.size) (hs : SmallX X) (wf : WfX X) (wfm : (Lit.int .i64 most).wf = true) (hm : machB X = true) (hneg : most < 0) :
    Calls Tryz.prog 10 #[v, .int .i64 most] w fun e w' => ∃ v', e = .returned (.tuple #[v', .int .i64 (dropXN X most)]) ∧ MchY w' w.heap.size w'.heap.size v' (dropXX X most) ∧ Below w.heap.size w w' := by
  have HOFF : Hid (dropXOk X most = false) := by show _ = _; unfold dropXOk; rw [decide_eq_false (by omega)]; simp
  have hnd : decide (most < 0) = true := decide_eq_true hneg
  obtain ⟨s, A, n, c, A2, m, d, M, q, e0, L, l, lc, T, r, tc, hv, -⟩ := h.parts
  rw [hv] at h ⊢
  clear hv
  obtain ⟨w0, hw0⟩ : ∃ x, w = x := ⟨_, rfl⟩
  have hww : w.heap.size = w0.heap.size := by rw [hw0]
  have HS := Lib.hid hs; have HWF := Lib.hid wf; have HWM := Lib.hid wfm
  have T0 : Hid (Below w0.heap.size w0 w0) := Below.refl _ _
  have V0 : Hid (MchV w0 lo hi0 (.agg #[.string s, .slice A n c, .slice A2 m d, .slice M q e0, .int .i64 X.sp, .int .i64 X.w, .int .i64 X.t, .int .i64 X.k, .slice L l lc, .slice T r tc]) X) := by rw [← hw0]; exact h
  clear h hs wf wfm
  obtain ⟨w1, hw1, hb1, hz1, hX1⟩ := mxWorld w0 #[.string s, .slice A n c, .slice A2 m d, .slice M q e0, .int .i64 X.sp, .int .i64 X.w, .int .i64 X.t, .int .i64 X.k, .slice L l lc, .slice T r tc] 37
  have T1 : Hid (Below w0.heap.size w0 w1) := T0.out.trans (hb1.mono (by omega))
  have V1 : Hid (MchV w1 lo hi0 (.agg #[.string s, .slice A n c, .slice A2 m d, .slice M q e0, .int .i64 X.sp, .int .i64 X.w, .int .i64 X.t, .int .i64 X.k, .slice L l lc, .slice T r tc]) X) := V0.out.below (by omega) hb1
  have sz1 : w0.heap.size ≤ w1.heap.size := hb1.size
  clear T0 V0
  have P1 : Hid (Blk w1 (w0.heap.size) #[.string s, .slice A n c, .slice A2 m d, .slice M q e0, .int .i64 X.sp, .int .i64 X.w, .int .i64 X.t, .int .i64 X.k, .slice L l lc, .slice T r tc] 37) := by show Blk _ _ _ _; exact hX1
  obtain ⟨w2, hw2, hb2, hz2, hX2⟩ := mxWorld w1 #[.string ⟨#[]⟩, .slice none 0 0, .slice none 0 0, .slice none 0 0, .int .i64 0, .int .i64 0, .int .i64 0, .int .i64 0, .slice none 0 0, .slice none 0 0] 37
  have T2 : Hid (Below w0.heap.size w0 w2) := T1.out.trans (hb2.mono (by omega))
  have V2 : Hid (MchV w2 lo hi0 (.agg #[.string s, .slice A n c, .slice A2 m d, .slice M q e0, .int .i64 X.sp, .int .i64 X.w, .int .i64 X.t, .int .i64 X.k, .slice L l lc, .slice T r tc]) X) := V1.out.below (by omega) hb2
  have P2 : Hid (Blk w2 (w0.heap.size) #[.string s, .slice A n c, .slice A2 m d, .slice M q e0, .int .i64 X.sp, .int .i64 X.w, .int .i64 X.t, .int .i64 X.k, .slice L l lc, .slice T r tc] 37) := P1.out.below hb2 (by omega)
  have sz2 : w1.heap.size ≤ w2.heap.size := hb2.size
  clear T1 V1 P1
  have R2 : Hid (Blk w2 (w0.heap.size + 1) #[.string ⟨#[]⟩, .slice none 0 0, .slice none 0 0, .slice none 0 0, .int .i64 0, .int .i64 0, .int .i64 0, .int .i64 0, .slice none 0 0, .slice none 0 0] 37) := by show Blk _ _ _ _; rw [← hz1]; exact hX2
  rw [hz1] at hz2
  have p0 := cellOfBlk P2.out 0
  have p1 := cellOfBlk P2.out 1
  have p2 := cellOfBlk P2.out 2
  have p3 := cellOfBlk P2.out 3
  have p4 := cellOfBlk P2.out 4
  have p5 := cellOfBlk P2.out 5
  have p6 := cellOfBlk P2.out 6
  have p7 := cellOfBlk P2.out 7
  have p8 := cellOfBlk P2.out 8
  have p9 := cellOfBlk P2.out 9
  rw [hw0]
  go_enter Tryz.func10, Tryz.ntmps10
  go_wp2_with fail
  clear p0 p1 p2 p3 p4 p5 p6 p7 p8 p9
  refine (implMachine_any lo hi0 _ X w2 V2.out (by omega) HS.out HWF.out).mono ?_
  rintro e w3 ⟨rfl, hb3⟩
  have T3 : Hid (Below w0.heap.size w0 w3) := T2.out.trans (hb3.mono (by omega))
  have V3 : Hid (MchV w3 lo hi0 (.agg #[.string s, .slice A n c, .slice A2 m d, .slice M q e0, .int .i64 X.sp, .int .i64 X.w, .int .i64 X.t, .int .i64 X.k, .slice L l lc, .slice T r tc]) X) := V2.out.below (by omega) hb3
  have P3 : Hid (Blk w3 (w0.heap.size) #[.string s, .slice A n c, .slice A2 m d, .slice M q e0, .int .i64 X.sp, .int .i64 X.w, .int .i64 X.t, .int .i64 X.k, .slice L l lc, .slice T r tc] 37) := P2.out.below hb3 (by omega)
  have R3 : Hid (Blk w3 (w0.heap.size + 1) #[.string ⟨#[]⟩, .slice none 0 0, .slice none 0 0, .slice none 0 0, .int .i64 0, .int .i64 0, .int .i64 0, .int .i64 0, .slice none 0 0, .slice none 0 0] 37) := R2.out.below hb3 (by omega)
  have sz3 : w2.heap.size ≤ w3.heap.size := hb3.size
  clear T2 V2 P2 R2
  rw [hm]
  have r0 := cellOfBlk R3.out 0
  have r1 := cellOfBlk R3.out 1
  have r2 := cellOfBlk R3.out 2
  have r3 := cellOfBlk R3.out 3
  have r4 := cellOfBlk R3.out 4
  have r5 := cellOfBlk R3.out 5
  have r6 := cellOfBlk R3.out 6
  have r7 := cellOfBlk R3.out 7
  have r8 := cellOfBlk R3.out 8
  have r9 := cellOfBlk R3.out 9
  have ff := R3.out.warm
  go_wp2
  have hR := R3.out.fill (.string ⟨#[]⟩) (.slice none 0 0) (.slice none 0 0) (.slice none 0 0) (.int .i64 0) (.int .i64 0) (.int .i64 0) (.int .i64 0) (.slice none 0 0) (.slice none 0 0)
  have hc9 := chg_ten w3 (w0.heap.size + 1) (.string ⟨#[]⟩) (.slice none 0 0) (.slice none 0 0) (.slice none 0 0) (.int .i64 0) (.int .i64 0) (.int .i64 0) (.int .i64 0) (.slice none 0 0) (.slice none 0 0)
  obtain ⟨w9, hw9⟩ : ∃ x, ((((((((((w3.setCell ⟨w0.heap.size + 1, 0, none⟩ (.string ⟨#[]⟩)).setCell ⟨w0.heap.size + 1, 1, none⟩ (.slice none 0 0)).setCell ⟨w0.heap.size + 1, 2, none⟩ (.slice none 0 0)).setCell ⟨w0.heap.size + 1, 3, none⟩ (.slice none 0 0)).setCell ⟨w0.heap.size + 1, 4, none⟩ (.int .i64 0)).setCell ⟨w0.heap.size + 1, 5, none⟩ (.int .i64 0)).setCell ⟨w0.heap.size + 1, 6, none⟩ (.int .i64 0)).setCell ⟨w0.heap.size + 1, 7, none⟩ (.int .i64 0)).setCell ⟨w0.heap.size + 1, 8, none⟩ (.slice none 0 0)).setCell ⟨w0.heap.size + 1, 9, none⟩ (.slice none 0 0)) = x := ⟨_, rfl⟩
  rw [hw9] at hR hc9
  (try rw [hw9])
  clear hw9 r0 r1 r2 r3 r4 r5 r6 r7 r8 r9
  have r0 := cellOfBlk hR 0
  have r1 := cellOfBlk hR 1
  have r2 := cellOfBlk hR 2
  have r3 := cellOfBlk hR 3
  have r4 := cellOfBlk hR 4
  have r5 := cellOfBlk hR 5
  have r6 := cellOfBlk hR 6
  have r7 := cellOfBlk hR 7
  have r8 := cellOfBlk hR 8
  have r9 := cellOfBlk hR 9
  (try simp only [Exit.inBlock, Exit.then])
  refine bodyPost_ret (v := .tuple #[.agg #[.string ⟨#[]⟩, .slice none 0 0, .slice none 0 0, .slice none 0 0, .int .i64 0, .int .i64 0, .int .i64 0, .int .i64 0, .slice none 0 0, .slice none 0 0], .int .i64 (-1)]) (by simp [results, Tryz.results10, go_sem, r0, r1, r2, r3, r4, r5, r6, r7, r8, r9]) rfl ?_
  obtain ⟨z1, z2⟩ := dropX_off HOFF.out
  rw [z1, z2]
  exact ⟨_, rfl, ((zeroX_own w9 w0.heap.size).tailed).wide (Nat.le_refl _) (by have := hc9.size; omega), T3.out.trans ((hc9.below (by omega)).mono (by omega))⟩
set_option maxRecDepth 100000 in
set_option maxHeartbeats 6400000 in
theorem implDropW_yes (lo hi0 : Nat) (v : Value) (X : Mch) (most : Int) (w : World) (h : MchV w lo hi0 v X) (hhi : hi0 ≤ w.heap.size) (hs : SmallX X) (wf : WfX X) (wfm : (Lit.int .i64 most).wf = true) (hm : machB X = true) (hpos : 0 ≤ most) (b : Addr) (hg : w.cell? ⟨0, 0, none⟩ = some (.iface 192 (.pointer (some b)))) (hglo : 0 < w.heap.size) :
    Calls Tryz.prog 10 #[v, .int .i64 most] w fun e w' => ∃ v', e = .returned (.tuple #[v', .int .i64 (dropXN X most)]) ∧ MchY w' w.heap.size w'.heap.size v' (dropXX X most) ∧ Below w.heap.size w w' := by
  have HON : Hid (dropXOk X most = true) := by show _ = _; unfold dropXOk; rw [hm, decide_eq_true hpos]; rfl
  have hnd : decide (most < 0) = false := decide_eq_false (by omega)
  have HF := Lib.hid (mach_facts hm)
  obtain ⟨hmg, -, hwt, hwa, -, -, -⟩ := machB_parts hm
  have hlim : ∀ xs ∈ X.ms, xs.length ≤ 20 := fun xs hx => magB_20 hmg xs hx
  have hmm : X.ms.length ≤ 1048576 := hs.ms
  have hwa2 : ∀ x ∈ X.wt, matB X.f x = true := fun x hx => List.all_eq_true.1 hwa x hx
  have hlim2 : ∀ j, DropAt X.f X.ms X.wt most.toNat j → ∀ xs ∈ dropMs X.f X.ms X.wt j, xs.length ≤ 20 := fun j hj xs hx => magB_20 (hj.mag hmg hwa2) xs hx
  have HLIM := Lib.hid hlim; have HWT := Lib.hid hwt; have HMG := Lib.hid hmg; have HWA := Lib.hid hwa2; have HL2 := Lib.hid hlim2
  clear hmg hlim hwt hwa hwa2 hlim2
  obtain ⟨s, A, n, c, A2, m, d, M, q, e0, L, l, lc, T, r, tc, hv, -⟩ := h.parts
  rw [hv] at h ⊢
  clear hv
  obtain ⟨w0, hw0⟩ : ∃ x, w = x := ⟨_, rfl⟩
  have hww : w.heap.size = w0.heap.size := by rw [hw0]
  have HS := Lib.hid hs; have HWF := Lib.hid wf; have HWM := Lib.hid wfm
  have T0 : Hid (Below w0.heap.size w0 w0) := Below.refl _ _
  have V0 : Hid (MchV w0 lo hi0 (.agg #[.string s, .slice A n c, .slice A2 m d, .slice M q e0, .int .i64 X.sp, .int .i64 X.w, .int .i64 X.t, .int .i64 X.k, .slice L l lc, .slice T r tc]) X) := by rw [← hw0]; exact h
  rw [hw0] at hg hglo
  have C0 : Hid (w0.cell? ⟨0, 0, none⟩ = some (.iface 192 (.pointer (some b)))) := hg
  clear hg
  clear h hs wf wfm
  obtain ⟨w1, hw1, hb1, hz1, hX1⟩ := mxWorld w0 #[.string s, .slice A n c, .slice A2 m d, .slice M q e0, .int .i64 X.sp, .int .i64 X.w, .int .i64 X.t, .int .i64 X.k, .slice L l lc, .slice T r tc] 37
  have T1 : Hid (Below w0.heap.size w0 w1) := T0.out.trans (hb1.mono (by omega))
  have V1 : Hid (MchV w1 lo hi0 (.agg #[.string s, .slice A n c, .slice A2 m d, .slice M q e0, .int .i64 X.sp, .int .i64 X.w, .int .i64 X.t, .int .i64 X.k, .slice L l lc, .slice T r tc]) X) := V0.out.below (by omega) hb1
  have C1 : Hid (w1.cell? ⟨0, 0, none⟩ = some (.iface 192 (.pointer (some b)))) := (hb1.cell (World.block_lt_of_cell? _ _ C0.out)).trans C0.out
  have sz1 : w0.heap.size ≤ w1.heap.size := hb1.size
  clear T0 V0 C0
  have P1 : Hid (Blk w1 (w0.heap.size) #[.string s, .slice A n c, .slice A2 m d, .slice M q e0, .int .i64 X.sp, .int .i64 X.w, .int .i64 X.t, .int .i64 X.k, .slice L l lc, .slice T r tc] 37) := by show Blk _ _ _ _; exact hX1
  obtain ⟨w2, hw2, hb2, hz2, hX2⟩ := mxWorld w1 #[.string ⟨#[]⟩, .slice none 0 0, .slice none 0 0, .slice none 0 0, .int .i64 0, .int .i64 0, .int .i64 0, .int .i64 0, .slice none 0 0, .slice none 0 0] 37
  have T2 : Hid (Below w0.heap.size w0 w2) := T1.out.trans (hb2.mono (by omega))
  have V2 : Hid (MchV w2 lo hi0 (.agg #[.string s, .slice A n c, .slice A2 m d, .slice M q e0, .int .i64 X.sp, .int .i64 X.w, .int .i64 X.t, .int .i64 X.k, .slice L l lc, .slice T r tc]) X) := V1.out.below (by omega) hb2
  have C2 : Hid (w2.cell? ⟨0, 0, none⟩ = some (.iface 192 (.pointer (some b)))) := (hb2.cell (World.block_lt_of_cell? _ _ C1.out)).trans C1.out
  have P2 : Hid (Blk w2 (w0.heap.size) #[.string s, .slice A n c, .slice A2 m d, .slice M q e0, .int .i64 X.sp, .int .i64 X.w, .int .i64 X.t, .int .i64 X.k, .slice L l lc, .slice T r tc] 37) := P1.out.below hb2 (by omega)
  have sz2 : w1.heap.size ≤ w2.heap.size := hb2.size
  clear T1 V1 C1 P1
  have R2 : Hid (Blk w2 (w0.heap.size + 1) #[.string ⟨#[]⟩, .slice none 0 0, .slice none 0 0, .slice none 0 0, .int .i64 0, .int .i64 0, .int .i64 0, .int .i64 0, .slice none 0 0, .slice none 0 0] 37) := by show Blk _ _ _ _; rw [← hz1]; exact hX2
  rw [hz1] at hz2
  have p0 := cellOfBlk P2.out 0
  have p1 := cellOfBlk P2.out 1
  have p2 := cellOfBlk P2.out 2
  have p3 := cellOfBlk P2.out 3
  have p4 := cellOfBlk P2.out 4
  have p5 := cellOfBlk P2.out 5
  have p6 := cellOfBlk P2.out 6
  have p7 := cellOfBlk P2.out 7
  have p8 := cellOfBlk P2.out 8
  have p9 := cellOfBlk P2.out 9
  rw [hw0]
  go_enter Tryz.func10, Tryz.ntmps10
  go_wp2_with fail
  clear p0 p1 p2 p3 p4 p5 p6 p7 p8 p9
  refine (implMachine_any lo hi0 _ X w2 V2.out (by omega) HS.out HWF.out).mono ?_
  rintro e w3 ⟨rfl, hb3⟩
  have T3 : Hid (Below w0.heap.size w0 w3) := T2.out.trans (hb3.mono (by omega))
  have V3 : Hid (MchV w3 lo hi0 (.agg #[.string s, .slice A n c, .slice A2 m d, .slice M q e0, .int .i64 X.sp, .int .i64 X.w, .int .i64 X.t, .int .i64 X.k, .slice L l lc, .slice T r tc]) X) := V2.out.below (by omega) hb3
  have C3 : Hid (w3.cell? ⟨0, 0, none⟩ = some (.iface 192 (.pointer (some b)))) := (hb3.cell (World.block_lt_of_cell? _ _ C2.out)).trans C2.out
  have P3 : Hid (Blk w3 (w0.heap.size) #[.string s, .slice A n c, .slice A2 m d, .slice M q e0, .int .i64 X.sp, .int .i64 X.w, .int .i64 X.t, .int .i64 X.k, .slice L l lc, .slice T r tc] 37) := P2.out.below hb3 (by omega)
  have R3 : Hid (Blk w3 (w0.heap.size + 1) #[.string ⟨#[]⟩, .slice none 0 0, .slice none 0 0, .slice none 0 0, .int .i64 0, .int .i64 0, .int .i64 0, .int .i64 0, .slice none 0 0, .slice none 0 0] 37) := R2.out.below hb3 (by omega)
  have sz3 : w2.heap.size ≤ w3.heap.size := hb3.size
  clear T2 V2 C2 P2 R2
  rw [hm]
  have p0 := cellOfBlk P3.out 0
  have p1 := cellOfBlk P3.out 1
  have p2 := cellOfBlk P3.out 2
  have p3 := cellOfBlk P3.out 3
  have p4 := cellOfBlk P3.out 4
  have p5 := cellOfBlk P3.out 5
  have p6 := cellOfBlk P3.out 6
  have p7 := cellOfBlk P3.out 7
  have p8 := cellOfBlk P3.out 8
  have p9 := cellOfBlk P3.out 9
  go_wp2_with fail
  clear p0 p1 p2 p3 p4 p5 p6 p7 p8 p9
  refine (start_any lo hi0 _ X w3 V3.out (by omega) HS.out HLIM.out HF.out.1).mono ?_
  rintro e w4 ⟨E, vm, Bc, dc, B, hi, hs, km, b0, b1, rfl, hEO, hb4⟩
  have hEn := Lib.hid hEO.parts
  clear hEO
  have T4 : Hid (Below w0.heap.size w0 w4) := T3.out.trans (hb4.mono (by omega))
  have C4 : Hid (w4.cell? ⟨0, 0, none⟩ = some (.iface 192 (.pointer (some b)))) := (hb4.cell (World.block_lt_of_cell? _ _ C3.out)).trans C3.out
  have P4 : Hid (Blk w4 (w0.heap.size) #[.string s, .slice A n c, .slice A2 m d, .slice M q e0, .int .i64 X.sp, .int .i64 X.w, .int .i64 X.t, .int .i64 X.k, .slice L l lc, .slice T r tc] 37) := P3.out.below hb4 (by omega)
  have R4 : Hid (Blk w4 (w0.heap.size + 1) #[.string ⟨#[]⟩, .slice none 0 0, .slice none 0 0, .slice none 0 0, .int .i64 0, .int .i64 0, .int .i64 0, .int .i64 0, .slice none 0 0, .slice none 0 0] 37) := R3.out.below hb4 (by omega)
  have sz4 : w3.heap.size ≤ w4.heap.size := hb4.size
  clear T3 V3 C3 P3 R3
  obtain ⟨A1, c1, A21, d1, M1, q1, e1, L1, lc1, T1, tc1, Bc1, dc1, B1, hi1, hs1, km1, f0, f1, l0, l1, t0, t1, p0, p1, hP⟩ := hEn.out
  have HP := Lib.hid hP.tailed
  clear hP hEn
  go_wp2_with fail
  refine (engDrop_any w3.heap.size E X most w4 HP.out HMG.out HWA.out HWT.out hpos HWM.out b C4.out (by omega)).mono ?_
  rintro e w5 ⟨rfl, hX, hb5⟩
  have HX := Lib.hid hX
  clear hX HP
  have T5 : Hid (Below w0.heap.size w0 w5) := T4.out.trans (hb5.mono (by omega))
  have P5 : Hid (Blk w5 (w0.heap.size) #[.string s, .slice A n c, .slice A2 m d, .slice M q e0, .int .i64 X.sp, .int .i64 X.w, .int .i64 X.t, .int .i64 X.k, .slice L l lc, .slice T r tc] 37) := P4.out.below hb5 (by omega)
  have R5 : Hid (Blk w5 (w0.heap.size + 1) #[.string ⟨#[]⟩, .slice none 0 0, .slice none 0 0, .slice none 0 0, .int .i64 0, .int .i64 0, .int .i64 0, .int .i64 0, .slice none 0 0, .slice none 0 0] 37) := R4.out.below hb5 (by omega)
  have sz5 : w4.heap.size ≤ w5.heap.size := hb5.size
  clear T4 C4 P4 R4
  go_wp2_with fail
  refine (stopT_any w3.heap.size E (dropGo X (dropN X most)) w5 HX.out (by show (dropMs X.f X.ms X.wt (dropN X most)).length ≤ _; rw [dropMs_len]; exact hmm) (HL2.out _ (drop_end X most))).mono ?_
  rintro e w6 ⟨v', rfl, hY, hb6⟩
  have T6 : Hid (Below w0.heap.size w0 w6) := T5.out.trans (hb6.mono (by omega))
  have P6 : Hid (Blk w6 (w0.heap.size) #[.string s, .slice A n c, .slice A2 m d, .slice M q e0, .int .i64 X.sp, .int .i64 X.w, .int .i64 X.t, .int .i64 X.k, .slice L l lc, .slice T r tc] 37) := P5.out.below hb6 (by omega)
  have R6 : Hid (Blk w6 (w0.heap.size + 1) #[.string ⟨#[]⟩, .slice none 0 0, .slice none 0 0, .slice none 0 0, .int .i64 0, .int .i64 0, .int .i64 0, .int .i64 0, .slice none 0 0, .slice none 0 0] 37) := R5.out.below hb6 (by omega)
  have sz6 : w5.heap.size ≤ w6.heap.size := hb6.size
  clear T5 P5 R5
  obtain ⟨s9, A9, n9, c9, A29, m9, d9, M9, q9, e9, sp9, w_9, t9, k9, L9, l9, lc9, T9, r_9, tc9, rfl⟩ := hY.reads.form
  have HY := Lib.hid hY
  clear hY HX
  have r0 := cellOfBlk R6.out 0
  have r1 := cellOfBlk R6.out 1
  have r2 := cellOfBlk R6.out 2
  have r3 := cellOfBlk R6.out 3
  have r4 := cellOfBlk R6.out 4
  have r5 := cellOfBlk R6.out 5
  have r6 := cellOfBlk R6.out 6
  have r7 := cellOfBlk R6.out 7
  have r8 := cellOfBlk R6.out 8
  have r9 := cellOfBlk R6.out 9
  have ff := R6.out.warm
  go_wp2
  have hR := R6.out.fill (.string s9) (.slice A9 n9 c9) (.slice A29 m9 d9) (.slice M9 q9 e9) (.int .i64 sp9) (.int .i64 w_9) (.int .i64 t9) (.int .i64 k9) (.slice L9 l9 lc9) (.slice T9 r_9 tc9)
  have hc9 := chg_ten w6 (w0.heap.size + 1) (.string s9) (.slice A9 n9 c9) (.slice A29 m9 d9) (.slice M9 q9 e9) (.int .i64 sp9) (.int .i64 w_9) (.int .i64 t9) (.int .i64 k9) (.slice L9 l9 lc9) (.slice T9 r_9 tc9)
  obtain ⟨w9, hw9⟩ : ∃ x, ((((((((((w6.setCell ⟨w0.heap.size + 1, 0, none⟩ (.string s9)).setCell ⟨w0.heap.size + 1, 1, none⟩ (.slice A9 n9 c9)).setCell ⟨w0.heap.size + 1, 2, none⟩ (.slice A29 m9 d9)).setCell ⟨w0.heap.size + 1, 3, none⟩ (.slice M9 q9 e9)).setCell ⟨w0.heap.size + 1, 4, none⟩ (.int .i64 sp9)).setCell ⟨w0.heap.size + 1, 5, none⟩ (.int .i64 w_9)).setCell ⟨w0.heap.size + 1, 6, none⟩ (.int .i64 t9)).setCell ⟨w0.heap.size + 1, 7, none⟩ (.int .i64 k9)).setCell ⟨w0.heap.size + 1, 8, none⟩ (.slice L9 l9 lc9)).setCell ⟨w0.heap.size + 1, 9, none⟩ (.slice T9 r_9 tc9)) = x := ⟨_, rfl⟩
  rw [hw9] at hR hc9
  (try rw [hw9])
  clear hw9 r0 r1 r2 r3 r4 r5 r6 r7 r8 r9
  have r0 := cellOfBlk hR 0
  have r1 := cellOfBlk hR 1
  have r2 := cellOfBlk hR 2
  have r3 := cellOfBlk hR 3
  have r4 := cellOfBlk hR 4
  have r5 := cellOfBlk hR 5
  have r6 := cellOfBlk hR 6
  have r7 := cellOfBlk hR 7
  have r8 := cellOfBlk hR 8
  have r9 := cellOfBlk hR 9
  (try simp only [Exit.inBlock, Exit.then])
  refine bodyPost_ret (v := .tuple #[.agg #[.string s9, .slice A9 n9 c9, .slice A29 m9 d9, .slice M9 q9 e9, .int .i64 sp9, .int .i64 w_9, .int .i64 t9, .int .i64 k9, .slice L9 l9 lc9, .slice T9 r_9 tc9], .int .i64 (dropN X most)]) (by simp [results, Tryz.results10, go_sem, r0, r1, r2, r3, r4, r5, r6, r7, r8, r9]) rfl ?_
  obtain ⟨z1, z2⟩ := dropX_on HON.out
  rw [z1, z2]
  exact ⟨_, rfl, (HY.out.chg hc9 (by unfold Off; omega)).wide (by omega) (by have := hc9.size; omega), T6.out.trans ((hc9.below (by omega)).mono (by omega))⟩
theorem implDropW_any (lo hi0 : Nat) (v : Value) (X : Mch) (most : Int) (w : World) (h : MchV w lo hi0 v X) (hhi : hi0 ≤ w.heap.size) (hs : SmallX X) (wf : WfX X) (wfm : (Lit.int .i64 most).wf = true) (b : Addr) (hg : w.cell? ⟨0, 0, none⟩ = some (.iface 192 (.pointer (some b)))) :
    Calls Tryz.prog 10 #[v, .int .i64 most] w fun e w' => ∃ v', e = .returned (.tuple #[v', .int .i64 (dropXN X most)]) ∧ MchY w' w.heap.size w'.heap.size v' (dropXX X most) ∧ Below w.heap.size w w' := by
  cases hm : machB X
  · exact implDropW_no lo hi0 v X most w h hhi hs wf wfm hm
  · by_cases hp : 0 ≤ most
    · exact implDropW_yes lo hi0 v X most w h hhi hs wf wfm hm hp b hg (World.block_lt_of_cell? _ _ hg)
    · exact implDropW_neg lo hi0 v X most w h hhi hs wf wfm hm (by omega)
end Go.Proofs.YtimhnkpccbcohaaGreatDoor
