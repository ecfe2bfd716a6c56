/-
 items and readiness of an engine by contract. Conditions: a line of at most 120 that is set of the font; errNoItems and errLoose read as laid.
-/
import Derived.Test.YtimhnkpccbcohaaGreatDoorZEngCT
import Derived.Test.YtimhnkpccbcohaaGreatDoorZCntMagG
namespace Go.Proofs.YtimhnkpccbcohaaGreatDoor
open Go.RowKit Go.Conc
set_option linter.unusedVariables false
set_option linter.unusedSimpArgs false

set_option maxRecDepth 100000 in
set_option maxHeartbeats 6400000 in
theorem itemsT_any (lo E : Nat) (X : Mch) (w : World) (h : EngX w lo E X) (hln : X.ln.length ≤ 120) (hset : ∀ x ∈ X.ln, bandM x = true ∨ (0 ≤ x.1 ∧ x.1.toNat < X.f.ws.length)) :
  Calls Tryz.prog 94 #[.pointer (some ⟨E, 0, none⟩)] w fun e w' => ∃ v, e = .returned v ∧ Own w' w.heap.size v (itemsM X.f X.ln) ∧ Below w.heap.size w w' := by
 obtain ⟨A, c, A2, d, M, q, e0, L, lc, T, tc, Bc, dc, B, hi, hs, km, f0, f1, l0, l1, t0, t1, p0, p1, hP⟩ := h
 obtain ⟨hBh, hEw⟩ := hP.at_
 have hlow := hP.low; have htop := hP.top; have hkm := hP.o3; have hkE := hP.o4
 obtain ⟨w0, hw0⟩ : ∃ x, w = x := ⟨_, rfl⟩
 obtain ⟨l, hl⟩ : ∃ y, X.ln.length = y := ⟨_, rfl⟩
 have hfont := hP.font.font
 have hline := hP.line
 have hblk := hP.blk
 have hLT := hP.lineT
 rw [hl] at hln hline hblk hLT
 have HL := Lib.hid hl; have HSET := Lib.hid hset
 clear hl hset
 have P0 : Hid (EngT w0 lo E X A c A2 d M q e0 L lc T tc Bc dc B hi hs km f0 f1 l0 l1 t0 t1 p0 p1) := by rw [← hw0]; exact hP
 clear hP
 have T0 : Hid (Below w0.heap.size w0 w0) := Below.refl _ _
 have V0 : Hid (FontV w0 f0 f1 (.agg #[.string X.f.s, .slice A X.f.ws.length c, .slice A2 X.f.cs.length d]) X.f) := by rw [← hw0]; exact hfont
 have L0 : Hid (OwnM w0 l0 (.slice L l lc) X.ln) := by rw [← hw0]; exact hline
 have G0 : Hid (Blk w0 E #[.string X.f.s, .slice A X.f.ws.length c, .slice A2 X.f.cs.length d, .slice M q e0, .int .i64 X.sp, .int .i64 X.w, .int .i64 X.t, .int .i64 X.k, .slice L l lc, .slice T X.wt.length tc, .slice Bc X.f.cs.length dc, .slice (some ⟨B, 0, none⟩) X.ms.length X.ms.length, .map (some km)] 118) := by show Blk _ _ _ _; rw [← hw0]; exact hblk
 clear hfont hline hblk
 rw [hw0]
 rw [hw0] at htop hEw
 go_enter Tryz.func94, Tryz.ntmps94
 go_wp2_with fail
 refine wp_region_plan (.take 0 (.take 1 (.take 2 (.take 3 (.take 4 (.take 5 (.take 6 (.take 7 (.take 8 (.take 9 (.one 10 (.take 11 .done)))))))))))) (fun w' => w'.cell? ⟨E, 0, none⟩ = some (.string X.f.s) ∧ w'.cell? ⟨E, 1, none⟩ = some (.slice A X.f.ws.length c) ∧ w'.cell? ⟨E, 2, none⟩ = some (.slice A2 X.f.cs.length d) ∧ w'.cell? ⟨E, 3, none⟩ = some (.slice M q e0) ∧ w'.cell? ⟨E, 4, none⟩ = some (.int .i64 X.sp) ∧ w'.cell? ⟨E, 5, none⟩ = some (.int .i64 X.w) ∧ w'.cell? ⟨E, 6, none⟩ = some (.int .i64 X.t) ∧ w'.cell? ⟨E, 7, none⟩ = some (.int .i64 X.k) ∧ w'.cell? ⟨E, 8, none⟩ = some (.slice L l lc) ∧ w'.cell? ⟨E, 9, none⟩ = some (.slice T X.wt.length tc) ∧ w'.cell? ⟨E, 10, none⟩ = some (.slice Bc X.f.cs.length dc) ∧ w'.cell? ⟨E, 11, none⟩ = some (.slice (some ⟨B, 0, none⟩) X.ms.length X.ms.length) ∧ w'.cell? ⟨E, 12, none⟩ = some (.map (some km))) (by kernel_rfl) (by kernel_rfl) (by kernel_rfl) (by intro c a d v w h; cases d <;> exact h) ⟨cellOfBlk G0.out 0, cellOfBlk G0.out 1, cellOfBlk G0.out 2, cellOfBlk G0.out 3, cellOfBlk G0.out 4, cellOfBlk G0.out 5, cellOfBlk G0.out 6, cellOfBlk G0.out 7, cellOfBlk G0.out 8, cellOfBlk G0.out 9, cellOfBlk G0.out 10, cellOfBlk G0.out 11, cellOfBlk G0.out 12⟩ ?_
 obtain ⟨w1, hwd⟩ : ∃ x, w0.drew = x := ⟨_, rfl⟩
 have hb1 : Below w0.heap.size w0 w1 := by rw [← hwd]; exact (Below.refl _ _).drew
 have hsz1 : w1.heap.size = w0.heap.size := by rw [← hwd]; rfl
 have P1 := Lib.hid (P0.out.below hb1)
 have T1 := Lib.hid (T0.out.trans (hb1.mono (by omega)))
 have V1 := Lib.hid (V0.out.below (by omega) hb1)
 have L1 := Lib.hid (L0.out.below hb1)
 have G1 := Lib.hid (G0.out.below hb1 (by omega))
 have sz1 : w0.heap.size ≤ w1.heap.size := hb1.size
 clear P0 T0 V0 L0 G0
 rw [hwd]
 clear hwd
 iterate 10 (refine plan_quiet rfl (by rfl) (v := ?_) ?_ ?_; rotate_left; (intro w1 hSw; obtain ⟨hs0, hs1, hs2, hs3, hs4, hs5, hs6, hs7, hs8, hs9, hs10, hs11, hs12⟩ := hSw; go_simp; try (with_reducible rfl)); (try simp only [Act.put, List.setIfInBounds_toArray, List.set_cons_zero, List.set_cons_succ]))
 refine plan_step rfl (fun Kc hK => ?_)
 rw [if_pos (by rfl)]
 go_simp
 refine (itemsOf_any f0 f1 l0 l1 _ X.f L l lc X.ln w1 V1.out (by omega) HL.out (by omega) (MatsI.cutM L1.out hLT) (by omega) HSET.out).mono ?_
 rintro e w2 ⟨u, rfl, hO, hb2⟩
 have P2 := Lib.hid (P1.out.below hb2)
 have T2 := Lib.hid (T1.out.trans (hb2.mono (by omega)))
 have V2 := Lib.hid (V1.out.below (by omega) hb2)
 have L2 := Lib.hid (L1.out.below hb2)
 have G2 := Lib.hid (G1.out.below hb2 (by omega))
 have sz2 : w1.heap.size ≤ w2.heap.size := hb2.size
 clear P1 T1 V1 L1 G1
 have O2 : Hid (Own w2 w1.heap.size u (itemsM X.f X.ln)) := hO
 clear hO
 refine hK.out _ _ ⟨cellOfBlk G2.out 0, cellOfBlk G2.out 1, cellOfBlk G2.out 2, cellOfBlk G2.out 3, cellOfBlk G2.out 4, cellOfBlk G2.out 5, cellOfBlk G2.out 6, cellOfBlk G2.out 7, cellOfBlk G2.out 8, cellOfBlk G2.out 9, cellOfBlk G2.out 10, cellOfBlk G2.out 11, cellOfBlk G2.out 12⟩ ?_
 clear hK Kc
 refine plan_quiet rfl (by rfl) (v := ?_) ?_ ?_; rotate_left; (intro w1 hSw; obtain ⟨hs0, hs1, hs2, hs3, hs4, hs5, hs6, hs7, hs8, hs9, hs10, hs11, hs12⟩ := hSw; go_simp; try (with_reducible rfl)); (try simp only [Act.put, List.setIfInBounds_toArray, List.set_cons_zero, List.set_cons_succ])
 refine plan_end ?_
 go_wp2
 go_ret
 exact ⟨_, rfl, row_base O2.out (by omega), T2.out⟩
set_option maxRecDepth 100000 in
set_option maxHeartbeats 6400000 in
theorem readyT_any (lo E : Nat) (X : Mch) (w : World) (h : EngX w lo E X) (hln : X.ln.length ≤ 120) (hset : ∀ x ∈ X.ln, bandM x = true ∨ (0 ≤ x.1 ∧ x.1.toNat < X.f.ws.length)) (ct1 ct2 : TypeId) (cu1 cu2 : Value) (hg1 : w.cell? ⟨3, 0, none⟩ = some (.iface ct1 cu1)) (hg2 : w.cell? ⟨1, 0, none⟩ = some (.iface ct2 cu2)) :
  Calls Tryz.prog 91 #[.pointer (some ⟨E, 0, none⟩)] w fun e w' => e = .returned (readyE X (.iface ct1 cu1) (.iface ct2 cu2)) ∧ Below w.heap.size w w' := by
 have HE := Lib.hid h; have HLN0 := Lib.hid hln; have HSET0 := Lib.hid hset
 obtain ⟨A, c, A2, d, M, q, e0, L, lc, T, tc, Bc, dc, B, hi, hs, km, f0, f1, l0, l1, t0, t1, p0, p1, hP⟩ := h
 obtain ⟨hBh, hEw⟩ := hP.at_
 have hlow := hP.low; have htop := hP.top; have hkm := hP.o3; have hkE := hP.o4
 obtain ⟨w0, hw0⟩ : ∃ x, w = x := ⟨_, rfl⟩
 obtain ⟨l, hl⟩ : ∃ y, X.ln.length = y := ⟨_, rfl⟩
 have hfont := hP.font.font
 have hline := hP.line
 have hblk := hP.blk
 have hLT := hP.lineT
 rw [hl] at hln hline hblk hLT
 have HL := Lib.hid hl; have HSET := Lib.hid hset
 clear hl hset
 have P0 : Hid (EngT w0 lo E X A c A2 d M q e0 L lc T tc Bc dc B hi hs km f0 f1 l0 l1 t0 t1 p0 p1) := by rw [← hw0]; exact hP
 clear hP
 have T0 : Hid (Below w0.heap.size w0 w0) := Below.refl _ _
 have V0 : Hid (FontV w0 f0 f1 (.agg #[.string X.f.s, .slice A X.f.ws.length c, .slice A2 X.f.cs.length d]) X.f) := by rw [← hw0]; exact hfont
 have L0 : Hid (OwnM w0 l0 (.slice L l lc) X.ln) := by rw [← hw0]; exact hline
 have G0 : Hid (Blk w0 E #[.string X.f.s, .slice A X.f.ws.length c, .slice A2 X.f.cs.length d, .slice M q e0, .int .i64 X.sp, .int .i64 X.w, .int .i64 X.t, .int .i64 X.k, .slice L l lc, .slice T X.wt.length tc, .slice Bc X.f.cs.length dc, .slice (some ⟨B, 0, none⟩) X.ms.length X.ms.length, .map (some km)] 118) := by show Blk _ _ _ _; rw [← hw0]; exact hblk
 clear hfont hline hblk
 rw [hw0]
 rw [hw0] at htop hEw hg1 hg2 HE
 have C10 : Hid (w0.cell? ⟨3, 0, none⟩ = some (.iface ct1 cu1)) := hg1
 have C20 : Hid (w0.cell? ⟨1, 0, none⟩ = some (.iface ct2 cu2)) := hg2
 have H0 : Hid (EngX w0 lo E X) := HE.out
 clear hg1 hg2 HE
 have g0 := cellOfBlk G0.out 0
 have g1 := cellOfBlk G0.out 1
 have g2 := cellOfBlk G0.out 2
 have g3 := cellOfBlk G0.out 3
 have g4 := cellOfBlk G0.out 4
 have g5 := cellOfBlk G0.out 5
 have g6 := cellOfBlk G0.out 6
 have g7 := cellOfBlk G0.out 7
 have g8 := cellOfBlk G0.out 8
 have g9 := cellOfBlk G0.out 9
 have g10 := cellOfBlk G0.out 10
 have g11 := cellOfBlk G0.out 11
 have g12 := cellOfBlk G0.out 12
 have k1 := C10.out
 by_cases hz : l = 0
 ·have hr : readyE X (.iface ct1 cu1) (.iface ct2 cu2) = .iface ct1 cu1 := by unfold readyE; rw [if_pos (by rw [HL.out]; exact hz)]
  have HR := Lib.hid hr
  clear hr
  have hz2 : ((l : Int) == 0) = true := by simp; omega
  clear hz
  go_enter Tryz.func91, Tryz.ntmps91
  go_wp2
  go_ret
  exact ⟨by rw [HR.out]; rfl, T0.out⟩
 ·have hz2 : ((l : Int) == 0) = false := by simp; omega
  have HZ := Lib.hid hz
  clear hz
  go_enter Tryz.func91, Tryz.ntmps91
  go_wp2_with fail
  clear k1 g0 g1 g2 g3 g4 g5 g6 g7 g8 g9 g10 g11 g12
  refine wp_region_plan (.take 0 (.take 1 (.take 2 (.take 3 (.take 4 (.take 5 (.one 6 (.one 7 (.take 8 .done))))))))) (fun w' => w'.cell? ⟨E, 0, none⟩ = some (.string X.f.s) ∧ w'.cell? ⟨E, 1, none⟩ = some (.slice A X.f.ws.length c) ∧ w'.cell? ⟨E, 2, none⟩ = some (.slice A2 X.f.cs.length d) ∧ w'.cell? ⟨E, 3, none⟩ = some (.slice M q e0) ∧ w'.cell? ⟨E, 4, none⟩ = some (.int .i64 X.sp) ∧ w'.cell? ⟨E, 5, none⟩ = some (.int .i64 X.w) ∧ w'.cell? ⟨E, 6, none⟩ = some (.int .i64 X.t) ∧ w'.cell? ⟨E, 7, none⟩ = some (.int .i64 X.k) ∧ w'.cell? ⟨E, 8, none⟩ = some (.slice L l lc) ∧ w'.cell? ⟨E, 9, none⟩ = some (.slice T X.wt.length tc) ∧ w'.cell? ⟨E, 10, none⟩ = some (.slice Bc X.f.cs.length dc) ∧ w'.cell? ⟨E, 11, none⟩ = some (.slice (some ⟨B, 0, none⟩) X.ms.length X.ms.length) ∧ w'.cell? ⟨E, 12, none⟩ = some (.map (some km))) (by kernel_rfl) (by kernel_rfl) (by kernel_rfl) (by intro c a d v w h; cases d <;> exact h) ⟨cellOfBlk G0.out 0, cellOfBlk G0.out 1, cellOfBlk G0.out 2, cellOfBlk G0.out 3, cellOfBlk G0.out 4, cellOfBlk G0.out 5, cellOfBlk G0.out 6, cellOfBlk G0.out 7, cellOfBlk G0.out 8, cellOfBlk G0.out 9, cellOfBlk G0.out 10, cellOfBlk G0.out 11, cellOfBlk G0.out 12⟩ ?_
  obtain ⟨w1, hwd⟩ : ∃ x, w0.drew = x := ⟨_, rfl⟩
  have hb1 : Below w0.heap.size w0 w1 := by rw [← hwd]; exact (Below.refl _ _).drew
  have hsz1 : w1.heap.size = w0.heap.size := by rw [← hwd]; rfl
  have P1 := Lib.hid (P0.out.below hb1)
  have T1 := Lib.hid (T0.out.trans (hb1.mono (by omega)))
  have V1 := Lib.hid (V0.out.below (by omega) hb1)
  have L1 := Lib.hid (L0.out.below hb1)
  have G1 := Lib.hid (G0.out.below hb1 (by omega))
  have C11 := Lib.hid ((hb1.cell (World.block_lt_of_cell? _ _ C10.out)).trans C10.out)
  have C21 := Lib.hid ((hb1.cell (World.block_lt_of_cell? _ _ C20.out)).trans C20.out)
  have H1 : Hid (EngX w1 lo E X) := EngX.below H0.out hb1
  have sz1 : w0.heap.size ≤ w1.heap.size := hb1.size
  clear P0 T0 V0 L0 G0 C10 C20 H0
  rw [hwd]
  clear hwd
  iterate 6 (refine plan_quiet rfl (by rfl) (v := ?_) ?_ ?_; rotate_left; (intro w1 hSw; obtain ⟨hs0, hs1, hs2, hs3, hs4, hs5, hs6, hs7, hs8, hs9, hs10, hs11, hs12⟩ := hSw; go_simp; try (with_reducible rfl)); (try simp only [Act.put, List.setIfInBounds_toArray, List.set_cons_zero, List.set_cons_succ]))
  refine plan_step rfl (fun Kc hK => ?_)
  rw [if_pos (by rfl)]
  go_simp
  refine (itemsT_any lo E X w1 H1.out HLN0.out HSET0.out).mono ?_
  rintro e w2 ⟨u, rfl, hO, hb2⟩
  obtain ⟨A5, c5, rfl, hI5, -, hc5, hcm5⟩ := hO.form
  obtain ⟨n5, hn5⟩ : ∃ y, (itemsM X.f X.ln).length = y := ⟨_, rfl⟩
  rw [hn5] at hc5 ⊢
  have HN5 := Lib.hid hn5
  clear hn5
  have P2 := Lib.hid (P1.out.below hb2)
  have T2 := Lib.hid (T1.out.trans (hb2.mono (by omega)))
  have V2 := Lib.hid (V1.out.below (by omega) hb2)
  have L2 := Lib.hid (L1.out.below hb2)
  have G2 := Lib.hid (G1.out.below hb2 (by omega))
  have C12 := Lib.hid ((hb2.cell (World.block_lt_of_cell? _ _ C11.out)).trans C11.out)
  have C22 := Lib.hid ((hb2.cell (World.block_lt_of_cell? _ _ C21.out)).trans C21.out)
  have H2 : Hid (EngX w2 lo E X) := EngX.below H1.out hb2
  have sz2 : w1.heap.size ≤ w2.heap.size := hb2.size
  clear P1 T1 V1 L1 G1 C11 C21 H1
  have I2 : Hid (Ints w2 A5 (itemsM X.f X.ln)) := hI5
  clear hO hI5
  refine hK.out _ _ ⟨cellOfBlk G2.out 0, cellOfBlk G2.out 1, cellOfBlk G2.out 2, cellOfBlk G2.out 3, cellOfBlk G2.out 4, cellOfBlk G2.out 5, cellOfBlk G2.out 6, cellOfBlk G2.out 7, cellOfBlk G2.out 8, cellOfBlk G2.out 9, cellOfBlk G2.out 10, cellOfBlk G2.out 11, cellOfBlk G2.out 12⟩ ?_
  clear hK Kc
  refine plan_step rfl (fun Kc hK => ?_)
  rw [if_pos (by rfl)]
  go_simp
  refine (implIsFull_any X.w X.t X.k A5 n5 c5 (itemsM X.f X.ln) w2 HN5.out (by omega) I2.out).mono ?_
  rintro e w3 ⟨rfl, hb3⟩
  obtain ⟨ok, hok⟩ : ∃ y, fullB ⟨X.w, X.t, X.k⟩ (itemsM X.f X.ln) = y := ⟨_, rfl⟩
  rw [hok]
  have P3 := Lib.hid (P2.out.below hb3)
  have T3 := Lib.hid (T2.out.trans (hb3.mono (by omega)))
  have V3 := Lib.hid (V2.out.below (by omega) hb3)
  have L3 := Lib.hid (L2.out.below hb3)
  have G3 := Lib.hid (G2.out.below hb3 (by omega))
  have C13 := Lib.hid ((hb3.cell (World.block_lt_of_cell? _ _ C12.out)).trans C12.out)
  have C23 := Lib.hid ((hb3.cell (World.block_lt_of_cell? _ _ C22.out)).trans C22.out)
  have H3 : Hid (EngX w3 lo E X) := EngX.below H2.out hb3
  have I3 := Lib.hid (I2.out.below hb3)
  have sz3 : w2.heap.size ≤ w3.heap.size := hb3.size
  clear P2 T2 V2 L2 G2 C12 C22 H2 I2
  refine hK.out _ _ ⟨cellOfBlk G3.out 0, cellOfBlk G3.out 1, cellOfBlk G3.out 2, cellOfBlk G3.out 3, cellOfBlk G3.out 4, cellOfBlk G3.out 5, cellOfBlk G3.out 6, cellOfBlk G3.out 7, cellOfBlk G3.out 8, cellOfBlk G3.out 9, cellOfBlk G3.out 10, cellOfBlk G3.out 11, cellOfBlk G3.out 12⟩ ?_
  clear hK Kc
  refine plan_quiet rfl (by rfl) (v := ?_) ?_ ?_; rotate_left; (intro w1 hSw; obtain ⟨hs0, hs1, hs2, hs3, hs4, hs5, hs6, hs7, hs8, hs9, hs10, hs11, hs12⟩ := hSw; go_simp; try (with_reducible rfl)); (try simp only [Act.put, List.setIfInBounds_toArray, List.set_cons_zero, List.set_cons_succ])
  refine plan_end ?_
  have hr : readyE X (.iface ct1 cu1) (.iface ct2 cu2) = if ok then .nilIface else .iface ct2 cu2 := by unfold readyE; rw [if_neg (by rw [HL.out]; exact HZ.out), hok]
  have HR := Lib.hid hr
  clear hr hok
  have k2 := C23.out
  cases ok
  ·go_wp2
   go_ret
   exact ⟨by rw [HR.out]; rfl, T3.out⟩
  ·go_wp2
   go_ret
   exact ⟨by rw [HR.out]; rfl, T3.out⟩
end Go.Proofs.YtimhnkpccbcohaaGreatDoor
