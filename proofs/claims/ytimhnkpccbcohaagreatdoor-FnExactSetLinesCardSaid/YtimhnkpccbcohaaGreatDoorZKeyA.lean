/-
 add of the engine by contract: the matrix is set if the line still fits the measure. Conditions: a line of at most 120; errNoFit reads as laid.
-/
import Derived.Test.YtimhnkpccbcohaaGreatDoorZPushM
import Derived.Test.YtimhnkpccbcohaaGreatDoorZPkF
import Derived.Test.YtimhnkpccbcohaaGreatDoorZPkG
namespace Go.Proofs.YtimhnkpccbcohaaGreatDoor
open Go.RowKit Go.Conc
set_option linter.unusedVariables false
set_option linter.unusedSimpArgs false

/-- all elder blocks but E, those of the line and those of the channels stay -/
def Elder (E a b B hi : Nat) (w w' : World) : Prop := ∀ k, k < w.heap.size → k ≠ E → ¬ (a ≤ k ∧ k < b) → ¬ (B ≤ k ∧ k < hi) → w'.heap[k]? = w.heap[k]?
def addX (X : Mch) (x : Mat) : Mch := ⟨X.f, X.ms, X.sp, X.w, X.t, X.k, X.ln ++ [x], X.wt⟩
def addOk (X : Mch) (x : Mat) : Bool := goodB ⟨X.w, X.t, X.k⟩ (itemsM X.f (X.ln ++ [x]))
def addM (X : Mch) (x : Mat) : Mch := if addOk X x then addX X x else X
def addE (X : Mch) (x : Mat) (ct : TypeId) (cu : Value) : Value := if addOk X x then .nilIface else .iface ct cu
set_option maxRecDepth 100000 in
set_option maxHeartbeats 12800000 in
theorem engAdd_any (lo E : Nat) (X : Mch) (k1 k2 : Int) (w : World) {A : Option Addr} {c : Nat} {A2 : Option Addr} {d : Nat} {M : Option Addr} {q e0 : Nat} {L : Option Addr} {lc : Nat} {T : Option Addr} {tc : Nat} {Bc : Option Addr} {dc B hi : Nat} {hs : List (Option Nat)} {km f0 f1 l0 l1 t0 t1 p0 p1 : Nat} (hP : EngT w lo E X A c A2 d M q e0 L lc T tc Bc dc B hi hs km f0 f1 l0 l1 t0 t1 p0 p1) (hln : X.ln.length ≤ 120) (hset : ∀ x ∈ X.ln ++ [(k1, k2)], bandM x = true ∨ (0 ≤ x.1 ∧ x.1.toNat < X.f.ws.length)) (ct : TypeId) (cu : Value) (hg : w.cell? ⟨7, 0, none⟩ = some (.iface ct cu)) (hglo : 7 < lo) :
  Calls Tryz.prog 139 #[.pointer (some ⟨E, 0, none⟩), .agg #[.int .i64 k1, .int .i64 k2]] w fun e w' => e = .returned (addE X (k1, k2) ct cu) ∧ (∃ (L' : Option Addr) (lc' l0' l1' : Nat), EngT w' lo E (addM X (k1, k2)) A c A2 d M q e0 L' lc' T tc Bc dc B hi hs km f0 f1 l0' l1' t0 t1 p0 p1 ∧ ((l0' = l0 ∧ l1' = l1) ∨ w.heap.size ≤ l0')) ∧ Below lo w w' ∧ Elder E l0 l1 B hi w w' := by
 have hlow := hP.low
 obtain ⟨hBh, hEw⟩ := hP.at_
 have hp3 := hP.o3; have hp4 := hP.o4
 obtain ⟨w0, hw0⟩ : ∃ x, w = x := ⟨_, rfl⟩
 rw [hw0] at hEw
 obtain ⟨l, hl⟩ : ∃ y, X.ln.length = y := ⟨_, rfl⟩
 rw [hl] at hln
 have HL := Lib.hid hl; have HSET := Lib.hid hset
 clear hl hset
 have P0 : Hid (EngT w0 lo E X A c A2 d M q e0 L lc T tc Bc dc B hi hs km f0 f1 l0 l1 t0 t1 p0 p1) := by show EngT _ _ _ _ _ _ _ _ _ _ _ _ _ _ _ _ _ _ _ _ _ _ _ _ _ _ _ _ _; rw [← hw0]; exact hP
 have T0 : Hid (Below lo w0 w0) := Below.refl _ _
 have R0 : Hid (Elder E l0 l1 B hi w0 w0) := fun k _ _ _ _ => rfl
 have G0 : Hid (w0.cell? ⟨7, 0, none⟩ = some (.iface ct cu)) := by show _ = _; rw [← hw0]; exact hg
 clear hP hg
 have XL : Hid (l1 ≤ w0.heap.size) := P0.out.top.2.1
 obtain ⟨w1, hw1, hb1, hz1, hX1⟩ := mxWorld w0 #[.int .i64 k1, .int .i64 k2] 64
 have P1 := Lib.hid (P0.out.below hb1)
 have T1 := Lib.hid (T0.out.trans (hb1.mono (by omega)))
 have G1 := Lib.hid ((hb1.cell (World.block_lt_of_cell? _ _ G0.out)).trans G0.out)
 have R1 : Hid ((Elder E l0 l1 B hi w0 w1)) := (fun k h1 h2 h3 h4 => (hb1.block k (by omega)).trans (R0.out k h1 h2 h3 h4))
 have sz1 : w0.heap.size ≤ w1.heap.size := hb1.size
 clear P0 T0 G0 R0
 have X1 := Lib.hid hX1
 have hbk := P1.out.blk
 have g8 : w1.cell? ⟨E, 8, none⟩ = some (.slice L l lc) := by rw [← HL.out]; exact cellOfBlk hbk 8
 have x0 := cellOfBlk X1.out 0
 have x1 := cellOfBlk X1.out 1
 clear hbk
 rw [hw0]
 go_enter Tryz.func139, Tryz.ntmps139
 go_upto_region 1 with fail
 refine wp_region_plan (.take 0 (.take 1 (.take 2 (.take 3 (.take 4 (.take 5 (.one 6 (.one 7 (.take 8 .done))))))))) (fun w' => w'.cell? ⟨E, 8, none⟩ = some (.slice L l lc) ∧ w'.cell? ⟨w0.heap.size, 0, none⟩ = some (.int .i64 k1) ∧ w'.cell? ⟨w0.heap.size, 1, none⟩ = some (.int .i64 k2)) (by kernel_rfl) (by kernel_rfl) (by kernel_rfl) (by intro c a d v w h; cases d <;> exact h) ⟨g8, x0, x1⟩ ?_
 iterate 6 (refine plan_quiet rfl (by rfl) (v := ?_) ?_ ?_; rotate_left; (intro w1 hSw; obtain ⟨hs0, hs1, hs2⟩ := hSw; go_simp; try (with_reducible rfl)); (try simp only [Act.put, List.setIfInBounds_toArray, List.set_cons_zero, List.set_cons_succ]))
 obtain ⟨w2, hwd⟩ : ∃ x, w1.drew = x := ⟨_, rfl⟩
 have hb2 : Below w1.heap.size w1 w2 := by rw [← hwd]; exact (Below.refl _ _).drew
 have P2 := Lib.hid (P1.out.below hb2)
 have T2 := Lib.hid (T1.out.trans (hb2.mono (by omega)))
 have G2 := Lib.hid ((hb2.cell (World.block_lt_of_cell? _ _ G1.out)).trans G1.out)
 have R2 : Hid ((Elder E l0 l1 B hi w0 w2)) := (fun k h1 h2 h3 h4 => (hb2.block k (by omega)).trans (R1.out k h1 h2 h3 h4))
 have X2 := Lib.hid (X1.out.below hb2 (by omega))
 have sz2 : w1.heap.size ≤ w2.heap.size := hb2.size
 clear P1 T1 G1 R1 X1
 rw [hwd]
 have y8 := (hb2.cell (p := ⟨E, 8, none⟩) (by show E < _; omega)).trans g8
 have y0 := (hb2.cell (p := ⟨w0.heap.size, 0, none⟩) (by show w0.heap.size < _; omega)).trans x0
 have y1 := (hb2.cell (p := ⟨w0.heap.size, 1, none⟩) (by show w0.heap.size < _; omega)).trans x1
 clear g8 x0 x1 hwd
 refine plan_step rfl (fun Kc hK => ?_)
 rw [if_pos (by rfl)]
 go_simp
 have hba : Below w2.heap.size w2 (w2.alloc (.cells #[.int .i64 k1, .int .i64 k2] 64)) := below_new _ _
 refine hK.out _ _ ⟨(hba.cell (p := ⟨E, 8, none⟩) (by show E < _; omega)).trans y8, (hba.cell (p := ⟨w0.heap.size, 0, none⟩) (by show w0.heap.size < _; omega)).trans y0, (hba.cell (p := ⟨w0.heap.size, 1, none⟩) (by show w0.heap.size < _; omega)).trans y1⟩ ?_
 clear hK Kc hba
 (try simp only [Act.put, List.setIfInBounds_toArray, List.set_cons_zero, List.set_cons_succ])
 refine plan_step rfl (fun Kc hK => ?_)
 have hline : OwnM w2 l0 (.slice L l lc) X.ln := by rw [← HL.out]; exact P2.out.line
 have htop := P2.out.top; have htm := P2.out.t0h
 refine step_pushM w2 (by rfl) (.tmp 10) (.tmp 12) rfl lo (.slice L l lc) X.ln (k1, k2) rfl rfl (hline.base hlow.2.1) (by omega) (by rw [HL.out]; omega) ?_
 intro v3 w3 hN hO hg hf
 obtain ⟨L3, c3, rfl, -⟩ := hN.form
 have hl3 : (X.ln ++ [(k1, k2)]).length = l + 1 := by rw [List.length_append, HL.out]; rfl
 have hc3 : Chg l0 l1 w2 w3 := Chg.of_grown hg (fun g hq => ⟨(hline.lt g hq).1, by have h9 := P2.out.lineT g; rw [HL.out] at h9; exact h9 hq⟩)
 have hlE := P2.out.lE
 unfold Off at hlE
 have hz3 := hg.size
 have hO2 : OwnM w3 l0 (.slice L X.ln.length lc) X.ln := by rw [HL.out]; exact hO.rise (fun k hk => (hline.lt k hk).1)
 have P3 : Hid (EngT w3 lo E X A c A2 d M q e0 L lc T tc Bc dc B hi hs km f0 f1 l0 l1 t0 t1 p0 p1) := P2.out.grownL (by rw [HL.out]; exact hg) hO2
 have HN3 : Hid (OwnM w3 lo (.slice L3 (X.ln ++ [(k1, k2)]).length c3) (X.ln ++ [(k1, k2)])) := hN
 have HF3 : Hid ((Value.slice L3 (l + 1) c3).ownBlock = (Value.slice L l lc).ownBlock ∨ ∀ k, (Value.slice L3 (l + 1) c3).ownBlock = some k → w2.heap.size ≤ k) := by have h9 := hf; rw [hl3] at h9; exact h9
 rw [hl3]
 have T3 : Hid (Below lo w0 w3) := T2.out.trans ((Below.refl lo w2).grown hg (by omega) (fun g hq => by have := (hline.lt g hq).1; omega))
 have R3 : Hid (Elder E l0 l1 B hi w0 w3) := fun k h1 h2 h3 h4 => (hc3.block k (by omega) h3).trans (R2.out k h1 h2 h3 h4)
 have G3 : Hid (w3.cell? ⟨7, 0, none⟩ = some (.iface ct cu)) := (hc3.cell (World.block_lt_of_cell? _ _ G2.out) (by show ¬ (l0 ≤ 7 ∧ 7 < l1); omega)).trans G2.out
 refine hK.out _ _ ⟨(hc3.cell (p := ⟨E, 8, none⟩) (by show E < _; omega) (by show ¬ (l0 ≤ E ∧ E < l1); omega)).trans y8, (hc3.cell (p := ⟨w0.heap.size, 0, none⟩) (by show w0.heap.size < _; omega) (by have h7 := XL.out; show ¬ (l0 ≤ w0.heap.size ∧ w0.heap.size < l1); omega)).trans y0, (hc3.cell (p := ⟨w0.heap.size, 1, none⟩) (by show w0.heap.size < _; omega) (by have h7 := XL.out; show ¬ (l0 ≤ w0.heap.size ∧ w0.heap.size < l1); omega)).trans y1⟩ ?_
 clear hK Kc
 refine plan_quiet rfl (by rfl) (v := ?_) ?_ ?_; rotate_left; (intro w1 hSw; obtain ⟨hs0, hs1, hs2⟩ := hSw; go_simp; try (with_reducible rfl)); (try simp only [Act.put, List.setIfInBounds_toArray, List.set_cons_zero, List.set_cons_succ])
 refine plan_end ?_
 have N3 : Hid (OwnM w3 lo (.slice L3 (X.ln ++ [(k1, k2)]).length c3) (X.ln ++ [(k1, k2)])) := HN3.out
 have hzz : l0 ≤ l0 := Nat.le_refl _
 have HTOP : Hid (f1 ≤ w2.heap.size ∧ t1 ≤ w2.heap.size ∧ E < w2.heap.size ∧ t0 ≤ w2.heap.size) := ⟨by omega, by omega, by omega, by omega⟩
 have sz3 : w2.heap.size ≤ w3.heap.size := hz3
 clear HN3 hN hO hg hf hO2 hline hc3 y8 y0 y1 T2 P2 G2 R2 X2 hzz hz3
 have hbk := P3.out.blk
 have g0 : w3.cell? ⟨E, 0, none⟩ = some (.string X.f.s) := cellOfBlk hbk 0
 have g1 : w3.cell? ⟨E, 1, none⟩ = some (.slice A X.f.ws.length c) := cellOfBlk hbk 1
 have g2 : w3.cell? ⟨E, 2, none⟩ = some (.slice A2 X.f.cs.length d) := cellOfBlk hbk 2
 have g5 : w3.cell? ⟨E, 5, none⟩ = some (.int .i64 X.w) := cellOfBlk hbk 5
 have g6 : w3.cell? ⟨E, 6, none⟩ = some (.int .i64 X.t) := cellOfBlk hbk 6
 have g7 : w3.cell? ⟨E, 7, none⟩ = some (.int .i64 X.k) := cellOfBlk hbk 7
 clear hbk
 go_upto_region 2 with fail
 refine wp_region_plan (.take 0 (.take 1 (.take 2 (.take 3 (.take 4 (.take 5 (.take 6 (.take 7 (.take 8 (.take 9 (.take 10 (.one 11 (.one 12 (.take 13 .done)))))))))))))) (fun w' => w'.cell? ⟨E, 0, none⟩ = some (.string X.f.s) ∧ w'.cell? ⟨E, 1, none⟩ = some (.slice A X.f.ws.length c) ∧ w'.cell? ⟨E, 2, none⟩ = some (.slice A2 X.f.cs.length d) ∧ w'.cell? ⟨E, 5, none⟩ = some (.int .i64 X.w) ∧ w'.cell? ⟨E, 6, none⟩ = some (.int .i64 X.t) ∧ w'.cell? ⟨E, 7, none⟩ = some (.int .i64 X.k)) (by kernel_rfl) (by kernel_rfl) (by kernel_rfl) (by intro c a d v w h; cases d <;> exact h) ⟨g0, g1, g2, g5, g6, g7⟩ ?_
 iterate 11 (refine plan_quiet rfl (by rfl) (v := ?_) ?_ ?_; rotate_left; (intro w1 hSw; obtain ⟨hs0, hs1, hs2, hs3, hs4, hs5⟩ := hSw; go_simp; try (with_reducible rfl)); (try simp only [Act.put, List.setIfInBounds_toArray, List.set_cons_zero, List.set_cons_succ]))
 obtain ⟨w4, hwd⟩ : ∃ x, w3.drew = x := ⟨_, rfl⟩
 have hb4 : Below w3.heap.size w3 w4 := by rw [← hwd]; exact (Below.refl _ _).drew
 rw [hwd]
 clear hwd
 have P4 := Lib.hid (P3.out.below hb4)
 have T4 := Lib.hid (T3.out.trans (hb4.mono (by omega)))
 have G4 := Lib.hid ((hb4.cell (World.block_lt_of_cell? _ _ G3.out)).trans G3.out)
 have R4 : Hid ((Elder E l0 l1 B hi w0 w4)) := (fun k h1 h2 h3 h4 => (hb4.block k (by omega)).trans (R3.out k h1 h2 h3 h4))
 have N4 := Lib.hid (N3.out.below hb4)
 have sz4 : w3.heap.size ≤ w4.heap.size := hb4.size
 clear P3 T3 G3 R3 N3
 have g0 := (hb4.cell (p := ⟨E, 0, none⟩) (by show E < _; omega)).trans g0
 have g1 := (hb4.cell (p := ⟨E, 1, none⟩) (by show E < _; omega)).trans g1
 have g2 := (hb4.cell (p := ⟨E, 2, none⟩) (by show E < _; omega)).trans g2
 have g5 := (hb4.cell (p := ⟨E, 5, none⟩) (by show E < _; omega)).trans g5
 have g6 := (hb4.cell (p := ⟨E, 6, none⟩) (by show E < _; omega)).trans g6
 have g7 := (hb4.cell (p := ⟨E, 7, none⟩) (by show E < _; omega)).trans g7
 refine plan_step rfl (fun Kc hK => ?_)
 rw [if_pos (by rfl)]
 go_simp
 have htp := P4.out.top
 refine (itemsOf_any f0 f1 lo w4.heap.size _ X.f L3 (l + 1) c3 (X.ln ++ [(k1, k2)]) w4 P4.out.font.font htp.1 hl3 (by omega) (OwnM.reads N4.out) (Nat.le_refl _) HSET.out).mono ?_
 rintro e w5 ⟨u, rfl, hO5, hb5⟩
 obtain ⟨A5, c5, rfl, hI5, -, hc5, hcm5⟩ := hO5.form
 obtain ⟨n5, hn5⟩ : ∃ y, (itemsM X.f (X.ln ++ [(k1, k2)])).length = y := ⟨_, rfl⟩
 have hn6 : n5 = l + 1 := by rw [← hn5]; unfold itemsM; rw [List.length_map]; exact hl3
 rw [hn5] at hc5 ⊢
 have HN5 := Lib.hid hn5
 clear hn5 htp
 have P5 := Lib.hid (P4.out.below hb5)
 have T5 := Lib.hid (T4.out.trans (hb5.mono (by omega)))
 have G5 := Lib.hid ((hb5.cell (World.block_lt_of_cell? _ _ G4.out)).trans G4.out)
 have R5 : Hid ((Elder E l0 l1 B hi w0 w5)) := (fun k h1 h2 h3 h4 => (hb5.block k (by omega)).trans (R4.out k h1 h2 h3 h4))
 have N5 := Lib.hid (N4.out.below hb5)
 have sz5 : w4.heap.size ≤ w5.heap.size := hb5.size
 clear P4 T4 G4 R4 N4
 have g0 := (hb5.cell (p := ⟨E, 0, none⟩) (by show E < _; omega)).trans g0
 have g1 := (hb5.cell (p := ⟨E, 1, none⟩) (by show E < _; omega)).trans g1
 have g2 := (hb5.cell (p := ⟨E, 2, none⟩) (by show E < _; omega)).trans g2
 have g5 := (hb5.cell (p := ⟨E, 5, none⟩) (by show E < _; omega)).trans g5
 have g6 := (hb5.cell (p := ⟨E, 6, none⟩) (by show E < _; omega)).trans g6
 have g7 := (hb5.cell (p := ⟨E, 7, none⟩) (by show E < _; omega)).trans g7
 have I5 : Hid (Ints w5 A5 (itemsM X.f (X.ln ++ [(k1, k2)]))) := hI5
 clear hO5 hI5
 refine hK.out _ _ ⟨g0, g1, g2, g5, g6, g7⟩ ?_
 clear hK Kc
 refine plan_step rfl (fun Kc hK => ?_)
 rw [if_pos (by rfl)]
 go_simp
 refine (isFitting_any X.w X.t X.k A5 (l + 1) c5 (itemsM X.f (X.ln ++ [(k1, k2)])) w5 (HN5.out.trans hn6) (by unfold maxLen; omega) I5.out).mono ?_
 rintro e w6 ⟨rfl, hb6⟩
 have P6 := Lib.hid (P5.out.below hb6)
 have T6 := Lib.hid (T5.out.trans (hb6.mono (by omega)))
 have G6 := Lib.hid ((hb6.cell (World.block_lt_of_cell? _ _ G5.out)).trans G5.out)
 have R6 : Hid ((Elder E l0 l1 B hi w0 w6)) := (fun k h1 h2 h3 h4 => (hb6.block k (by omega)).trans (R5.out k h1 h2 h3 h4))
 have N6 := Lib.hid (N5.out.below hb6)
 have sz6 : w5.heap.size ≤ w6.heap.size := hb6.size
 clear P5 T5 G5 R5 N5
 have g0 := (hb6.cell (p := ⟨E, 0, none⟩) (by show E < _; omega)).trans g0
 have g1 := (hb6.cell (p := ⟨E, 1, none⟩) (by show E < _; omega)).trans g1
 have g2 := (hb6.cell (p := ⟨E, 2, none⟩) (by show E < _; omega)).trans g2
 have g5 := (hb6.cell (p := ⟨E, 5, none⟩) (by show E < _; omega)).trans g5
 have g6 := (hb6.cell (p := ⟨E, 6, none⟩) (by show E < _; omega)).trans g6
 have g7 := (hb6.cell (p := ⟨E, 7, none⟩) (by show E < _; omega)).trans g7
 refine hK.out _ _ ⟨g0, g1, g2, g5, g6, g7⟩ ?_
 clear hK Kc I5
 refine plan_quiet rfl (by rfl) (v := ?_) ?_ ?_; rotate_left; (intro w1 hSw; obtain ⟨hs0, hs1, hs2, hs3, hs4, hs5⟩ := hSw; go_simp; try (with_reducible rfl)); (try simp only [Act.put, List.setIfInBounds_toArray, List.set_cons_zero, List.set_cons_succ])
 refine plan_end ?_
 clear g0 g1 g2 g5 g6 g7 hn6
 have HADD : Hid (addOk X (k1, k2) = goodB ⟨X.w, X.t, X.k⟩ (itemsM X.f (X.ln ++ [(k1, k2)]))) := rfl
 cases hgb : goodB ⟨X.w, X.t, X.k⟩ (itemsM X.f (X.ln ++ [(k1, k2)]))
 ·have HOFF := Lib.hid (HADD.out.trans hgb)
  have g9 := G6.out
  go_wp2
  go_ret
  unfold addE addM
  rw [HOFF.out]
  exact ⟨rfl, ⟨L, lc, l0, l1, P6.out, .inl ⟨rfl, rfl⟩⟩, T6.out, R6.out⟩
 ·have HON := Lib.hid (HADD.out.trans hgb)
  have f8 := P6.out.blk.warm 8
  have g8 : w6.cell? ⟨E, 8, none⟩ = some (.slice L l lc) := by rw [← HL.out]; exact cellOfBlk P6.out.blk 8
  have hTP := HTOP.out
  obtain ⟨l0', l1', hrel, hnew⟩ := P6.out.setLine (z := w2.heap.size) ⟨hTP.1, hTP.2.1, hTP.2.2.1, by omega, hTP.2.2.2⟩ N6.out (by rw [hl3, HL.out]; exact HF3.out)
  rw [hl3] at hnew
  have HNEW := Lib.hid hnew
  have HREL : Hid ((l0' = l0 ∧ l1' = l1) ∨ w0.heap.size ≤ l0') := by
   rcases hrel with h9 | h9
   ·exact .inl h9
   ·right; show w0.heap.size ≤ l0'; omega
  clear hnew hrel
  go_wp2
  go_ret
  unfold addE addM
  rw [HON.out]
  refine ⟨rfl, ⟨_, _, _, _, HNEW.out, HREL.out⟩, T6.out.setCell (p := ⟨E, 8, none⟩) (by show lo ≤ E; omega) _, fun k h1 h2 h3 h4 => ((chg_one w6 E 8 _).block k (by omega) (by omega)).trans (R6.out k h1 h2 h3 h4)⟩
end Go.Proofs.YtimhnkpccbcohaaGreatDoor
