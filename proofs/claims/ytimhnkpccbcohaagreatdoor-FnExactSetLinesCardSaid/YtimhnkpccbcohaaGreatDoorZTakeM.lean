/-
 take, put and drop of a machine's magazine by contract.
-/
import Derived.Test.YtimhnkpccbcohaaGreatDoorZPkI
import Derived.Test.YtimhnkpccbcohaaGreatDoorZAsG
namespace Go.Proofs.YtimhnkpccbcohaaGreatDoor
open Go.RowKit Go.Conc
set_option linter.unusedVariables false
set_option linter.unusedSimpArgs false

set_option maxRecDepth 100000 in
set_option maxHeartbeats 3200000 in
theorem take_hit (cv : Value) (B hi n : Nat) (hs : List (Option Nat)) (ms : List (List Mat)) (i : Nat) (w : World) (hmd : Made hs n n) (h : ChM w B hi (.slice (some ⟨B, 0, none⟩) n n) hs ms) (hhi : hi ≤ w.heap.size) (hin : i < n) (x : Mat) (xs : List Mat) (hx : ms[i]? = some (x :: xs)) :
  Calls Tryz.prog 140 #[.agg #[cv, .slice (some ⟨B, 0, none⟩) n n], .int .i64 i] w fun e w' => e = .returned (.tuple #[cvM x, .nilIface]) ∧ ChM w' B hi (.slice (some ⟨B, 0, none⟩) n n) hs (ms.set i xs) ∧ Chg B hi w w' := by
 have hBh := h.top B rfl
 have hBw : B < w.heap.size := by omega
 obtain ⟨wa, hwa, hba, hza, Ra⟩ := mxWorld w #[cv, .slice (some ⟨B, 0, none⟩) n n] 113
 obtain ⟨w1, hw1, hb1, hz1, E1⟩ := mxWorld wa #[.int .i64 0, .int .i64 0] 64
 rw [hza] at E1 hz1
 have b1 : Below w.heap.size w w1 := hba.trans (hb1.mono (by omega))
 have H1 := h.keep (w' := w1) (fun b _ h2 => b1.block b (by omega))
 have R1 := Ra.below hb1 (by omega)
 have q1 := cellOfBlk R1 1
 obtain ⟨c, hci⟩ := hmd.2.1 i hin
 have ho := H1.outer
 rw [hmd.1] at ho
 have ce1 := (ho.cellAt i (by omega)).trans (show (hs.map Value.chan)[i]? = some (.chan (some c)) from by rw [List.getElem?_map, hci]; rfl)
 have hini : (i : Int) < (n : Int) := by omega
 obtain ⟨sN, rN, hch⟩ := H1.at_ hci hx
 have hcB := (H1.place i c hci).1
 have hch2 := (H1.place i c hci).2.1
 have e0 := cellOfBlk E1 0
 have e1 := cellOfBlk E1 1
 have f0 := E1.warm 0
 have f1 := E1.warm 1
 have hel := E1.lt
 skip
 clear ho Ra
 go_enter Tryz.func140, Tryz.ntmps140
 go_upto_region 2 with fail
 refine RegTo.region ?_
 refine RegTo.sel_recv (rest := [1, 2]) rfl (by rfl) (by go_simp; rfl) (z := .agg #[.int .i64 0, .int .i64 0]) hch (by rw [bufM_size]; simp) ?_
 rw [bufM_head, bufM_tail]
 simp only [List.getElem_toArray, List.getElem_cons_zero, List.getElem_cons_succ, Act.put, List.setIfInBounds_toArray, List.set_cons_zero, List.set_cons_succ]
 have hcg := chg_setChan w1 c 20 (bufM xs) false sN (rN + 1) false
 have H2 := H1.comm hci xs sN (rN + 1)
 obtain ⟨w2, hw2⟩ : ∃ y, w1.setChan c 20 (bufM xs) false sN (rN + 1) false = y := ⟨_, rfl⟩
 rw [hw2] at hcg H2 ⊢
 have E2 : Blk w2 (w.heap.size + 1) #[.int .i64 0, .int .i64 0] 64 := (hcg.block _ (by omega) (by omega)).trans E1
 have b2 : Chg B hi w w2 := (Chg.of_below b1).trans (hcg.wide hcB (by omega))
 have hz2 := hcg.size
 clear e0 e1 f0 f1 hw2 hcg hch ce1 H1 R1 q1 E1 b1
 obtain ⟨k1, k2⟩ := x
 unfold cvM
 refine RegTo.value (rest := [2]) rfl (by rfl) (v := .int .i64 (0)) (w' := w2) (by go_simp) ?_
 simp only [List.getElem_toArray, List.getElem_cons_zero, List.getElem_cons_succ, Act.put, List.setIfInBounds_toArray, List.set_cons_zero, List.set_cons_succ]
 refine RegTo.value (rest := []) rfl (by rfl) (v := .bool true) (w' := w2) (by go_simp) ?_
 simp only [List.getElem_toArray, List.getElem_cons_zero, List.getElem_cons_succ, Act.put, List.setIfInBounds_toArray, List.set_cons_zero, List.set_cons_succ]
 refine RegTo.nil ?_
 obtain ⟨w3, hw3, hb3, hz3, X3⟩ := mxWorld w2 #[.int .i64 k1, .int .i64 k2] 64
 have c0 := cellOfBlk X3 0
 have c1 := cellOfBlk X3 1
 have E3 := E2.below hb3 E2.lt
 have e0 := cellOfBlk E3 0
 have e1 := cellOfBlk E3 1
 have f0 := E3.warm 0
 have f1 := E3.warm 1
 have H3 := H2.below (by omega) hb3
 go_wp2
 have hcg := chg_two w3 (w.heap.size + 1) (.int .i64 k1) (.int .i64 k2)
 have ry := E3.fill2 (.int .i64 k1) (.int .i64 k2)
 obtain ⟨y, hy⟩ : ∃ x, (w3.setCell ⟨w.heap.size + 1, 0, none⟩ (.int .i64 k1)).setCell ⟨w.heap.size + 1, 1, none⟩ (.int .i64 k2) = x := ⟨_, rfl⟩
 rw [hy] at hcg ry ⊢
 have y0 := cellOfBlk ry 0
 have y1 := cellOfBlk ry 1
 refine bodyPost_ret (v := .tuple #[.agg #[.int .i64 k1, .int .i64 k2], .nilIface]) (by simp [results, Tryz.results140, go_sem, y0, y1]) rfl ?_
 exact ⟨rfl, H3.chg (by omega) hcg (.inl (by omega)), (b2.trans (Chg.of_below hb3)).upon hcg (by omega)⟩
set_option maxRecDepth 100000 in
set_option maxHeartbeats 3200000 in
theorem take_none (cv : Value) (B hi n : Nat) (hs : List (Option Nat)) (ms : List (List Mat)) (i : Nat) (w : World) (hmd : Made hs n n) (h : ChM w B hi (.slice (some ⟨B, 0, none⟩) n n) hs ms) (hhi : hi ≤ w.heap.size) (hin : i < n) (ct : TypeId) (cu : Value) (hg : w.cell? ⟨8, 0, none⟩ = some (.iface ct cu)) (hx : ms[i]? = some []) :
  Calls Tryz.prog 140 #[.agg #[cv, .slice (some ⟨B, 0, none⟩) n n], .int .i64 i] w fun e w' => e = .returned (.tuple #[.agg #[.int .i64 0, .int .i64 0], .iface 183 (.agg #[.int .i64 i, .iface ct cu])]) ∧ ChM w' B hi (.slice (some ⟨B, 0, none⟩) n n) hs ms ∧ Chg B hi w w' := by
 have hBh := h.top B rfl
 have hBw : B < w.heap.size := by omega
 obtain ⟨wa, hwa, hba, hza, Ra⟩ := mxWorld w #[cv, .slice (some ⟨B, 0, none⟩) n n] 113
 obtain ⟨w1, hw1, hb1, hz1, E1⟩ := mxWorld wa #[.int .i64 0, .int .i64 0] 64
 rw [hza] at E1 hz1
 have b1 : Below w.heap.size w w1 := hba.trans (hb1.mono (by omega))
 have H1 := h.keep (w' := w1) (fun b _ h2 => b1.block b (by omega))
 have R1 := Ra.below hb1 (by omega)
 have q1 := cellOfBlk R1 1
 obtain ⟨c, hci⟩ := hmd.2.1 i hin
 have ho := H1.outer
 rw [hmd.1] at ho
 have ce1 := (ho.cellAt i (by omega)).trans (show (hs.map Value.chan)[i]? = some (.chan (some c)) from by rw [List.getElem?_map, hci]; rfl)
 have hini : (i : Int) < (n : Int) := by omega
 obtain ⟨sN, rN, hch⟩ := H1.at_ hci hx
 have hcB := (H1.place i c hci).1
 have hch2 := (H1.place i c hci).2.1
 have e0 := cellOfBlk E1 0
 have e1 := cellOfBlk E1 1
 have f0 := E1.warm 0
 have f1 := E1.warm 1
 have hel := E1.lt
 have g1 := (b1.cell (World.block_lt_of_cell? _ _ hg)).trans hg
 clear ho Ra
 go_enter Tryz.func140, Tryz.ntmps140
 go_upto_region 2 with fail
 refine RegTo.region ?_
 refine RegTo.sel_none (rest := [1, 2]) rfl (by rfl) (by go_simp; rfl) (z := .agg #[.int .i64 0, .int .i64 0]) hch ?_
 simp only [List.getElem_toArray, List.getElem_cons_zero, List.getElem_cons_succ, Act.put, List.setIfInBounds_toArray, List.set_cons_zero, List.set_cons_succ]
 refine RegTo.value (rest := [2]) rfl (by rfl) (v := .int .i64 (-1)) (w' := w1) (by go_simp) ?_
 simp only [List.getElem_toArray, List.getElem_cons_zero, List.getElem_cons_succ, Act.put, List.setIfInBounds_toArray, List.set_cons_zero, List.set_cons_succ]
 refine RegTo.value (rest := []) rfl (by rfl) (v := .bool false) (w' := w1) (by go_simp) ?_
 simp only [List.getElem_toArray, List.getElem_cons_zero, List.getElem_cons_succ, Act.put, List.setIfInBounds_toArray, List.set_cons_zero, List.set_cons_succ]
 refine RegTo.nil ?_
 have H1 := Lib.hid H1
 have E1 := Lib.hid E1
 have b1 := Lib.hid b1
 go_upto_region 3 with fail
 have hgl := World.block_lt_of_cell? _ _ hg
 simp only at hgl
 have gX : ((w1.setCell ⟨w.heap.size + 1, 0, none⟩ (.int .i64 0)).setCell ⟨w.heap.size + 1, 1, none⟩ (.int .i64 0)).drew.cell? ⟨8, 0, none⟩ = some (.iface ct cu) := (((chg_two w1 (w.heap.size + 1) (.int .i64 0) (.int .i64 0)).trans (Chg.of_below ((Below.refl _ _).drew))).cell (p := ⟨8, 0, none⟩) (World.block_lt_of_cell? _ _ g1) (by show ¬(w.heap.size + 1 ≤ 8 ∧ 8 < w.heap.size + 1 + 1); omega)).trans g1
 have gY : ((w1.setCell ⟨w.heap.size + 1, 0, none⟩ (.int .i64 0)).setCell ⟨w.heap.size + 1, 1, none⟩ (.int .i64 0)).cell? ⟨8, 0, none⟩ = some (.iface ct cu) := gX
 clear hmd hini hci hch ce1 R1 q1
 go_region
 have hcg : Chg (w.heap.size + 1) (w.heap.size + 1 + 1) w1 ((w1.setCell ⟨w.heap.size + 1, 0, none⟩ (.int .i64 0)).setCell ⟨w.heap.size + 1, 1, none⟩ (.int .i64 0)).drew := (chg_two w1 (w.heap.size + 1) (.int .i64 0) (.int .i64 0)).trans (Chg.of_below ((Below.refl _ _).drew))
 have ry : Blk ((w1.setCell ⟨w.heap.size + 1, 0, none⟩ (.int .i64 0)).setCell ⟨w.heap.size + 1, 1, none⟩ (.int .i64 0)).drew (w.heap.size + 1) #[.int .i64 0, .int .i64 0] 64 := E1.out.fill2 (.int .i64 0) (.int .i64 0)
 obtain ⟨y, hy⟩ : ∃ x, ((w1.setCell ⟨w.heap.size + 1, 0, none⟩ (.int .i64 0)).setCell ⟨w.heap.size + 1, 1, none⟩ (.int .i64 0)).drew = x := ⟨_, rfl⟩
 rw [hy] at hcg ry ⊢
 have y0 := cellOfBlk ry 0
 have y1 := cellOfBlk ry 1
 go_wp2
 refine bodyPost_ret (v := .tuple #[.agg #[.int .i64 0, .int .i64 0], .iface 183 (.agg #[.int .i64 i, .iface ct cu])]) (by simp [results, Tryz.results140, go_sem, y0, y1]) rfl ?_
 exact ⟨rfl, H1.out.chg (by omega) hcg (.inl (by omega)), (Chg.of_below b1.out).upon hcg (by omega)⟩
set_option maxRecDepth 100000 in
set_option maxHeartbeats 3200000 in
theorem put_room (cv : Value) (B hi n : Nat) (hs : List (Option Nat)) (ms : List (List Mat)) (i : Nat) (w : World) (hmd : Made hs n n) (h : ChM w B hi (.slice (some ⟨B, 0, none⟩) n n) hs ms) (hhi : hi ≤ w.heap.size) (hin : i < n) (k1 k2 : Int) (xs : List Mat) (hx : ms[i]? = some xs) (hl : xs.length < 20) :
  Calls Tryz.prog 118 #[.agg #[cv, .slice (some ⟨B, 0, none⟩) n n], .int .i64 i, .agg #[.int .i64 k1, .int .i64 k2]] w fun e w' => e = .returned (.nilIface) ∧ ChM w' B hi (.slice (some ⟨B, 0, none⟩) n n) hs (ms.set i (xs ++ [(k1, k2)])) ∧ Chg B hi w w' := by
 have hBh := h.top B rfl
 have hBw : B < w.heap.size := by omega
 obtain ⟨wa, hwa, hba, hza, Ra⟩ := mxWorld w #[cv, .slice (some ⟨B, 0, none⟩) n n] 113
 obtain ⟨w1, hw1, hb1, hz1, E1⟩ := mxWorld wa #[.int .i64 k1, .int .i64 k2] 64
 rw [hza] at E1 hz1
 have b1 : Below w.heap.size w w1 := hba.trans (hb1.mono (by omega))
 have H1 := h.keep (w' := w1) (fun b _ h2 => b1.block b (by omega))
 have R1 := Ra.below hb1 (by omega)
 have q1 := cellOfBlk R1 1
 obtain ⟨c, hci⟩ := hmd.2.1 i hin
 have ho := H1.outer
 rw [hmd.1] at ho
 have ce1 := (ho.cellAt i (by omega)).trans (show (hs.map Value.chan)[i]? = some (.chan (some c)) from by rw [List.getElem?_map, hci]; rfl)
 have hini : (i : Int) < (n : Int) := by omega
 obtain ⟨sN, rN, hch⟩ := H1.at_ hci hx
 have hcB := (H1.place i c hci).1
 have hch2 := (H1.place i c hci).2.1
 have e0 := cellOfBlk E1 0
 have e1 := cellOfBlk E1 1
 have f0 := E1.warm 0
 have f1 := E1.warm 1
 have hel := E1.lt
 clear ho Ra
 go_enter Tryz.func118, Tryz.ntmps118
 go_upto_region 3 with fail
 refine RegTo.region ?_
 refine RegTo.sel_send (rest := [1, 2]) rfl (by rfl) (v := .agg #[.int .i64 k1, .int .i64 k2]) (z := .agg #[.int .i64 0, .int .i64 0]) (by go_simp; rfl) hch (by rw [bufM_size]; exact hl) ?_
 rw [show (Value.agg #[.int .i64 k1, .int .i64 k2]) = cvM (k1, k2) from rfl, bufM_push]
 simp only [List.getElem_toArray, List.getElem_cons_zero, List.getElem_cons_succ, Act.put, List.setIfInBounds_toArray, List.set_cons_zero, List.set_cons_succ]
 have hcg := chg_setChan w1 c 20 (bufM (xs ++ [(k1, k2)])) false (sN + 1) rN false
 have H2 := H1.comm hci (xs ++ [(k1, k2)]) (sN + 1) rN
 obtain ⟨w2, hw2⟩ : ∃ y, w1.setChan c 20 (bufM (xs ++ [(k1, k2)])) false (sN + 1) rN false = y := ⟨_, rfl⟩
 rw [hw2] at hcg H2 ⊢
 have b2 : Chg B hi w w2 := (Chg.of_below b1).trans (hcg.wide hcB (by omega))
 clear hw2 hch ce1 q1
 refine RegTo.value (rest := [2]) rfl (by rfl) (v := .int .i64 (0)) (w' := w2) (by go_simp) ?_
 simp only [List.getElem_toArray, List.getElem_cons_zero, List.getElem_cons_succ, Act.put, List.setIfInBounds_toArray, List.set_cons_zero, List.set_cons_succ]
 refine RegTo.value (rest := []) rfl (by rfl) (v := .bool true) (w' := w2) (by go_simp) ?_
 simp only [List.getElem_toArray, List.getElem_cons_zero, List.getElem_cons_succ, Act.put, List.setIfInBounds_toArray, List.set_cons_zero, List.set_cons_succ]
 refine RegTo.nil ?_
 go_wp2
 go_ret
 exact ⟨rfl, H2, b2⟩
set_option maxRecDepth 100000 in
set_option maxHeartbeats 3200000 in
theorem put_full (cv : Value) (B hi n : Nat) (hs : List (Option Nat)) (ms : List (List Mat)) (i : Nat) (w : World) (hmd : Made hs n n) (h : ChM w B hi (.slice (some ⟨B, 0, none⟩) n n) hs ms) (hhi : hi ≤ w.heap.size) (hin : i < n) (k1 k2 : Int) (xs : List Mat) (ct : TypeId) (cu : Value) (hg : w.cell? ⟨0, 0, none⟩ = some (.iface ct cu)) (hx : ms[i]? = some xs) (hl : 20 ≤ xs.length) :
  Calls Tryz.prog 118 #[.agg #[cv, .slice (some ⟨B, 0, none⟩) n n], .int .i64 i, .agg #[.int .i64 k1, .int .i64 k2]] w fun e w' => e = .returned (.iface 183 (.agg #[.int .i64 i, .iface ct cu])) ∧ ChM w' B hi (.slice (some ⟨B, 0, none⟩) n n) hs ms ∧ Chg B hi w w' := by
 have hBh := h.top B rfl
 have hBw : B < w.heap.size := by omega
 obtain ⟨wa, hwa, hba, hza, Ra⟩ := mxWorld w #[cv, .slice (some ⟨B, 0, none⟩) n n] 113
 obtain ⟨w1, hw1, hb1, hz1, E1⟩ := mxWorld wa #[.int .i64 k1, .int .i64 k2] 64
 rw [hza] at E1 hz1
 have b1 : Below w.heap.size w w1 := hba.trans (hb1.mono (by omega))
 have H1 := h.keep (w' := w1) (fun b _ h2 => b1.block b (by omega))
 have R1 := Ra.below hb1 (by omega)
 have q1 := cellOfBlk R1 1
 obtain ⟨c, hci⟩ := hmd.2.1 i hin
 have ho := H1.outer
 rw [hmd.1] at ho
 have ce1 := (ho.cellAt i (by omega)).trans (show (hs.map Value.chan)[i]? = some (.chan (some c)) from by rw [List.getElem?_map, hci]; rfl)
 have hini : (i : Int) < (n : Int) := by omega
 obtain ⟨sN, rN, hch⟩ := H1.at_ hci hx
 have hcB := (H1.place i c hci).1
 have hch2 := (H1.place i c hci).2.1
 have e0 := cellOfBlk E1 0
 have e1 := cellOfBlk E1 1
 have f0 := E1.warm 0
 have f1 := E1.warm 1
 have hel := E1.lt
 have g1 := (b1.cell (World.block_lt_of_cell? _ _ hg)).trans hg
 clear ho Ra
 go_enter Tryz.func118, Tryz.ntmps118
 go_upto_region 3 with fail
 refine RegTo.region ?_
 refine RegTo.sel_full (rest := [1, 2]) rfl (by rfl) (v := .agg #[.int .i64 k1, .int .i64 k2]) (z := .agg #[.int .i64 0, .int .i64 0]) (by go_simp; rfl) hch (by rw [bufM_size]; exact hl) ?_
 simp only [List.getElem_toArray, List.getElem_cons_zero, List.getElem_cons_succ, Act.put, List.setIfInBounds_toArray, List.set_cons_zero, List.set_cons_succ]
 refine RegTo.value (rest := [2]) rfl (by rfl) (v := .int .i64 (-1)) (w' := w1) (by go_simp) ?_
 simp only [List.getElem_toArray, List.getElem_cons_zero, List.getElem_cons_succ, Act.put, List.setIfInBounds_toArray, List.set_cons_zero, List.set_cons_succ]
 refine RegTo.value (rest := []) rfl (by rfl) (v := .bool false) (w' := w1) (by go_simp) ?_
 simp only [List.getElem_toArray, List.getElem_cons_zero, List.getElem_cons_succ, Act.put, List.setIfInBounds_toArray, List.set_cons_zero, List.set_cons_succ]
 refine RegTo.nil ?_
 go_wp2
 go_ret
 exact ⟨rfl, H1, Chg.of_below b1⟩
set_option maxRecDepth 100000 in
set_option maxHeartbeats 3200000 in
theorem drop_room (Bc : Option Addr) (k dc : Nat) (zs : List Int) (B hi n : Nat) (hs : List (Option Nat)) (ms : List (List Mat)) (i : Nat) (w : World) (hmd : Made hs n n) (h : ChM w B hi (.slice (some ⟨B, 0, none⟩) n n) hs ms) (hhi : hi ≤ w.heap.size) (hin : i < n) (k1 k2 : Int) (xs : List Mat) (hzk : zs.length = k) (hkm : k ≤ maxLen) (hzs : Ints w Bc zs) (hfa : fallOf zs k2 = i) (hx : ms[i]? = some xs) (hl : xs.length < 20) :
  Calls Tryz.prog 84 #[.agg #[.slice Bc k dc, .slice (some ⟨B, 0, none⟩) n n], .agg #[.int .i64 k1, .int .i64 k2]] w fun e w' => e = .returned (.tuple #[.int .i64 i, .nilIface]) ∧ ChM w' B hi (.slice (some ⟨B, 0, none⟩) n n) hs (ms.set i (xs ++ [(k1, k2)])) ∧ Chg B hi w w' := by
 have hBh := h.top B rfl
 have hBw : B < w.heap.size := by omega
 obtain ⟨wa, hwa, hba, hza, Ra⟩ := mxWorld w #[.slice Bc k dc, .slice (some ⟨B, 0, none⟩) n n] 113
 obtain ⟨w1, hw1, hb1, hz1, E1⟩ := mxWorld wa #[.int .i64 k1, .int .i64 k2] 64
 rw [hza] at E1 hz1
 have b1 : Below w.heap.size w w1 := hba.trans (hb1.mono (by omega))
 have H1 := Lib.hid (h.keep (w' := w1) (fun b _ h2 => b1.block b (by omega)))
 have R1 := Ra.below hb1 (by omega)
 have q0 := cellOfBlk R1 0
 have q1 := cellOfBlk R1 1
 have e0 := cellOfBlk E1 0
 have e1 := cellOfBlk E1 1
 have I1 := Lib.hid (hzs.below b1)
 have B1 := Lib.hid b1
 have HM := Lib.hid hmd
 have hz9 : hi ≤ w1.heap.size := by have := b1.size; omega
 have HX := Lib.hid hx
 clear Ra h hzs b1 hmd hx
 go_enter Tryz.func84, Tryz.ntmps84
 go_wp2_with first
  | (go_at_call 117; refine (fall_any _ _ _ zs _ _ hzk hkm I1.out).mono ?_; rintro e w' ⟨rfl, rfl⟩; rw [hfa])
  | (go_at_call 118; refine (put_room (.slice Bc k dc) B hi n hs ms i w1 HM.out H1.out hz9 hin k1 k2 xs HX.out hl).mono ?_; rintro e w2 ⟨rfl, hC2, hb2⟩)
 go_ret2
 exact ⟨rfl, hC2, (Chg.of_below B1.out).trans hb2⟩
set_option maxRecDepth 100000 in
set_option maxHeartbeats 3200000 in
theorem drop_full (Bc : Option Addr) (k dc : Nat) (zs : List Int) (B hi n : Nat) (hs : List (Option Nat)) (ms : List (List Mat)) (i : Nat) (w : World) (hmd : Made hs n n) (h : ChM w B hi (.slice (some ⟨B, 0, none⟩) n n) hs ms) (hhi : hi ≤ w.heap.size) (hin : i < n) (k1 k2 : Int) (xs : List Mat) (hzk : zs.length = k) (hkm : k ≤ maxLen) (hzs : Ints w Bc zs) (hfa : fallOf zs k2 = i) (ct : TypeId) (cu : Value) (hg : w.cell? ⟨0, 0, none⟩ = some (.iface ct cu)) (hx : ms[i]? = some xs) (hl : 20 ≤ xs.length) :
  Calls Tryz.prog 84 #[.agg #[.slice Bc k dc, .slice (some ⟨B, 0, none⟩) n n], .agg #[.int .i64 k1, .int .i64 k2]] w fun e w' => e = .returned (.tuple #[.int .i64 i, .iface 183 (.agg #[.int .i64 i, .iface ct cu])]) ∧ ChM w' B hi (.slice (some ⟨B, 0, none⟩) n n) hs ms ∧ Chg B hi w w' := by
 have hBh := h.top B rfl
 have hBw : B < w.heap.size := by omega
 obtain ⟨wa, hwa, hba, hza, Ra⟩ := mxWorld w #[.slice Bc k dc, .slice (some ⟨B, 0, none⟩) n n] 113
 obtain ⟨w1, hw1, hb1, hz1, E1⟩ := mxWorld wa #[.int .i64 k1, .int .i64 k2] 64
 rw [hza] at E1 hz1
 have b1 : Below w.heap.size w w1 := hba.trans (hb1.mono (by omega))
 have H1 := Lib.hid (h.keep (w' := w1) (fun b _ h2 => b1.block b (by omega)))
 have R1 := Ra.below hb1 (by omega)
 have q0 := cellOfBlk R1 0
 have q1 := cellOfBlk R1 1
 have e0 := cellOfBlk E1 0
 have e1 := cellOfBlk E1 1
 have I1 := Lib.hid (hzs.below b1)
 have B1 := Lib.hid b1
 have HM := Lib.hid hmd
 have g1 := Lib.hid ((b1.cell (World.block_lt_of_cell? _ _ hg)).trans hg)
 have hz9 : hi ≤ w1.heap.size := by have := b1.size; omega
 have HX := Lib.hid hx
 clear Ra h hzs b1 hmd hx
 go_enter Tryz.func84, Tryz.ntmps84
 go_wp2_with first
  | (go_at_call 117; refine (fall_any _ _ _ zs _ _ hzk hkm I1.out).mono ?_; rintro e w' ⟨rfl, rfl⟩; rw [hfa])
  | (go_at_call 118; refine (put_full (.slice Bc k dc) B hi n hs ms i w1 HM.out H1.out hz9 hin k1 k2 xs ct cu g1.out HX.out hl).mono ?_; rintro e w2 ⟨rfl, hC2, hb2⟩)
 go_ret2
 exact ⟨rfl, hC2, (Chg.of_below B1.out).trans hb2⟩
end Go.Proofs.YtimhnkpccbcohaaGreatDoor
