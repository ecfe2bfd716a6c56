/-
 giveBack by contract: what was taken lies at the head of its channel again. Condition: at most 19 lie in the channel.
-/
import Derived.Test.YtimhnkpccbcohaaGreatDoorZTakeM
namespace Go.Proofs.YtimhnkpccbcohaaGreatDoor
open Go.RowKit Go.Conc
set_option linter.unusedVariables false
set_option linter.unusedSimpArgs false

/-- the others have gone round j times -/
def giveRow (xs : List Mat) (x : Mat) (j : Nat) : List Mat := xs.drop j ++ x :: xs.take j
theorem giveRow_zero (xs : List Mat) (x : Mat) : giveRow xs x 0 = xs ++ [x] := by simp [giveRow]
theorem giveRow_all {xs : List Mat} {x : Mat} {l : Nat} (h : xs.length = l) : giveRow xs x l = x :: xs := by subst h; simp [giveRow]
theorem giveRow_head {xs : List Mat} {x z : Mat} {j : Nat} (h : xs[j]? = some z) : giveRow xs x j = z :: (xs.drop (j + 1) ++ x :: xs.take j) := by
 obtain ⟨h1, h2⟩ := List.getElem?_eq_some_iff.1 h
 unfold giveRow; rw [List.drop_eq_getElem_cons h1, h2]; rfl
theorem giveRow_next {xs : List Mat} {x z : Mat} {j : Nat} (h : xs[j]? = some z) : (xs.drop (j + 1) ++ x :: xs.take j) ++ [z] = giveRow xs x (j + 1) := by
 unfold giveRow; rw [take_next h]; simp
set_option maxRecDepth 100000 in
set_option maxHeartbeats 6400000 in
theorem giveBack_any (cv : Value) (B hi n : Nat) (hs : List (Option Nat)) (ms : List (List Mat)) (i : Nat) (w : World) (hmd : Made hs n n) (h : ChM w B hi (.slice (some ⟨B, 0, none⟩) n n) hs ms) (hhi : hi ≤ w.heap.size) (hin : i < n) (k1 k2 : Int) (xs : List Mat) (hx : ms[i]? = some xs) (hl19 : xs.length < 20) :
  Calls Tryz.prog 141 #[.agg #[cv, .slice (some ⟨B, 0, none⟩) n n], .int .i64 i, .agg #[.int .i64 k1, .int .i64 k2]] w fun e w' => e = .returned (.tuple #[]) ∧ ChM w' B hi (.slice (some ⟨B, 0, none⟩) n n) hs (ms.set i ((k1, k2) :: xs)) ∧ Chg B hi w w' := by
 have hBh := h.top B rfl
 have hBw : B < w.heap.size := by omega
 obtain ⟨wa, hwa, hba, hza, Ra⟩ := mxWorld w #[cv, .slice (some ⟨B, 0, none⟩) n n] 113
 obtain ⟨w1, hw1, hb1, hz1, E1⟩ := mxWorld wa #[.int .i64 k1, .int .i64 k2] 64
 rw [hza] at E1 hz1
 have hB1 : Below w.heap.size w w1 := hba.trans (hb1.mono (by omega))
 have R1 := Ra.below hb1 (by omega)
 have q1 := cellOfBlk R1 1
 have x0 := cellOfBlk E1 0
 have x1 := cellOfBlk E1 1
 obtain ⟨l, hl⟩ : ∃ y, xs.length = y := ⟨_, rfl⟩
 rw [hl] at hl19
 have HL := Lib.hid hl
 have H1 := h.below hhi hB1
 have HH1 := Lib.hid H1
 have HMD := Lib.hid hmd
 obtain ⟨c, hci⟩ := HMD.out.2.1 i hin
 have HCI := Lib.hid hci
 have HX := Lib.hid hx
 have ho := H1.outer
 rw [HMD.out.1] at ho
 have ce1 := (ho.cellAt i (by omega)).trans (show (hs.map Value.chan)[i]? = some (.chan (some c)) from by rw [List.getElem?_map, hci]; rfl)
 obtain ⟨sN, rN, hch⟩ := H1.at_ hci hx
 have hcB := (H1.place i c hci).1
 have hch2 := (H1.place i c hci).2.1
 have hini : (i : Int) < (n : Int) := by omega
 have T1 : Hid (Chg B hi w w1) := Chg.of_below hB1
 have hsz1 := hB1.size
 have hil : i < ms.length := (List.getElem?_eq_some_iff.1 hx).1
 clear ho H1 hx hci hl h hmd hB1 hb1 hba Ra R1 E1
 go_enter Tryz.func141, Tryz.ntmps141
 go_upto_region 3 with (refine wpl_len_chan _ rfl (.tmp 13) rfl c xs sN rN rfl hch l HL.out ?_)
 refine RegTo.region ?_
 refine RegTo.value (rest := [1, 2]) rfl (by rfl) (v := .chan (some c)) (w' := w1) (by go_simp) ?_
 simp only [List.getElem_toArray, List.getElem_cons_zero, List.getElem_cons_succ, Act.put, List.setIfInBounds_toArray, List.set_cons_zero, List.set_cons_succ]
 refine RegTo.value (rest := [2]) rfl (by rfl) (v := .agg #[.int .i64 k1, .int .i64 k2]) (w' := w1) (by go_simp) ?_
 simp only [List.getElem_toArray, List.getElem_cons_zero, List.getElem_cons_succ, Act.put, List.setIfInBounds_toArray, List.set_cons_zero, List.set_cons_succ]
 refine RegTo.send (rest := []) rfl (by rfl) (v := .agg #[.int .i64 k1, .int .i64 k2]) (z := .tuple #[]) (by go_simp; rfl) hch (by rw [bufM_size]; rw [HL.out]; exact hl19) ?_
 rw [show (Value.agg #[.int .i64 k1, .int .i64 k2]) = cvM (k1, k2) from rfl, bufM_push]
 simp only [cvM]
 simp only [List.getElem_toArray, List.getElem_cons_zero, List.getElem_cons_succ, Act.put, List.setIfInBounds_toArray, List.set_cons_zero, List.set_cons_succ]
 refine RegTo.nil ?_
 have hcg := chg_setChan w1 c 20 (bufM (xs ++ [(k1, k2)])) false (sN + 1) rN false
 have H2 : Hid (ChM (w1.setChan c 20 (bufM (xs ++ [(k1, k2)])) false (sN + 1) rN false) B hi (.slice (some ⟨B, 0, none⟩) n n) hs (ms.set i (giveRow xs (k1, k2) 0))) := by show ChM _ _ _ _ _ _; rw [giveRow_zero]; exact HH1.out.comm HCI.out _ _ _
 obtain ⟨w2, hw2⟩ : ∃ y, w1.setChan c 20 (bufM (xs ++ [(k1, k2)])) false (sN + 1) rN false = y := ⟨_, rfl⟩
 rw [hw2] at hcg H2 ⊢
 have hz2 := hcg.size
 have T2 := Lib.hid (T1.out.trans (hcg.wide hcB (by omega)))
 have Z2 : Hid (w.heap.size ≤ w2.heap.size) := by show _ ≤ _; omega
 clear T1 hcg hch q1 x0 x1 ce1 hw2 HH1 hw1 hwa
 go_wp2
 go_loopw [18] (fun jv wr => ∃ (j : Nat), j ≤ l ∧ jv = .int .i64 j ∧ Hid (Chg B hi w wr) ∧ Hid (w.heap.size ≤ wr.heap.size) ∧ Hid (ChM wr B hi (.slice (some ⟨B, 0, none⟩) n n) hs (ms.set i (giveRow xs (k1, k2) j)))) (fun jv _ => l - (intOf jv).toNat)
 case atStart => exact ⟨0, Nat.zero_le _, rfl, T2, Z2, H2⟩
 case round =>
  clear T2 Z2 H2
  obtain ⟨j, hjl, rfl, T5, Z5, H5⟩ := hrel
  obtain ⟨w5, h5⟩ : ∃ x, x = wr := ⟨_, rfl⟩
  subst h5
  by_cases hj : j < l
  ·have hji : (j : Int) < (l : Int) := by omega
   obtain ⟨z, hz⟩ : ∃ z, xs[j]? = some z := ⟨_, List.getElem?_eq_getElem (by rw [HL.out]; exact hj)⟩
   obtain ⟨z1, z2⟩ := z
   have HZ := Lib.hid hz
   clear hz
   obtain ⟨sM, rM, hch⟩ := H5.out.at_ HCI.out (List.getElem?_set_self hil)
   have hT := T5.out.size
   rw [giveRow_head HZ.out] at hch
   obtain ⟨rs, hrs⟩ : ∃ rs, xs.drop (j + 1) ++ (k1, k2) :: xs.take j = rs := ⟨_, rfl⟩
   rw [hrs] at hch
   have hrl : rs.length < 20 := by have h2 := HL.out; rw [← hrs, List.length_append, List.length_cons, List.length_drop, List.length_take]; omega
   have hnext : rs ++ [(z1, z2)] = giveRow xs (k1, k2) (j + 1) := by rw [← hrs]; exact giveRow_next HZ.out
   have HNX := Lib.hid hnext
   clear hnext hrs
   go_upto_region 6 with fail
   refine RegTo.region ?_
   refine RegTo.value (rest := [1, 2, 3]) rfl (by rfl) (v := .chan (some c)) (w' := w5) (by go_simp) ?_
   simp only [List.getElem_toArray, List.getElem_cons_zero, List.getElem_cons_succ, Act.put, List.setIfInBounds_toArray, List.set_cons_zero, List.set_cons_succ]
   refine RegTo.value (rest := [2, 3]) rfl (by rfl) (v := .chan (some c)) (w' := w5) (by go_simp) ?_
   simp only [List.getElem_toArray, List.getElem_cons_zero, List.getElem_cons_succ, Act.put, List.setIfInBounds_toArray, List.set_cons_zero, List.set_cons_succ]
   refine RegTo.recv (rest := [3]) rfl (by rfl) (by go_simp; rfl) (z := .agg #[.int .i64 0, .int .i64 0]) hch (by rw [bufM_size]; simp) ?_
   rw [bufM_head, bufM_tail]
   simp only [List.getElem_toArray, List.getElem_cons_zero, List.getElem_cons_succ, Act.put, List.setIfInBounds_toArray, List.set_cons_zero, List.set_cons_succ]
   have hcg := chg_setChan w5 c 20 (bufM rs) false sM (rM + 1) false
   have H6 : Hid (ChM (w5.setChan c 20 (bufM rs) false sM (rM + 1) false) B hi (.slice (some ⟨B, 0, none⟩) n n) hs (ms.set i rs)) := by show ChM _ _ _ _ _ _; have h9 := H5.out.comm HCI.out rs sM (rM + 1); rw [List.set_set] at h9; exact h9
   obtain ⟨w6, hw6⟩ : ∃ y, w5.setChan c 20 (bufM rs) false sM (rM + 1) false = y := ⟨_, rfl⟩
   rw [hw6] at hcg H6 ⊢
   have hz6 := hcg.size
   have T6 := Lib.hid (T5.out.trans (hcg.wide hcB (by omega)))
   have hZ5 := Z5.out
   clear T5 H5 hcg hw6 hch
   obtain ⟨sK, rK, hch⟩ := H6.out.at_ HCI.out (List.getElem?_set_self hil)
   unfold cvM
   refine RegTo.send (rest := []) rfl (by rfl) (v := .agg #[.int .i64 z1, .int .i64 z2]) (z := .tuple #[]) (by go_simp; rfl) hch (by rw [bufM_size]; exact hrl) ?_
   rw [show (Value.agg #[.int .i64 z1, .int .i64 z2]) = cvM (z1, z2) from rfl, bufM_push, HNX.out]
   simp only [cvM]
   simp only [List.getElem_toArray, List.getElem_cons_zero, List.getElem_cons_succ, Act.put, List.setIfInBounds_toArray, List.set_cons_zero, List.set_cons_succ]
   refine RegTo.nil ?_
   have hcg := chg_setChan w6 c 20 (bufM (giveRow xs (k1, k2) (j + 1))) false (sK + 1) rK false
   have H7 : Hid (ChM (w6.setChan c 20 (bufM (giveRow xs (k1, k2) (j + 1))) false (sK + 1) rK false) B hi (.slice (some ⟨B, 0, none⟩) n n) hs (ms.set i (giveRow xs (k1, k2) (j + 1)))) := by show ChM _ _ _ _ _ _; have h9 := H6.out.comm HCI.out (giveRow xs (k1, k2) (j + 1)) (sK + 1) rK; rw [List.set_set] at h9; exact h9
   obtain ⟨w7, hw7⟩ : ∃ y, w6.setChan c 20 (bufM (giveRow xs (k1, k2) (j + 1))) false (sK + 1) rK false = y := ⟨_, rfl⟩
   rw [hw7] at hcg H7 ⊢
   have hz7 := hcg.size
   have T7 := Lib.hid (T6.out.trans (hcg.wide hcB (by omega)))
   have Z7 : Hid (w.heap.size ≤ w7.heap.size) := by show _ ≤ _; omega
   have hj1 : j + 1 ≤ l := by omega
   clear T6 H6 hcg hw7 hch
   go_wp2
   go_roundw
   case rel => exact ⟨j + 1, hj1, by go_num, T7, Z7, H7⟩
   case measure => simp [intOf]; omega
  ·have hje : l = j := by omega
   subst hje
   have hjf : decide ((l : Int) < (l : Int)) = false := by simp
   have H6 : ChM w5 B hi (.slice (some ⟨B, 0, none⟩) n n) hs (ms.set i ((k1, k2) :: xs)) := by rw [← giveRow_all HL.out]; exact H5.out
   go_wp2
   (try simp only [Exit.inBlock, Exit.then])
   refine bodyPost_end (results_none rfl _ _ _) rfl ?_
   exact ⟨rfl, H6, T5.out⟩
end Go.Proofs.YtimhnkpccbcohaaGreatDoor
