/-
 clearLine by contract: the bands of the line become spare, its matrices wait; too many of either is an error. Conditions: a line of at most 120, at most 240 wait, at most 60 bands are spare; errTooMany reads as laid.
-/
import Derived.Test.YtimhnkpccbcohaaGreatDoorZEngTUG
namespace Go.Proofs.YtimhnkpccbcohaaGreatDoor
open Go.RowKit Go.Conc
set_option linter.unusedVariables false
set_option linter.unusedSimpArgs false

set_option maxRecDepth 100000 in
set_option maxHeartbeats 12800000 in
theorem clearT_any (lo E : Nat) (X : Mch) (w : World) {A : Option Addr} {c : Nat} {A2 : Option Addr} {d : Nat} {M : Option Addr} {q e0 : Nat} {L : Option Addr} {lc : Nat} {T : Option Addr} {tc : Nat} {Bc : Option Addr} {dc B hi : Nat} {hs : List (Option Nat)} {km f0 f1 l0 l1 t0 t1 p0 p1 : Nat} (hP : EngT w lo E X A c A2 d M q e0 L lc T tc Bc dc B hi hs km f0 f1 l0 l1 t0 t1 p0 p1) (hln : X.ln.length ≤ 120) (hwt : X.wt.length ≤ 240) (hsp0 : 0 ≤ X.sp) (hsp1 : X.sp ≤ 60) (ct : TypeId) (cu : Value) (hg : w.cell? ⟨4, 0, none⟩ = some (.iface ct cu)) (hglo : 4 < lo) :
  Calls Tryz.prog 95 #[.pointer (some ⟨E, 0, none⟩)] w fun e w' => e = .returned (clearE X ct cu) ∧ (∃ (T2 : Option Addr) (tc2 u0 u1 : Nat), EngT w' lo E (clearX X) A c A2 d M q e0 none 0 T2 tc2 Bc dc B hi hs km f0 f1 l0 l1 u0 u1 p0 p1 ∧ ((u0 = t0 ∧ u1 = t1) ∨ w.heap.size ≤ u0)) ∧ Below lo w w' ∧ Beyond E t0 t1 w w' := by
 obtain ⟨hBh, hEw⟩ := hP.at_
 have hlow := hP.low; have hkm := hP.o3; have hkE := hP.o4
 obtain ⟨w0, hw0⟩ : ∃ x, w = x := ⟨_, rfl⟩
 obtain ⟨l, hl⟩ : ∃ y, X.ln.length = y := ⟨_, rfl⟩
 rw [hl] at hln
 have HL := Lib.hid hl
 clear hl
 have P0 : Hid (EngT w0 lo E X A c A2 d M q e0 L lc T tc Bc dc B hi hs km f0 f1 l0 l1 t0 t1 p0 p1) := by show EngT _ _ _ _ _ _ _ _ _ _ _ _ _ _ _ _ _ _ _ _ _ _ _ _ _ _ _ _ _; rw [← hw0]; exact hP
 have T0 : Hid (Below lo w0 w0) := Below.refl _ _
 have G0 : Hid (w0.cell? ⟨4, 0, none⟩ = some (.iface ct cu)) := by show _ = _; rw [← hw0]; exact hg
 have R0 : Hid (Beyond E t0 t1 w0 w0) := fun k _ _ _ => rfl
 clear hP hg
 have hbk := P0.out.blk
 have g0 := cellOfBlk hbk 0
 have g1 := cellOfBlk hbk 1
 have g2 := cellOfBlk hbk 2
 have g3 := cellOfBlk hbk 3
 have g4 := cellOfBlk hbk 4
 have g5 := cellOfBlk hbk 5
 have g6 := cellOfBlk hbk 6
 have g7 := cellOfBlk hbk 7
 have g8 := cellOfBlk hbk 8
 have g9 := cellOfBlk hbk 9
 have g10 := cellOfBlk hbk 10
 have g11 := cellOfBlk hbk 11
 have g12 := cellOfBlk hbk 12
 clear hbk
 rw [HL.out] at g8
 rw [hw0]
 go_enter Tryz.func95, Tryz.ntmps95
 go_wp2
 clear g0 g1 g2 g3 g4 g5 g6 g7 g8 g9 g10 g11 g12
 have P1 : Hid (EngT w0 lo E ⟨X.f, X.ms, X.sp + (bndN (X.ln.take 0) : Int), X.w, X.t, X.k, X.ln, X.wt ++ mtsN (X.ln.take 0)⟩ A c A2 d M q e0 L lc T tc Bc dc B hi hs km f0 f1 l0 l1 t0 t1 p0 p1) := by show EngT _ _ _ _ _ _ _ _ _ _ _ _ _ _ _ _ _ _ _ _ _ _ _ _ _ _ _ _ _; have h9 := P0.out; simpa [bndN, mtsN] using h9
 go_loopw [11] (fun jv wr => ∃ (j : Nat) (Tz : Option Addr) (tz u0 u1 : Nat), j ≤ l ∧ jv = .int .i64 j ∧ Hid (EngT wr lo E ⟨X.f, X.ms, X.sp + (bndN (X.ln.take j) : Int), X.w, X.t, X.k, X.ln, X.wt ++ mtsN (X.ln.take j)⟩ A c A2 d M q e0 L lc Tz tz Bc dc B hi hs km f0 f1 l0 l1 u0 u1 p0 p1) ∧ Hid (Below lo w0 wr) ∧ Hid (wr.cell? ⟨4, 0, none⟩ = some (.iface ct cu)) ∧ Hid (Beyond E t0 t1 w0 wr) ∧ Hid ((u0 = t0 ∧ u1 = t1) ∨ w0.heap.size ≤ u0) ∧ w0.heap.size ≤ wr.heap.size) (fun jv _ => l - (intOf jv).toNat)
 case atStart => exact ⟨0, T, tc, t0, t1, Nat.zero_le _, rfl, P1, T0, G0, R0, .inl ⟨rfl, rfl⟩, Nat.le_refl _⟩
 case round =>
  clear P0 P1 T0 G0 R0
  obtain ⟨j, Tz, tz, u0, u1, hjl, rfl, P1, T1, G1, R1, HU, hsz1⟩ := hrel
  obtain ⟨w1, hwq⟩ : ∃ x, x = wr := ⟨_, rfl⟩
  subst hwq
  obtain ⟨-, hE1⟩ := P1.out.at_
  by_cases hj : j < l
  ·obtain ⟨ad, x, hA, hx, c0, c1⟩ := (OwnM.reads P1.out.line).at_ (k := j) (by show j < X.ln.length; rw [HL.out]; exact hj)
   obtain ⟨k1, k2⟩ := x
   simp only at c0 c1
   have hA2 := hA
   subst hA2
   have hji : (j : Int) < (l : Int) := by omega
   have hbj := bndN_le X.ln j
   have hmj := mtsN_le X.ln j
   have HU1 : Hid (u1 ≤ w1.heap.size) := P1.out.top.2.2
   obtain ⟨w2, hw2, hb2, hz2, hX2⟩ := mxWorld w1 #[.int .i64 k1, .int .i64 k2] 64
   have P2 := Lib.hid (P1.out.below hb2)
   have T2 := Lib.hid (T1.out.trans (hb2.mono (by omega)))
   have G2 := Lib.hid ((hb2.cell (World.block_lt_of_cell? _ _ G1.out)).trans G1.out)
   have R2 : Hid ((Beyond E t0 t1 w0 w2)) := (fun k h1 h2 h3 => (hb2.block k (by omega)).trans (R1.out k h1 h2 h3))
   have sz2 : w1.heap.size ≤ w2.heap.size := hb2.size
   clear P1 T1 G1 R1
   have X2 := Lib.hid hX2
   have x0 := cellOfBlk X2.out 0
   have x1 := cellOfBlk X2.out 1
   go_wp2_with fail
   refine (isBand_any k1 k2 w2).mono ?_
   rintro e w3 ⟨rfl, hb3⟩
   clear x0 x1 c0 c1
   have P3 := Lib.hid (P2.out.below hb3)
   have T3 := Lib.hid (T2.out.trans (hb3.mono (by omega)))
   have G3 := Lib.hid ((hb3.cell (World.block_lt_of_cell? _ _ G2.out)).trans G2.out)
   have R3 : Hid ((Beyond E t0 t1 w0 w3)) := (fun k h1 h2 h3 => (hb3.block k (by omega)).trans (R2.out k h1 h2 h3))
   have X3 := Lib.hid (X2.out.below hb3 (by omega))
   have sz3 : w2.heap.size ≤ w3.heap.size := hb3.size
   clear P2 T2 G2 R2 X2
   cases hbm : bandM (k1, k2)
   ·obtain ⟨r, hr⟩ : ∃ y, (X.wt ++ mtsN (X.ln.take j)).length = y := ⟨_, rfl⟩
    have hrl : r ≤ 360 := by rw [← hr, List.length_append]; omega
    have x0 := cellOfBlk X3.out 0
    have x1 := cellOfBlk X3.out 1
    have hbk := P3.out.blk
    have g9 := cellOfBlk hbk 9
    have g9 : w3.cell? ⟨E, 9, none⟩ = some (.slice Tz r tz) := by rw [← hr]; exact g9
    have f9 := hbk.warm 9
    clear hbk
    go_upto_region 6 with fail
    refine wp_region_planD 12 (.take 0 (.take 1 (.take 2 (.take 3 (.take 4 (.take 5 (.take 6 (.one 7 (.one 8 (.one 9 (.one 10 (.one 11 (.last 12))))))))))))) (fun w' => w'.cell? ⟨E, 9, none⟩ = some (.slice Tz r tz) ∧ w'.cell? ⟨w1.heap.size, 0, none⟩ = some (.int .i64 k1) ∧ w'.cell? ⟨w1.heap.size, 1, none⟩ = some (.int .i64 k2)) (by kernel_rfl) (by kernel_rfl) (by kernel_rfl) ⟨g9, x0, x1⟩ ?_
    iterate 7 (refine planC_quiet rfl (by rfl) (v := ?_) ?_ ?_; rotate_left; (intro w1 hSw; obtain ⟨z0, z1, z2⟩ := hSw; go_simp; try (with_reducible rfl)); (try simp only [Act.put, List.setIfInBounds_toArray, List.set_cons_zero, List.set_cons_succ]))
    have hdz : w3.drew.heap.size = w3.heap.size := rfl
    refine planC_value rfl (by rfl) (u := .slice (some ⟨w3.drew.heap.size, 0, none⟩) 1 1) (w' := w3.drew.alloc (.cells #[.int .i64 k1, .int .i64 k2] 64)) (by go_simp) ⟨?_, ?_, ?_⟩ ?_
    ·exact (((Below.refl _ w3.drew).alloc (Nat.le_refl _) _).cell (p := ⟨E, 9, none⟩) (by show E < w3.heap.size; omega)).trans g9
    ·exact (((Below.refl _ w3.drew).alloc (Nat.le_refl _) _).cell (p := ⟨w1.heap.size, 0, none⟩) (by show w1.heap.size < w3.heap.size; omega)).trans x0
    ·exact (((Below.refl _ w3.drew).alloc (Nat.le_refl _) _).cell (p := ⟨w1.heap.size, 1, none⟩) (by show w1.heap.size < w3.heap.size; omega)).trans x1
    (try simp only [Act.put, List.setIfInBounds_toArray, List.set_cons_zero, List.set_cons_succ])
    have hd : Below w3.heap.size w3 w3.drew := (Below.refl _ _).drew
    have PD := P3.out.below hd
    have hwl := PD.top.2.2
    have hwait := PD.wait
    have hwait : OwnT w3.drew u0 (.slice Tz r tz) (X.wt ++ mtsN (X.ln.take j)) := by rw [← hr]; exact PD.wait
    refine planC_pushT w3.drew rfl (by rfl) (.tmp 31) (.tmp 33) rfl u0 (.slice Tz r tz) (X.wt ++ mtsN (X.ln.take j)) (k1, k2) rfl rfl hwait (PD.t0h) (by rw [hr]; omega) ?_
    intro v7 wz7 hO7 hg7 hf7
    have hc7 : Chg u0 u1 w3.drew wz7 := Chg.of_grown hg7 (fun g hq => ⟨(hwait.lt g hq).1, by have h9 := PD.waitT; rw [show (⟨X.f, X.ms, X.sp + (bndN (X.ln.take j) : Int), X.w, X.t, X.k, X.ln, X.wt ++ mtsN (X.ln.take j)⟩ : Mch).wt.length = r from hr] at h9; exact h9 g hq⟩)
    have htE := PD.tE
    have hutop := PD.top
    unfold Off at htE
    have y9 : wz7.cell? ⟨E, 9, none⟩ = some (.slice Tz r tz) := (hc7.cell (p := ⟨E, 9, none⟩) (by show E < w3.heap.size; omega) (by show ¬(u0 ≤ E ∧ E < u1); omega)).trans g9
    have y0 : wz7.cell? ⟨w1.heap.size, 0, none⟩ = some (.int .i64 k1) := (hc7.cell (p := ⟨w1.heap.size, 0, none⟩) (by show w1.heap.size < w3.heap.size; omega) (by show ¬(u0 ≤ w1.heap.size ∧ w1.heap.size < u1); have := HU1.out; omega)).trans x0
    have y1 : wz7.cell? ⟨w1.heap.size, 1, none⟩ = some (.int .i64 k2) := (hc7.cell (p := ⟨w1.heap.size, 1, none⟩) (by show w1.heap.size < w3.heap.size; omega) (by show ¬(u0 ≤ w1.heap.size ∧ w1.heap.size < u1); have := HU1.out; omega)).trans x1
    refine ⟨⟨y9, y0, y1⟩, ?_⟩
    obtain ⟨A7, c7x, rfl, -⟩ := hO7.form
    have hf8 := hf7
    have hg8 : World.grownBy w3.drew wz7 (Value.slice Tz (X.wt ++ mtsN (X.ln.take j)).length tz).ownBlock := by rw [hr]; exact hg7
    obtain ⟨v0, v1, hUn, hPn⟩ := EngT.waits (w := w3.drew) PD hg8 hO7 (by rw [hr]; exact hf7)
    rw [show (X.wt ++ mtsN (X.ln.take j) ++ [(k1, k2)]).length = r + 1 by rw [List.length_append, hr]; rfl] at hPn ⊢
    (try simp only [Act.put, List.setIfInBounds_toArray, List.set_cons_zero, List.set_cons_succ])
    iterate 3 (refine planC_value rfl (by rfl) (u := ?_) (w' := wz7) ?_ ⟨y9, y0, y1⟩ ?_; rotate_left; (go_simp; try (with_reducible rfl)); (try simp only [Act.put, List.setIfInBounds_toArray, List.set_cons_zero, List.set_cons_succ]))
    have h9f : wz7.frozen? ⟨E, 9, none⟩ = false := (Blk.warm (show Blk wz7 E _ _ from (hc7.block E (by show E < w3.heap.size; omega) (by omega)).trans PD.blk) 9)
    refine planC_lastSkip rfl (by rfl) (w' := wz7.setCell ⟨E, 9, none⟩ (.slice A7 (r + 1) c7x)) (by go_simp) ?_
    (try simp only [Act.put, List.setIfInBounds_toArray, List.set_cons_zero, List.set_cons_succ])
    obtain ⟨wz8, hw8⟩ : ∃ x, wz7.setCell ⟨E, 9, none⟩ (.slice A7 (r + 1) c7x) = x := ⟨_, rfl⟩
    have hb8 : Below lo w3.drew wz8 := by rw [← hw8]; exact ((hc7.below (by show u0 ≤ w3.heap.size; exact PD.t0h)).mono PD.low.2.2.1).setCell (p := ⟨E, 9, none⟩) (by show lo ≤ E; omega) _
    rw [hw8] at hPn ⊢
    have hb9 : Below lo w3 wz8 := (hd.mono (by omega)).trans hb8
    have P8 : Hid (EngT wz8 lo E ⟨X.f, X.ms, X.sp + (bndN (X.ln.take (j + 1)) : Int), X.w, X.t, X.k, X.ln, X.wt ++ mtsN (X.ln.take (j + 1))⟩ A c A2 d M q e0 (some ad) lc A7 c7x Bc dc B hi hs km f0 f1 l0 l1 v0 v1 p0 p1) := by show EngT _ _ _ _ _ _ _ _ _ _ _ _ _ _ _ _ _ _ _ _ _ _ _ _ _ _ _ _ _; rw [bndN_take hx.out, mtsN_take hx.out, hbm, if_neg (by simp), if_neg (by simp), ← List.append_assoc]; exact hPn
    have T8 := Lib.hid (T3.out.trans hb9)
    have G8 : Hid (wz8.cell? ⟨4, 0, none⟩ = some (.iface ct cu)) := (hb9.cell (by show 4 < lo; exact hglo)).trans G3.out
    have hszi : w0.heap.size ≤ w3.heap.size := by omega
    have R8 : Hid (Beyond E t0 t1 w0 wz8) := fun k h1 h2 h3 => by
     have h4 : ¬ (u0 ≤ k ∧ k < u1) := by rcases HU.out with ⟨e1, e2⟩ | e1 <;> omega
     rw [← hw8, (chg_one wz7 E 9 (.slice A7 (r + 1) c7x)).block k (by have := hc7.size; show k < wz7.heap.size; omega) (by omega), hc7.block k (by show k < w3.heap.size; omega) h4]
     exact R3.out k h1 h2 h3
    have HU8 : Hid ((v0 = t0 ∧ v1 = t1) ∨ w0.heap.size ≤ v0) := by
     rcases hUn with ⟨e1, e2⟩ | e1
     ·rw [e1, e2]; exact HU.out
     ·right; show w0.heap.size ≤ v0; omega
    have hz8 : w0.heap.size ≤ wz8.heap.size := by have := hb9.size; omega
    have hj1 : j + 1 ≤ l := by omega
    clear hUn hPn hb8 hb9 hd PD hwait hO7 hg7 hg8 hf7 hf8 hc7 y9 y0 y1 x0 x1 g9 f9 h9f hw8 hbj hmj
    go_wp2
    exact ⟨⟨j + 1, A7, c7x, v0, v1, hj1, rfl, P8, T8, G8, R8, HU8, hz8⟩, by simp [intOf]; omega⟩
   ·obtain ⟨z, hz⟩ : ∃ z : Int, X.sp + (bndN (X.ln.take j) : Int) = z := ⟨_, rfl⟩
    have hz0 : 0 ≤ z := by omega
    have hz1 : z ≤ 180 := by omega
    have e1 : IntKind.i64.wrap (z + 1) = z + 1 := by rw [IntKind.wrap_i64]; omega
    have hbk := P3.out.blk
    have g4 : w3.cell? ⟨E, 4, none⟩ = some (.int .i64 z) := by rw [← hz]; exact cellOfBlk hbk 4
    have f4 := hbk.warm 4
    clear hbk
    go_upto_region 7 with fail
    have hPn := P3.out.spare (z + 1)
    have hb8 : Below lo w3 (w3.setCell ⟨E, 4, none⟩ (.int .i64 (z + 1))) := (Below.refl _ _).setCell (p := ⟨E, 4, none⟩) (by show lo ≤ E; omega) _
    obtain ⟨wz8, hw8⟩ : ∃ x, w3.setCell ⟨E, 4, none⟩ (.int .i64 (z + 1)) = x := ⟨_, rfl⟩
    rw [hw8] at hPn hb8 ⊢
    have e9 : X.sp + (bndN (X.ln.take (j + 1)) : Int) = z + 1 := by rw [bndN_take hx.out, hbm, if_pos rfl, ← hz]; push_cast; omega
    have P8 : Hid (EngT wz8 lo E ⟨X.f, X.ms, X.sp + (bndN (X.ln.take (j + 1)) : Int), X.w, X.t, X.k, X.ln, X.wt ++ mtsN (X.ln.take (j + 1))⟩ A c A2 d M q e0 (some ad) lc Tz tz Bc dc B hi hs km f0 f1 l0 l1 u0 u1 p0 p1) := by show EngT _ _ _ _ _ _ _ _ _ _ _ _ _ _ _ _ _ _ _ _ _ _ _ _ _ _ _ _ _; rw [e9, mtsN_take hx.out, hbm, if_pos rfl]; exact hPn
    have T8 := Lib.hid (T3.out.trans hb8)
    have G8 : Hid (wz8.cell? ⟨4, 0, none⟩ = some (.iface ct cu)) := (hb8.cell (by show 4 < lo; exact hglo)).trans G3.out
    have hszi : w0.heap.size ≤ w3.heap.size := by omega
    have R8 : Hid (Beyond E t0 t1 w0 wz8) := fun k h1 h2 h3 => by
     rw [← hw8, (chg_one w3 E 4 (.int .i64 (z + 1))).block k (by omega) (by omega)]
     exact R3.out k h1 h2 h3
    have hz8 : w0.heap.size ≤ wz8.heap.size := by have := hb8.size; omega
    have hj1 : j + 1 ≤ l := by omega
    clear hPn hb8 e9 e1 hz hz0 hz1 g4 f4 hw8 hbj hmj
    go_wp2
    exact ⟨⟨j + 1, Tz, tz, u0, u1, hj1, rfl, P8, T8, G8, R8, HU, hz8⟩, by simp [intOf]; omega⟩
  ·have hje : j = l := by omega
   subst hje
   have hjf : decide ((j : Int) < (j : Int)) = false := by simp
   have htk : X.ln.take j = X.ln := List.take_of_length_le (by rw [HL.out]; exact Nat.le_refl _)
   have hP9 := P1.out
   rw [htk] at hP9
   have hbj := bndN_le X.ln j
   have hmj := mtsN_le X.ln j
   rw [htk] at hbj hmj
   obtain ⟨z, hz⟩ : ∃ z : Int, X.sp + (bndN X.ln : Int) = z := ⟨_, rfl⟩
   obtain ⟨r, hr⟩ : ∃ y, (X.wt ++ mtsN X.ln).length = y := ⟨_, rfl⟩
   have hok : clearOk X = (decide (z ≤ 60) && decide (r ≤ 240)) := by rw [← hz, ← hr]; rfl
   have HOK := Lib.hid hok
   have hPn := hP9.noline
   have f8 := hP9.blk.warm 8
   have g8 : w1.cell? ⟨E, 8, none⟩ = some (.slice L X.ln.length lc) := cellOfBlk hP9.blk 8
   have HZ := Lib.hid hz; have HR := Lib.hid hr; have HPN := Lib.hid hPn
   clear hok hz hr hP9 hPn htk P1
   go_upto_region 9 with fail
   have hb8 : Below lo w1 (w1.setCell ⟨E, 8, none⟩ (.slice none 0 0)) := (Below.refl _ _).setCell (p := ⟨E, 8, none⟩) (by show lo ≤ E; omega) _
   obtain ⟨w2, hw8⟩ : ∃ x, w1.setCell ⟨E, 8, none⟩ (.slice none 0 0) = x := ⟨_, rfl⟩
   rw [hw8] at hb8 HPN ⊢
   have T2 := Lib.hid (T1.out.trans hb8)
   have R2 : Hid (Beyond E t0 t1 w0 w2) := fun k h1 h2 h3 => by
    rw [← hw8, (chg_one w1 E 8 (.slice none 0 0)).block k (by omega) (by omega)]
    exact R1.out k h1 h2 h3
   have G2 : Hid (w2.cell? ⟨4, 0, none⟩ = some (.iface ct cu)) := (hb8.cell (by show 4 < lo; exact hglo)).trans G1.out
   have gl := G2.out
   have hbk := HPN.out.blk
   have g4 : w2.cell? ⟨E, 4, none⟩ = some (.int .i64 z) := by rw [← HZ.out]; exact cellOfBlk hbk 4
   have g9 : w2.cell? ⟨E, 9, none⟩ = some (.slice Tz r tz) := by rw [← HR.out]; exact cellOfBlk hbk 9
   clear hbk hb8 hw8 f8 g8
   by_cases h60 : 60 < z
   ·go_wp2
    go_ret
    have hk9 : (decide (z ≤ 60) && decide (r ≤ 240)) = false := by rw [Bool.and_eq_false_iff]; left; rw [decide_eq_false_iff_not]; omega
    exact ⟨by rw [clearE_no (HOK.out.trans hk9)]; rfl, ⟨Tz, tz, u0, u1, HPN.out, HU.out⟩, T2.out, R2.out⟩
   ·by_cases h240 : 240 < r
    ·have hk9 : (decide (z ≤ 60) && decide (r ≤ 240)) = false := by rw [Bool.and_eq_false_iff]; right; rw [decide_eq_false_iff_not]; omega
     have HK9 := Lib.hid hk9
     clear hk9
     have h240i : (240 : Int) < (r : Int) := by omega
     go_wp2
     go_ret
     exact ⟨by rw [clearE_no (HOK.out.trans HK9.out)]; rfl, ⟨Tz, tz, u0, u1, HPN.out, HU.out⟩, T2.out, R2.out⟩
    ·have hk9 : (decide (z ≤ 60) && decide (r ≤ 240)) = true := by rw [Bool.and_eq_true]; exact ⟨by rw [decide_eq_true_eq]; omega, by rw [decide_eq_true_eq]; omega⟩
     have HK9 := Lib.hid hk9
     clear hk9
     have h240i : ¬ (240 : Int) < (r : Int) := by omega
     go_wp2
     go_ret
     exact ⟨by rw [clearE_yes (HOK.out.trans HK9.out)]; rfl, ⟨Tz, tz, u0, u1, HPN.out, HU.out⟩, T2.out, R2.out⟩
end Go.Proofs.YtimhnkpccbcohaaGreatDoor
