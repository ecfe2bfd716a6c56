/-
 DropMatrix of the model by contract. Condition: lengths of at most 2^20.
-/
import Derived.Test.YtimhnkpccbcohaaGreatDoorZReadMG
import Derived.Test.YtimhnkpccbcohaaGreatDoorZPkH
namespace Go.Proofs.YtimhnkpccbcohaaGreatDoor
open Go.RowKit Go.Conc
set_option linter.unusedVariables false
set_option linter.unusedSimpArgs false

set_option maxRecDepth 100000 in
set_option maxHeartbeats 3200000 in
theorem specDrop_yes (lo hi0 lo2 hi2 : Nat) (v : Value) (f : Fnt) (A : Option Addr) (n c : Nat) (ms : List (List Mat)) (k1 k2 : Int) (w : World) (h : FontV w lo hi0 v f) (hhi : hi0 ≤ w.heap.size) (hs : Small f) (hn : ms.length = n) (hm : n ≤ 1048576) (hM : MagI w lo2 hi2 A ms) (hhi2 : hi2 ≤ w.heap.size) (wf : wfM ms) (wfx : (Lit.int .i64 k2).wf = true) (hmag : magB f ms = true) (hmat : matB f (k1, k2) = true) (i : Nat) (hia : fallOf f.cs k2 = i) (xs : List Mat) (hx : ms[i]? = some xs) (hl : xs.length < 20) :
  Calls Tryz.prog 33 #[v, .slice A n c, .agg #[.int .i64 k1, .int .i64 k2]] w fun e w' => ∃ u hs', e = .returned (.tuple #[u, .int .i64 i, .bool true]) ∧ OwnMag w' w.heap.size w'.heap.size u hs' (ms.set i (xs ++ [(k1, k2)])) ∧ Below w.heap.size w w' := by
 obtain ⟨B1, d1, B2, d2, hv⟩ := fontForm h
 obtain ⟨s, hs0⟩ : ∃ y, f.s = y := ⟨_, rfl⟩
 obtain ⟨p, hp⟩ : ∃ y, f.ws.length = y := ⟨_, rfl⟩
 obtain ⟨q, hq⟩ : ∃ y, f.cs.length = y := ⟨_, rfl⟩
 rw [hs0, hp, hq] at hv
 rw [hv] at h
 rw [hv]
 have Hn := Lib.hid hn; have Hwf := Lib.hid wf
 obtain ⟨w0, hw0⟩ : ∃ x, w = x := ⟨_, rfl⟩
 have hww : w.heap.size = w0.heap.size := by rw [hw0]
 have HQ := Lib.hid hq; have HPS := Lib.hid (And.intro hs0 hp)
 have T0 : Hid (Below w0.heap.size w0 w0) := Below.refl _ _
 have V0 : Hid (FontV w0 lo hi0 (.agg #[.string s, .slice B1 p d1, .slice B2 q d2]) f) := by rw [← hw0]; exact h
 have M0 : Hid (MagI w0 lo2 hi2 A ms) := by rw [← hw0]; exact hM
 clear h hM hn wf hs0 hp hq hv
 obtain ⟨hf, -, hrows⟩ := magB_rows hmag
 have hin : i < n := by rw [← Hn.out]; exact (List.getElem?_eq_some_iff.1 hx).1
 have hlim : ∀ xs ∈ ms, xs.length ≤ 1048576 := fun xs hx => by have := (hrows xs hx).1; omega
 have HI := Lib.hid hia; have HX := Lib.hid hx; have HLIM := Lib.hid hlim
 have hxl := (hrows xs (List.mem_of_getElem? hx)).1
 clear hx hrows hlim hia
 obtain ⟨w1, hw1, hb1, hz1, hX1⟩ := mxWorld w0 #[.string s, .slice B1 p d1, .slice B2 q d2] 32
 have T1 := Lib.hid (T0.out.trans (hb1.mono (by omega)))
 have V1 := Lib.hid (V0.out.below (by omega) hb1)
 have M1 := Lib.hid (M0.out.below (by omega) hb1)
 have sz1 : w0.heap.size ≤ w1.heap.size := hb1.size
 clear T0 V0 M0
 have F1 := Lib.hid hX1
 obtain ⟨w2, hw2, hb2, hz2, hX2⟩ := mxWorld w1 #[.int .i64 k1, .int .i64 k2] 64
 have T2 := Lib.hid (T1.out.trans (hb2.mono (by omega)))
 have V2 := Lib.hid (V1.out.below (by omega) hb2)
 have M2 := Lib.hid (M1.out.below (by omega) hb2)
 have F2 := Lib.hid (F1.out.below hb2 (by omega))
 have sz2 : w1.heap.size ≤ w2.heap.size := hb2.size
 clear T1 V1 M1 F1
 rw [hz1] at hX2
 have X2 := Lib.hid hX2
 rw [hz1] at hz2
 have x0 := cellOfBlk X2.out 0
 have x1 := cellOfBlk X2.out 1
 have y0 := cellOfBlk F2.out 0
 have y1 := cellOfBlk F2.out 1
 have y2 := cellOfBlk F2.out 2
 rw [hw0]
 go_enter Tryz.func33, Tryz.ntmps33
 go_wp2_with fail
 refine (specMagOk_any lo hi0 lo2 hi2 _ f _ _ _ ms _ V2.out (by omega) hs Hn.out hm M2.out (by omega)).mono ?_
 rintro e w3 ⟨rfl, hb3⟩
 rw [hmag]
 have T3 := Lib.hid (T2.out.trans (hb3.mono (by omega)))
 have V3 := Lib.hid (V2.out.below (by omega) hb3)
 have M3 := Lib.hid (M2.out.below (by omega) hb3)
 have F3 := Lib.hid (F2.out.below hb3 (by omega))
 have X3 := Lib.hid (X2.out.below hb3 (by omega))
 have sz3 : w2.heap.size ≤ w3.heap.size := hb3.size
 clear T2 V2 M2 F2 X2
 clear x0 x1 y0 y1 y2
 have x0 := cellOfBlk X3.out 0
 have x1 := cellOfBlk X3.out 1
 have y0 := cellOfBlk F3.out 0
 have y1 := cellOfBlk F3.out 1
 have y2 := cellOfBlk F3.out 2
 go_wp2_with fail
 refine (l2Matrix_any lo hi0 _ f (k1, k2) _ V3.out (by omega) hs hf).mono ?_
 rintro e w4 ⟨rfl, hb4⟩
 rw [hmat]
 have T4 := Lib.hid (T3.out.trans (hb4.mono (by omega)))
 have V4 := Lib.hid (V3.out.below (by omega) hb4)
 have M4 := Lib.hid (M3.out.below (by omega) hb4)
 have F4 := Lib.hid (F3.out.below hb4 (by omega))
 have X4 := Lib.hid (X3.out.below hb4 (by omega))
 have sz4 : w3.heap.size ≤ w4.heap.size := hb4.size
 clear T3 V3 M3 F3 X3
 clear x0 x1 y0 y1 y2
 have y0 := cellOfBlk F4.out 0
 have y1 := cellOfBlk F4.out 1
 have y2 := cellOfBlk F4.out 2
 have x0 := cellOfBlk X4.out 0
 have x1 := cellOfBlk X4.out 1
 go_wp2_with fail
 have hcs : Ints w4 B2 f.cs := fontCodes V4.out
 refine (l1Fall_any _ q _ f.cs k2 w4 HQ.out (by have := hs.2.2; have := HQ.out; unfold maxLen; omega) hcs).mono ?_
 rintro e w' ⟨rfl, rfl⟩
 rw [HI.out]
 obtain ⟨ad, xs9, Aj, cj, hA9, hx9, hcell, -, -, -⟩ := M4.out.at_ (k := i) (by rw [Hn.out]; exact hin)
 obtain rfl : xs9 = xs := by have := hx9.out; rw [HX.out] at this; injection this with e; exact e.symm
 have hA9 := Lib.hid hA9
 have hini : (i : Int) < (n : Int) := by omega
 clear hx9 hcs y0 y1
 obtain ⟨l, hlen⟩ : ∃ y, xs9.length = y := ⟨_, rfl⟩
 rw [hlen] at hcell hl hxl
 have HL := Lib.hid hlen
 clear hlen
 have h20 : ((l : Int) == 20) = false := by simp; omega
 have hA8 := hA9.out
 subst hA8
 go_wp2_with fail
 refine (l2Copy_any lo2 hi2 _ _ _ ms w4 Hn.out hm HLIM.out M4.out (by omega)).mono ?_
 rintro e w5 ⟨u, gs, rfl, hO, hb5⟩
 have T5 := Lib.hid (T4.out.trans (hb5.mono (by omega)))
 have X5 := Lib.hid (X4.out.below hb5 (by omega))
 have sz5 : w4.heap.size ≤ w5.heap.size := hb5.size
 clear T4 V4 M4 F4 X4
 obtain ⟨Au, cu9, rfl, -, -, hAu, hAs⟩ := hO.form
 rw [Hn.out] at hAs hO ⊢
 obtain ⟨au, rfl⟩ := hAs (by omega)
 obtain ⟨g, rfl, hg1, hg2⟩ := hAu au rfl
 obtain ⟨h0, hh0, hO0⟩ := hO.rows i _ HX.out
 have HH0 := Lib.hid hh0
 have ho := hO.outer
 rw [Hn.out] at ho
 have d1 := (ho.cellAt i (by omega)).trans hh0
 have f1 := ho.frozenAt i
 have HO := Lib.hid hO; have HO0 := Lib.hid hO0
 clear x0 x1
 clear hO hO0 ho hh0 hAu hAs hcell y2
 have x0 := cellOfBlk X5.out 0
 have x1 := cellOfBlk X5.out 1
 go_upto_region 7 with fail
 refine wp_region_planC 10 (.take 0 (.take 1 (.take 2 (.take 3 (.take 4 (.take 5 (.take 6 (.one 7 (.one 8 (.take 9 (.last 10))))))))))) (fun w' => w'.cell? ⟨g, i, none⟩ = some h0 ∧ w'.cell? ⟨w0.heap.size + 1, 0, none⟩ = some (.int .i64 k1) ∧ w'.cell? ⟨w0.heap.size + 1, 1, none⟩ = some (.int .i64 k2)) (by kernel_rfl) (by kernel_rfl) (by kernel_rfl) ⟨d1, x0, x1⟩ ?_
 iterate 7 (refine planC_quiet rfl (by rfl) (v := ?_) ?_ ?_; rotate_left; (intro w1 hSw; obtain ⟨z0, z1, z2⟩ := hSw; go_simp; try (with_reducible rfl)); (try simp only [Act.put, List.setIfInBounds_toArray, List.set_cons_zero, List.set_cons_succ]))
 have hdz : w5.drew.heap.size = w5.heap.size := rfl
 refine planC_value rfl (by rfl) (u := .slice (some ⟨w5.drew.heap.size, 0, none⟩) 1 1) (w' := w5.drew.alloc (.cells #[.int .i64 k1, .int .i64 k2] 64)) (by go_simp) ⟨?_, ?_, ?_⟩ ?_
 ·exact (((Below.refl _ w5.drew).alloc (Nat.le_refl _) _).cell (p := ⟨g, i, none⟩) (by show g < w5.heap.size; omega)).trans d1
 ·exact (((Below.refl _ w5.drew).alloc (Nat.le_refl _) _).cell (p := ⟨w0.heap.size + 1, 0, none⟩) (by show w0.heap.size + 1 < w5.heap.size; omega)).trans x0
 ·exact (((Below.refl _ w5.drew).alloc (Nat.le_refl _) _).cell (p := ⟨w0.heap.size + 1, 1, none⟩) (by show w0.heap.size + 1 < w5.heap.size; omega)).trans x1
 (try simp only [Act.put, List.setIfInBounds_toArray, List.set_cons_zero, List.set_cons_succ])
 have hd : Below w5.heap.size w5 w5.drew := (Below.refl _ _).drew
 have HOd := HO.out.below hd
 have HO0d : OwnM w5.drew w4.heap.size h0 xs9 := HO0.out.below hd
 refine planC_push w5.drew rfl (by rfl) (.tmp 39) (.tmp 41) rfl w4.heap.size h0 xs9 (k1, k2) rfl rfl HO0d (by show w4.heap.size ≤ w5.heap.size; omega) (by rw [HL.out]; omega) ?_
 intro v7 w7 hO7 hg7 hf7
 have hk7 := HOd.kept HH0.out hg7
 rw [Hn.out] at hk7
 have d7 := (hk7.cellAt i (by omega)).trans HH0.out
 have f7 := hk7.frozenAt i
 have b7 : Below w4.heap.size w5 w7 := (hd.mono (by omega)).trans ((Below.refl _ _).grown hg7 (by show w4.heap.size ≤ w5.heap.size; omega) (fun k hk => (HOd.blocks i h0 k HH0.out hk).1))
 have x0 := (b7.cell (p := ⟨w0.heap.size + 1, 0, none⟩) (by show w0.heap.size + 1 < _; omega)).trans x0
 have x1 := (b7.cell (p := ⟨w0.heap.size + 1, 1, none⟩) (by show w0.heap.size + 1 < _; omega)).trans x1
 refine ⟨⟨d7, x0, x1⟩, ?_⟩
 have hst := HOd.store HX.out HH0.out hg7 hO7 hf7 (Nat.le_refl _)
 obtain ⟨A7, c7, rfl, -⟩ := hO7.form
 have e7 : (xs9 ++ [(k1, k2)]).length = l + 1 := by rw [List.length_append, HL.out]; rfl
 rw [e7] at hst ⊢
 (try simp only [Act.put, List.setIfInBounds_toArray, List.set_cons_zero, List.set_cons_succ])
 refine planC_quiet rfl (by rfl) (v := ?_) ?_ ?_; rotate_left; (intro w1 hSw; obtain ⟨z0, z1, z2⟩ := hSw; go_simp; try (with_reducible rfl)); (try simp only [Act.put, List.setIfInBounds_toArray, List.set_cons_zero, List.set_cons_succ])
 refine planC_lastSkip rfl (by rfl) (w' := w7.setCell ⟨g, i, none⟩ (.slice A7 (l + 1) c7)) (by go_simp) ?_
 (try simp only [Act.put, List.setIfInBounds_toArray, List.set_cons_zero, List.set_cons_succ])
 have b8 : Below w4.heap.size w5 (w7.setCell ⟨g, i, none⟩ (.slice A7 (l + 1) c7)) := b7.setCell (p := ⟨g, i, none⟩) hg1 _
 obtain ⟨w8, hw8⟩ : ∃ x, w7.setCell ⟨g, i, none⟩ (.slice A7 (l + 1) c7) = x := ⟨_, rfl⟩
 rw [hw8] at hst b8 ⊢
 go_wp2
 go_ret3
 exact ⟨_, _, rfl, hst.base (by omega), T5.out.trans (b8.mono (by omega))⟩
set_option maxRecDepth 100000 in
set_option maxHeartbeats 3200000 in
theorem specDrop_full (lo hi0 lo2 hi2 : Nat) (v : Value) (f : Fnt) (A : Option Addr) (n c : Nat) (ms : List (List Mat)) (k1 k2 : Int) (w : World) (h : FontV w lo hi0 v f) (hhi : hi0 ≤ w.heap.size) (hs : Small f) (hn : ms.length = n) (hm : n ≤ 1048576) (hM : MagI w lo2 hi2 A ms) (hhi2 : hi2 ≤ w.heap.size) (wf : wfM ms) (wfx : (Lit.int .i64 k2).wf = true) (hmag : magB f ms = true) (hmat : matB f (k1, k2) = true) (i : Nat) (hia : fallOf f.cs k2 = i) (xs : List Mat) (hx : ms[i]? = some xs) (hl : 20 ≤ xs.length) :
  Calls Tryz.prog 33 #[v, .slice A n c, .agg #[.int .i64 k1, .int .i64 k2]] w fun e w' => e = .returned (.tuple #[.slice none 0 0, .int .i64 0, .bool false]) ∧ Below w.heap.size w w' := by
 obtain ⟨B1, d1, B2, d2, hv⟩ := fontForm h
 obtain ⟨s, hs0⟩ : ∃ y, f.s = y := ⟨_, rfl⟩
 obtain ⟨p, hp⟩ : ∃ y, f.ws.length = y := ⟨_, rfl⟩
 obtain ⟨q, hq⟩ : ∃ y, f.cs.length = y := ⟨_, rfl⟩
 rw [hs0, hp, hq] at hv
 rw [hv] at h
 rw [hv]
 have Hn := Lib.hid hn; have Hwf := Lib.hid wf
 obtain ⟨w0, hw0⟩ : ∃ x, w = x := ⟨_, rfl⟩
 have hww : w.heap.size = w0.heap.size := by rw [hw0]
 have HQ := Lib.hid hq; have HPS := Lib.hid (And.intro hs0 hp)
 have T0 : Hid (Below w0.heap.size w0 w0) := Below.refl _ _
 have V0 : Hid (FontV w0 lo hi0 (.agg #[.string s, .slice B1 p d1, .slice B2 q d2]) f) := by rw [← hw0]; exact h
 have M0 : Hid (MagI w0 lo2 hi2 A ms) := by rw [← hw0]; exact hM
 clear h hM hn wf hs0 hp hq hv
 obtain ⟨hf, -, hrows⟩ := magB_rows hmag
 have hin : i < n := by rw [← Hn.out]; exact (List.getElem?_eq_some_iff.1 hx).1
 have hlim : ∀ xs ∈ ms, xs.length ≤ 1048576 := fun xs hx => by have := (hrows xs hx).1; omega
 have HI := Lib.hid hia; have HX := Lib.hid hx; have HLIM := Lib.hid hlim
 have hxl := (hrows xs (List.mem_of_getElem? hx)).1
 clear hx hrows hlim hia
 obtain ⟨w1, hw1, hb1, hz1, hX1⟩ := mxWorld w0 #[.string s, .slice B1 p d1, .slice B2 q d2] 32
 have T1 := Lib.hid (T0.out.trans (hb1.mono (by omega)))
 have V1 := Lib.hid (V0.out.below (by omega) hb1)
 have M1 := Lib.hid (M0.out.below (by omega) hb1)
 have sz1 : w0.heap.size ≤ w1.heap.size := hb1.size
 clear T0 V0 M0
 have F1 := Lib.hid hX1
 obtain ⟨w2, hw2, hb2, hz2, hX2⟩ := mxWorld w1 #[.int .i64 k1, .int .i64 k2] 64
 have T2 := Lib.hid (T1.out.trans (hb2.mono (by omega)))
 have V2 := Lib.hid (V1.out.below (by omega) hb2)
 have M2 := Lib.hid (M1.out.below (by omega) hb2)
 have F2 := Lib.hid (F1.out.below hb2 (by omega))
 have sz2 : w1.heap.size ≤ w2.heap.size := hb2.size
 clear T1 V1 M1 F1
 rw [hz1] at hX2
 have X2 := Lib.hid hX2
 rw [hz1] at hz2
 have x0 := cellOfBlk X2.out 0
 have x1 := cellOfBlk X2.out 1
 have y0 := cellOfBlk F2.out 0
 have y1 := cellOfBlk F2.out 1
 have y2 := cellOfBlk F2.out 2
 rw [hw0]
 go_enter Tryz.func33, Tryz.ntmps33
 go_wp2_with fail
 refine (specMagOk_any lo hi0 lo2 hi2 _ f _ _ _ ms _ V2.out (by omega) hs Hn.out hm M2.out (by omega)).mono ?_
 rintro e w3 ⟨rfl, hb3⟩
 rw [hmag]
 have T3 := Lib.hid (T2.out.trans (hb3.mono (by omega)))
 have V3 := Lib.hid (V2.out.below (by omega) hb3)
 have M3 := Lib.hid (M2.out.below (by omega) hb3)
 have F3 := Lib.hid (F2.out.below hb3 (by omega))
 have X3 := Lib.hid (X2.out.below hb3 (by omega))
 have sz3 : w2.heap.size ≤ w3.heap.size := hb3.size
 clear T2 V2 M2 F2 X2
 clear x0 x1 y0 y1 y2
 have x0 := cellOfBlk X3.out 0
 have x1 := cellOfBlk X3.out 1
 have y0 := cellOfBlk F3.out 0
 have y1 := cellOfBlk F3.out 1
 have y2 := cellOfBlk F3.out 2
 go_wp2_with fail
 refine (l2Matrix_any lo hi0 _ f (k1, k2) _ V3.out (by omega) hs hf).mono ?_
 rintro e w4 ⟨rfl, hb4⟩
 rw [hmat]
 have T4 := Lib.hid (T3.out.trans (hb4.mono (by omega)))
 have V4 := Lib.hid (V3.out.below (by omega) hb4)
 have M4 := Lib.hid (M3.out.below (by omega) hb4)
 have F4 := Lib.hid (F3.out.below hb4 (by omega))
 have X4 := Lib.hid (X3.out.below hb4 (by omega))
 have sz4 : w3.heap.size ≤ w4.heap.size := hb4.size
 clear T3 V3 M3 F3 X3
 clear x0 x1 y0 y1 y2
 have y0 := cellOfBlk F4.out 0
 have y1 := cellOfBlk F4.out 1
 have y2 := cellOfBlk F4.out 2
 have x0 := cellOfBlk X4.out 0
 have x1 := cellOfBlk X4.out 1
 go_wp2_with fail
 have hcs : Ints w4 B2 f.cs := fontCodes V4.out
 refine (l1Fall_any _ q _ f.cs k2 w4 HQ.out (by have := hs.2.2; have := HQ.out; unfold maxLen; omega) hcs).mono ?_
 rintro e w' ⟨rfl, rfl⟩
 rw [HI.out]
 obtain ⟨ad, xs9, Aj, cj, hA9, hx9, hcell, -, -, -⟩ := M4.out.at_ (k := i) (by rw [Hn.out]; exact hin)
 obtain rfl : xs9 = xs := by have := hx9.out; rw [HX.out] at this; injection this with e; exact e.symm
 have hA9 := Lib.hid hA9
 have hini : (i : Int) < (n : Int) := by omega
 clear hx9 hcs y0 y1
 obtain ⟨l, hlen⟩ : ∃ y, xs9.length = y := ⟨_, rfl⟩
 rw [hlen] at hcell hl hxl
 have HL := Lib.hid hlen
 clear hlen
 have h20 : ((l : Int) == 20) = true := by simp; omega
 have hA8 := hA9.out
 subst hA8
 go_wp2
 go_ret3
 exact ⟨rfl, T4.out⟩
end Go.Proofs.YtimhnkpccbcohaaGreatDoor
