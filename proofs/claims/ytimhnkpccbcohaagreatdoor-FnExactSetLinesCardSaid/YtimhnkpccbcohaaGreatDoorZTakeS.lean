/-
 TakeMatrix of the model by contract. Condition: lengths of at most 2^20.
-/
import Derived.Test.YtimhnkpccbcohaaGreatDoorZReadMG
import Derived.Test.YtimhnkpccbcohaaGreatDoorZPkH
namespace Go.Proofs.YtimhnkpccbcohaaGreatDoor
open Go.RowKit Go.Conc
set_option linter.unusedVariables false
set_option linter.unusedSimpArgs false

theorem add_off (g o j : Nat) : (⟨g, o, none⟩ : Addr).add j = ⟨g, o + j, none⟩ := by unfold Addr.add; split <;> simp_all
/-- a row that begins one matrix later -/
theorem OwnMag.tail {w : World} {B hi g n c i g2 m c0 c' : Nat} {A' : Option Addr} {hs : List Value} {ms : List (List Mat)} {x : Mat} {xs : List Mat} (h : OwnMag w B hi (.slice (some ⟨g, 0, none⟩) n c) hs ms) (hx : ms[i]? = some (x :: xs)) (hh : hs[i]? = some (.slice (some ⟨g2, 0, none⟩) m c0))
  (hA : 0 < xs.length → A' = some ⟨g2, 2, none⟩) (hc : xs.length ≤ c') (hcm : c' ≤ maxLen) : MagI (w.setCell ⟨g, i, none⟩ (.slice A' xs.length c')) B hi (some ⟨g, 0, none⟩) (ms.set i xs) := by
 intro hn
 have hil := (List.getElem?_eq_some_iff.1 hx).1
 have hlt := World.ownsRow.lt h.outer g rfl
 refine ⟨_, rfl, hlt.1, h.top g rfl, fun j ys hy => ?_⟩
 have key : ∀ (j : Nat) (zs : List Mat), ms[j]? = some zs → ∃ hj, hs[j]? = some hj ∧ OwnM (w.setCell ⟨g, i, none⟩ (.slice A' xs.length c')) B hj zs := fun j zs hz => by
  obtain ⟨hj, e, ho⟩ := h.rows j zs hz
  refine ⟨hj, e, row_keepB ho fun b hb => ?_⟩
  have hne := (h.other j hj b e hb).1
  exact Below.heap_setCell _ _ _ _ (by show b ≠ g; intro e2; exact hne (by rw [e2]; rfl))
 by_cases hj : j = i
 ·subst hj
  rw [List.getElem?_set_self hil] at hy
  injection hy with hy
  subst hy
  refine ⟨A', c', ?_, hc, hcm, fun hp => ?_⟩
  ·have hcell := World.ownsRow.cells h.outer (g := g) rfl j _ hh
   rw [add_zero_at] at hcell ⊢
   exact World.cell?_setCell_same' _ _ _ (by rw [hcell]; rfl)
  ·obtain ⟨hj, e, ho⟩ := key j _ hx
   rw [hh] at e; injection e with e; subst e
   obtain ⟨A9, c9, hv9, -, -, -, -⟩ := ho.form
   injection hv9 with e1 e2 e3
   subst e2
   obtain ⟨ad, e1, q1, q2, hcell⟩ := ho.reads (by simp)
   injection e1 with e1; subst e1
   refine ⟨⟨g2, 2, none⟩, hA hp, q1, (h.other j _ g2 hh rfl).2, fun k y hk => ?_⟩
   have := hcell (k + 1) y (by rw [List.getElem?_cons_succ]; exact hk)
   have e5 : (Addr.mk g2 2 none).add (k * 2) = (Addr.mk g2 0 none).add ((k + 1) * 2) := by rw [add_zero_at, add_off]; congr 1; omega
   have e6 : (Addr.mk g2 2 none).add (k * 2 + 1) = (Addr.mk g2 0 none).add ((k + 1) * 2 + 1) := by rw [add_zero_at, add_off]; congr 1; omega
   rw [e5, e6]
   exact this
 ·rw [List.getElem?_set_ne (fun e => hj e.symm)] at hy
  obtain ⟨hj', e, ho⟩ := key j ys hy
  obtain ⟨Aj, cj, rfl, k1, k2, hA', -⟩ := ho.form
  have hc9 := World.ownsRow.cells h.outer (g := g) rfl j _ e
  refine ⟨Aj, cj, ?_, k1, k2, fun hp => ?_⟩
  ·rw [add_zero_at] at hc9 ⊢
   refine (World.cell?_setCell_other _ _ _ _ ?_).trans hc9
   intro e9
   injection e9 with e9 e8
   exact hj e8.symm
  ·obtain ⟨ad, e1, g1, g2', hcell⟩ := ho.reads hp
   refine ⟨ad, e1, g1, ?_, hcell⟩
   obtain ⟨g', rfl, q1, q2⟩ := hA' ad e1
   subst e1
   exact (h.other j _ g' e rfl).2
set_option maxRecDepth 100000 in
set_option maxHeartbeats 3200000 in
theorem specTake_no2 (lo hi0 lo2 hi2 : Nat) (v : Value) (f : Fnt) (A : Option Addr) (n c : Nat) (ms : List (List Mat)) (ch : Int) (w : World) (h : FontV w lo hi0 v f) (hhi : hi0 ≤ w.heap.size) (hs : Small f) (hn : ms.length = n) (hm : n ≤ 1048576) (hM : MagI w lo2 hi2 A ms) (hhi2 : hi2 ≤ w.heap.size) (wf : wfM ms) (hmag : magB f ms = true) (in1 : inB ch 0 ((n : Int) - 1) = false) :
  Calls Tryz.prog 96 #[v, .slice A n c, .int .i64 ch] w fun e w' => e = .returned (.tuple #[.slice none 0 0, .agg #[.int .i64 0, .int .i64 0], .bool false]) ∧ Below w.heap.size w w' := by
 obtain ⟨B1, d1, B2, d2, hv⟩ := fontForm h
 obtain ⟨s, hs0⟩ : ∃ y, f.s = y := ⟨_, rfl⟩
 obtain ⟨p, hp⟩ : ∃ y, f.ws.length = y := ⟨_, rfl⟩
 obtain ⟨q, hq⟩ : ∃ y, f.cs.length = y := ⟨_, rfl⟩
 rw [hs0, hp, hq] at hv
 rw [hv] at h
 rw [hv]
 have Hn := Lib.hid hn; have Hwf := Lib.hid wf
 obtain ⟨w0, hw0⟩ : ∃ x, w = x := ⟨_, rfl⟩
 have hww : w.heap.size = w0.heap.size := by rw [hw0]
 have HQ := Lib.hid hq
 have T0 : Hid (Below w0.heap.size w0 w0) := Below.refl _ _
 have V0 : Hid (FontV w0 lo hi0 (.agg #[.string s, .slice B1 p d1, .slice B2 q d2]) f) := by rw [← hw0]; exact h
 have M0 : Hid (MagI w0 lo2 hi2 A ms) := by rw [← hw0]; exact hM
 clear h hM hn wf hs0 hp hq hv
 obtain ⟨w1, hw1, hb1, hz1, hX1⟩ := mxWorld w0 #[.string s, .slice B1 p d1, .slice B2 q d2] 32
 have T1 := Lib.hid (T0.out.trans (hb1.mono (by omega)))
 have V1 := Lib.hid (V0.out.below (by omega) hb1)
 have M1 := Lib.hid (M0.out.below (by omega) hb1)
 have sz1 : w0.heap.size ≤ w1.heap.size := hb1.size
 clear T0 V0 M0
 have F1 := Lib.hid hX1
 obtain ⟨w2, hw2, hb2, hz2, hX2⟩ := mxWorld w1 #[.int .i64 0, .int .i64 0] 64
 have T2 := Lib.hid (T1.out.trans (hb2.mono (by omega)))
 have V2 := Lib.hid (V1.out.below (by omega) hb2)
 have M2 := Lib.hid (M1.out.below (by omega) hb2)
 have F2 := Lib.hid (F1.out.below hb2 (by omega))
 have sz2 : w1.heap.size ≤ w2.heap.size := hb2.size
 clear T1 V1 M1 F1
 rw [hz1] at hX2
 have Z2 := Lib.hid hX2
 rw [hz1] at hz2
 have y0 := cellOfBlk F2.out 0
 have y1 := cellOfBlk F2.out 1
 have y2 := cellOfBlk F2.out 2
 have e0 := cellOfBlk Z2.out 0
 have e1 := cellOfBlk Z2.out 1
 have f0 := Z2.out.warm 0
 have f1 := Z2.out.warm 1
 rw [hw0]
 go_enter Tryz.func96, Tryz.ntmps96
 go_wp2_with fail
 clear y0 y1 y2 e0 e1 f0 f1
 refine (specMagOk_any lo hi0 lo2 hi2 _ f _ _ _ ms _ V2.out (by omega) hs Hn.out hm M2.out (by omega)).mono ?_
 rintro e w3 ⟨rfl, hb3⟩
 rw [hmag]
 have T3 := Lib.hid (T2.out.trans (hb3.mono (by omega)))
 have V3 := Lib.hid (V2.out.below (by omega) hb3)
 have M3 := Lib.hid (M2.out.below (by omega) hb3)
 have F3 := Lib.hid (F2.out.below hb3 (by omega))
 have Z3 := Lib.hid (Z2.out.below hb3 (by omega))
 have sz3 : w2.heap.size ≤ w3.heap.size := hb3.size
 clear T2 V2 M2 F2 Z2
 have y0 := cellOfBlk F3.out 0
 have y1 := cellOfBlk F3.out 1
 have y2 := cellOfBlk F3.out 2
 have e0 := cellOfBlk Z3.out 0
 have e1 := cellOfBlk Z3.out 1
 have f0 := Z3.out.warm 0
 have f1 := Z3.out.warm 1
 go_wp2_with fail
 clear y0 y1 y2 e0 e1 f0 f1
 refine (l1In_any _ _ _ _).mono ?_; rintro e w' ⟨rfl, rfl⟩; rw [in1]
 have y0 := cellOfBlk F3.out 0
 have y1 := cellOfBlk F3.out 1
 have y2 := cellOfBlk F3.out 2
 have e0 := cellOfBlk Z3.out 0
 have e1 := cellOfBlk Z3.out 1
 have f0 := Z3.out.warm 0
 have f1 := Z3.out.warm 1
 go_wp2
 have hcg := chg_two w3 (w0.heap.size + 1) (.int .i64 0) (.int .i64 0)
 have ry := Z3.out.fill2 (.int .i64 0) (.int .i64 0)
 obtain ⟨y, hy⟩ : ∃ x, (w3.setCell ⟨w0.heap.size + 1, 0, none⟩ (.int .i64 0)).setCell ⟨w0.heap.size + 1, 1, none⟩ (.int .i64 0) = x := ⟨_, rfl⟩
 rw [hy] at hcg ry ⊢
 have z0 := cellOfBlk ry 0
 have z1 := cellOfBlk ry 1
 refine bodyPost_ret (v := .tuple #[.slice none 0 0, .agg #[.int .i64 0, .int .i64 0], .bool false]) (by simp [results, Tryz.results96, go_sem, z0, z1]) rfl ?_
 exact ⟨rfl, T3.out.trans ((hcg.below (by omega)).mono (by omega))⟩
set_option maxRecDepth 100000 in
set_option maxHeartbeats 3200000 in
theorem specTake_none (lo hi0 lo2 hi2 : Nat) (v : Value) (f : Fnt) (A : Option Addr) (n c : Nat) (ms : List (List Mat)) (i : Nat) (w : World) (h : FontV w lo hi0 v f) (hhi : hi0 ≤ w.heap.size) (hs : Small f) (hn : ms.length = n) (hm : n ≤ 1048576) (hM : MagI w lo2 hi2 A ms) (hhi2 : hi2 ≤ w.heap.size) (wf : wfM ms) (hmag : magB f ms = true) (hx : ms[i]? = some []) :
  Calls Tryz.prog 96 #[v, .slice A n c, .int .i64 i] w fun e w' => e = .returned (.tuple #[.slice none 0 0, .agg #[.int .i64 0, .int .i64 0], .bool false]) ∧ Below w.heap.size w w' := by
 obtain ⟨B1, d1, B2, d2, hv⟩ := fontForm h
 obtain ⟨s, hs0⟩ : ∃ y, f.s = y := ⟨_, rfl⟩
 obtain ⟨p, hp⟩ : ∃ y, f.ws.length = y := ⟨_, rfl⟩
 obtain ⟨q, hq⟩ : ∃ y, f.cs.length = y := ⟨_, rfl⟩
 rw [hs0, hp, hq] at hv
 rw [hv] at h
 rw [hv]
 have Hn := Lib.hid hn; have Hwf := Lib.hid wf
 obtain ⟨w0, hw0⟩ : ∃ x, w = x := ⟨_, rfl⟩
 have hww : w.heap.size = w0.heap.size := by rw [hw0]
 have HQ := Lib.hid hq
 have T0 : Hid (Below w0.heap.size w0 w0) := Below.refl _ _
 have V0 : Hid (FontV w0 lo hi0 (.agg #[.string s, .slice B1 p d1, .slice B2 q d2]) f) := by rw [← hw0]; exact h
 have M0 : Hid (MagI w0 lo2 hi2 A ms) := by rw [← hw0]; exact hM
 clear h hM hn wf hs0 hp hq hv
 obtain ⟨hf, -, hrows⟩ := magB_rows hmag
 have hin : i < n := by rw [← Hn.out]; exact (List.getElem?_eq_some_iff.1 hx).1
 have hlim : ∀ xs ∈ ms, xs.length ≤ 1048576 := fun xs hx => by have := (hrows xs hx).1; omega
 have HX := Lib.hid hx; have HLIM := Lib.hid hlim
 have hx20 := (hrows _ (List.mem_of_getElem? hx)).1
 have in1 : inB (i : Int) 0 ((n : Int) - 1) = true := by rw [inB_iff]; omega
 clear hx hrows hlim
 obtain ⟨w1, hw1, hb1, hz1, hX1⟩ := mxWorld w0 #[.string s, .slice B1 p d1, .slice B2 q d2] 32
 have T1 := Lib.hid (T0.out.trans (hb1.mono (by omega)))
 have V1 := Lib.hid (V0.out.below (by omega) hb1)
 have M1 := Lib.hid (M0.out.below (by omega) hb1)
 have sz1 : w0.heap.size ≤ w1.heap.size := hb1.size
 clear T0 V0 M0
 have F1 := Lib.hid hX1
 obtain ⟨w2, hw2, hb2, hz2, hX2⟩ := mxWorld w1 #[.int .i64 0, .int .i64 0] 64
 have T2 := Lib.hid (T1.out.trans (hb2.mono (by omega)))
 have V2 := Lib.hid (V1.out.below (by omega) hb2)
 have M2 := Lib.hid (M1.out.below (by omega) hb2)
 have F2 := Lib.hid (F1.out.below hb2 (by omega))
 have sz2 : w1.heap.size ≤ w2.heap.size := hb2.size
 clear T1 V1 M1 F1
 rw [hz1] at hX2
 have Z2 := Lib.hid hX2
 rw [hz1] at hz2
 have y0 := cellOfBlk F2.out 0
 have y1 := cellOfBlk F2.out 1
 have y2 := cellOfBlk F2.out 2
 have e0 := cellOfBlk Z2.out 0
 have e1 := cellOfBlk Z2.out 1
 have f0 := Z2.out.warm 0
 have f1 := Z2.out.warm 1
 rw [hw0]
 go_enter Tryz.func96, Tryz.ntmps96
 go_wp2_with fail
 clear y0 y1 y2 e0 e1 f0 f1
 refine (specMagOk_any lo hi0 lo2 hi2 _ f _ _ _ ms _ V2.out (by omega) hs Hn.out hm M2.out (by omega)).mono ?_
 rintro e w3 ⟨rfl, hb3⟩
 rw [hmag]
 have T3 := Lib.hid (T2.out.trans (hb3.mono (by omega)))
 have V3 := Lib.hid (V2.out.below (by omega) hb3)
 have M3 := Lib.hid (M2.out.below (by omega) hb3)
 have F3 := Lib.hid (F2.out.below hb3 (by omega))
 have Z3 := Lib.hid (Z2.out.below hb3 (by omega))
 have sz3 : w2.heap.size ≤ w3.heap.size := hb3.size
 clear T2 V2 M2 F2 Z2
 have y0 := cellOfBlk F3.out 0
 have y1 := cellOfBlk F3.out 1
 have y2 := cellOfBlk F3.out 2
 have e0 := cellOfBlk Z3.out 0
 have e1 := cellOfBlk Z3.out 1
 have f0 := Z3.out.warm 0
 have f1 := Z3.out.warm 1
 go_wp2_with fail
 clear y0 y1 y2 e0 e1 f0 f1
 refine (l1In_any _ _ _ _).mono ?_; rintro e w' ⟨rfl, rfl⟩; rw [in1]
 obtain ⟨ad, xs9, Aj, cj, hA9, hx9, hcell, -, -, -⟩ := M3.out.at_ (k := i) (by rw [Hn.out]; exact hin)
 obtain rfl : xs9 = [] := by have := hx9.out; rw [HX.out] at this; injection this with e; exact e.symm
 subst hA9
 have hini : (i : Int) < (n : Int) := by omega
 clear hx9
 obtain ⟨l, hlen⟩ : ∃ y, ([] : List Mat).length = y := ⟨_, rfl⟩
 rw [hlen] at hcell
 have hl0 : l = 0 := by rw [← hlen]; rfl
 have hle : ((l : Int) == 0) = true := by simp; omega
 have HL := Lib.hid hlen
 clear hlen
 have y0 := cellOfBlk F3.out 0
 have y1 := cellOfBlk F3.out 1
 have y2 := cellOfBlk F3.out 2
 have e0 := cellOfBlk Z3.out 0
 have e1 := cellOfBlk Z3.out 1
 have f0 := Z3.out.warm 0
 have f1 := Z3.out.warm 1
 go_wp2
 have hcg := chg_two w3 (w0.heap.size + 1) (.int .i64 0) (.int .i64 0)
 have ry := Z3.out.fill2 (.int .i64 0) (.int .i64 0)
 obtain ⟨y, hy⟩ : ∃ x, (w3.setCell ⟨w0.heap.size + 1, 0, none⟩ (.int .i64 0)).setCell ⟨w0.heap.size + 1, 1, none⟩ (.int .i64 0) = x := ⟨_, rfl⟩
 rw [hy] at hcg ry ⊢
 have z0 := cellOfBlk ry 0
 have z1 := cellOfBlk ry 1
 refine bodyPost_ret (v := .tuple #[.slice none 0 0, .agg #[.int .i64 0, .int .i64 0], .bool false]) (by simp [results, Tryz.results96, go_sem, z0, z1]) rfl ?_
 exact ⟨rfl, T3.out.trans ((hcg.below (by omega)).mono (by omega))⟩
set_option maxRecDepth 100000 in
set_option maxHeartbeats 3200000 in
theorem specTake_yes (lo hi0 lo2 hi2 : Nat) (v : Value) (f : Fnt) (A : Option Addr) (n c : Nat) (ms : List (List Mat)) (i : Nat) (w : World) (h : FontV w lo hi0 v f) (hhi : hi0 ≤ w.heap.size) (hs : Small f) (hn : ms.length = n) (hm : n ≤ 1048576) (hM : MagI w lo2 hi2 A ms) (hhi2 : hi2 ≤ w.heap.size) (wf : wfM ms) (hmag : magB f ms = true) (x : Mat) (xs : List Mat) (hx : ms[i]? = some (x :: xs)) :
  Calls Tryz.prog 96 #[v, .slice A n c, .int .i64 i] w fun e w' => ∃ A9 c9, e = .returned (.tuple #[.slice A9 n c9, cvM x, .bool true]) ∧ MagI w' w.heap.size w'.heap.size A9 (ms.set i xs) ∧ n ≤ c9 ∧ c9 ≤ maxLen ∧ Below w.heap.size w w' := by
 obtain ⟨B1, d1, B2, d2, hv⟩ := fontForm h
 obtain ⟨s, hs0⟩ : ∃ y, f.s = y := ⟨_, rfl⟩
 obtain ⟨p, hp⟩ : ∃ y, f.ws.length = y := ⟨_, rfl⟩
 obtain ⟨q, hq⟩ : ∃ y, f.cs.length = y := ⟨_, rfl⟩
 rw [hs0, hp, hq] at hv
 rw [hv] at h
 rw [hv]
 have Hn := Lib.hid hn; have Hwf := Lib.hid wf
 obtain ⟨w0, hw0⟩ : ∃ x, w = x := ⟨_, rfl⟩
 have hww : w.heap.size = w0.heap.size := by rw [hw0]
 have HQ := Lib.hid hq
 have T0 : Hid (Below w0.heap.size w0 w0) := Below.refl _ _
 have V0 : Hid (FontV w0 lo hi0 (.agg #[.string s, .slice B1 p d1, .slice B2 q d2]) f) := by rw [← hw0]; exact h
 have M0 : Hid (MagI w0 lo2 hi2 A ms) := by rw [← hw0]; exact hM
 clear h hM hn wf hs0 hp hq hv
 obtain ⟨hf, -, hrows⟩ := magB_rows hmag
 have hin : i < n := by rw [← Hn.out]; exact (List.getElem?_eq_some_iff.1 hx).1
 have hlim : ∀ xs ∈ ms, xs.length ≤ 1048576 := fun xs hx => by have := (hrows xs hx).1; omega
 have HX := Lib.hid hx; have HLIM := Lib.hid hlim
 have hx20 := (hrows _ (List.mem_of_getElem? hx)).1
 have in1 : inB (i : Int) 0 ((n : Int) - 1) = true := by rw [inB_iff]; omega
 clear hx hrows hlim
 obtain ⟨w1, hw1, hb1, hz1, hX1⟩ := mxWorld w0 #[.string s, .slice B1 p d1, .slice B2 q d2] 32
 have T1 := Lib.hid (T0.out.trans (hb1.mono (by omega)))
 have V1 := Lib.hid (V0.out.below (by omega) hb1)
 have M1 := Lib.hid (M0.out.below (by omega) hb1)
 have sz1 : w0.heap.size ≤ w1.heap.size := hb1.size
 clear T0 V0 M0
 have F1 := Lib.hid hX1
 obtain ⟨w2, hw2, hb2, hz2, hX2⟩ := mxWorld w1 #[.int .i64 0, .int .i64 0] 64
 have T2 := Lib.hid (T1.out.trans (hb2.mono (by omega)))
 have V2 := Lib.hid (V1.out.below (by omega) hb2)
 have M2 := Lib.hid (M1.out.below (by omega) hb2)
 have F2 := Lib.hid (F1.out.below hb2 (by omega))
 have sz2 : w1.heap.size ≤ w2.heap.size := hb2.size
 clear T1 V1 M1 F1
 rw [hz1] at hX2
 have Z2 := Lib.hid hX2
 rw [hz1] at hz2
 have y0 := cellOfBlk F2.out 0
 have y1 := cellOfBlk F2.out 1
 have y2 := cellOfBlk F2.out 2
 have e0 := cellOfBlk Z2.out 0
 have e1 := cellOfBlk Z2.out 1
 have f0 := Z2.out.warm 0
 have f1 := Z2.out.warm 1
 rw [hw0]
 go_enter Tryz.func96, Tryz.ntmps96
 go_wp2_with fail
 clear y0 y1 y2 e0 e1 f0 f1
 refine (specMagOk_any lo hi0 lo2 hi2 _ f _ _ _ ms _ V2.out (by omega) hs Hn.out hm M2.out (by omega)).mono ?_
 rintro e w3 ⟨rfl, hb3⟩
 rw [hmag]
 have T3 := Lib.hid (T2.out.trans (hb3.mono (by omega)))
 have V3 := Lib.hid (V2.out.below (by omega) hb3)
 have M3 := Lib.hid (M2.out.below (by omega) hb3)
 have F3 := Lib.hid (F2.out.below hb3 (by omega))
 have Z3 := Lib.hid (Z2.out.below hb3 (by omega))
 have sz3 : w2.heap.size ≤ w3.heap.size := hb3.size
 clear T2 V2 M2 F2 Z2
 have y0 := cellOfBlk F3.out 0
 have y1 := cellOfBlk F3.out 1
 have y2 := cellOfBlk F3.out 2
 have e0 := cellOfBlk Z3.out 0
 have e1 := cellOfBlk Z3.out 1
 have f0 := Z3.out.warm 0
 have f1 := Z3.out.warm 1
 go_wp2_with fail
 clear y0 y1 y2 e0 e1 f0 f1
 refine (l1In_any _ _ _ _).mono ?_; rintro e w' ⟨rfl, rfl⟩; rw [in1]
 obtain ⟨ad, xs9, Aj, cj, hA9, hx9, hcell, -, -, -⟩ := M3.out.at_ (k := i) (by rw [Hn.out]; exact hin)
 obtain rfl : xs9 = x :: xs := by have := hx9.out; rw [HX.out] at this; injection this with e; exact e.symm
 subst hA9
 have hini : (i : Int) < (n : Int) := by omega
 clear hx9
 obtain ⟨l, hlen⟩ : ∃ y, (x :: xs).length = y := ⟨_, rfl⟩
 rw [hlen] at hcell
 have hl0 : 0 < l := by rw [← hlen]; simp
 have hle : ((l : Int) == 0) = false := by simp; omega
 have HL := Lib.hid hlen
 clear hlen
 have y0 := cellOfBlk F3.out 0
 have y1 := cellOfBlk F3.out 1
 have y2 := cellOfBlk F3.out 2
 have e0 := cellOfBlk Z3.out 0
 have e1 := cellOfBlk Z3.out 1
 have f0 := Z3.out.warm 0
 have f1 := Z3.out.warm 1
 go_wp2_with fail
 clear y0 y1 y2 e0 e1 f0 f1
 refine (l2Copy_any lo2 hi2 _ _ _ ms w3 Hn.out hm HLIM.out M3.out (by omega)).mono ?_
 rintro e w4 ⟨u, gs, rfl, hO, hb4⟩
 have T4 := Lib.hid (T3.out.trans (hb4.mono (by omega)))
 have Z4 := Lib.hid (Z3.out.below hb4 (by omega))
 have sz4 : w3.heap.size ≤ w4.heap.size := hb4.size
 clear T3 V3 M3 F3 Z3
 obtain ⟨Au, cu9, rfl, hcu1, hcu2, hAu, hAs⟩ := hO.form
 rw [Hn.out] at hcu1
 rw [Hn.out] at hAs hO ⊢
 obtain ⟨au, rfl⟩ := hAs (by omega)
 obtain ⟨g, rfl, hg1, hg2⟩ := hAu au rfl
 obtain ⟨h0, hh0, hO0⟩ := hO.rows i _ HX.out
 obtain ⟨A0, c0, rfl, hc01, hc02, hA0, hS0⟩ := hO0.form
 obtain ⟨a0, rfl⟩ := hS0 (by simp)
 obtain ⟨g2, rfl, hg3, hg4⟩ := hA0 a0 rfl
 have HH0 := Lib.hid hh0
 have ho := hO.outer
 rw [Hn.out] at ho
 have d1 := (ho.cellAt i (by omega)).trans hh0
 have f9 := ho.frozenAt i
 obtain ⟨k1, k2⟩ := x
 have z1 := (hO0.cellAt 0 (by simp only [List.length_cons]; omega)).trans (mcells_get (xs := (k1, k2) :: xs) (k := 0) rfl).1
 have z2 := (hO0.cellAt 1 (by simp only [List.length_cons]; omega)).trans (mcells_get (xs := (k1, k2) :: xs) (k := 0) rfl).2
 rw [HL.out] at d1 hc01 HH0
 have HO := Lib.hid hO; have HO0 := Lib.hid hO0
 clear hO hO0 ho hh0 hAu hAs hcell hA0 hS0
 simp only at z1 z2
 obtain ⟨w5, hw5, hb5, hz5, hX5⟩ := mxWorld w4 #[.int .i64 k1, .int .i64 k2] 64
 have T5 := Lib.hid (T4.out.trans (hb5.mono (by omega)))
 have Z5 := Lib.hid (Z4.out.below hb5 (by omega))
 have sz5 : w4.heap.size ≤ w5.heap.size := hb5.size
 clear T4 Z4
 have X5 := Lib.hid hX5
 have d1 := (hb5.cell (p := ⟨g, i, none⟩) hg2).trans d1
 have fr : w5.frozen? ⟨g, i, none⟩ = false := by have h9 := (HO.out.below hb5).outer; rw [Hn.out] at h9; exact h9.frozenAt i
 have hl1 : ((1 : Nat) : Int) ≤ (l : Int) := by omega
 have e0 := cellOfBlk Z5.out 0
 have e1 := cellOfBlk Z5.out 1
 have f0 := Z5.out.warm 0
 have f1 := Z5.out.warm 1
 have x0 := cellOfBlk X5.out 0
 have x1 := cellOfBlk X5.out 1
 go_upto_region 8 with fail
 obtain ⟨A', hA'⟩ : ∃ y, (if c0 = 1 then some (Addr.mk g2 0 none) else some (Addr.mk g2 2 none)) = y := ⟨_, rfl⟩
 rw [hA']
 have hxl : xs.length = l - 1 := by have := HL.out; simp only [List.length_cons] at this; omega
 have hc03 : l ≤ c0 := hc01
 have hA9 : 0 < xs.length → A' = some ⟨g2, 2, none⟩ := fun h9 => by rw [← hA', if_neg (by omega)]
 have ht := (HO.out.below hb5).tail (A' := A') (c' := c0 - 1) HX.out HH0.out hA9 (by omega) (by omega)
 rw [hxl] at ht
 have hcg := chg_one w5 g i (.slice A' (l - 1) (c0 - 1))
 obtain ⟨w6, hw6⟩ : ∃ x, w5.setCell ⟨g, i, none⟩ (.slice A' (l - 1) (c0 - 1)) = x := ⟨_, rfl⟩
 rw [hw6] at ht hcg ⊢
 clear e0 e1 f0 f1 x0 x1
 have Z6 : Hid (Blk w6 (w0.heap.size + 1) #[.int .i64 0, .int .i64 0] 64) := (hcg.block _ (by omega) (by omega)).trans Z5.out
 have X6 : Hid (Blk w6 w4.heap.size #[.int .i64 k1, .int .i64 k2] 64) := (hcg.block _ X5.out.lt (by omega)).trans X5.out
 have T6 := Lib.hid (T5.out.trans ((hcg.below (by omega)).mono (by omega)))
 have szk := hcg.size
 clear T5 Z5 X5 hcg
 have HT := Lib.hid ht
 clear ht d1 fr f9 z1 z2
 have e0 := cellOfBlk Z6.out 0
 have e1 := cellOfBlk Z6.out 1
 have f0 := Z6.out.warm 0
 have f1 := Z6.out.warm 1
 have x0 := cellOfBlk X6.out 0
 have x1 := cellOfBlk X6.out 1
 go_region
 have hcg : Chg (w0.heap.size + 1) (w0.heap.size + 1 + 1) w6 ((w6.setCell ⟨w0.heap.size + 1, 0, none⟩ (.int .i64 k1)).setCell ⟨w0.heap.size + 1, 1, none⟩ (.int .i64 k2)).drew := (chg_two w6 (w0.heap.size + 1) (.int .i64 k1) (.int .i64 k2)).trans (Chg.of_below ((Below.refl _ _).drew))
 have ry : Blk ((w6.setCell ⟨w0.heap.size + 1, 0, none⟩ (.int .i64 k1)).setCell ⟨w0.heap.size + 1, 1, none⟩ (.int .i64 k2)).drew (w0.heap.size + 1) #[.int .i64 k1, .int .i64 k2] 64 := Z6.out.fill2 (.int .i64 k1) (.int .i64 k2)
 obtain ⟨y, hy⟩ : ∃ x, ((w6.setCell ⟨w0.heap.size + 1, 0, none⟩ (.int .i64 k1)).setCell ⟨w0.heap.size + 1, 1, none⟩ (.int .i64 k2)).drew = x := ⟨_, rfl⟩
 rw [hy] at hcg ry ⊢
 have z0 := cellOfBlk ry 0
 have z1 := cellOfBlk ry 1
 go_wp2
 refine bodyPost_ret (v := .tuple #[.slice (some ⟨g, 0, none⟩) n cu9, .agg #[.int .i64 k1, .int .i64 k2], .bool true]) (by simp [results, Tryz.results96, go_sem, z0, z1]) rfl ?_
 exact ⟨_, _, rfl, ((HT.out.chg hcg (by omega) (.inr (by omega))).wide (by omega) (by have := hcg.size; omega)), by omega, by omega, T6.out.trans ((hcg.below (by omega)).mono (by omega))⟩
end Go.Proofs.YtimhnkpccbcohaaGreatDoor
