/-
  TakeMatrix of the program by contract. Conditions: lengths of at most 2^20; errors.errorType and errEmpty read as laid.
-/
import Derived.Test.YtdijlofcgcikjaaDoorDropI
namespace Go.Proofs.YtdijlofcgcikjaaDoor
open Go.RowKit Go.Conc
set_option linter.unusedVariables false
set_option linter.unusedSimpArgs false

def takeOk (f : Fnt) (ms : List (List Mat)) (ch : Int) : Bool := magB f ms && (inB ch 0 ((ms.length : Int) - 1) && decide (0 < (rowAt ms ch).length))
def takeX (f : Fnt) (ms : List (List Mat)) (ch : Int) : Mat := if takeOk f ms ch then (rowAt ms ch).getD 0 (0, 0) else (0, 0)
def takeL (f : Fnt) (ms : List (List Mat)) (ch : Int) : List (List Mat) := if takeOk f ms ch then ms.set ch.toNat ((rowAt ms ch).drop 1) else []
set_option maxRecDepth 100000 in
set_option maxHeartbeats 3200000 in
theorem implTake_no1 (lo hi0 lo2 hi2 : Nat) (v : Value) (f : Fnt) (A : Option Addr) (n c : Nat) (ms : List (List Mat)) (ch : Int) (w : World) (h : FontV w lo hi0 v f) (hhi : hi0 ≤ w.heap.size) (hs : Small f) (hn : ms.length = n) (hm : n ≤ 1048576) (hM : MagI w lo2 hi2 A ms) (hhi2 : hi2 ≤ w.heap.size) (wf : wfM ms) (hmag : magB f ms = false) :
    Calls Tryd.prog 9 #[v, .slice A n c, .int .i64 ch] w fun e w' => e = .returned (.tuple #[.slice none 0 0, .agg #[.int .i64 0, .int .i64 0], .bool false]) ∧ Below w.heap.size w w' := by
  obtain ⟨B1, d1, B2, d2, hv⟩ := fontForm h
  obtain ⟨s, hs0⟩ : ∃ y, f.s = y := ⟨_, rfl⟩
  obtain ⟨p, hp⟩ : ∃ y, f.ws.length = y := ⟨_, rfl⟩
  obtain ⟨q, hq⟩ : ∃ y, f.cs.length = y := ⟨_, rfl⟩
  rw [hs0, hp, hq] at hv
  rw [hv] at h
  rw [hv]
  have Hn := Lib.hid hn; have Hwf := Lib.hid wf
  obtain ⟨w0, hw0⟩ : ∃ x, w = x := ⟨_, rfl⟩
  have hww : w.heap.size = w0.heap.size := by rw [hw0]
  have HQ := Lib.hid hq
  have T0 : Hid (Below w0.heap.size w0 w0) := Below.refl _ _
  have V0 : Hid (FontV w0 lo hi0 (.agg #[.string s, .slice B1 p d1, .slice B2 q d2]) f) := by rw [← hw0]; exact h
  have M0 : Hid (MagI w0 lo2 hi2 A ms) := by rw [← hw0]; exact hM
  clear h hM hn wf hs0 hp hq hv
  obtain ⟨w1, hw1, hb1, hz1, hX1⟩ := mxWorld w0 #[.string s, .slice B1 p d1, .slice B2 q d2] 25
  have T1 : Hid (Below w0.heap.size w0 w1) := T0.out.trans (hb1.mono (by omega))
  have V1 : Hid (FontV w1 lo hi0 (.agg #[.string s, .slice B1 p d1, .slice B2 q d2]) f) := V0.out.below (by omega) hb1
  have M1 : Hid (MagI w1 lo2 hi2 A ms) := M0.out.below (by omega) hb1
  have sz1 : w0.heap.size ≤ w1.heap.size := hb1.size
  clear T0 V0 M0
  have F1 : Hid (Blk w1 (w0.heap.size) #[.string s, .slice B1 p d1, .slice B2 q d2] 25) := by show Blk _ _ _ _; exact hX1
  obtain ⟨w2, hw2, hb2, hz2, hX2⟩ := mxWorld w1 #[.int .i64 0, .int .i64 0] 30
  have T2 : Hid (Below w0.heap.size w0 w2) := T1.out.trans (hb2.mono (by omega))
  have V2 : Hid (FontV w2 lo hi0 (.agg #[.string s, .slice B1 p d1, .slice B2 q d2]) f) := V1.out.below (by omega) hb2
  have M2 : Hid (MagI w2 lo2 hi2 A ms) := M1.out.below (by omega) hb2
  have F2 : Hid (Blk w2 (w0.heap.size) #[.string s, .slice B1 p d1, .slice B2 q d2] 25) := F1.out.below hb2 (by omega)
  have sz2 : w1.heap.size ≤ w2.heap.size := hb2.size
  clear T1 V1 M1 F1
  have Z2 : Hid (Blk w2 (w0.heap.size + 1) #[.int .i64 0, .int .i64 0] 30) := by show Blk _ _ _ _; rw [← hz1]; exact hX2
  rw [hz1] at hz2
  have y0 := cellOfBlk F2.out 0
  have y1 := cellOfBlk F2.out 1
  have y2 := cellOfBlk F2.out 2
  have e0 := cellOfBlk Z2.out 0
  have e1 := cellOfBlk Z2.out 1
  have f0 := Z2.out.warm 0
  have f1 := Z2.out.warm 1
  rw [hw0]
  go_enter Tryd.func9, Tryd.ntmps9
  go_wp2_with fail
  clear y0 y1 y2 e0 e1 f0 f1
  refine (implMagOk_any lo hi0 lo2 hi2 _ f _ _ _ ms _ V2.out (by omega) hs Hn.out hm M2.out (by omega) Hwf.out).mono ?_
  rintro e w3 ⟨rfl, hb3⟩
  rw [hmag]
  have T3 : Hid (Below w0.heap.size w0 w3) := T2.out.trans (hb3.mono (by omega))
  have V3 : Hid (FontV w3 lo hi0 (.agg #[.string s, .slice B1 p d1, .slice B2 q d2]) f) := V2.out.below (by omega) hb3
  have M3 : Hid (MagI w3 lo2 hi2 A ms) := M2.out.below (by omega) hb3
  have F3 : Hid (Blk w3 (w0.heap.size) #[.string s, .slice B1 p d1, .slice B2 q d2] 25) := F2.out.below hb3 (by omega)
  have Z3 : Hid (Blk w3 (w0.heap.size + 1) #[.int .i64 0, .int .i64 0] 30) := Z2.out.below hb3 (by omega)
  have sz3 : w2.heap.size ≤ w3.heap.size := hb3.size
  clear T2 V2 M2 F2 Z2
  have y0 := cellOfBlk F3.out 0
  have y1 := cellOfBlk F3.out 1
  have y2 := cellOfBlk F3.out 2
  have e0 := cellOfBlk Z3.out 0
  have e1 := cellOfBlk Z3.out 1
  have f0 := Z3.out.warm 0
  have f1 := Z3.out.warm 1
  go_wp2
  have hcg := chg_two w3 (w0.heap.size + 1) (.int .i64 0) (.int .i64 0)
  have ry := Z3.out.fill2 (.int .i64 0) (.int .i64 0)
  obtain ⟨y, hy⟩ : ∃ x, (w3.setCell ⟨w0.heap.size + 1, 0, none⟩ (.int .i64 0)).setCell ⟨w0.heap.size + 1, 1, none⟩ (.int .i64 0) = x := ⟨_, rfl⟩
  rw [hy] at hcg ry ⊢
  have z0 := cellOfBlk ry 0
  have z1 := cellOfBlk ry 1
  refine bodyPost_ret (v := .tuple #[.slice none 0 0, .agg #[.int .i64 0, .int .i64 0], .bool false]) (by simp [results, Tryd.results9, go_sem, z0, z1]) rfl ?_
  exact ⟨rfl, T3.out.trans ((hcg.below (by omega)).mono (by omega))⟩
set_option maxRecDepth 100000 in
set_option maxHeartbeats 3200000 in
theorem implTake_no2 (lo hi0 lo2 hi2 : Nat) (v : Value) (f : Fnt) (A : Option Addr) (n c : Nat) (ms : List (List Mat)) (ch : Int) (w : World) (h : FontV w lo hi0 v f) (hhi : hi0 ≤ w.heap.size) (hs : Small f) (hn : ms.length = n) (hm : n ≤ 1048576) (hM : MagI w lo2 hi2 A ms) (hhi2 : hi2 ≤ w.heap.size) (wf : wfM ms) (hmag : magB f ms = true) (in1 : inB ch 0 ((n : Int) - 1) = false) :
    Calls Tryd.prog 9 #[v, .slice A n c, .int .i64 ch] w fun e w' => e = .returned (.tuple #[.slice none 0 0, .agg #[.int .i64 0, .int .i64 0], .bool false]) ∧ Below w.heap.size w w' := by
  obtain ⟨B1, d1, B2, d2, hv⟩ := fontForm h
  obtain ⟨s, hs0⟩ : ∃ y, f.s = y := ⟨_, rfl⟩
  obtain ⟨p, hp⟩ : ∃ y, f.ws.length = y := ⟨_, rfl⟩
  obtain ⟨q, hq⟩ : ∃ y, f.cs.length = y := ⟨_, rfl⟩
  rw [hs0, hp, hq] at hv
  rw [hv] at h
  rw [hv]
  have Hn := Lib.hid hn; have Hwf := Lib.hid wf
  obtain ⟨w0, hw0⟩ : ∃ x, w = x := ⟨_, rfl⟩
  have hww : w.heap.size = w0.heap.size := by rw [hw0]
  have HQ := Lib.hid hq
  have T0 : Hid (Below w0.heap.size w0 w0) := Below.refl _ _
  have V0 : Hid (FontV w0 lo hi0 (.agg #[.string s, .slice B1 p d1, .slice B2 q d2]) f) := by rw [← hw0]; exact h
  have M0 : Hid (MagI w0 lo2 hi2 A ms) := by rw [← hw0]; exact hM
  clear h hM hn wf hs0 hp hq hv
  obtain ⟨w1, hw1, hb1, hz1, hX1⟩ := mxWorld w0 #[.string s, .slice B1 p d1, .slice B2 q d2] 25
  have T1 : Hid (Below w0.heap.size w0 w1) := T0.out.trans (hb1.mono (by omega))
  have V1 : Hid (FontV w1 lo hi0 (.agg #[.string s, .slice B1 p d1, .slice B2 q d2]) f) := V0.out.below (by omega) hb1
  have M1 : Hid (MagI w1 lo2 hi2 A ms) := M0.out.below (by omega) hb1
  have sz1 : w0.heap.size ≤ w1.heap.size := hb1.size
  clear T0 V0 M0
  have F1 : Hid (Blk w1 (w0.heap.size) #[.string s, .slice B1 p d1, .slice B2 q d2] 25) := by show Blk _ _ _ _; exact hX1
  obtain ⟨w2, hw2, hb2, hz2, hX2⟩ := mxWorld w1 #[.int .i64 0, .int .i64 0] 30
  have T2 : Hid (Below w0.heap.size w0 w2) := T1.out.trans (hb2.mono (by omega))
  have V2 : Hid (FontV w2 lo hi0 (.agg #[.string s, .slice B1 p d1, .slice B2 q d2]) f) := V1.out.below (by omega) hb2
  have M2 : Hid (MagI w2 lo2 hi2 A ms) := M1.out.below (by omega) hb2
  have F2 : Hid (Blk w2 (w0.heap.size) #[.string s, .slice B1 p d1, .slice B2 q d2] 25) := F1.out.below hb2 (by omega)
  have sz2 : w1.heap.size ≤ w2.heap.size := hb2.size
  clear T1 V1 M1 F1
  have Z2 : Hid (Blk w2 (w0.heap.size + 1) #[.int .i64 0, .int .i64 0] 30) := by show Blk _ _ _ _; rw [← hz1]; exact hX2
  rw [hz1] at hz2
  have y0 := cellOfBlk F2.out 0
  have y1 := cellOfBlk F2.out 1
  have y2 := cellOfBlk F2.out 2
  have e0 := cellOfBlk Z2.out 0
  have e1 := cellOfBlk Z2.out 1
  have f0 := Z2.out.warm 0
  have f1 := Z2.out.warm 1
  rw [hw0]
  go_enter Tryd.func9, Tryd.ntmps9
  go_wp2_with fail
  clear y0 y1 y2 e0 e1 f0 f1
  refine (implMagOk_any lo hi0 lo2 hi2 _ f _ _ _ ms _ V2.out (by omega) hs Hn.out hm M2.out (by omega) Hwf.out).mono ?_
  rintro e w3 ⟨rfl, hb3⟩
  rw [hmag]
  have T3 : Hid (Below w0.heap.size w0 w3) := T2.out.trans (hb3.mono (by omega))
  have V3 : Hid (FontV w3 lo hi0 (.agg #[.string s, .slice B1 p d1, .slice B2 q d2]) f) := V2.out.below (by omega) hb3
  have M3 : Hid (MagI w3 lo2 hi2 A ms) := M2.out.below (by omega) hb3
  have F3 : Hid (Blk w3 (w0.heap.size) #[.string s, .slice B1 p d1, .slice B2 q d2] 25) := F2.out.below hb3 (by omega)
  have Z3 : Hid (Blk w3 (w0.heap.size + 1) #[.int .i64 0, .int .i64 0] 30) := Z2.out.below hb3 (by omega)
  have sz3 : w2.heap.size ≤ w3.heap.size := hb3.size
  clear T2 V2 M2 F2 Z2
  have y0 := cellOfBlk F3.out 0
  have y1 := cellOfBlk F3.out 1
  have y2 := cellOfBlk F3.out 2
  have e0 := cellOfBlk Z3.out 0
  have e1 := cellOfBlk Z3.out 1
  have f0 := Z3.out.warm 0
  have f1 := Z3.out.warm 1
  go_wp2_with fail
  clear y0 y1 y2 e0 e1 f0 f1
  refine (hasRow_any _ _ _ _ _ (by unfold maxLen; omega)).mono ?_; rintro e w' ⟨rfl, rfl⟩; rw [in1]
  have y0 := cellOfBlk F3.out 0
  have y1 := cellOfBlk F3.out 1
  have y2 := cellOfBlk F3.out 2
  have e0 := cellOfBlk Z3.out 0
  have e1 := cellOfBlk Z3.out 1
  have f0 := Z3.out.warm 0
  have f1 := Z3.out.warm 1
  go_wp2
  have hcg := chg_two w3 (w0.heap.size + 1) (.int .i64 0) (.int .i64 0)
  have ry := Z3.out.fill2 (.int .i64 0) (.int .i64 0)
  obtain ⟨y, hy⟩ : ∃ x, (w3.setCell ⟨w0.heap.size + 1, 0, none⟩ (.int .i64 0)).setCell ⟨w0.heap.size + 1, 1, none⟩ (.int .i64 0) = x := ⟨_, rfl⟩
  rw [hy] at hcg ry ⊢
  have z0 := cellOfBlk ry 0
  have z1 := cellOfBlk ry 1
  refine bodyPost_ret (v := .tuple #[.slice none 0 0, .agg #[.int .i64 0, .int .i64 0], .bool false]) (by simp [results, Tryd.results9, go_sem, z0, z1]) rfl ?_
  exact ⟨rfl, T3.out.trans ((hcg.below (by omega)).mono (by omega))⟩
set_option maxRecDepth 100000 in
set_option maxHeartbeats 3200000 in
theorem implTake_yes (lo hi0 lo2 hi2 : Nat) (v : Value) (f : Fnt) (A : Option Addr) (n c : Nat) (ms : List (List Mat)) (i : Nat) (w : World) (h : FontV w lo hi0 v f) (hhi : hi0 ≤ w.heap.size) (hs : Small f) (hn : ms.length = n) (hm : n ≤ 1048576) (hM : MagI w lo2 hi2 A ms) (hhi2 : hi2 ≤ w.heap.size) (wf : wfM ms) (ct : TypeId) (cu : Value) (hg : w.cell? ⟨0, 0, none⟩ = some (.iface ct cu)) (he : ErrH w) (hmag : magB f ms = true) (x : Mat) (xs : List Mat) (hx : ms[i]? = some (x :: xs)) :
    Calls Tryd.prog 9 #[v, .slice A n c, .int .i64 i] w fun e w' => ∃ u hs', e = .returned (.tuple #[u, cvM x, .bool true]) ∧ OwnMag w' w.heap.size w'.heap.size u hs' (ms.set i xs) ∧ Below w.heap.size w w' := by
  obtain ⟨B1, d1, B2, d2, hv⟩ := fontForm h
  obtain ⟨s, hs0⟩ : ∃ y, f.s = y := ⟨_, rfl⟩
  obtain ⟨p, hp⟩ : ∃ y, f.ws.length = y := ⟨_, rfl⟩
  obtain ⟨q, hq⟩ : ∃ y, f.cs.length = y := ⟨_, rfl⟩
  rw [hs0, hp, hq] at hv
  rw [hv] at h
  rw [hv]
  have Hn := Lib.hid hn; have Hwf := Lib.hid wf
  obtain ⟨w0, hw0⟩ : ∃ x, w = x := ⟨_, rfl⟩
  have hww : w.heap.size = w0.heap.size := by rw [hw0]
  have HQ := Lib.hid hq
  have hg2 := World.block_lt_of_cell? _ _ he
  simp only at hg2
  have T0 : Hid (Below w0.heap.size w0 w0) := Below.refl _ _
  have V0 : Hid (FontV w0 lo hi0 (.agg #[.string s, .slice B1 p d1, .slice B2 q d2]) f) := by rw [← hw0]; exact h
  have M0 : Hid (MagI w0 lo2 hi2 A ms) := by rw [← hw0]; exact hM
  have G0 : Hid (w0.cell? ⟨0, 0, none⟩ = some (.iface ct cu)) := by rw [← hw0]; exact hg
  have E0 : Hid (ErrH w0) := by rw [← hw0]; exact he
  clear h hM hn wf hs0 hp hq hv hg he
  obtain ⟨hf, -, hrows⟩ := magB_rows hmag
  have hin : i < n := by rw [← Hn.out]; exact (List.getElem?_eq_some_iff.1 hx).1
  have hlim : ∀ xs ∈ ms, xs.length ≤ 20 := fun xs hx => (hrows xs hx).1
  have HX := Lib.hid hx; have HLIM := Lib.hid hlim
  have in1 : inB (i : Int) 0 ((n : Int) - 1) = true := by rw [inB_iff]; omega
  clear hx hrows hlim
  obtain ⟨w1, hw1, hb1, hz1, hX1⟩ := mxWorld w0 #[.string s, .slice B1 p d1, .slice B2 q d2] 25
  have T1 : Hid (Below w0.heap.size w0 w1) := T0.out.trans (hb1.mono (by omega))
  have V1 : Hid (FontV w1 lo hi0 (.agg #[.string s, .slice B1 p d1, .slice B2 q d2]) f) := V0.out.below (by omega) hb1
  have M1 : Hid (MagI w1 lo2 hi2 A ms) := M0.out.below (by omega) hb1
  have G1 : Hid (w1.cell? ⟨0, 0, none⟩ = some (.iface ct cu)) := (hb1.cell (p := ⟨0, 0, none⟩) (by show 0 < _; omega)).trans G0.out
  have E1 : Hid (ErrH w1) := (hb1.cell (p := ⟨1, 0, none⟩) (by show 1 < _; omega)).trans E0.out
  have sz1 : w0.heap.size ≤ w1.heap.size := hb1.size
  clear T0 V0 M0 G0 E0
  have F1 : Hid (Blk w1 (w0.heap.size) #[.string s, .slice B1 p d1, .slice B2 q d2] 25) := by show Blk _ _ _ _; exact hX1
  obtain ⟨w2, hw2, hb2, hz2, hX2⟩ := mxWorld w1 #[.int .i64 0, .int .i64 0] 30
  have T2 : Hid (Below w0.heap.size w0 w2) := T1.out.trans (hb2.mono (by omega))
  have V2 : Hid (FontV w2 lo hi0 (.agg #[.string s, .slice B1 p d1, .slice B2 q d2]) f) := V1.out.below (by omega) hb2
  have M2 : Hid (MagI w2 lo2 hi2 A ms) := M1.out.below (by omega) hb2
  have G2 : Hid (w2.cell? ⟨0, 0, none⟩ = some (.iface ct cu)) := (hb2.cell (p := ⟨0, 0, none⟩) (by show 0 < _; omega)).trans G1.out
  have E2 : Hid (ErrH w2) := (hb2.cell (p := ⟨1, 0, none⟩) (by show 1 < _; omega)).trans E1.out
  have F2 : Hid (Blk w2 (w0.heap.size) #[.string s, .slice B1 p d1, .slice B2 q d2] 25) := F1.out.below hb2 (by omega)
  have sz2 : w1.heap.size ≤ w2.heap.size := hb2.size
  clear T1 V1 M1 G1 E1 F1
  have Z2 : Hid (Blk w2 (w0.heap.size + 1) #[.int .i64 0, .int .i64 0] 30) := by show Blk _ _ _ _; rw [← hz1]; exact hX2
  rw [hz1] at hz2
  have y0 := cellOfBlk F2.out 0
  have y1 := cellOfBlk F2.out 1
  have y2 := cellOfBlk F2.out 2
  have e0 := cellOfBlk Z2.out 0
  have e1 := cellOfBlk Z2.out 1
  have f0 := Z2.out.warm 0
  have f1 := Z2.out.warm 1
  rw [hw0]
  go_enter Tryd.func9, Tryd.ntmps9
  go_wp2_with fail
  clear y0 y1 y2 e0 e1 f0 f1
  refine (implMagOk_any lo hi0 lo2 hi2 _ f _ _ _ ms _ V2.out (by omega) hs Hn.out hm M2.out (by omega) Hwf.out).mono ?_
  rintro e w3 ⟨rfl, hb3⟩
  rw [hmag]
  have T3 : Hid (Below w0.heap.size w0 w3) := T2.out.trans (hb3.mono (by omega))
  have V3 : Hid (FontV w3 lo hi0 (.agg #[.string s, .slice B1 p d1, .slice B2 q d2]) f) := V2.out.below (by omega) hb3
  have M3 : Hid (MagI w3 lo2 hi2 A ms) := M2.out.below (by omega) hb3
  have G3 : Hid (w3.cell? ⟨0, 0, none⟩ = some (.iface ct cu)) := (hb3.cell (p := ⟨0, 0, none⟩) (by show 0 < _; omega)).trans G2.out
  have E3 : Hid (ErrH w3) := (hb3.cell (p := ⟨1, 0, none⟩) (by show 1 < _; omega)).trans E2.out
  have F3 : Hid (Blk w3 (w0.heap.size) #[.string s, .slice B1 p d1, .slice B2 q d2] 25) := F2.out.below hb3 (by omega)
  have Z3 : Hid (Blk w3 (w0.heap.size + 1) #[.int .i64 0, .int .i64 0] 30) := Z2.out.below hb3 (by omega)
  have sz3 : w2.heap.size ≤ w3.heap.size := hb3.size
  clear T2 V2 M2 G2 E2 F2 Z2
  have y0 := cellOfBlk F3.out 0
  have y1 := cellOfBlk F3.out 1
  have y2 := cellOfBlk F3.out 2
  have e0 := cellOfBlk Z3.out 0
  have e1 := cellOfBlk Z3.out 1
  have f0 := Z3.out.warm 0
  have f1 := Z3.out.warm 1
  go_wp2_with fail
  clear y0 y1 y2 e0 e1 f0 f1
  refine (hasRow_any _ _ _ _ _ (by unfold maxLen; omega)).mono ?_; rintro e w' ⟨rfl, rfl⟩; rw [in1]
  have y0 := cellOfBlk F3.out 0
  have y1 := cellOfBlk F3.out 1
  have y2 := cellOfBlk F3.out 2
  have e0 := cellOfBlk Z3.out 0
  have e1 := cellOfBlk Z3.out 1
  have f0 := Z3.out.warm 0
  have f1 := Z3.out.warm 1
  go_wp2_with fail
  clear y0 y1 y2 e0 e1 f0 f1
  refine (load_any lo hi0 lo2 hi2 _ f _ n _ ms _ V3.out Hn.out hm HLIM.out M3.out (by omega)).mono ?_
  rintro e w4 ⟨Bc, dc, B, hi, hs9, ⟨X1, x1, hfo⟩, rfl, hmd, hBw, hhi9, hC, hb4⟩
  obtain ⟨eb, ed⟩ : B2 = Bc ∧ d2 = dc := by
    injection hfo with hfo
    injection hfo with hfo
    simp only [List.cons.injEq, Value.slice.injEq] at hfo
    exact ⟨hfo.2.2.1.1, hfo.2.2.1.2.2⟩
  subst eb; subst ed
  rw [HQ.out]
  have T4 : Hid (Below w0.heap.size w0 w4) := T3.out.trans (hb4.mono (by omega))
  have V4 : Hid (FontV w4 lo hi0 (.agg #[.string s, .slice B1 p d1, .slice B2 q d2]) f) := V3.out.below (by omega) hb4
  have G4 : Hid (w4.cell? ⟨0, 0, none⟩ = some (.iface ct cu)) := (hb4.cell (p := ⟨0, 0, none⟩) (by show 0 < _; omega)).trans G3.out
  have E4 : Hid (ErrH w4) := (hb4.cell (p := ⟨1, 0, none⟩) (by show 1 < _; omega)).trans E3.out
  have Z4 : Hid (Blk w4 (w0.heap.size + 1) #[.int .i64 0, .int .i64 0] 30) := Z3.out.below hb4 (by omega)
  have sz4 : w3.heap.size ≤ w4.heap.size := hb4.size
  clear T3 V3 M3 G3 E3 F3 Z3
  clear hfo
  have C4 : Hid (ChM w4 B hi (.slice (some ⟨B, 0, none⟩) n n) hs9 ms) := hC
  have HMD := Lib.hid hmd
  have hBh := hC.top B rfl
  clear hC hmd
  obtain ⟨w5, hw5, hb5, hz5, hX5⟩ := mxWorld w4 #[.slice B2 q d2, .slice (some ⟨B, 0, none⟩) n n] 69
  have T5 : Hid (Below w0.heap.size w0 w5) := T4.out.trans (hb5.mono (by omega))
  have V5 : Hid (FontV w5 lo hi0 (.agg #[.string s, .slice B1 p d1, .slice B2 q d2]) f) := V4.out.below (by omega) hb5
  have G5 : Hid (w5.cell? ⟨0, 0, none⟩ = some (.iface ct cu)) := (hb5.cell (p := ⟨0, 0, none⟩) (by show 0 < _; omega)).trans G4.out
  have E5 : Hid (ErrH w5) := (hb5.cell (p := ⟨1, 0, none⟩) (by show 1 < _; omega)).trans E4.out
  have Z5 : Hid (Blk w5 (w0.heap.size + 1) #[.int .i64 0, .int .i64 0] 30) := Z4.out.below hb5 (by omega)
  have C5 : Hid (ChM w5 B hi (.slice (some ⟨B, 0, none⟩) n n) hs9 ms) := C4.out.below (by omega) hb5
  have sz5 : w4.heap.size ≤ w5.heap.size := hb5.size
  clear T4 V4 G4 E4 Z4 C4
  have R5 : Hid (Blk w5 (w4.heap.size) #[.slice B2 q d2, .slice (some ⟨B, 0, none⟩) n n] 69) := by show Blk _ _ _ _; exact hX5
  have e0 := cellOfBlk Z5.out 0
  have e1 := cellOfBlk Z5.out 1
  have f0 := Z5.out.warm 0
  have f1 := Z5.out.warm 1
  have r0 := cellOfBlk R5.out 0
  have r1 := cellOfBlk R5.out 1
  go_wp2_with fail
  clear e0 e1 f0 f1 r0 r1
  refine (take_hit _ B hi n hs9 ms i w5 HMD.out C5.out (by omega) hin x xs HX.out).mono ?_
  rintro e w6 ⟨rfl, hC, hc6⟩
  have hb6 := hc6.below (by omega)
  have R6 : Hid (Blk w6 (w4.heap.size) #[.slice B2 q d2, .slice (some ⟨B, 0, none⟩) n n] 69) := (hc6.block _ (by omega) (by omega)).trans R5.out
  have Z6 : Hid (Blk w6 (w0.heap.size + 1) #[.int .i64 0, .int .i64 0] 30) := (hc6.block _ (by omega) (by omega)).trans Z5.out
  have T6 : Hid (Below w0.heap.size w0 w6) := T5.out.trans (hb6.mono (by omega))
  have G6 : Hid (w6.cell? ⟨0, 0, none⟩ = some (.iface ct cu)) := (hb6.cell (p := ⟨0, 0, none⟩) (by show 0 < _; omega)).trans G5.out
  have E6 : Hid (ErrH w6) := (hb6.cell (p := ⟨1, 0, none⟩) (by show 1 < _; omega)).trans E5.out
  have sz6 : w5.heap.size ≤ w6.heap.size := hb6.size
  clear T5 V5 G5 E5 Z5 C5 R5
  have C6 : Hid (ChM w6 B hi (.slice (some ⟨B, 0, none⟩) n n) hs9 (ms.set i xs)) := hC
  clear hC
  obtain ⟨k1, k2⟩ := x
  unfold cvM
  obtain ⟨w7, hw7, hb7, hz7, hX7⟩ := mxWorld w6 #[.int .i64 k1, .int .i64 k2] 30
  have T7 : Hid (Below w0.heap.size w0 w7) := T6.out.trans (hb7.mono (by omega))
  have G7 : Hid (w7.cell? ⟨0, 0, none⟩ = some (.iface ct cu)) := (hb7.cell (p := ⟨0, 0, none⟩) (by show 0 < _; omega)).trans G6.out
  have E7 : Hid (ErrH w7) := (hb7.cell (p := ⟨1, 0, none⟩) (by show 1 < _; omega)).trans E6.out
  have R7 : Hid (Blk w7 (w4.heap.size) #[.slice B2 q d2, .slice (some ⟨B, 0, none⟩) n n] 69) := R6.out.below hb7 (by omega)
  have Z7 : Hid (Blk w7 (w0.heap.size + 1) #[.int .i64 0, .int .i64 0] 30) := Z6.out.below hb7 (by omega)
  have C7 : Hid (ChM w7 B hi (.slice (some ⟨B, 0, none⟩) n n) hs9 (ms.set i xs)) := C6.out.below (by omega) hb7
  have sz7 : w6.heap.size ≤ w7.heap.size := hb7.size
  clear T6 G6 E6 R6 Z6 C6
  have X7 : Hid (Blk w7 (w6.heap.size) #[.int .i64 k1, .int .i64 k2] 30) := by show Blk _ _ _ _; exact hX7
  have e0 := cellOfBlk Z7.out 0
  have e1 := cellOfBlk Z7.out 1
  have f0 := Z7.out.warm 0
  have f1 := Z7.out.warm 1
  have r0 := cellOfBlk R7.out 0
  have r1 := cellOfBlk R7.out 1
  have x0 := cellOfBlk X7.out 0
  have x1 := cellOfBlk X7.out 1
  go_wp2_with fail
  clear e0 e1 f0 f1 r0 r1 x0 x1
  refine (stopped_nil w7).mono ?_
  rintro e w8 ⟨rfl, hb8⟩
  have T8 : Hid (Below w0.heap.size w0 w8) := T7.out.trans (hb8.mono (by omega))
  have G8 : Hid (w8.cell? ⟨0, 0, none⟩ = some (.iface ct cu)) := (hb8.cell (p := ⟨0, 0, none⟩) (by show 0 < _; omega)).trans G7.out
  have E8 : Hid (ErrH w8) := (hb8.cell (p := ⟨1, 0, none⟩) (by show 1 < _; omega)).trans E7.out
  have R8 : Hid (Blk w8 (w4.heap.size) #[.slice B2 q d2, .slice (some ⟨B, 0, none⟩) n n] 69) := R7.out.below hb8 (by omega)
  have Z8 : Hid (Blk w8 (w0.heap.size + 1) #[.int .i64 0, .int .i64 0] 30) := Z7.out.below hb8 (by omega)
  have C8 : Hid (ChM w8 B hi (.slice (some ⟨B, 0, none⟩) n n) hs9 (ms.set i xs)) := C7.out.below (by omega) hb8
  have X8 : Hid (Blk w8 (w6.heap.size) #[.int .i64 k1, .int .i64 k2] 30) := X7.out.below hb8 (by omega)
  have sz8 : w7.heap.size ≤ w8.heap.size := hb8.size
  clear T7 G7 E7 R7 Z7 C7 X7
  have e0 := cellOfBlk Z8.out 0
  have e1 := cellOfBlk Z8.out 1
  have f0 := Z8.out.warm 0
  have f1 := Z8.out.warm 1
  have r0 := cellOfBlk R8.out 0
  have r1 := cellOfBlk R8.out 1
  have x0 := cellOfBlk X8.out 0
  have x1 := cellOfBlk X8.out 1
  have hlr : ∀ ys ∈ ms.set i xs, ys.length ≤ 20 := fun ys hy => by
    rcases List.mem_or_eq_of_mem_set hy with hy | rfl
    · exact HLIM.out ys hy
    · have := HLIM.out _ (List.mem_of_getElem? HX.out); simp only [List.length_cons] at this; omega
  go_upto_region 7 with fail
  have hU := unload_any (.slice B2 q d2) rfl B hi n hs9 (ms.set i xs) w8.drew (by rw [List.length_set]; exact Hn.out) hm hlr HMD.out (C8.out.below (by omega) ((Below.refl _ _).drew)) (by show hi ≤ w8.heap.size; omega)
  go_region_with ((go_at_call 43; refine hU.mono ?_; rintro e w9 ⟨v9, hs8, rfl, hO, hc9⟩; have c9 : Chg B hi w8 w9 := (Chg.of_below ((Below.refl _ w8).drew)).trans hc9; have Z9 := (c9.block (w0.heap.size + 1) (by omega) (by omega)).trans Z8.out; have e0 := cellOfBlk Z9 0; have e1 := cellOfBlk Z9 1; have f0 := Blk.warm Z9 0; have f1 := Blk.warm Z9 1; have XX := (c9.block _ X8.out.lt (by omega)).trans X8.out; have x0 := cellOfBlk XX 0; have x1 := cellOfBlk XX 1))
  all_goals (
    have hcg := chg_two w9 (w0.heap.size + 1) (.int .i64 k1) (.int .i64 k2)
    have ry := Blk.fill2 Z9 (.int .i64 k1) (.int .i64 k2)
    obtain ⟨y, hy⟩ : ∃ x, (w9.setCell ⟨w0.heap.size + 1, 0, none⟩ (.int .i64 k1)).setCell ⟨w0.heap.size + 1, 1, none⟩ (.int .i64 k2) = x := ⟨_, rfl⟩
    rw [hy] at hcg ry ⊢
    have z0 := cellOfBlk ry 0
    have z1 := cellOfBlk ry 1
    go_wp2
    refine bodyPost_ret (v := .tuple #[v9, .agg #[.int .i64 k1, .int .i64 k2], .bool true]) (by simp [results, Tryd.results9, go_sem, z0, z1]) rfl ?_
    have hOb : OwnMag w9 (w0.heap.size + 1 + 1) w9.heap.size v9 hs8 (ms.set i xs) := hO.base (by show _ ≤ w8.heap.size; omega)
    exact ⟨_, hs8, rfl, ((hOb.chg hcg (.inr (by omega))).base (by omega)).wid hcg.size, T8.out.trans (((c9.below (by omega)).mono (by omega)).trans ((hcg.below (by have := c9.size; omega)).mono (by omega)))⟩)
set_option maxRecDepth 100000 in
set_option maxHeartbeats 3200000 in
theorem implTake_none (lo hi0 lo2 hi2 : Nat) (v : Value) (f : Fnt) (A : Option Addr) (n c : Nat) (ms : List (List Mat)) (i : Nat) (w : World) (h : FontV w lo hi0 v f) (hhi : hi0 ≤ w.heap.size) (hs : Small f) (hn : ms.length = n) (hm : n ≤ 1048576) (hM : MagI w lo2 hi2 A ms) (hhi2 : hi2 ≤ w.heap.size) (wf : wfM ms) (ct : TypeId) (cu : Value) (hg : w.cell? ⟨0, 0, none⟩ = some (.iface ct cu)) (he : ErrH w) (hmag : magB f ms = true) (hx : ms[i]? = some []) :
    Calls Tryd.prog 9 #[v, .slice A n c, .int .i64 i] w fun e w' => e = .returned (.tuple #[.slice none 0 0, .agg #[.int .i64 0, .int .i64 0], .bool false]) ∧ Below w.heap.size w w' := by
  obtain ⟨B1, d1, B2, d2, hv⟩ := fontForm h
  obtain ⟨s, hs0⟩ : ∃ y, f.s = y := ⟨_, rfl⟩
  obtain ⟨p, hp⟩ : ∃ y, f.ws.length = y := ⟨_, rfl⟩
  obtain ⟨q, hq⟩ : ∃ y, f.cs.length = y := ⟨_, rfl⟩
  rw [hs0, hp, hq] at hv
  rw [hv] at h
  rw [hv]
  have Hn := Lib.hid hn; have Hwf := Lib.hid wf
  obtain ⟨w0, hw0⟩ : ∃ x, w = x := ⟨_, rfl⟩
  have hww : w.heap.size = w0.heap.size := by rw [hw0]
  have HQ := Lib.hid hq
  have hg2 := World.block_lt_of_cell? _ _ he
  simp only at hg2
  have T0 : Hid (Below w0.heap.size w0 w0) := Below.refl _ _
  have V0 : Hid (FontV w0 lo hi0 (.agg #[.string s, .slice B1 p d1, .slice B2 q d2]) f) := by rw [← hw0]; exact h
  have M0 : Hid (MagI w0 lo2 hi2 A ms) := by rw [← hw0]; exact hM
  have G0 : Hid (w0.cell? ⟨0, 0, none⟩ = some (.iface ct cu)) := by rw [← hw0]; exact hg
  have E0 : Hid (ErrH w0) := by rw [← hw0]; exact he
  clear h hM hn wf hs0 hp hq hv hg he
  obtain ⟨hf, -, hrows⟩ := magB_rows hmag
  have hin : i < n := by rw [← Hn.out]; exact (List.getElem?_eq_some_iff.1 hx).1
  have hlim : ∀ xs ∈ ms, xs.length ≤ 20 := fun xs hx => (hrows xs hx).1
  have HX := Lib.hid hx; have HLIM := Lib.hid hlim
  have in1 : inB (i : Int) 0 ((n : Int) - 1) = true := by rw [inB_iff]; omega
  clear hx hrows hlim
  obtain ⟨w1, hw1, hb1, hz1, hX1⟩ := mxWorld w0 #[.string s, .slice B1 p d1, .slice B2 q d2] 25
  have T1 : Hid (Below w0.heap.size w0 w1) := T0.out.trans (hb1.mono (by omega))
  have V1 : Hid (FontV w1 lo hi0 (.agg #[.string s, .slice B1 p d1, .slice B2 q d2]) f) := V0.out.below (by omega) hb1
  have M1 : Hid (MagI w1 lo2 hi2 A ms) := M0.out.below (by omega) hb1
  have G1 : Hid (w1.cell? ⟨0, 0, none⟩ = some (.iface ct cu)) := (hb1.cell (p := ⟨0, 0, none⟩) (by show 0 < _; omega)).trans G0.out
  have E1 : Hid (ErrH w1) := (hb1.cell (p := ⟨1, 0, none⟩) (by show 1 < _; omega)).trans E0.out
  have sz1 : w0.heap.size ≤ w1.heap.size := hb1.size
  clear T0 V0 M0 G0 E0
  have F1 : Hid (Blk w1 (w0.heap.size) #[.string s, .slice B1 p d1, .slice B2 q d2] 25) := by show Blk _ _ _ _; exact hX1
  obtain ⟨w2, hw2, hb2, hz2, hX2⟩ := mxWorld w1 #[.int .i64 0, .int .i64 0] 30
  have T2 : Hid (Below w0.heap.size w0 w2) := T1.out.trans (hb2.mono (by omega))
  have V2 : Hid (FontV w2 lo hi0 (.agg #[.string s, .slice B1 p d1, .slice B2 q d2]) f) := V1.out.below (by omega) hb2
  have M2 : Hid (MagI w2 lo2 hi2 A ms) := M1.out.below (by omega) hb2
  have G2 : Hid (w2.cell? ⟨0, 0, none⟩ = some (.iface ct cu)) := (hb2.cell (p := ⟨0, 0, none⟩) (by show 0 < _; omega)).trans G1.out
  have E2 : Hid (ErrH w2) := (hb2.cell (p := ⟨1, 0, none⟩) (by show 1 < _; omega)).trans E1.out
  have F2 : Hid (Blk w2 (w0.heap.size) #[.string s, .slice B1 p d1, .slice B2 q d2] 25) := F1.out.below hb2 (by omega)
  have sz2 : w1.heap.size ≤ w2.heap.size := hb2.size
  clear T1 V1 M1 G1 E1 F1
  have Z2 : Hid (Blk w2 (w0.heap.size + 1) #[.int .i64 0, .int .i64 0] 30) := by show Blk _ _ _ _; rw [← hz1]; exact hX2
  rw [hz1] at hz2
  have y0 := cellOfBlk F2.out 0
  have y1 := cellOfBlk F2.out 1
  have y2 := cellOfBlk F2.out 2
  have e0 := cellOfBlk Z2.out 0
  have e1 := cellOfBlk Z2.out 1
  have f0 := Z2.out.warm 0
  have f1 := Z2.out.warm 1
  rw [hw0]
  go_enter Tryd.func9, Tryd.ntmps9
  go_wp2_with fail
  clear y0 y1 y2 e0 e1 f0 f1
  refine (implMagOk_any lo hi0 lo2 hi2 _ f _ _ _ ms _ V2.out (by omega) hs Hn.out hm M2.out (by omega) Hwf.out).mono ?_
  rintro e w3 ⟨rfl, hb3⟩
  rw [hmag]
  have T3 : Hid (Below w0.heap.size w0 w3) := T2.out.trans (hb3.mono (by omega))
  have V3 : Hid (FontV w3 lo hi0 (.agg #[.string s, .slice B1 p d1, .slice B2 q d2]) f) := V2.out.below (by omega) hb3
  have M3 : Hid (MagI w3 lo2 hi2 A ms) := M2.out.below (by omega) hb3
  have G3 : Hid (w3.cell? ⟨0, 0, none⟩ = some (.iface ct cu)) := (hb3.cell (p := ⟨0, 0, none⟩) (by show 0 < _; omega)).trans G2.out
  have E3 : Hid (ErrH w3) := (hb3.cell (p := ⟨1, 0, none⟩) (by show 1 < _; omega)).trans E2.out
  have F3 : Hid (Blk w3 (w0.heap.size) #[.string s, .slice B1 p d1, .slice B2 q d2] 25) := F2.out.below hb3 (by omega)
  have Z3 : Hid (Blk w3 (w0.heap.size + 1) #[.int .i64 0, .int .i64 0] 30) := Z2.out.below hb3 (by omega)
  have sz3 : w2.heap.size ≤ w3.heap.size := hb3.size
  clear T2 V2 M2 G2 E2 F2 Z2
  have y0 := cellOfBlk F3.out 0
  have y1 := cellOfBlk F3.out 1
  have y2 := cellOfBlk F3.out 2
  have e0 := cellOfBlk Z3.out 0
  have e1 := cellOfBlk Z3.out 1
  have f0 := Z3.out.warm 0
  have f1 := Z3.out.warm 1
  go_wp2_with fail
  clear y0 y1 y2 e0 e1 f0 f1
  refine (hasRow_any _ _ _ _ _ (by unfold maxLen; omega)).mono ?_; rintro e w' ⟨rfl, rfl⟩; rw [in1]
  have y0 := cellOfBlk F3.out 0
  have y1 := cellOfBlk F3.out 1
  have y2 := cellOfBlk F3.out 2
  have e0 := cellOfBlk Z3.out 0
  have e1 := cellOfBlk Z3.out 1
  have f0 := Z3.out.warm 0
  have f1 := Z3.out.warm 1
  go_wp2_with fail
  clear y0 y1 y2 e0 e1 f0 f1
  refine (load_any lo hi0 lo2 hi2 _ f _ n _ ms _ V3.out Hn.out hm HLIM.out M3.out (by omega)).mono ?_
  rintro e w4 ⟨Bc, dc, B, hi, hs9, ⟨X1, x1, hfo⟩, rfl, hmd, hBw, hhi9, hC, hb4⟩
  obtain ⟨eb, ed⟩ : B2 = Bc ∧ d2 = dc := by
    injection hfo with hfo
    injection hfo with hfo
    simp only [List.cons.injEq, Value.slice.injEq] at hfo
    exact ⟨hfo.2.2.1.1, hfo.2.2.1.2.2⟩
  subst eb; subst ed
  rw [HQ.out]
  have T4 : Hid (Below w0.heap.size w0 w4) := T3.out.trans (hb4.mono (by omega))
  have V4 : Hid (FontV w4 lo hi0 (.agg #[.string s, .slice B1 p d1, .slice B2 q d2]) f) := V3.out.below (by omega) hb4
  have G4 : Hid (w4.cell? ⟨0, 0, none⟩ = some (.iface ct cu)) := (hb4.cell (p := ⟨0, 0, none⟩) (by show 0 < _; omega)).trans G3.out
  have E4 : Hid (ErrH w4) := (hb4.cell (p := ⟨1, 0, none⟩) (by show 1 < _; omega)).trans E3.out
  have Z4 : Hid (Blk w4 (w0.heap.size + 1) #[.int .i64 0, .int .i64 0] 30) := Z3.out.below hb4 (by omega)
  have sz4 : w3.heap.size ≤ w4.heap.size := hb4.size
  clear T3 V3 M3 G3 E3 F3 Z3
  clear hfo
  have C4 : Hid (ChM w4 B hi (.slice (some ⟨B, 0, none⟩) n n) hs9 ms) := hC
  have HMD := Lib.hid hmd
  have hBh := hC.top B rfl
  clear hC hmd
  obtain ⟨w5, hw5, hb5, hz5, hX5⟩ := mxWorld w4 #[.slice B2 q d2, .slice (some ⟨B, 0, none⟩) n n] 69
  have T5 : Hid (Below w0.heap.size w0 w5) := T4.out.trans (hb5.mono (by omega))
  have V5 : Hid (FontV w5 lo hi0 (.agg #[.string s, .slice B1 p d1, .slice B2 q d2]) f) := V4.out.below (by omega) hb5
  have G5 : Hid (w5.cell? ⟨0, 0, none⟩ = some (.iface ct cu)) := (hb5.cell (p := ⟨0, 0, none⟩) (by show 0 < _; omega)).trans G4.out
  have E5 : Hid (ErrH w5) := (hb5.cell (p := ⟨1, 0, none⟩) (by show 1 < _; omega)).trans E4.out
  have Z5 : Hid (Blk w5 (w0.heap.size + 1) #[.int .i64 0, .int .i64 0] 30) := Z4.out.below hb5 (by omega)
  have C5 : Hid (ChM w5 B hi (.slice (some ⟨B, 0, none⟩) n n) hs9 ms) := C4.out.below (by omega) hb5
  have sz5 : w4.heap.size ≤ w5.heap.size := hb5.size
  clear T4 V4 G4 E4 Z4 C4
  have R5 : Hid (Blk w5 (w4.heap.size) #[.slice B2 q d2, .slice (some ⟨B, 0, none⟩) n n] 69) := by show Blk _ _ _ _; exact hX5
  have e0 := cellOfBlk Z5.out 0
  have e1 := cellOfBlk Z5.out 1
  have f0 := Z5.out.warm 0
  have f1 := Z5.out.warm 1
  have r0 := cellOfBlk R5.out 0
  have r1 := cellOfBlk R5.out 1
  go_wp2_with fail
  clear e0 e1 f0 f1 r0 r1
  refine (take_none _ B hi n hs9 ms i w5 HMD.out C5.out (by omega) hin ct cu G5.out HX.out).mono ?_
  rintro e w6 ⟨rfl, hC, hc6⟩
  have hb6 := hc6.below (by omega)
  have R6 : Hid (Blk w6 (w4.heap.size) #[.slice B2 q d2, .slice (some ⟨B, 0, none⟩) n n] 69) := (hc6.block _ (by omega) (by omega)).trans R5.out
  have Z6 : Hid (Blk w6 (w0.heap.size + 1) #[.int .i64 0, .int .i64 0] 30) := (hc6.block _ (by omega) (by omega)).trans Z5.out
  have T6 : Hid (Below w0.heap.size w0 w6) := T5.out.trans (hb6.mono (by omega))
  have G6 : Hid (w6.cell? ⟨0, 0, none⟩ = some (.iface ct cu)) := (hb6.cell (p := ⟨0, 0, none⟩) (by show 0 < _; omega)).trans G5.out
  have E6 : Hid (ErrH w6) := (hb6.cell (p := ⟨1, 0, none⟩) (by show 1 < _; omega)).trans E5.out
  have sz6 : w5.heap.size ≤ w6.heap.size := hb6.size
  clear T5 V5 G5 E5 Z5 C5 R5
  clear hC
  obtain ⟨w7, hw7, hb7, hz7, hX7⟩ := mxWorld w6 #[.int .i64 0, .int .i64 0] 30
  have T7 : Hid (Below w0.heap.size w0 w7) := T6.out.trans (hb7.mono (by omega))
  have G7 : Hid (w7.cell? ⟨0, 0, none⟩ = some (.iface ct cu)) := (hb7.cell (p := ⟨0, 0, none⟩) (by show 0 < _; omega)).trans G6.out
  have E7 : Hid (ErrH w7) := (hb7.cell (p := ⟨1, 0, none⟩) (by show 1 < _; omega)).trans E6.out
  have R7 : Hid (Blk w7 (w4.heap.size) #[.slice B2 q d2, .slice (some ⟨B, 0, none⟩) n n] 69) := R6.out.below hb7 (by omega)
  have Z7 : Hid (Blk w7 (w0.heap.size + 1) #[.int .i64 0, .int .i64 0] 30) := Z6.out.below hb7 (by omega)
  have sz7 : w6.heap.size ≤ w7.heap.size := hb7.size
  clear T6 G6 E6 R6 Z6
  have X7 : Hid (Blk w7 (w6.heap.size) #[.int .i64 0, .int .i64 0] 30) := by show Blk _ _ _ _; exact hX7
  have HW := Lib.hid hw7
  clear hw7
  have e0 := cellOfBlk Z7.out 0
  have e1 := cellOfBlk Z7.out 1
  have f0 := Z7.out.warm 0
  have f1 := Z7.out.warm 1
  have r0 := cellOfBlk R7.out 0
  have r1 := cellOfBlk R7.out 1
  have x0 := cellOfBlk X7.out 0
  have x1 := cellOfBlk X7.out 1
  go_wp2_with fail
  rw [HW.out]
  clear e0 e1 f0 f1 r0 r1 x0 x1
  refine (stopped_err _ (.iface ct cu) w7 rfl E7.out).mono ?_
  rintro e w8 ⟨rfl, hb8⟩
  have T8 : Hid (Below w0.heap.size w0 w8) := T7.out.trans (hb8.mono (by omega))
  have G8 : Hid (w8.cell? ⟨0, 0, none⟩ = some (.iface ct cu)) := (hb8.cell (p := ⟨0, 0, none⟩) (by show 0 < _; omega)).trans G7.out
  have E8 : Hid (ErrH w8) := (hb8.cell (p := ⟨1, 0, none⟩) (by show 1 < _; omega)).trans E7.out
  have R8 : Hid (Blk w8 (w4.heap.size) #[.slice B2 q d2, .slice (some ⟨B, 0, none⟩) n n] 69) := R7.out.below hb8 (by omega)
  have Z8 : Hid (Blk w8 (w0.heap.size + 1) #[.int .i64 0, .int .i64 0] 30) := Z7.out.below hb8 (by omega)
  have X8 : Hid (Blk w8 (w6.heap.size) #[.int .i64 0, .int .i64 0] 30) := X7.out.below hb8 (by omega)
  have sz8 : w7.heap.size ≤ w8.heap.size := hb8.size
  clear T7 G7 E7 R7 Z7 X7
  have e0 := cellOfBlk Z8.out 0
  have e1 := cellOfBlk Z8.out 1
  have f0 := Z8.out.warm 0
  have f1 := Z8.out.warm 1
  have r0 := cellOfBlk R8.out 0
  have r1 := cellOfBlk R8.out 1
  have x0 := cellOfBlk X8.out 0
  have x1 := cellOfBlk X8.out 1
  go_wp2
  have hcg := chg_two w8 (w0.heap.size + 1) (.int .i64 0) (.int .i64 0)
  have ry := Z8.out.fill2 (.int .i64 0) (.int .i64 0)
  obtain ⟨y, hy⟩ : ∃ x, (w8.setCell ⟨w0.heap.size + 1, 0, none⟩ (.int .i64 0)).setCell ⟨w0.heap.size + 1, 1, none⟩ (.int .i64 0) = x := ⟨_, rfl⟩
  rw [hy] at hcg ry ⊢
  have z0 := cellOfBlk ry 0
  have z1 := cellOfBlk ry 1
  refine bodyPost_ret (v := .tuple #[.slice none 0 0, .agg #[.int .i64 0, .int .i64 0], .bool false]) (by simp [results, Tryd.results9, go_sem, z0, z1]) rfl ?_
  exact ⟨rfl, T8.out.trans ((hcg.below (by omega)).mono (by omega))⟩
set_option maxRecDepth 100000 in
theorem implTake_any (lo hi0 lo2 hi2 : Nat) (v : Value) (f : Fnt) (A : Option Addr) (n c : Nat) (ms : List (List Mat)) (ch : Int) (w : World) (h : FontV w lo hi0 v f) (hhi : hi0 ≤ w.heap.size) (hs : Small f) (hn : ms.length = n) (hm : n ≤ 1048576) (hM : MagI w lo2 hi2 A ms) (hhi2 : hi2 ≤ w.heap.size) (wf : wfM ms) (ct : TypeId) (cu : Value) (hg : w.cell? ⟨0, 0, none⟩ = some (.iface ct cu)) (he : ErrH w) :
    Calls Tryd.prog 9 #[v, .slice A n c, .int .i64 ch] w fun e w' => ∃ u hs', e = .returned (.tuple #[u, cvM (takeX f ms ch), .bool (takeOk f ms ch)]) ∧ OwnMag w' w.heap.size w'.heap.size u hs' (takeL f ms ch) ∧ Below w.heap.size w w' := by
  have no : takeOk f ms ch = false → (Calls Tryd.prog 9 #[v, .slice A n c, .int .i64 ch] w fun e w' => e = .returned (.tuple #[.slice none 0 0, .agg #[.int .i64 0, .int .i64 0], .bool false]) ∧ Below w.heap.size w w') → Calls Tryd.prog 9 #[v, .slice A n c, .int .i64 ch] w fun e w' => ∃ u hs', e = .returned (.tuple #[u, cvM (takeX f ms ch), .bool (takeOk f ms ch)]) ∧ OwnMag w' w.heap.size w'.heap.size u hs' (takeL f ms ch) ∧ Below w.heap.size w w' := fun h0 hc => by
    have hL : takeL f ms ch = [] := by unfold takeL; rw [h0]; rfl
    have hX : takeX f ms ch = (0, 0) := by unfold takeX; rw [h0]; rfl
    rw [h0, hL, hX]
    refine hc.mono ?_
    rintro e w' ⟨rfl, hb⟩
    exact ⟨_, [], rfl, wait_none _ _ _, hb⟩
  cases hmag : magB f ms
  · exact no (by unfold takeOk; rw [hmag]; rfl) (implTake_no1 lo hi0 lo2 hi2 v f A n c ms ch w h hhi hs hn hm hM hhi2 wf hmag)
  cases in1 : inB ch 0 ((n : Int) - 1)
  · exact no (by unfold takeOk; rw [hn, in1]; simp) (implTake_no2 lo hi0 lo2 hi2 v f A n c ms ch w h hhi hs hn hm hM hhi2 wf hmag in1)
  obtain ⟨c0, c1⟩ := (inB_iff _ _ _).1 in1
  obtain ⟨i, rfl⟩ := Int.eq_ofNat_of_zero_le c0
  obtain ⟨xs, hx⟩ : ∃ xs, ms[i]? = some xs := ⟨_, List.getElem?_eq_getElem (by omega)⟩
  have hrow : rowAt ms (i : Int) = xs := by unfold rowAt; rw [Int.toNat_natCast, List.getD, hx]; rfl
  cases xs with
  | nil => exact no (by unfold takeOk; rw [hrow]; simp) (implTake_none lo hi0 lo2 hi2 v f A n c ms i w h hhi hs hn hm hM hhi2 wf ct cu hg he hmag hx)
  | cons x xs =>
    have hok : takeOk f ms (i : Int) = true := by unfold takeOk; rw [hrow, hmag, hn, in1]; simp
    have hL : takeL f ms (i : Int) = ms.set i xs := by unfold takeL; rw [hok, hrow]; rfl
    have hX : takeX f ms (i : Int) = x := by unfold takeX; rw [hok, hrow]; rfl
    rw [hok, hL, hX]
    exact implTake_yes lo hi0 lo2 hi2 v f A n c ms i w h hhi hs hn hm hM hhi2 wf ct cu hg he hmag x xs hx
end Go.Proofs.YtdijlofcgcikjaaDoor
