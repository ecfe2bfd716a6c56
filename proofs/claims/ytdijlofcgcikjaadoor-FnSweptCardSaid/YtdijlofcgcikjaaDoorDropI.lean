/-
  DropMatrix of the program by contract. Conditions: lengths of at most 2^20; errors.errorType and errFull read as laid.
-/
import Derived.Test.YtdijlofcgcikjaaDoorTakeM
import Derived.Test.YtdijlofcgcikjaaDoorWear
import Derived.Test.YtdijlofcgcikjaaDoorCntMag
namespace Go.Proofs.YtdijlofcgcikjaaDoor
open Go.RowKit Go.Conc
set_option linter.unusedVariables false
set_option linter.unusedSimpArgs false

theorem wait_none (w : World) (B hi : Nat) : OwnMag w B hi (.slice none 0 0) [] [] :=
  ⟨World.ownsRow_nil _ _ _ _, fun j xs h => by simp at h, fun i j h h' g e => by simp at e, fun i h g e => by simp at e, fun g h => by cases h⟩
theorem fontCodes {w : World} {lo hi n m c d : Nat} {A A2 : Option Addr} {s : ByteArray} {f : Fnt} (h : FontV w lo hi (.agg #[.string s, .slice A n c, .slice A2 m d]) f) : Ints w A2 f.cs := by
  obtain ⟨X, x, Y, y, hv, -, h2, -⟩ := h
  injection hv with hv
  injection hv with hv
  simp only [List.cons.injEq, Value.slice.injEq] at hv
  rw [hv.2.2.1.1]
  exact h2.ints
def dropAt (f : Fnt) (x : Mat) : Nat := fallOf f.cs x.2
def dropOk (f : Fnt) (ms : List (List Mat)) (x : Mat) : Bool := magB f ms && (matB f x && decide ((rowAt ms (dropAt f x)).length < 20))
def dropI (f : Fnt) (ms : List (List Mat)) (x : Mat) : Int := if dropOk f ms x then (dropAt f x : Int) else 0
def dropL (f : Fnt) (ms : List (List Mat)) (x : Mat) : List (List Mat) := if dropOk f ms x then ms.set (dropAt f x) (rowAt ms (dropAt f x) ++ [x]) else []
set_option maxRecDepth 100000 in
set_option maxHeartbeats 3200000 in
theorem implDrop_no1 (lo hi0 lo2 hi2 : Nat) (v : Value) (f : Fnt) (A : Option Addr) (n c : Nat) (ms : List (List Mat)) (k1 k2 : Int) (w : World) (h : FontV w lo hi0 v f) (hhi : hi0 ≤ w.heap.size) (hs : Small f) (hn : ms.length = n) (hm : n ≤ 1048576) (hM : MagI w lo2 hi2 A ms) (hhi2 : hi2 ≤ w.heap.size) (wf : wfM ms) (wfx : (Lit.int .i64 k2).wf = true) (hmag : magB f ms = false) :
    Calls Tryd.prog 11 #[v, .slice A n c, .agg #[.int .i64 k1, .int .i64 k2]] w fun e w' => e = .returned (.tuple #[.slice none 0 0, .int .i64 0, .bool false]) ∧ Below w.heap.size w w' := by
  obtain ⟨B1, d1, B2, d2, hv⟩ := fontForm h
  obtain ⟨s, hs0⟩ : ∃ y, f.s = y := ⟨_, rfl⟩
  obtain ⟨p, hp⟩ : ∃ y, f.ws.length = y := ⟨_, rfl⟩
  obtain ⟨q, hq⟩ : ∃ y, f.cs.length = y := ⟨_, rfl⟩
  rw [hs0, hp, hq] at hv
  rw [hv] at h
  rw [hv]
  have Hn := Lib.hid hn; have Hwf := Lib.hid wf
  obtain ⟨w0, hw0⟩ : ∃ x, w = x := ⟨_, rfl⟩
  have hww : w.heap.size = w0.heap.size := by rw [hw0]
  have HQ := Lib.hid hq; have HPS := Lib.hid (And.intro hs0 hp)
  have T0 : Hid (Below w0.heap.size w0 w0) := Below.refl _ _
  have V0 : Hid (FontV w0 lo hi0 (.agg #[.string s, .slice B1 p d1, .slice B2 q d2]) f) := by rw [← hw0]; exact h
  have M0 : Hid (MagI w0 lo2 hi2 A ms) := by rw [← hw0]; exact hM
  clear h hM hn wf hs0 hp hq hv
  obtain ⟨w1, hw1, hb1, hz1, hX1⟩ := mxWorld w0 #[.string s, .slice B1 p d1, .slice B2 q d2] 25
  have T1 : Hid (Below w0.heap.size w0 w1) := T0.out.trans (hb1.mono (by omega))
  have V1 : Hid (FontV w1 lo hi0 (.agg #[.string s, .slice B1 p d1, .slice B2 q d2]) f) := V0.out.below (by omega) hb1
  have M1 : Hid (MagI w1 lo2 hi2 A ms) := M0.out.below (by omega) hb1
  have sz1 : w0.heap.size ≤ w1.heap.size := hb1.size
  clear T0 V0 M0
  have F1 : Hid (Blk w1 (w0.heap.size) #[.string s, .slice B1 p d1, .slice B2 q d2] 25) := by show Blk _ _ _ _; exact hX1
  obtain ⟨w2, hw2, hb2, hz2, hX2⟩ := mxWorld w1 #[.int .i64 k1, .int .i64 k2] 30
  have T2 : Hid (Below w0.heap.size w0 w2) := T1.out.trans (hb2.mono (by omega))
  have V2 : Hid (FontV w2 lo hi0 (.agg #[.string s, .slice B1 p d1, .slice B2 q d2]) f) := V1.out.below (by omega) hb2
  have M2 : Hid (MagI w2 lo2 hi2 A ms) := M1.out.below (by omega) hb2
  have F2 : Hid (Blk w2 (w0.heap.size) #[.string s, .slice B1 p d1, .slice B2 q d2] 25) := F1.out.below hb2 (by omega)
  have sz2 : w1.heap.size ≤ w2.heap.size := hb2.size
  clear T1 V1 M1 F1
  have X2 : Hid (Blk w2 (w0.heap.size + 1) #[.int .i64 k1, .int .i64 k2] 30) := by show Blk _ _ _ _; rw [← hz1]; exact hX2
  rw [hz1] at hz2
  have x0 := cellOfBlk X2.out 0
  have x1 := cellOfBlk X2.out 1
  have y0 := cellOfBlk F2.out 0
  have y1 := cellOfBlk F2.out 1
  have y2 := cellOfBlk F2.out 2
  rw [hw0]
  go_enter Tryd.func11, Tryd.ntmps11
  go_wp2_with fail
  refine (implMagOk_any lo hi0 lo2 hi2 _ f _ _ _ ms _ V2.out (by omega) hs Hn.out hm M2.out (by omega) Hwf.out).mono ?_
  rintro e w3 ⟨rfl, hb3⟩
  rw [hmag]
  have T3 : Hid (Below w0.heap.size w0 w3) := T2.out.trans (hb3.mono (by omega))
  have V3 : Hid (FontV w3 lo hi0 (.agg #[.string s, .slice B1 p d1, .slice B2 q d2]) f) := V2.out.below (by omega) hb3
  have M3 : Hid (MagI w3 lo2 hi2 A ms) := M2.out.below (by omega) hb3
  have F3 : Hid (Blk w3 (w0.heap.size) #[.string s, .slice B1 p d1, .slice B2 q d2] 25) := F2.out.below hb3 (by omega)
  have X3 : Hid (Blk w3 (w0.heap.size + 1) #[.int .i64 k1, .int .i64 k2] 30) := X2.out.below hb3 (by omega)
  have sz3 : w2.heap.size ≤ w3.heap.size := hb3.size
  clear T2 V2 M2 F2 X2
  go_wp2
  go_ret3
  exact ⟨rfl, T3.out⟩
set_option maxRecDepth 100000 in
set_option maxHeartbeats 3200000 in
theorem implDrop_no2 (lo hi0 lo2 hi2 : Nat) (v : Value) (f : Fnt) (A : Option Addr) (n c : Nat) (ms : List (List Mat)) (k1 k2 : Int) (w : World) (h : FontV w lo hi0 v f) (hhi : hi0 ≤ w.heap.size) (hs : Small f) (hn : ms.length = n) (hm : n ≤ 1048576) (hM : MagI w lo2 hi2 A ms) (hhi2 : hi2 ≤ w.heap.size) (wf : wfM ms) (wfx : (Lit.int .i64 k2).wf = true) (hmag : magB f ms = true) (hmat : matB f (k1, k2) = false) :
    Calls Tryd.prog 11 #[v, .slice A n c, .agg #[.int .i64 k1, .int .i64 k2]] w fun e w' => e = .returned (.tuple #[.slice none 0 0, .int .i64 0, .bool false]) ∧ Below w.heap.size w w' := by
  obtain ⟨B1, d1, B2, d2, hv⟩ := fontForm h
  obtain ⟨s, hs0⟩ : ∃ y, f.s = y := ⟨_, rfl⟩
  obtain ⟨p, hp⟩ : ∃ y, f.ws.length = y := ⟨_, rfl⟩
  obtain ⟨q, hq⟩ : ∃ y, f.cs.length = y := ⟨_, rfl⟩
  rw [hs0, hp, hq] at hv
  rw [hv] at h
  rw [hv]
  have Hn := Lib.hid hn; have Hwf := Lib.hid wf
  obtain ⟨w0, hw0⟩ : ∃ x, w = x := ⟨_, rfl⟩
  have hww : w.heap.size = w0.heap.size := by rw [hw0]
  have HQ := Lib.hid hq; have HPS := Lib.hid (And.intro hs0 hp)
  have T0 : Hid (Below w0.heap.size w0 w0) := Below.refl _ _
  have V0 : Hid (FontV w0 lo hi0 (.agg #[.string s, .slice B1 p d1, .slice B2 q d2]) f) := by rw [← hw0]; exact h
  have M0 : Hid (MagI w0 lo2 hi2 A ms) := by rw [← hw0]; exact hM
  clear h hM hn wf hs0 hp hq hv
  obtain ⟨hf, -, -⟩ := magB_rows hmag
  obtain ⟨w1, hw1, hb1, hz1, hX1⟩ := mxWorld w0 #[.string s, .slice B1 p d1, .slice B2 q d2] 25
  have T1 : Hid (Below w0.heap.size w0 w1) := T0.out.trans (hb1.mono (by omega))
  have V1 : Hid (FontV w1 lo hi0 (.agg #[.string s, .slice B1 p d1, .slice B2 q d2]) f) := V0.out.below (by omega) hb1
  have M1 : Hid (MagI w1 lo2 hi2 A ms) := M0.out.below (by omega) hb1
  have sz1 : w0.heap.size ≤ w1.heap.size := hb1.size
  clear T0 V0 M0
  have F1 : Hid (Blk w1 (w0.heap.size) #[.string s, .slice B1 p d1, .slice B2 q d2] 25) := by show Blk _ _ _ _; exact hX1
  obtain ⟨w2, hw2, hb2, hz2, hX2⟩ := mxWorld w1 #[.int .i64 k1, .int .i64 k2] 30
  have T2 : Hid (Below w0.heap.size w0 w2) := T1.out.trans (hb2.mono (by omega))
  have V2 : Hid (FontV w2 lo hi0 (.agg #[.string s, .slice B1 p d1, .slice B2 q d2]) f) := V1.out.below (by omega) hb2
  have M2 : Hid (MagI w2 lo2 hi2 A ms) := M1.out.below (by omega) hb2
  have F2 : Hid (Blk w2 (w0.heap.size) #[.string s, .slice B1 p d1, .slice B2 q d2] 25) := F1.out.below hb2 (by omega)
  have sz2 : w1.heap.size ≤ w2.heap.size := hb2.size
  clear T1 V1 M1 F1
  have X2 : Hid (Blk w2 (w0.heap.size + 1) #[.int .i64 k1, .int .i64 k2] 30) := by show Blk _ _ _ _; rw [← hz1]; exact hX2
  rw [hz1] at hz2
  have x0 := cellOfBlk X2.out 0
  have x1 := cellOfBlk X2.out 1
  have y0 := cellOfBlk F2.out 0
  have y1 := cellOfBlk F2.out 1
  have y2 := cellOfBlk F2.out 2
  rw [hw0]
  go_enter Tryd.func11, Tryd.ntmps11
  go_wp2_with fail
  refine (implMagOk_any lo hi0 lo2 hi2 _ f _ _ _ ms _ V2.out (by omega) hs Hn.out hm M2.out (by omega) Hwf.out).mono ?_
  rintro e w3 ⟨rfl, hb3⟩
  rw [hmag]
  have T3 : Hid (Below w0.heap.size w0 w3) := T2.out.trans (hb3.mono (by omega))
  have V3 : Hid (FontV w3 lo hi0 (.agg #[.string s, .slice B1 p d1, .slice B2 q d2]) f) := V2.out.below (by omega) hb3
  have M3 : Hid (MagI w3 lo2 hi2 A ms) := M2.out.below (by omega) hb3
  have F3 : Hid (Blk w3 (w0.heap.size) #[.string s, .slice B1 p d1, .slice B2 q d2] 25) := F2.out.below hb3 (by omega)
  have X3 : Hid (Blk w3 (w0.heap.size + 1) #[.int .i64 k1, .int .i64 k2] 30) := X2.out.below hb3 (by omega)
  have sz3 : w2.heap.size ≤ w3.heap.size := hb3.size
  clear T2 V2 M2 F2 X2
  clear x0 x1 y0 y1 y2
  have x0 := cellOfBlk X3.out 0
  have x1 := cellOfBlk X3.out 1
  have y0 := cellOfBlk F3.out 0
  have y1 := cellOfBlk F3.out 1
  have y2 := cellOfBlk F3.out 2
  go_wp2_with fail
  refine (isMatrix_any lo hi0 _ f (k1, k2) _ V3.out (by omega) hs hf wfx).mono ?_
  rintro e w4 ⟨rfl, hb4⟩
  rw [hmat]
  have T4 : Hid (Below w0.heap.size w0 w4) := T3.out.trans (hb4.mono (by omega))
  have V4 : Hid (FontV w4 lo hi0 (.agg #[.string s, .slice B1 p d1, .slice B2 q d2]) f) := V3.out.below (by omega) hb4
  have M4 : Hid (MagI w4 lo2 hi2 A ms) := M3.out.below (by omega) hb4
  have F4 : Hid (Blk w4 (w0.heap.size) #[.string s, .slice B1 p d1, .slice B2 q d2] 25) := F3.out.below hb4 (by omega)
  have X4 : Hid (Blk w4 (w0.heap.size + 1) #[.int .i64 k1, .int .i64 k2] 30) := X3.out.below hb4 (by omega)
  have sz4 : w3.heap.size ≤ w4.heap.size := hb4.size
  clear T3 V3 M3 F3 X3
  go_wp2
  go_ret3
  exact ⟨rfl, T4.out⟩
set_option maxRecDepth 100000 in
set_option maxHeartbeats 3200000 in
theorem implDrop_yes (lo hi0 lo2 hi2 : Nat) (v : Value) (f : Fnt) (A : Option Addr) (n c : Nat) (ms : List (List Mat)) (k1 k2 : Int) (w : World) (h : FontV w lo hi0 v f) (hhi : hi0 ≤ w.heap.size) (hs : Small f) (hn : ms.length = n) (hm : n ≤ 1048576) (hM : MagI w lo2 hi2 A ms) (hhi2 : hi2 ≤ w.heap.size) (wf : wfM ms) (wfx : (Lit.int .i64 k2).wf = true) (ct : TypeId) (cu : Value) (hg : w.cell? ⟨2, 0, none⟩ = some (.iface ct cu)) (he : ErrH w) (hmag : magB f ms = true) (hmat : matB f (k1, k2) = true) (i : Nat) (hia : fallOf f.cs k2 = i) (xs : List Mat) (hx : ms[i]? = some xs) (hl : xs.length < 20) :
    Calls Tryd.prog 11 #[v, .slice A n c, .agg #[.int .i64 k1, .int .i64 k2]] w fun e w' => ∃ u hs', e = .returned (.tuple #[u, .int .i64 i, .bool true]) ∧ OwnMag w' w.heap.size w'.heap.size u hs' (ms.set i (xs ++ [(k1, k2)])) ∧ Below w.heap.size w w' := by
  obtain ⟨B1, d1, B2, d2, hv⟩ := fontForm h
  obtain ⟨s, hs0⟩ : ∃ y, f.s = y := ⟨_, rfl⟩
  obtain ⟨p, hp⟩ : ∃ y, f.ws.length = y := ⟨_, rfl⟩
  obtain ⟨q, hq⟩ : ∃ y, f.cs.length = y := ⟨_, rfl⟩
  rw [hs0, hp, hq] at hv
  rw [hv] at h
  rw [hv]
  have Hn := Lib.hid hn; have Hwf := Lib.hid wf
  obtain ⟨w0, hw0⟩ : ∃ x, w = x := ⟨_, rfl⟩
  have hww : w.heap.size = w0.heap.size := by rw [hw0]
  have HQ := Lib.hid hq; have HPS := Lib.hid (And.intro hs0 hp)
  have hg2 := World.block_lt_of_cell? _ _ hg
  simp only at hg2
  have T0 : Hid (Below w0.heap.size w0 w0) := Below.refl _ _
  have V0 : Hid (FontV w0 lo hi0 (.agg #[.string s, .slice B1 p d1, .slice B2 q d2]) f) := by rw [← hw0]; exact h
  have M0 : Hid (MagI w0 lo2 hi2 A ms) := by rw [← hw0]; exact hM
  have G0 : Hid (w0.cell? ⟨2, 0, none⟩ = some (.iface ct cu)) := by rw [← hw0]; exact hg
  have E0 : Hid (ErrH w0) := by rw [← hw0]; exact he
  clear h hM hn wf hs0 hp hq hv hg he
  obtain ⟨hf, -, hrows⟩ := magB_rows hmag
  have hin : i < n := by rw [← Hn.out]; exact (List.getElem?_eq_some_iff.1 hx).1
  have hlim : ∀ xs ∈ ms, xs.length ≤ 20 := fun xs hx => (hrows xs hx).1
  have HI := Lib.hid hia; have HX := Lib.hid hx; have HLIM := Lib.hid hlim
  clear hx hrows hlim hia
  obtain ⟨w1, hw1, hb1, hz1, hX1⟩ := mxWorld w0 #[.string s, .slice B1 p d1, .slice B2 q d2] 25
  have T1 : Hid (Below w0.heap.size w0 w1) := T0.out.trans (hb1.mono (by omega))
  have V1 : Hid (FontV w1 lo hi0 (.agg #[.string s, .slice B1 p d1, .slice B2 q d2]) f) := V0.out.below (by omega) hb1
  have M1 : Hid (MagI w1 lo2 hi2 A ms) := M0.out.below (by omega) hb1
  have G1 : Hid (w1.cell? ⟨2, 0, none⟩ = some (.iface ct cu)) := (hb1.cell (p := ⟨2, 0, none⟩) (by show 2 < _; omega)).trans G0.out
  have E1 : Hid (ErrH w1) := (hb1.cell (p := ⟨1, 0, none⟩) (by show 1 < _; omega)).trans E0.out
  have sz1 : w0.heap.size ≤ w1.heap.size := hb1.size
  clear T0 V0 M0 G0 E0
  have F1 : Hid (Blk w1 (w0.heap.size) #[.string s, .slice B1 p d1, .slice B2 q d2] 25) := by show Blk _ _ _ _; exact hX1
  obtain ⟨w2, hw2, hb2, hz2, hX2⟩ := mxWorld w1 #[.int .i64 k1, .int .i64 k2] 30
  have T2 : Hid (Below w0.heap.size w0 w2) := T1.out.trans (hb2.mono (by omega))
  have V2 : Hid (FontV w2 lo hi0 (.agg #[.string s, .slice B1 p d1, .slice B2 q d2]) f) := V1.out.below (by omega) hb2
  have M2 : Hid (MagI w2 lo2 hi2 A ms) := M1.out.below (by omega) hb2
  have G2 : Hid (w2.cell? ⟨2, 0, none⟩ = some (.iface ct cu)) := (hb2.cell (p := ⟨2, 0, none⟩) (by show 2 < _; omega)).trans G1.out
  have E2 : Hid (ErrH w2) := (hb2.cell (p := ⟨1, 0, none⟩) (by show 1 < _; omega)).trans E1.out
  have F2 : Hid (Blk w2 (w0.heap.size) #[.string s, .slice B1 p d1, .slice B2 q d2] 25) := F1.out.below hb2 (by omega)
  have sz2 : w1.heap.size ≤ w2.heap.size := hb2.size
  clear T1 V1 M1 G1 E1 F1
  have X2 : Hid (Blk w2 (w0.heap.size + 1) #[.int .i64 k1, .int .i64 k2] 30) := by show Blk _ _ _ _; rw [← hz1]; exact hX2
  rw [hz1] at hz2
  have x0 := cellOfBlk X2.out 0
  have x1 := cellOfBlk X2.out 1
  have y0 := cellOfBlk F2.out 0
  have y1 := cellOfBlk F2.out 1
  have y2 := cellOfBlk F2.out 2
  rw [hw0]
  go_enter Tryd.func11, Tryd.ntmps11
  go_wp2_with fail
  refine (implMagOk_any lo hi0 lo2 hi2 _ f _ _ _ ms _ V2.out (by omega) hs Hn.out hm M2.out (by omega) Hwf.out).mono ?_
  rintro e w3 ⟨rfl, hb3⟩
  rw [hmag]
  have T3 : Hid (Below w0.heap.size w0 w3) := T2.out.trans (hb3.mono (by omega))
  have V3 : Hid (FontV w3 lo hi0 (.agg #[.string s, .slice B1 p d1, .slice B2 q d2]) f) := V2.out.below (by omega) hb3
  have M3 : Hid (MagI w3 lo2 hi2 A ms) := M2.out.below (by omega) hb3
  have G3 : Hid (w3.cell? ⟨2, 0, none⟩ = some (.iface ct cu)) := (hb3.cell (p := ⟨2, 0, none⟩) (by show 2 < _; omega)).trans G2.out
  have E3 : Hid (ErrH w3) := (hb3.cell (p := ⟨1, 0, none⟩) (by show 1 < _; omega)).trans E2.out
  have F3 : Hid (Blk w3 (w0.heap.size) #[.string s, .slice B1 p d1, .slice B2 q d2] 25) := F2.out.below hb3 (by omega)
  have X3 : Hid (Blk w3 (w0.heap.size + 1) #[.int .i64 k1, .int .i64 k2] 30) := X2.out.below hb3 (by omega)
  have sz3 : w2.heap.size ≤ w3.heap.size := hb3.size
  clear T2 V2 M2 G2 E2 F2 X2
  clear x0 x1 y0 y1 y2
  have x0 := cellOfBlk X3.out 0
  have x1 := cellOfBlk X3.out 1
  have y0 := cellOfBlk F3.out 0
  have y1 := cellOfBlk F3.out 1
  have y2 := cellOfBlk F3.out 2
  go_wp2_with fail
  refine (isMatrix_any lo hi0 _ f (k1, k2) _ V3.out (by omega) hs hf wfx).mono ?_
  rintro e w4 ⟨rfl, hb4⟩
  rw [hmat]
  have T4 : Hid (Below w0.heap.size w0 w4) := T3.out.trans (hb4.mono (by omega))
  have V4 : Hid (FontV w4 lo hi0 (.agg #[.string s, .slice B1 p d1, .slice B2 q d2]) f) := V3.out.below (by omega) hb4
  have M4 : Hid (MagI w4 lo2 hi2 A ms) := M3.out.below (by omega) hb4
  have G4 : Hid (w4.cell? ⟨2, 0, none⟩ = some (.iface ct cu)) := (hb4.cell (p := ⟨2, 0, none⟩) (by show 2 < _; omega)).trans G3.out
  have E4 : Hid (ErrH w4) := (hb4.cell (p := ⟨1, 0, none⟩) (by show 1 < _; omega)).trans E3.out
  have F4 : Hid (Blk w4 (w0.heap.size) #[.string s, .slice B1 p d1, .slice B2 q d2] 25) := F3.out.below hb4 (by omega)
  have X4 : Hid (Blk w4 (w0.heap.size + 1) #[.int .i64 k1, .int .i64 k2] 30) := X3.out.below hb4 (by omega)
  have sz4 : w3.heap.size ≤ w4.heap.size := hb4.size
  clear T3 V3 M3 G3 E3 F3 X3
  clear x0 x1 y0 y1 y2
  have y0 := cellOfBlk F4.out 0
  have y1 := cellOfBlk F4.out 1
  have y2 := cellOfBlk F4.out 2
  go_wp2_with fail
  refine (load_any lo hi0 lo2 hi2 _ f _ n _ ms _ V4.out Hn.out hm HLIM.out M4.out (by omega)).mono ?_
  rintro e w5 ⟨Bc, dc, B, hi, hs9, ⟨X1, x1, hfo⟩, rfl, hmd, hBw, hhi9, hC, hb5⟩
  obtain ⟨eb, ed⟩ : B2 = Bc ∧ d2 = dc := by
    injection hfo with hfo
    injection hfo with hfo
    simp only [List.cons.injEq, Value.slice.injEq] at hfo
    exact ⟨hfo.2.2.1.1, hfo.2.2.1.2.2⟩
  subst eb; subst ed
  rw [HQ.out]
  have T5 : Hid (Below w0.heap.size w0 w5) := T4.out.trans (hb5.mono (by omega))
  have V5 : Hid (FontV w5 lo hi0 (.agg #[.string s, .slice B1 p d1, .slice B2 q d2]) f) := V4.out.below (by omega) hb5
  have G5 : Hid (w5.cell? ⟨2, 0, none⟩ = some (.iface ct cu)) := (hb5.cell (p := ⟨2, 0, none⟩) (by show 2 < _; omega)).trans G4.out
  have E5 : Hid (ErrH w5) := (hb5.cell (p := ⟨1, 0, none⟩) (by show 1 < _; omega)).trans E4.out
  have X5 : Hid (Blk w5 (w0.heap.size + 1) #[.int .i64 k1, .int .i64 k2] 30) := X4.out.below hb5 (by omega)
  have sz5 : w4.heap.size ≤ w5.heap.size := hb5.size
  clear T4 V4 M4 G4 E4 F4 X4
  clear hfo y0 y1 y2
  have x0 := cellOfBlk X5.out 0
  have x1 := cellOfBlk X5.out 1
  have C5 : Hid (ChM w5 B hi (.slice (some ⟨B, 0, none⟩) n n) hs9 ms) := hC
  have HMD := Lib.hid hmd
  have hBh := hC.top B rfl
  clear hC hmd
  obtain ⟨w6, hw6, hb6, hz6, hX6⟩ := mxWorld w5 #[.slice B2 q d2, .slice (some ⟨B, 0, none⟩) n n] 69
  have T6 : Hid (Below w0.heap.size w0 w6) := T5.out.trans (hb6.mono (by omega))
  have V6 : Hid (FontV w6 lo hi0 (.agg #[.string s, .slice B1 p d1, .slice B2 q d2]) f) := V5.out.below (by omega) hb6
  have G6 : Hid (w6.cell? ⟨2, 0, none⟩ = some (.iface ct cu)) := (hb6.cell (p := ⟨2, 0, none⟩) (by show 2 < _; omega)).trans G5.out
  have E6 : Hid (ErrH w6) := (hb6.cell (p := ⟨1, 0, none⟩) (by show 1 < _; omega)).trans E5.out
  have X6 : Hid (Blk w6 (w0.heap.size + 1) #[.int .i64 k1, .int .i64 k2] 30) := X5.out.below hb6 (by omega)
  have C6 : Hid (ChM w6 B hi (.slice (some ⟨B, 0, none⟩) n n) hs9 ms) := C5.out.below (by omega) hb6
  have sz6 : w5.heap.size ≤ w6.heap.size := hb6.size
  clear T5 V5 G5 E5 X5 C5
  have R6 : Hid (Blk w6 (w5.heap.size) #[.slice B2 q d2, .slice (some ⟨B, 0, none⟩) n n] 69) := by show Blk _ _ _ _; exact hX6
  clear x0 x1
  have x0 := cellOfBlk X6.out 0
  have x1 := cellOfBlk X6.out 1
  have r0 := cellOfBlk R6.out 0
  have r1 := cellOfBlk R6.out 1
  go_wp2_with fail
  have hcs : Ints w6 B2 f.cs := fontCodes V6.out
  refine (drop_room _ q _ f.cs B hi n hs9 ms i w6 HMD.out C6.out (by omega) hin k1 k2 xs HQ.out (by have := hs.2.2; have := HQ.out; unfold maxLen; omega) hcs HI.out HX.out hl).mono ?_
  rintro e w7 ⟨rfl, hC, hc7⟩
  have hb7 := hc7.below (by omega)
  have R7 : Hid (Blk w7 (w5.heap.size) #[.slice B2 q d2, .slice (some ⟨B, 0, none⟩) n n] 69) := (hc7.block _ (by omega) (by omega)).trans R6.out
  have T7 : Hid (Below w0.heap.size w0 w7) := T6.out.trans (hb7.mono (by omega))
  have G7 : Hid (w7.cell? ⟨2, 0, none⟩ = some (.iface ct cu)) := (hb7.cell (p := ⟨2, 0, none⟩) (by show 2 < _; omega)).trans G6.out
  have E7 : Hid (ErrH w7) := (hb7.cell (p := ⟨1, 0, none⟩) (by show 1 < _; omega)).trans E6.out
  have sz7 : w6.heap.size ≤ w7.heap.size := hb7.size
  clear T6 V6 G6 E6 X6 C6 R6
  clear x0 x1 r0 r1
  have C7 : Hid (ChM w7 B hi (.slice (some ⟨B, 0, none⟩) n n) hs9 (ms.set i (xs ++ [(k1, k2)]))) := hC
  have r0 := cellOfBlk R7.out 0
  have r1 := cellOfBlk R7.out 1
  clear hC hcs
  go_wp2_with fail
  refine (stopped_nil w7).mono ?_
  rintro e w8 ⟨rfl, hb8⟩
  have T8 : Hid (Below w0.heap.size w0 w8) := T7.out.trans (hb8.mono (by omega))
  have G8 : Hid (w8.cell? ⟨2, 0, none⟩ = some (.iface ct cu)) := (hb8.cell (p := ⟨2, 0, none⟩) (by show 2 < _; omega)).trans G7.out
  have E8 : Hid (ErrH w8) := (hb8.cell (p := ⟨1, 0, none⟩) (by show 1 < _; omega)).trans E7.out
  have R8 : Hid (Blk w8 (w5.heap.size) #[.slice B2 q d2, .slice (some ⟨B, 0, none⟩) n n] 69) := R7.out.below hb8 (by omega)
  have C8 : Hid (ChM w8 B hi (.slice (some ⟨B, 0, none⟩) n n) hs9 (ms.set i (xs ++ [(k1, k2)]))) := C7.out.below (by omega) hb8
  have sz8 : w7.heap.size ≤ w8.heap.size := hb8.size
  clear T7 G7 E7 R7 C7
  clear r0 r1
  have r0 := cellOfBlk R8.out 0
  have r1 := cellOfBlk R8.out 1
  go_wp2_with fail
  have hlr : ∀ ys ∈ ms.set i (xs ++ [(k1, k2)]), ys.length ≤ 20 := fun ys hy => by
    rcases List.mem_or_eq_of_mem_set hy with hy | rfl
    · exact HLIM.out ys hy
    · rw [List.length_append]; simp; omega
  refine (unload_any (.slice B2 q d2) rfl B hi n hs9 _ w8 (by rw [List.length_set]; exact Hn.out) hm hlr HMD.out C8.out (by omega)).mono ?_
  rintro e w9 ⟨v9, hs8, rfl, hO, hc9⟩
  go_wp2
  go_ret3
  exact ⟨_, hs8, rfl, hO.base (by omega), T8.out.trans ((hc9.below (by omega)).mono (by omega))⟩
set_option maxRecDepth 100000 in
set_option maxHeartbeats 3200000 in
theorem implDrop_full (lo hi0 lo2 hi2 : Nat) (v : Value) (f : Fnt) (A : Option Addr) (n c : Nat) (ms : List (List Mat)) (k1 k2 : Int) (w : World) (h : FontV w lo hi0 v f) (hhi : hi0 ≤ w.heap.size) (hs : Small f) (hn : ms.length = n) (hm : n ≤ 1048576) (hM : MagI w lo2 hi2 A ms) (hhi2 : hi2 ≤ w.heap.size) (wf : wfM ms) (wfx : (Lit.int .i64 k2).wf = true) (ct : TypeId) (cu : Value) (hg : w.cell? ⟨2, 0, none⟩ = some (.iface ct cu)) (he : ErrH w) (hmag : magB f ms = true) (hmat : matB f (k1, k2) = true) (i : Nat) (hia : fallOf f.cs k2 = i) (xs : List Mat) (hx : ms[i]? = some xs) (hl : 20 ≤ xs.length) :
    Calls Tryd.prog 11 #[v, .slice A n c, .agg #[.int .i64 k1, .int .i64 k2]] w fun e w' => e = .returned (.tuple #[.slice none 0 0, .int .i64 0, .bool false]) ∧ Below w.heap.size w w' := by
  obtain ⟨B1, d1, B2, d2, hv⟩ := fontForm h
  obtain ⟨s, hs0⟩ : ∃ y, f.s = y := ⟨_, rfl⟩
  obtain ⟨p, hp⟩ : ∃ y, f.ws.length = y := ⟨_, rfl⟩
  obtain ⟨q, hq⟩ : ∃ y, f.cs.length = y := ⟨_, rfl⟩
  rw [hs0, hp, hq] at hv
  rw [hv] at h
  rw [hv]
  have Hn := Lib.hid hn; have Hwf := Lib.hid wf
  obtain ⟨w0, hw0⟩ : ∃ x, w = x := ⟨_, rfl⟩
  have hww : w.heap.size = w0.heap.size := by rw [hw0]
  have HQ := Lib.hid hq; have HPS := Lib.hid (And.intro hs0 hp)
  have hg2 := World.block_lt_of_cell? _ _ hg
  simp only at hg2
  have T0 : Hid (Below w0.heap.size w0 w0) := Below.refl _ _
  have V0 : Hid (FontV w0 lo hi0 (.agg #[.string s, .slice B1 p d1, .slice B2 q d2]) f) := by rw [← hw0]; exact h
  have M0 : Hid (MagI w0 lo2 hi2 A ms) := by rw [← hw0]; exact hM
  have G0 : Hid (w0.cell? ⟨2, 0, none⟩ = some (.iface ct cu)) := by rw [← hw0]; exact hg
  have E0 : Hid (ErrH w0) := by rw [← hw0]; exact he
  clear h hM hn wf hs0 hp hq hv hg he
  obtain ⟨hf, -, hrows⟩ := magB_rows hmag
  have hin : i < n := by rw [← Hn.out]; exact (List.getElem?_eq_some_iff.1 hx).1
  have hlim : ∀ xs ∈ ms, xs.length ≤ 20 := fun xs hx => (hrows xs hx).1
  have HI := Lib.hid hia; have HX := Lib.hid hx; have HLIM := Lib.hid hlim
  clear hx hrows hlim hia
  obtain ⟨w1, hw1, hb1, hz1, hX1⟩ := mxWorld w0 #[.string s, .slice B1 p d1, .slice B2 q d2] 25
  have T1 : Hid (Below w0.heap.size w0 w1) := T0.out.trans (hb1.mono (by omega))
  have V1 : Hid (FontV w1 lo hi0 (.agg #[.string s, .slice B1 p d1, .slice B2 q d2]) f) := V0.out.below (by omega) hb1
  have M1 : Hid (MagI w1 lo2 hi2 A ms) := M0.out.below (by omega) hb1
  have G1 : Hid (w1.cell? ⟨2, 0, none⟩ = some (.iface ct cu)) := (hb1.cell (p := ⟨2, 0, none⟩) (by show 2 < _; omega)).trans G0.out
  have E1 : Hid (ErrH w1) := (hb1.cell (p := ⟨1, 0, none⟩) (by show 1 < _; omega)).trans E0.out
  have sz1 : w0.heap.size ≤ w1.heap.size := hb1.size
  clear T0 V0 M0 G0 E0
  have F1 : Hid (Blk w1 (w0.heap.size) #[.string s, .slice B1 p d1, .slice B2 q d2] 25) := by show Blk _ _ _ _; exact hX1
  obtain ⟨w2, hw2, hb2, hz2, hX2⟩ := mxWorld w1 #[.int .i64 k1, .int .i64 k2] 30
  have T2 : Hid (Below w0.heap.size w0 w2) := T1.out.trans (hb2.mono (by omega))
  have V2 : Hid (FontV w2 lo hi0 (.agg #[.string s, .slice B1 p d1, .slice B2 q d2]) f) := V1.out.below (by omega) hb2
  have M2 : Hid (MagI w2 lo2 hi2 A ms) := M1.out.below (by omega) hb2
  have G2 : Hid (w2.cell? ⟨2, 0, none⟩ = some (.iface ct cu)) := (hb2.cell (p := ⟨2, 0, none⟩) (by show 2 < _; omega)).trans G1.out
  have E2 : Hid (ErrH w2) := (hb2.cell (p := ⟨1, 0, none⟩) (by show 1 < _; omega)).trans E1.out
  have F2 : Hid (Blk w2 (w0.heap.size) #[.string s, .slice B1 p d1, .slice B2 q d2] 25) := F1.out.below hb2 (by omega)
  have sz2 : w1.heap.size ≤ w2.heap.size := hb2.size
  clear T1 V1 M1 G1 E1 F1
  have X2 : Hid (Blk w2 (w0.heap.size + 1) #[.int .i64 k1, .int .i64 k2] 30) := by show Blk _ _ _ _; rw [← hz1]; exact hX2
  rw [hz1] at hz2
  have x0 := cellOfBlk X2.out 0
  have x1 := cellOfBlk X2.out 1
  have y0 := cellOfBlk F2.out 0
  have y1 := cellOfBlk F2.out 1
  have y2 := cellOfBlk F2.out 2
  rw [hw0]
  go_enter Tryd.func11, Tryd.ntmps11
  go_wp2_with fail
  refine (implMagOk_any lo hi0 lo2 hi2 _ f _ _ _ ms _ V2.out (by omega) hs Hn.out hm M2.out (by omega) Hwf.out).mono ?_
  rintro e w3 ⟨rfl, hb3⟩
  rw [hmag]
  have T3 : Hid (Below w0.heap.size w0 w3) := T2.out.trans (hb3.mono (by omega))
  have V3 : Hid (FontV w3 lo hi0 (.agg #[.string s, .slice B1 p d1, .slice B2 q d2]) f) := V2.out.below (by omega) hb3
  have M3 : Hid (MagI w3 lo2 hi2 A ms) := M2.out.below (by omega) hb3
  have G3 : Hid (w3.cell? ⟨2, 0, none⟩ = some (.iface ct cu)) := (hb3.cell (p := ⟨2, 0, none⟩) (by show 2 < _; omega)).trans G2.out
  have E3 : Hid (ErrH w3) := (hb3.cell (p := ⟨1, 0, none⟩) (by show 1 < _; omega)).trans E2.out
  have F3 : Hid (Blk w3 (w0.heap.size) #[.string s, .slice B1 p d1, .slice B2 q d2] 25) := F2.out.below hb3 (by omega)
  have X3 : Hid (Blk w3 (w0.heap.size + 1) #[.int .i64 k1, .int .i64 k2] 30) := X2.out.below hb3 (by omega)
  have sz3 : w2.heap.size ≤ w3.heap.size := hb3.size
  clear T2 V2 M2 G2 E2 F2 X2
  clear x0 x1 y0 y1 y2
  have x0 := cellOfBlk X3.out 0
  have x1 := cellOfBlk X3.out 1
  have y0 := cellOfBlk F3.out 0
  have y1 := cellOfBlk F3.out 1
  have y2 := cellOfBlk F3.out 2
  go_wp2_with fail
  refine (isMatrix_any lo hi0 _ f (k1, k2) _ V3.out (by omega) hs hf wfx).mono ?_
  rintro e w4 ⟨rfl, hb4⟩
  rw [hmat]
  have T4 : Hid (Below w0.heap.size w0 w4) := T3.out.trans (hb4.mono (by omega))
  have V4 : Hid (FontV w4 lo hi0 (.agg #[.string s, .slice B1 p d1, .slice B2 q d2]) f) := V3.out.below (by omega) hb4
  have M4 : Hid (MagI w4 lo2 hi2 A ms) := M3.out.below (by omega) hb4
  have G4 : Hid (w4.cell? ⟨2, 0, none⟩ = some (.iface ct cu)) := (hb4.cell (p := ⟨2, 0, none⟩) (by show 2 < _; omega)).trans G3.out
  have E4 : Hid (ErrH w4) := (hb4.cell (p := ⟨1, 0, none⟩) (by show 1 < _; omega)).trans E3.out
  have F4 : Hid (Blk w4 (w0.heap.size) #[.string s, .slice B1 p d1, .slice B2 q d2] 25) := F3.out.below hb4 (by omega)
  have X4 : Hid (Blk w4 (w0.heap.size + 1) #[.int .i64 k1, .int .i64 k2] 30) := X3.out.below hb4 (by omega)
  have sz4 : w3.heap.size ≤ w4.heap.size := hb4.size
  clear T3 V3 M3 G3 E3 F3 X3
  clear x0 x1 y0 y1 y2
  have y0 := cellOfBlk F4.out 0
  have y1 := cellOfBlk F4.out 1
  have y2 := cellOfBlk F4.out 2
  go_wp2_with fail
  refine (load_any lo hi0 lo2 hi2 _ f _ n _ ms _ V4.out Hn.out hm HLIM.out M4.out (by omega)).mono ?_
  rintro e w5 ⟨Bc, dc, B, hi, hs9, ⟨X1, x1, hfo⟩, rfl, hmd, hBw, hhi9, hC, hb5⟩
  obtain ⟨eb, ed⟩ : B2 = Bc ∧ d2 = dc := by
    injection hfo with hfo
    injection hfo with hfo
    simp only [List.cons.injEq, Value.slice.injEq] at hfo
    exact ⟨hfo.2.2.1.1, hfo.2.2.1.2.2⟩
  subst eb; subst ed
  rw [HQ.out]
  have T5 : Hid (Below w0.heap.size w0 w5) := T4.out.trans (hb5.mono (by omega))
  have V5 : Hid (FontV w5 lo hi0 (.agg #[.string s, .slice B1 p d1, .slice B2 q d2]) f) := V4.out.below (by omega) hb5
  have G5 : Hid (w5.cell? ⟨2, 0, none⟩ = some (.iface ct cu)) := (hb5.cell (p := ⟨2, 0, none⟩) (by show 2 < _; omega)).trans G4.out
  have E5 : Hid (ErrH w5) := (hb5.cell (p := ⟨1, 0, none⟩) (by show 1 < _; omega)).trans E4.out
  have X5 : Hid (Blk w5 (w0.heap.size + 1) #[.int .i64 k1, .int .i64 k2] 30) := X4.out.below hb5 (by omega)
  have sz5 : w4.heap.size ≤ w5.heap.size := hb5.size
  clear T4 V4 M4 G4 E4 F4 X4
  clear hfo y0 y1 y2
  have x0 := cellOfBlk X5.out 0
  have x1 := cellOfBlk X5.out 1
  have C5 : Hid (ChM w5 B hi (.slice (some ⟨B, 0, none⟩) n n) hs9 ms) := hC
  have HMD := Lib.hid hmd
  have hBh := hC.top B rfl
  clear hC hmd
  obtain ⟨w6, hw6, hb6, hz6, hX6⟩ := mxWorld w5 #[.slice B2 q d2, .slice (some ⟨B, 0, none⟩) n n] 69
  have T6 : Hid (Below w0.heap.size w0 w6) := T5.out.trans (hb6.mono (by omega))
  have V6 : Hid (FontV w6 lo hi0 (.agg #[.string s, .slice B1 p d1, .slice B2 q d2]) f) := V5.out.below (by omega) hb6
  have G6 : Hid (w6.cell? ⟨2, 0, none⟩ = some (.iface ct cu)) := (hb6.cell (p := ⟨2, 0, none⟩) (by show 2 < _; omega)).trans G5.out
  have E6 : Hid (ErrH w6) := (hb6.cell (p := ⟨1, 0, none⟩) (by show 1 < _; omega)).trans E5.out
  have X6 : Hid (Blk w6 (w0.heap.size + 1) #[.int .i64 k1, .int .i64 k2] 30) := X5.out.below hb6 (by omega)
  have C6 : Hid (ChM w6 B hi (.slice (some ⟨B, 0, none⟩) n n) hs9 ms) := C5.out.below (by omega) hb6
  have sz6 : w5.heap.size ≤ w6.heap.size := hb6.size
  clear T5 V5 G5 E5 X5 C5
  have R6 : Hid (Blk w6 (w5.heap.size) #[.slice B2 q d2, .slice (some ⟨B, 0, none⟩) n n] 69) := by show Blk _ _ _ _; exact hX6
  clear x0 x1
  have x0 := cellOfBlk X6.out 0
  have x1 := cellOfBlk X6.out 1
  have r0 := cellOfBlk R6.out 0
  have r1 := cellOfBlk R6.out 1
  go_wp2_with fail
  have hcs : Ints w6 B2 f.cs := fontCodes V6.out
  refine (drop_full _ q _ f.cs B hi n hs9 ms i w6 HMD.out C6.out (by omega) hin k1 k2 xs HQ.out (by have := hs.2.2; have := HQ.out; unfold maxLen; omega) hcs HI.out ct cu G6.out HX.out hl).mono ?_
  rintro e w7 ⟨rfl, hC, hc7⟩
  have hb7 := hc7.below (by omega)
  have R7 : Hid (Blk w7 (w5.heap.size) #[.slice B2 q d2, .slice (some ⟨B, 0, none⟩) n n] 69) := (hc7.block _ (by omega) (by omega)).trans R6.out
  have T7 : Hid (Below w0.heap.size w0 w7) := T6.out.trans (hb7.mono (by omega))
  have G7 : Hid (w7.cell? ⟨2, 0, none⟩ = some (.iface ct cu)) := (hb7.cell (p := ⟨2, 0, none⟩) (by show 2 < _; omega)).trans G6.out
  have E7 : Hid (ErrH w7) := (hb7.cell (p := ⟨1, 0, none⟩) (by show 1 < _; omega)).trans E6.out
  have sz7 : w6.heap.size ≤ w7.heap.size := hb7.size
  clear T6 V6 G6 E6 X6 C6 R6
  clear x0 x1 r0 r1
  clear hC hcs
  go_wp2_with fail
  refine (stopped_err _ (.iface ct cu) w7 rfl E7.out).mono ?_
  rintro e w8 ⟨rfl, hb8⟩
  go_wp2
  go_ret3
  exact ⟨rfl, T7.out.trans (hb8.mono (by omega))⟩
theorem drop_lt {f : Fnt} {ms : List (List Mat)} {x : Mat} (hmag : magB f ms = true) (hmat : matB f x = true) : fallOf f.cs x.2 < ms.length := by
  obtain ⟨hf, hl, -⟩ := magB_rows hmag
  obtain ⟨h1, -, -⟩ := fontB_codes hf
  unfold matB at hmat
  rw [Bool.and_eq_true, Bool.and_eq_true] at hmat
  obtain ⟨hk, hset, hp⟩ := hmat
  obtain ⟨k0, k1⟩ := (inB_iff _ _ _).1 hk
  have hkl : x.1.toNat < f.cs.length := by omega
  rw [hl, h1]
  unfold fallOf
  refine List.findIdx_lt_length_of_exists ⟨f.cs[x.1.toNat], List.getElem_mem hkl, ?_⟩
  rw [List.getD, List.getElem?_eq_getElem hkl] at hp
  exact hp
set_option maxRecDepth 100000 in
theorem implDrop_any (lo hi0 lo2 hi2 : Nat) (v : Value) (f : Fnt) (A : Option Addr) (n c : Nat) (ms : List (List Mat)) (k1 k2 : Int) (w : World) (h : FontV w lo hi0 v f) (hhi : hi0 ≤ w.heap.size) (hs : Small f) (hn : ms.length = n) (hm : n ≤ 1048576) (hM : MagI w lo2 hi2 A ms) (hhi2 : hi2 ≤ w.heap.size) (wf : wfM ms) (wfx : (Lit.int .i64 k2).wf = true) (ct : TypeId) (cu : Value) (hg : w.cell? ⟨2, 0, none⟩ = some (.iface ct cu)) (he : ErrH w) :
    Calls Tryd.prog 11 #[v, .slice A n c, .agg #[.int .i64 k1, .int .i64 k2]] w fun e w' => ∃ u hs', e = .returned (.tuple #[u, .int .i64 (dropI f ms (k1, k2)), .bool (dropOk f ms (k1, k2))]) ∧ OwnMag w' w.heap.size w'.heap.size u hs' (dropL f ms (k1, k2)) ∧ Below w.heap.size w w' := by
  have no : dropOk f ms (k1, k2) = false → (Calls Tryd.prog 11 #[v, .slice A n c, .agg #[.int .i64 k1, .int .i64 k2]] w fun e w' => e = .returned (.tuple #[.slice none 0 0, .int .i64 0, .bool false]) ∧ Below w.heap.size w w') → Calls Tryd.prog 11 #[v, .slice A n c, .agg #[.int .i64 k1, .int .i64 k2]] w fun e w' => ∃ u hs', e = .returned (.tuple #[u, .int .i64 (dropI f ms (k1, k2)), .bool (dropOk f ms (k1, k2))]) ∧ OwnMag w' w.heap.size w'.heap.size u hs' (dropL f ms (k1, k2)) ∧ Below w.heap.size w w' := fun h0 hc => by
    have hL : dropL f ms (k1, k2) = [] := by unfold dropL; rw [h0]; rfl
    have hI : dropI f ms (k1, k2) = 0 := by unfold dropI; rw [h0]; rfl
    rw [h0, hL, hI]
    refine hc.mono ?_
    rintro e w' ⟨rfl, hb⟩
    exact ⟨_, [], rfl, wait_none _ _ _, hb⟩
  cases hmag : magB f ms
  · exact no (by unfold dropOk; rw [hmag]; rfl) (implDrop_no1 lo hi0 lo2 hi2 v f A n c ms k1 k2 w h hhi hs hn hm hM hhi2 wf wfx hmag)
  cases hmat : matB f (k1, k2)
  · exact no (by unfold dropOk; rw [hmat]; simp) (implDrop_no2 lo hi0 lo2 hi2 v f A n c ms k1 k2 w h hhi hs hn hm hM hhi2 wf wfx hmag hmat)
  have hlt := drop_lt hmag hmat
  obtain ⟨xs, hx⟩ : ∃ xs, ms[fallOf f.cs k2]? = some xs := ⟨_, List.getElem?_eq_getElem hlt⟩
  have hrow : rowAt ms ((dropAt f (k1, k2) : Nat) : Int) = xs := by unfold rowAt dropAt; rw [Int.toNat_natCast, List.getD, hx]; rfl
  by_cases hl : xs.length < 20
  · have hok : dropOk f ms (k1, k2) = true := by unfold dropOk; rw [hrow, hmag, hmat, decide_eq_true hl]; rfl
    have hL : dropL f ms (k1, k2) = ms.set (fallOf f.cs k2) (xs ++ [(k1, k2)]) := by unfold dropL; rw [hok, hrow]; rfl
    have hI : dropI f ms (k1, k2) = (fallOf f.cs k2 : Int) := by unfold dropI; rw [hok]; rfl
    rw [hok, hL, hI]
    exact implDrop_yes lo hi0 lo2 hi2 v f A n c ms k1 k2 w h hhi hs hn hm hM hhi2 wf wfx ct cu hg he hmag hmat _ rfl xs hx hl
  · exact no (by unfold dropOk; rw [hrow, decide_eq_false hl]; simp) (implDrop_full lo hi0 lo2 hi2 v f A n c ms k1 k2 w h hhi hs hn hm hM hhi2 wf wfx ct cu hg he hmag hmat _ rfl xs hx (by omega))
end Go.Proofs.YtdijlofcgcikjaaDoor
