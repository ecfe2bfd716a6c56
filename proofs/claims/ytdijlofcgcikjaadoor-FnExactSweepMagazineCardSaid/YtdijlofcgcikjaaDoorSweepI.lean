/-
  SweepMagazine of the program by contract. Conditions: lengths of at most 2^20; errors.errorType and errFull read as laid.
-/
import Derived.Test.YtdijlofcgcikjaaDoorSweepM
namespace Go.Proofs.YtdijlofcgcikjaaDoor
open Go.RowKit Go.Conc
set_option linter.unusedVariables false
set_option linter.unusedSimpArgs false

theorem sweep_off {f : Fnt} {ms : List (List Mat)} (h : sweepOk f ms = false) : sweepL f ms = [] ∧ sweepI f ms = 0 := by
  unfold sweepL sweepI; rw [h]; exact ⟨rfl, rfl⟩
theorem sweep_on {f : Fnt} {ms L : List (List Mat)} (hm : magB f ms = true) (h : swept ms = some L) : sweepOk f ms = true ∧ sweepL f ms = L ∧ sweepI f ms = ((strs ms ms.length).length : Int) := by
  have h0 : sweepOk f ms = true := by unfold sweepOk; rw [hm, h]; rfl
  refine ⟨h0, ?_, ?_⟩
  · unfold sweepL; rw [if_pos h0, h]; rfl
  · unfold sweepI; rw [if_pos h0]
theorem sweep_none {f : Fnt} {ms : List (List Mat)} (h : swept ms = none) : sweepOk f ms = false := by unfold sweepOk; rw [h]; simp
set_option maxRecDepth 100000 in
set_option maxHeartbeats 3200000 in
theorem implSweep_no (lo hi0 lo2 hi2 : Nat) (v : Value) (f : Fnt) (A : Option Addr) (n c : Nat) (ms : List (List Mat)) (w : World) (h : FontV w lo hi0 v f) (hhi : hi0 ≤ w.heap.size) (hs : Small f) (hn : ms.length = n) (hm : n ≤ 1048576) (hM : MagI w lo2 hi2 A ms) (hhi2 : hi2 ≤ w.heap.size) (wf : wfM ms) (hmag : magB f ms = false) :
    Calls Tryd.prog 17 #[v, .slice A n c] w fun e w' => ∃ u hs', e = .returned (.tuple #[u, .int .i64 (sweepI f ms), .bool (sweepOk f ms)]) ∧ OwnMag w' w.heap.size w'.heap.size u hs' (sweepL f ms) ∧ Below w.heap.size w w' := by
  have hok : sweepOk f ms = false := by unfold sweepOk; rw [hmag]; rfl
  obtain ⟨B1, d1, B2, d2, hv⟩ := fontForm h
  obtain ⟨s, hs0⟩ : ∃ y, f.s = y := ⟨_, rfl⟩
  obtain ⟨p, hp⟩ : ∃ y, f.ws.length = y := ⟨_, rfl⟩
  obtain ⟨q, hq⟩ : ∃ y, f.cs.length = y := ⟨_, rfl⟩
  rw [hs0, hp, hq] at hv
  rw [hv] at h
  rw [hv]
  have Hn := Lib.hid hn; have Hwf := Lib.hid wf
  obtain ⟨w0, hw0⟩ : ∃ x, w = x := ⟨_, rfl⟩
  have hww : w.heap.size = w0.heap.size := by rw [hw0]
  have HQ := Lib.hid hq; have HPS := Lib.hid (And.intro hs0 hp)
  have T0 : Hid (Below w0.heap.size w0 w0) := Below.refl _ _
  have V0 : Hid (FontV w0 lo hi0 (.agg #[.string s, .slice B1 p d1, .slice B2 q d2]) f) := by rw [← hw0]; exact h
  have M0 : Hid (MagI w0 lo2 hi2 A ms) := by rw [← hw0]; exact hM
  clear h hM hn wf hs0 hp hq hv
  obtain ⟨w1, hw1, hb1, hz1, hX1⟩ := mxWorld w0 #[.string s, .slice B1 p d1, .slice B2 q d2] 25
  have T1 : Hid (Below w0.heap.size w0 w1) := T0.out.trans (hb1.mono (by omega))
  have V1 : Hid (FontV w1 lo hi0 (.agg #[.string s, .slice B1 p d1, .slice B2 q d2]) f) := V0.out.below (by omega) hb1
  have M1 : Hid (MagI w1 lo2 hi2 A ms) := M0.out.below (by omega) hb1
  have sz1 : w0.heap.size ≤ w1.heap.size := hb1.size
  clear T0 V0 M0
  have F1 : Hid (Blk w1 (w0.heap.size) #[.string s, .slice B1 p d1, .slice B2 q d2] 25) := by show Blk _ _ _ _; exact hX1
  have y0 := cellOfBlk F1.out 0
  have y1 := cellOfBlk F1.out 1
  have y2 := cellOfBlk F1.out 2
  rw [hw0]
  go_enter Tryd.func17, Tryd.ntmps17
  go_wp2_with fail
  refine (implMagOk_any lo hi0 lo2 hi2 _ f _ _ _ ms _ V1.out (by omega) hs Hn.out hm M1.out (by omega) Hwf.out).mono ?_
  rintro e w2 ⟨rfl, hb2⟩
  rw [hmag]
  have T2 : Hid (Below w0.heap.size w0 w2) := T1.out.trans (hb2.mono (by omega))
  have V2 : Hid (FontV w2 lo hi0 (.agg #[.string s, .slice B1 p d1, .slice B2 q d2]) f) := V1.out.below (by omega) hb2
  have M2 : Hid (MagI w2 lo2 hi2 A ms) := M1.out.below (by omega) hb2
  have F2 : Hid (Blk w2 (w0.heap.size) #[.string s, .slice B1 p d1, .slice B2 q d2] 25) := F1.out.below hb2 (by omega)
  have sz2 : w1.heap.size ≤ w2.heap.size := hb2.size
  clear T1 V1 M1 F1
  go_wp2
  go_ret3
  obtain ⟨e2, e3⟩ := sweep_off hok
  rw [hok, e2, e3]
  exact ⟨_, [], rfl, wait_none _ _ _, T2.out⟩
set_option maxRecDepth 100000 in
set_option maxHeartbeats 3200000 in
theorem implSweep_yes (lo hi0 lo2 hi2 : Nat) (v : Value) (f : Fnt) (A : Option Addr) (n c : Nat) (ms : List (List Mat)) (w : World) (h : FontV w lo hi0 v f) (hhi : hi0 ≤ w.heap.size) (hs : Small f) (hn : ms.length = n) (hm : n ≤ 1048576) (hM : MagI w lo2 hi2 A ms) (hhi2 : hi2 ≤ w.heap.size) (wf : wfM ms) (ct : TypeId) (cu : Value) (hg : w.cell? ⟨2, 0, none⟩ = some (.iface ct cu)) (he : ErrH w) (hmag : magB f ms = true) :
    Calls Tryd.prog 17 #[v, .slice A n c] w fun e w' => ∃ u hs', e = .returned (.tuple #[u, .int .i64 (sweepI f ms), .bool (sweepOk f ms)]) ∧ OwnMag w' w.heap.size w'.heap.size u hs' (sweepL f ms) ∧ Below w.heap.size w w' := by
  obtain ⟨B1, d1, B2, d2, hv⟩ := fontForm h
  obtain ⟨s, hs0⟩ : ∃ y, f.s = y := ⟨_, rfl⟩
  obtain ⟨p, hp⟩ : ∃ y, f.ws.length = y := ⟨_, rfl⟩
  obtain ⟨q, hq⟩ : ∃ y, f.cs.length = y := ⟨_, rfl⟩
  rw [hs0, hp, hq] at hv
  rw [hv] at h
  rw [hv]
  have Hn := Lib.hid hn; have Hwf := Lib.hid wf
  obtain ⟨w0, hw0⟩ : ∃ x, w = x := ⟨_, rfl⟩
  have hww : w.heap.size = w0.heap.size := by rw [hw0]
  have HQ := Lib.hid hq; have HPS := Lib.hid (And.intro hs0 hp)
  have hg2 := World.block_lt_of_cell? _ _ hg
  simp only at hg2
  have T0 : Hid (Below w0.heap.size w0 w0) := Below.refl _ _
  have V0 : Hid (FontV w0 lo hi0 (.agg #[.string s, .slice B1 p d1, .slice B2 q d2]) f) := by rw [← hw0]; exact h
  have M0 : Hid (MagI w0 lo2 hi2 A ms) := by rw [← hw0]; exact hM
  have G0 : Hid (w0.cell? ⟨2, 0, none⟩ = some (.iface ct cu)) := by rw [← hw0]; exact hg
  have E0 : Hid (ErrH w0) := by rw [← hw0]; exact he
  clear h hM hn wf hs0 hp hq hv hg he
  obtain ⟨hf, hlen, hrows⟩ := magB_rows hmag
  have hfs := fontB_size hf
  rw [Hn.out] at hlen
  have hn40 : n ≤ 40 := by omega
  have hlim : ∀ xs ∈ ms, xs.length ≤ 20 := fun xs hx => (hrows xs hx).1
  have hkin := kind_in hmag
  rw [Hn.out] at hkin
  have HLIM := Lib.hid hlim; have HK := Lib.hid hkin
  clear hrows hlim hkin hlen hfs
  obtain ⟨w1, hw1, hb1, hz1, hX1⟩ := mxWorld w0 #[.string s, .slice B1 p d1, .slice B2 q d2] 25
  have T1 : Hid (Below w0.heap.size w0 w1) := T0.out.trans (hb1.mono (by omega))
  have V1 : Hid (FontV w1 lo hi0 (.agg #[.string s, .slice B1 p d1, .slice B2 q d2]) f) := V0.out.below (by omega) hb1
  have M1 : Hid (MagI w1 lo2 hi2 A ms) := M0.out.below (by omega) hb1
  have G1 : Hid (w1.cell? ⟨2, 0, none⟩ = some (.iface ct cu)) := (hb1.cell (p := ⟨2, 0, none⟩) (by show 2 < _; omega)).trans G0.out
  have E1 : Hid (ErrH w1) := (hb1.cell (p := ⟨1, 0, none⟩) (by show 1 < _; omega)).trans E0.out
  have sz1 : w0.heap.size ≤ w1.heap.size := hb1.size
  clear T0 V0 M0 G0 E0
  have F1 : Hid (Blk w1 (w0.heap.size) #[.string s, .slice B1 p d1, .slice B2 q d2] 25) := by show Blk _ _ _ _; exact hX1
  have y0 := cellOfBlk F1.out 0
  have y1 := cellOfBlk F1.out 1
  have y2 := cellOfBlk F1.out 2
  rw [hw0]
  go_enter Tryd.func17, Tryd.ntmps17
  go_wp2_with fail
  refine (implMagOk_any lo hi0 lo2 hi2 _ f _ _ _ ms _ V1.out (by omega) hs Hn.out hm M1.out (by omega) Hwf.out).mono ?_
  rintro e w2 ⟨rfl, hb2⟩
  rw [hmag]
  have T2 : Hid (Below w0.heap.size w0 w2) := T1.out.trans (hb2.mono (by omega))
  have V2 : Hid (FontV w2 lo hi0 (.agg #[.string s, .slice B1 p d1, .slice B2 q d2]) f) := V1.out.below (by omega) hb2
  have M2 : Hid (MagI w2 lo2 hi2 A ms) := M1.out.below (by omega) hb2
  have G2 : Hid (w2.cell? ⟨2, 0, none⟩ = some (.iface ct cu)) := (hb2.cell (p := ⟨2, 0, none⟩) (by show 2 < _; omega)).trans G1.out
  have E2 : Hid (ErrH w2) := (hb2.cell (p := ⟨1, 0, none⟩) (by show 1 < _; omega)).trans E1.out
  have F2 : Hid (Blk w2 (w0.heap.size) #[.string s, .slice B1 p d1, .slice B2 q d2] 25) := F1.out.below hb2 (by omega)
  have sz2 : w1.heap.size ≤ w2.heap.size := hb2.size
  clear T1 V1 M1 G1 E1 F1
  clear y0 y1 y2
  have y0 := cellOfBlk F2.out 0
  have y1 := cellOfBlk F2.out 1
  have y2 := cellOfBlk F2.out 2
  go_wp2_with fail
  refine (load_any lo hi0 lo2 hi2 _ f _ n _ ms _ V2.out Hn.out hm HLIM.out M2.out (by omega)).mono ?_
  rintro e w3 ⟨Bc, dc, B, hi, hs9, ⟨X1, x1, hfo⟩, rfl, hmd, hBw, hhi9, hC, hb3⟩
  obtain ⟨eb, ed⟩ : B2 = Bc ∧ d2 = dc := by
    injection hfo with hfo
    injection hfo with hfo
    simp only [List.cons.injEq, Value.slice.injEq] at hfo
    exact ⟨hfo.2.2.1.1, hfo.2.2.1.2.2⟩
  subst eb; subst ed
  rw [HQ.out]
  have T3 : Hid (Below w0.heap.size w0 w3) := T2.out.trans (hb3.mono (by omega))
  have G3 : Hid (w3.cell? ⟨2, 0, none⟩ = some (.iface ct cu)) := (hb3.cell (p := ⟨2, 0, none⟩) (by show 2 < _; omega)).trans G2.out
  have E3 : Hid (ErrH w3) := (hb3.cell (p := ⟨1, 0, none⟩) (by show 1 < _; omega)).trans E2.out
  have sz3 : w2.heap.size ≤ w3.heap.size := hb3.size
  clear T2 V2 M2 G2 E2 F2
  clear hfo y0 y1 y2
  have C3 : Hid (ChM w3 B hi (.slice (some ⟨B, 0, none⟩) n n) hs9 ms) := hC
  have HMD := Lib.hid hmd
  have hBh := hC.top B rfl
  clear hC hmd
  obtain ⟨w4, hw4, hb4, hz4, hX4⟩ := mxWorld w3 #[.slice B2 q d2, .slice (some ⟨B, 0, none⟩) n n] 69
  have T4 : Hid (Below w0.heap.size w0 w4) := T3.out.trans (hb4.mono (by omega))
  have G4 : Hid (w4.cell? ⟨2, 0, none⟩ = some (.iface ct cu)) := (hb4.cell (p := ⟨2, 0, none⟩) (by show 2 < _; omega)).trans G3.out
  have E4 : Hid (ErrH w4) := (hb4.cell (p := ⟨1, 0, none⟩) (by show 1 < _; omega)).trans E3.out
  have C4 : Hid (ChM w4 B hi (.slice (some ⟨B, 0, none⟩) n n) hs9 ms) := C3.out.below (by omega) hb4
  have sz4 : w3.heap.size ≤ w4.heap.size := hb4.size
  clear T3 G3 E3 C3
  have R4 : Hid (Blk w4 (w3.heap.size) #[.slice B2 q d2, .slice (some ⟨B, 0, none⟩) n n] 69) := by show Blk _ _ _ _; exact hX4
  have r0 := cellOfBlk R4.out 0
  have r1 := cellOfBlk R4.out 1
  go_wp2_with fail
  refine (sweep_any (.slice B2 q d2) rfl B hi n hs9 ms w4 Hn.out hn40 HLIM.out HMD.out C4.out (by omega) (by omega) HK.out ct cu G4.out).mono ?_
  rintro e w5 ⟨hres, hc5⟩
  have hb5 := hc5.below (by omega)
  have R5 : Hid (Blk w5 (w3.heap.size) #[.slice B2 q d2, .slice (some ⟨B, 0, none⟩) n n] 69) := (hc5.block _ (by omega) (by omega)).trans R4.out
  have T5 : Hid (Below w0.heap.size w0 w5) := T4.out.trans (hb5.mono (by omega))
  have G5 : Hid (w5.cell? ⟨2, 0, none⟩ = some (.iface ct cu)) := (hb5.cell (p := ⟨2, 0, none⟩) (by show 2 < _; omega)).trans G4.out
  have E5 : Hid (ErrH w5) := (hb5.cell (p := ⟨1, 0, none⟩) (by show 1 < _; omega)).trans E4.out
  have sz5 : w4.heap.size ≤ w5.heap.size := hb5.size
  clear T4 G4 E4 C4 R4
  clear r0 r1
  have r0 := cellOfBlk R5.out 0
  have r1 := cellOfBlk R5.out 1
  rcases hres with ⟨L, hL, rfl, hC⟩ | ⟨hL, kk, rfl⟩
  · have hsw : swept ms = some L := by unfold swept; rw [Hn.out]; exact hL
    obtain ⟨e1, e2, e3⟩ := sweep_on hmag hsw
    rw [Hn.out] at e3
    have hLn : L.length = n := by rw [sweepGo_len hL, hom_len, Hn.out]
    have hLm := sweepGo_lim (hom_lim HLIM.out n) hL
    have C5 : Hid (ChM w5 B hi (.slice (some ⟨B, 0, none⟩) n n) hs9 L) := hC
    clear hC hL hsw
    go_wp2_with fail
    refine (stopped_nil w5).mono ?_
    rintro e w6 ⟨rfl, hb6⟩
    have T6 : Hid (Below w0.heap.size w0 w6) := T5.out.trans (hb6.mono (by omega))
    have G6 : Hid (w6.cell? ⟨2, 0, none⟩ = some (.iface ct cu)) := (hb6.cell (p := ⟨2, 0, none⟩) (by show 2 < _; omega)).trans G5.out
    have E6 : Hid (ErrH w6) := (hb6.cell (p := ⟨1, 0, none⟩) (by show 1 < _; omega)).trans E5.out
    have R6 : Hid (Blk w6 (w3.heap.size) #[.slice B2 q d2, .slice (some ⟨B, 0, none⟩) n n] 69) := R5.out.below hb6 (by omega)
    have C6 : Hid (ChM w6 B hi (.slice (some ⟨B, 0, none⟩) n n) hs9 L) := C5.out.below (by omega) hb6
    have sz6 : w5.heap.size ≤ w6.heap.size := hb6.size
    clear T5 G5 E5 R5 C5
    clear r0 r1
    have r0 := cellOfBlk R6.out 0
    have r1 := cellOfBlk R6.out 1
    go_wp2_with fail
    refine (unload_any (.slice B2 q d2) rfl B hi n hs9 L w6 hLn hm hLm HMD.out C6.out (by omega)).mono ?_
    rintro e w7 ⟨v9, hs8, rfl, hO, hc7⟩
    go_wp2
    go_ret3
    rw [e1, e2, e3]
    exact ⟨_, hs8, rfl, hO.base (by omega), T6.out.trans ((hc7.below (by omega)).mono (by omega))⟩
  · have hsw : swept ms = none := by unfold swept; rw [Hn.out]; exact hL
    have hok := sweep_none (f := f) hsw
    obtain ⟨e2, e3⟩ := sweep_off hok
    go_wp2_with fail
    refine (stopped_err _ (.iface ct cu) w5 rfl E5.out).mono ?_
    rintro e w6 ⟨rfl, hb6⟩
    go_wp2
    go_ret3
    rw [hok, e2, e3]
    exact ⟨_, [], rfl, wait_none _ _ _, T5.out.trans (hb6.mono (by omega))⟩
theorem implSweep_any (lo hi0 lo2 hi2 : Nat) (v : Value) (f : Fnt) (A : Option Addr) (n c : Nat) (ms : List (List Mat)) (w : World) (h : FontV w lo hi0 v f) (hhi : hi0 ≤ w.heap.size) (hs : Small f) (hn : ms.length = n) (hm : n ≤ 1048576) (hM : MagI w lo2 hi2 A ms) (hhi2 : hi2 ≤ w.heap.size) (wf : wfM ms) (ct : TypeId) (cu : Value) (hg : w.cell? ⟨2, 0, none⟩ = some (.iface ct cu)) (he : ErrH w) :
    Calls Tryd.prog 17 #[v, .slice A n c] w fun e w' => ∃ u hs', e = .returned (.tuple #[u, .int .i64 (sweepI f ms), .bool (sweepOk f ms)]) ∧ OwnMag w' w.heap.size w'.heap.size u hs' (sweepL f ms) ∧ Below w.heap.size w w' := by
  cases hmag : magB f ms
  · exact implSweep_no lo hi0 lo2 hi2 v f A n c ms w h hhi hs hn hm hM hhi2 wf hmag
  · exact implSweep_yes lo hi0 lo2 hi2 v f A n c ms w h hhi hs hn hm hM hhi2 wf ct cu hg he hmag
end Go.Proofs.YtdijlofcgcikjaaDoor
