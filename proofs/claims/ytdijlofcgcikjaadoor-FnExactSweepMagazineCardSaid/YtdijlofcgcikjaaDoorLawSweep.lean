/-
  The exact law of SweepMagazine: its walk. Conditions: errors.errorType and the listed error read as laid.
-/
import Derived.Test.YtdijlofcgcikjaaDoorSweepS
import Derived.Test.YtdijlofcgcikjaaDoorLawsMag
import Derived.Test.YtdijlofcgcikjaaDoorLawsFill
import Derived.Test.YtdijlofcgcikjaaDoorPkD
namespace Go.Proofs.YtdijlofcgcikjaaDoor
open Go.RowKit
set_option linter.unusedVariables false
set_option linter.unusedSimpArgs false

set_option maxRecDepth 100000 in
set_option maxHeartbeats 12800000 in
theorem fnExactSweepMagazine_walk (lo hi : Nat) (v : Value) (f : Fnt) (lo2 hi2 : Nat) (A : Option Addr) (c : Nat) (ms : List (List Mat))  (w : World) (h : FontV w lo hi v f) (hhi : hi ≤ w.heap.size) (hcc : ms.length ≤ c) (hcm : c ≤ maxLen) (hM : MagI w lo2 hi2 A ms) (hhi2 : hi2 ≤ w.heap.size) (wfm : wfM ms) (ct : TypeId) (cu : Value) (hg : w.cell? ⟨2, 0, none⟩ = some (.iface ct cu)) (he : ErrH w) :
    Calls Tryd.prog 7 #[v, .slice A ms.length c] w fun e w' => e = .returned (.bool true) ∧ Below w.heap.size w w' := by
  obtain ⟨B, d, B2, d2, hv⟩ := fontForm h
  obtain ⟨s, hs0⟩ : ∃ s, f.s = s := ⟨_, rfl⟩
  obtain ⟨p, hp⟩ : ∃ n, f.ws.length = n := ⟨_, rfl⟩
  obtain ⟨q, hq⟩ : ∃ m, f.cs.length = m := ⟨_, rfl⟩
  obtain ⟨n, hn⟩ : ∃ n, ms.length = n := ⟨_, rfl⟩
  rw [hs0, hp, hq] at hv
  rw [hv] at h
  rw [hv, hn]
  rw [hn] at hcc
  have hnm : n ≤ maxLen := by omega
  obtain ⟨w0, hw0⟩ : ∃ x, w = x := ⟨_, rfl⟩
  have hww : w.heap.size = w0.heap.size := by rw [hw0]
  have hg2 := World.block_lt_of_cell? _ _ hg
  have hg3 := World.block_lt_of_cell? _ _ he
  simp only at hg2 hg3
  have T0 : Hid (Below w0.heap.size w0 w0) := Below.refl _ _
  have V0 : Hid (FontV w0 lo hi (.agg #[.string s, .slice B p d, .slice B2 q d2]) f) := by rw [← hw0]; exact h
  have M0 : Hid (MagI w0 lo2 hi2 A ms) := by rw [← hw0]; exact hM
  have G0 : Hid (w0.cell? ⟨2, 0, none⟩ = some (.iface ct cu)) := by rw [← hw0]; exact hg
  have E0 : Hid (ErrH w0) := by rw [← hw0]; exact he
  have Hn := Lib.hid hn; have Hwf := Lib.hid wfm
  clear h hM hn hcc hcm hv hs0 hp hq hg he wfm
  obtain ⟨w1, hw1, hb1, hz1, hX1⟩ := mxWorld w0 #[.string s, .slice B p d, .slice B2 q d2] 47
  have T1 : Hid (Below w0.heap.size w0 w1) := T0.out.trans (hb1.mono (by omega))
  have V1 : Hid (FontV w1 lo hi (.agg #[.string s, .slice B p d, .slice B2 q d2]) f) := V0.out.below (by omega) hb1
  have M1 : Hid (MagI w1 lo2 hi2 A ms) := M0.out.below (by omega) hb1
  have G1 : Hid (w1.cell? ⟨2, 0, none⟩ = some (.iface ct cu)) := (hb1.cell (p := ⟨2, 0, none⟩) (by show 2 < _; omega)).trans G0.out
  have E1 : Hid (ErrH w1) := (hb1.cell (p := ⟨1, 0, none⟩) (by show 1 < _; omega)).trans E0.out
  have sz1 : w0.heap.size ≤ w1.heap.size := hb1.size
  clear T0 V0 M0 G0 E0
  have X1 : Hid (Blk w1 (w0.heap.size) #[.string s, .slice B p d, .slice B2 q d2] 47) := by show Blk _ _ _ _; exact hX1
  rw [hw0]
  by_cases hbig : (1048576 : Int) < f.big
  · have Hk := Lib.hid (takeOff_bad hbig)
    go_enter Tryd.func7, Tryd.ntmps7
    have q0 := cellOfBlk X1.out 0
    have q1 := cellOfBlk X1.out 1
    have q2 := cellOfBlk X1.out 2
    go_wp2_with fail
    clear q0 q1 q2
    refine (szFont_any lo hi _ f _ _ V1.out (by omega) (by omega)).mono ?_
    rintro e w2 ⟨rfl, hb2⟩
    rw [Hk.out]
    have T2 : Hid (Below w0.heap.size w0 w2) := T1.out.trans (hb2.mono (by omega))
    have V2 : Hid (FontV w2 lo hi (.agg #[.string s, .slice B p d, .slice B2 q d2]) f) := V1.out.below (by omega) hb2
    have M2 : Hid (MagI w2 lo2 hi2 A ms) := M1.out.below (by omega) hb2
    have G2 : Hid (w2.cell? ⟨2, 0, none⟩ = some (.iface ct cu)) := (hb2.cell (p := ⟨2, 0, none⟩) (by show 2 < _; omega)).trans G1.out
    have E2 : Hid (ErrH w2) := (hb2.cell (p := ⟨1, 0, none⟩) (by show 1 < _; omega)).trans E1.out
    have X2 : Hid (Blk w2 (w0.heap.size) #[.string s, .slice B p d, .slice B2 q d2] 47) := X1.out.below hb2 (by omega)
    have sz2 : w1.heap.size ≤ w2.heap.size := hb2.size
    clear T1 V1 M1 G1 E1 X1
    go_wp2
    go_ret
    exact ⟨rfl, T2.out⟩
  have Hk := Lib.hid (takeOff_good hbig)
  have hs := big_small hbig
  have hk0 : 0 ≤ 1048576 - (f.big : Int) := by omega
  by_cases hbig2 : 1048576 - (f.big : Int) < magBig ms
  · have Hk2 := Lib.hid (takeOff_bad hbig2)
    have td : decide (1048576 - (f.big : Int) < 0) = false := by rw [decide_eq_false_iff_not]; omega
    clear hbig hbig2
    go_enter Tryd.func7, Tryd.ntmps7
    have q0 := cellOfBlk X1.out 0
    have q1 := cellOfBlk X1.out 1
    have q2 := cellOfBlk X1.out 2
    go_wp2_with fail
    clear q0 q1 q2
    refine (szFont_any lo hi _ f _ _ V1.out (by omega) (by omega)).mono ?_
    rintro e w2 ⟨rfl, hb2⟩
    rw [Hk.out]
    have T2 : Hid (Below w0.heap.size w0 w2) := T1.out.trans (hb2.mono (by omega))
    have V2 : Hid (FontV w2 lo hi (.agg #[.string s, .slice B p d, .slice B2 q d2]) f) := V1.out.below (by omega) hb2
    have M2 : Hid (MagI w2 lo2 hi2 A ms) := M1.out.below (by omega) hb2
    have G2 : Hid (w2.cell? ⟨2, 0, none⟩ = some (.iface ct cu)) := (hb2.cell (p := ⟨2, 0, none⟩) (by show 2 < _; omega)).trans G1.out
    have E2 : Hid (ErrH w2) := (hb2.cell (p := ⟨1, 0, none⟩) (by show 1 < _; omega)).trans E1.out
    have X2 : Hid (Blk w2 (w0.heap.size) #[.string s, .slice B p d, .slice B2 q d2] 47) := X1.out.below hb2 (by omega)
    have sz2 : w1.heap.size ≤ w2.heap.size := hb2.size
    clear T1 V1 M1 G1 E1 X1
    go_wp2_with fail
    refine (szMatrixSS_any lo2 hi2 _ _ _ ms _ _ Hn.out hnm M2.out hk0 (by omega)).mono ?_
    rintro e w' ⟨rfl, rfl⟩
    rw [Hk2.out]
    go_wp2
    go_ret
    exact ⟨rfl, T2.out⟩
  have Hk2 := Lib.hid (takeOff_good hbig2)
  obtain ⟨hn1, hlim⟩ := magBig_lim (ms := ms) (n := 1048576) (by omega)
  rw [Hn.out] at hn1
  have hk2 : 0 ≤ 1048576 - (f.big : Int) - (magBig ms : Int) := by omega
  have td : decide (1048576 - (f.big : Int) < 0) = false := by rw [decide_eq_false_iff_not]; omega
  have td2 : decide (1048576 - (f.big : Int) - (magBig ms : Int) < 0) = false := by rw [decide_eq_false_iff_not]; omega
  have Hlim := Lib.hid hlim
  have hfb : f.ws.length + f.cs.length ≤ 1048576 := by unfold Fnt.big at hbig; omega
  have htm : tot ms ≤ 1048576 := by unfold magBig at hbig2; omega
  obtain ⟨m, hm1⟩ : ∃ m, (sweepL f ms).length = m := ⟨_, rfl⟩
  obtain ⟨ok, hok⟩ : ∃ ok, sweepOk f ms = ok := ⟨_, rfl⟩
  obtain ⟨ex, hex⟩ : ∃ ex, sweepI f ms = ex := ⟨_, rfl⟩
  obtain ⟨L, hL⟩ : ∃ L, sweepL f ms = L := ⟨_, rfl⟩
  obtain ⟨hl1, hl2⟩ := sweepL_lim f ms 
  rw [hL] at hl1 hl2 hm1
  have ht2 := tot_bound hl2
  rw [hm1] at hl1 ht2
  have hms : m ≤ 1048576 := by omega
  have htw : tot L ≤ 1048576 := by omega
  have Hlw : Hid (∀ xs ∈ L, xs.length ≤ 1048576) := fun xs hx => by have := hl2 xs hx; omega
  have Hok := Lib.hid hok; have Hex := Lib.hid hex; have HL := Lib.hid hL
  clear hl1 hl2 ht2 hok hex hL
  have Hm := Lib.hid hm1
  clear hbig hbig2 hlim hm1
  go_enter Tryd.func7, Tryd.ntmps7
  have q0 := cellOfBlk X1.out 0
  have q1 := cellOfBlk X1.out 1
  have q2 := cellOfBlk X1.out 2
  go_wp2_with fail
  clear q0 q1 q2
  refine (szFont_any lo hi _ f _ _ V1.out (by omega) (by omega)).mono ?_
  rintro e w2 ⟨rfl, hb2⟩
  rw [Hk.out]
  have T2 : Hid (Below w0.heap.size w0 w2) := T1.out.trans (hb2.mono (by omega))
  have V2 : Hid (FontV w2 lo hi (.agg #[.string s, .slice B p d, .slice B2 q d2]) f) := V1.out.below (by omega) hb2
  have M2 : Hid (MagI w2 lo2 hi2 A ms) := M1.out.below (by omega) hb2
  have G2 : Hid (w2.cell? ⟨2, 0, none⟩ = some (.iface ct cu)) := (hb2.cell (p := ⟨2, 0, none⟩) (by show 2 < _; omega)).trans G1.out
  have E2 : Hid (ErrH w2) := (hb2.cell (p := ⟨1, 0, none⟩) (by show 1 < _; omega)).trans E1.out
  have X2 : Hid (Blk w2 (w0.heap.size) #[.string s, .slice B p d, .slice B2 q d2] 47) := X1.out.below hb2 (by omega)
  have sz2 : w1.heap.size ≤ w2.heap.size := hb2.size
  clear T1 V1 M1 G1 E1 X1
  go_wp2_with fail
  refine (szMatrixSS_any lo2 hi2 _ _ _ ms _ _ Hn.out hnm M2.out hk0 (by omega)).mono ?_
  rintro e w' ⟨rfl, rfl⟩
  rw [Hk2.out]
  have q0 := cellOfBlk X2.out 0
  have q1 := cellOfBlk X2.out 1
  have q2 := cellOfBlk X2.out 2
  go_wp2_with fail
  clear q0 q1 q2
  refine (toFont_any lo hi _ f _ V2.out (by omega) hs).mono ?_
  rintro e w3 ⟨v3, rfl, hO3, hb3⟩
  have T3 : Hid (Below w0.heap.size w0 w3) := T2.out.trans (hb3.mono (by omega))
  have V3 : Hid (FontV w3 lo hi (.agg #[.string s, .slice B p d, .slice B2 q d2]) f) := V2.out.below (by omega) hb3
  have M3 : Hid (MagI w3 lo2 hi2 A ms) := M2.out.below (by omega) hb3
  have G3 : Hid (w3.cell? ⟨2, 0, none⟩ = some (.iface ct cu)) := (hb3.cell (p := ⟨2, 0, none⟩) (by show 2 < _; omega)).trans G2.out
  have E3 : Hid (ErrH w3) := (hb3.cell (p := ⟨1, 0, none⟩) (by show 1 < _; omega)).trans E2.out
  have X3 : Hid (Blk w3 (w0.heap.size) #[.string s, .slice B p d, .slice B2 q d2] 47) := X2.out.below hb3 (by omega)
  have sz3 : w2.heap.size ≤ w3.heap.size := hb3.size
  clear T2 V2 M2 G2 E2 X2
  have F3 := Lib.hid hO3.font
  go_wp2_with fail
  refine (toMatrixSS_any lo2 hi2 _ _ _ ms _ Hn.out hn1 Hlim.out (by omega) M3.out).mono ?_
  rintro e w4 ⟨u4, hs4, rfl, hO4, hb4⟩
  have T4 : Hid (Below w0.heap.size w0 w4) := T3.out.trans (hb4.mono (by omega))
  have V4 : Hid (FontV w4 lo hi (.agg #[.string s, .slice B p d, .slice B2 q d2]) f) := V3.out.below (by omega) hb4
  have M4 : Hid (MagI w4 lo2 hi2 A ms) := M3.out.below (by omega) hb4
  have G4 : Hid (w4.cell? ⟨2, 0, none⟩ = some (.iface ct cu)) := (hb4.cell (p := ⟨2, 0, none⟩) (by show 2 < _; omega)).trans G3.out
  have E4 : Hid (ErrH w4) := (hb4.cell (p := ⟨1, 0, none⟩) (by show 1 < _; omega)).trans E3.out
  have X4 : Hid (Blk w4 (w0.heap.size) #[.string s, .slice B p d, .slice B2 q d2] 47) := X3.out.below hb4 (by omega)
  have F4 : Hid (FontV w4 w2.heap.size w3.heap.size v3 f) := F3.out.below (by omega) hb4
  have sz4 : w3.heap.size ≤ w4.heap.size := hb4.size
  clear T3 V3 M3 G3 E3 X3 F3
  obtain ⟨A4, c4, hu4, -⟩ := hO4.form
  rw [Hn.out] at hu4
  subst hu4
  have Q4 := Lib.hid hO4.reads
  clear hO4
  go_wp2_with fail
  refine (specSweep_any _ _ _ _ _ f _ n _ ms _ F4.out (by omega) hs Hn.out hn1 Q4.out (by omega) Hwf.out).mono ?_
  rintro e w5 ⟨vs5, hs5, rfl, hO5, hb5⟩
  have T5 : Hid (Below w0.heap.size w0 w5) := T4.out.trans (hb5.mono (by omega))
  have V5 : Hid (FontV w5 lo hi (.agg #[.string s, .slice B p d, .slice B2 q d2]) f) := V4.out.below (by omega) hb5
  have M5 : Hid (MagI w5 lo2 hi2 A ms) := M4.out.below (by omega) hb5
  have G5 : Hid (w5.cell? ⟨2, 0, none⟩ = some (.iface ct cu)) := (hb5.cell (p := ⟨2, 0, none⟩) (by show 2 < _; omega)).trans G4.out
  have E5 : Hid (ErrH w5) := (hb5.cell (p := ⟨1, 0, none⟩) (by show 1 < _; omega)).trans E4.out
  have X5 : Hid (Blk w5 (w0.heap.size) #[.string s, .slice B p d, .slice B2 q d2] 47) := X4.out.below hb5 (by omega)
  have sz5 : w4.heap.size ≤ w5.heap.size := hb5.size
  clear T4 V4 M4 G4 E4 X4 F4 Q4
  obtain ⟨Ag5, cg5, hvg5, -⟩ := hO5.form
  rw [HL.out] at hvg5 hO5
  rw [Hm.out] at hvg5
  subst hvg5
  rw [Hok.out, Hex.out]
  have I5 := Lib.hid hO5.reads
  clear hO5
  have q0 := cellOfBlk X5.out 0
  have q1 := cellOfBlk X5.out 1
  have q2 := cellOfBlk X5.out 2
  go_wp2_with fail
  clear q0 q1 q2
  refine (toFont_any lo hi _ f _ V5.out (by omega) hs).mono ?_
  rintro e w6 ⟨v6, rfl, hO6, hb6⟩
  have T6 : Hid (Below w0.heap.size w0 w6) := T5.out.trans (hb6.mono (by omega))
  have V6 : Hid (FontV w6 lo hi (.agg #[.string s, .slice B p d, .slice B2 q d2]) f) := V5.out.below (by omega) hb6
  have M6 : Hid (MagI w6 lo2 hi2 A ms) := M5.out.below (by omega) hb6
  have G6 : Hid (w6.cell? ⟨2, 0, none⟩ = some (.iface ct cu)) := (hb6.cell (p := ⟨2, 0, none⟩) (by show 2 < _; omega)).trans G5.out
  have E6 : Hid (ErrH w6) := (hb6.cell (p := ⟨1, 0, none⟩) (by show 1 < _; omega)).trans E5.out
  have X6 : Hid (Blk w6 (w0.heap.size) #[.string s, .slice B p d, .slice B2 q d2] 47) := X5.out.below hb6 (by omega)
  have I6 : Hid (MagI w6 w4.heap.size w5.heap.size Ag5 L) := I5.out.below (by omega) hb6
  have sz6 : w5.heap.size ≤ w6.heap.size := hb6.size
  clear T5 V5 M5 G5 E5 X5 I5
  have F6 := Lib.hid hO6.font
  obtain ⟨B6, d6, C6, D6, hv6⟩ := fontForm F6.out
  obtain ⟨s', hs'⟩ : ∃ s, f.s = s := ⟨_, rfl⟩
  obtain ⟨p', hp'⟩ : ∃ n, f.ws.length = n := ⟨_, rfl⟩
  obtain ⟨q', hq'⟩ : ∃ m, f.cs.length = m := ⟨_, rfl⟩
  rw [hs', hp', hq'] at hv6
  have FO6 : Hid (FontO w6 w5.heap.size w6.heap.size v6 f) := hO6
  clear hO6
  subst hv6
  clear hs' hp' hq'
  obtain ⟨w7, hw7, hb7, hz7, hX7⟩ := mxWorld w6 #[.string s', .slice B6 p' d6, .slice C6 q' D6] 25
  have T7 : Hid (Below w0.heap.size w0 w7) := T6.out.trans (hb7.mono (by omega))
  have V7 : Hid (FontV w7 lo hi (.agg #[.string s, .slice B p d, .slice B2 q d2]) f) := V6.out.below (by omega) hb7
  have M7 : Hid (MagI w7 lo2 hi2 A ms) := M6.out.below (by omega) hb7
  have G7 : Hid (w7.cell? ⟨2, 0, none⟩ = some (.iface ct cu)) := (hb7.cell (p := ⟨2, 0, none⟩) (by show 2 < _; omega)).trans G6.out
  have E7 : Hid (ErrH w7) := (hb7.cell (p := ⟨1, 0, none⟩) (by show 1 < _; omega)).trans E6.out
  have X7 : Hid (Blk w7 (w0.heap.size) #[.string s, .slice B p d, .slice B2 q d2] 47) := X6.out.below hb7 (by omega)
  have I7 : Hid (MagI w7 w4.heap.size w5.heap.size Ag5 L) := I6.out.below (by omega) hb7
  have F7 : Hid (FontV w7 w5.heap.size w6.heap.size (.agg #[.string s', .slice B6 p' d6, .slice C6 q' D6]) f) := F6.out.below (by omega) hb7
  have FO7 : Hid (FontO w7 w5.heap.size w6.heap.size (.agg #[.string s', .slice B6 p' d6, .slice C6 q' D6]) f) := FO6.out.below (hb7.mono (by omega))
  have sz7 : w6.heap.size ≤ w7.heap.size := hb7.size
  clear T6 V6 M6 G6 E6 X6 I6 F6 FO6
  have Y7 : Hid (Blk w7 (w6.heap.size) #[.string s', .slice B6 p' d6, .slice C6 q' D6] 25) := by show Blk _ _ _ _; exact hX7
  go_wp2_with fail
  refine (toMatrixSS_any lo2 hi2 _ _ _ ms _ Hn.out hn1 Hlim.out (by omega) M7.out).mono ?_
  rintro e w8 ⟨u8, hs8, rfl, hO8, hb8⟩
  have T8 : Hid (Below w0.heap.size w0 w8) := T7.out.trans (hb8.mono (by omega))
  have V8 : Hid (FontV w8 lo hi (.agg #[.string s, .slice B p d, .slice B2 q d2]) f) := V7.out.below (by omega) hb8
  have M8 : Hid (MagI w8 lo2 hi2 A ms) := M7.out.below (by omega) hb8
  have G8 : Hid (w8.cell? ⟨2, 0, none⟩ = some (.iface ct cu)) := (hb8.cell (p := ⟨2, 0, none⟩) (by show 2 < _; omega)).trans G7.out
  have E8 : Hid (ErrH w8) := (hb8.cell (p := ⟨1, 0, none⟩) (by show 1 < _; omega)).trans E7.out
  have X8 : Hid (Blk w8 (w0.heap.size) #[.string s, .slice B p d, .slice B2 q d2] 47) := X7.out.below hb8 (by omega)
  have I8 : Hid (MagI w8 w4.heap.size w5.heap.size Ag5 L) := I7.out.below (by omega) hb8
  have F8 : Hid (FontV w8 w5.heap.size w6.heap.size (.agg #[.string s', .slice B6 p' d6, .slice C6 q' D6]) f) := F7.out.below (by omega) hb8
  have FO8 : Hid (FontO w8 w5.heap.size w6.heap.size (.agg #[.string s', .slice B6 p' d6, .slice C6 q' D6]) f) := FO7.out.below (hb8.mono (by omega))
  have Y8 : Hid (Blk w8 (w6.heap.size) #[.string s', .slice B6 p' d6, .slice C6 q' D6] 25) := Y7.out.below hb8 (by omega)
  have sz8 : w7.heap.size ≤ w8.heap.size := hb8.size
  clear T7 V7 M7 G7 E7 X7 I7 F7 FO7 Y7
  obtain ⟨A8, c8, hu8, -⟩ := hO8.form
  rw [Hn.out] at hu8
  subst hu8
  have Q8 := Lib.hid hO8.reads
  have P8 : Hid (OwnMag w8 w7.heap.size w8.heap.size (.slice A8 n c8) hs8 ms) := hO8
  clear hO8
  have r0 := cellOfBlk Y8.out 0
  have r1 := cellOfBlk Y8.out 1
  have r2 := cellOfBlk Y8.out 2
  go_wp2_with fail
  clear r0 r1 r2
  refine (implSweep_any _ _ _ _ _ f _ n _ ms _ F8.out (by omega) hs Hn.out hn1 Q8.out (by omega) Hwf.out ct cu G8.out E8.out).mono ?_
  rintro e w9 ⟨vg9, hg9, rfl, hO9, hb9⟩
  have T9 : Hid (Below w0.heap.size w0 w9) := T8.out.trans (hb9.mono (by omega))
  have V9 : Hid (FontV w9 lo hi (.agg #[.string s, .slice B p d, .slice B2 q d2]) f) := V8.out.below (by omega) hb9
  have M9 : Hid (MagI w9 lo2 hi2 A ms) := M8.out.below (by omega) hb9
  have G9 : Hid (w9.cell? ⟨2, 0, none⟩ = some (.iface ct cu)) := (hb9.cell (p := ⟨2, 0, none⟩) (by show 2 < _; omega)).trans G8.out
  have E9 : Hid (ErrH w9) := (hb9.cell (p := ⟨1, 0, none⟩) (by show 1 < _; omega)).trans E8.out
  have X9 : Hid (Blk w9 (w0.heap.size) #[.string s, .slice B p d, .slice B2 q d2] 47) := X8.out.below hb9 (by omega)
  have I9 : Hid (MagI w9 w4.heap.size w5.heap.size Ag5 L) := I8.out.below (by omega) hb9
  have F9 : Hid (FontV w9 w5.heap.size w6.heap.size (.agg #[.string s', .slice B6 p' d6, .slice C6 q' D6]) f) := F8.out.below (by omega) hb9
  have FO9 : Hid (FontO w9 w5.heap.size w6.heap.size (.agg #[.string s', .slice B6 p' d6, .slice C6 q' D6]) f) := FO8.out.below (hb9.mono (by omega))
  have Y9 : Hid (Blk w9 (w6.heap.size) #[.string s', .slice B6 p' d6, .slice C6 q' D6] 25) := Y8.out.below hb9 (by omega)
  have Q9 : Hid (MagI w9 w7.heap.size w8.heap.size A8 ms) := Q8.out.below (by omega) hb9
  have P9 : Hid (OwnMag w9 w7.heap.size w8.heap.size (.slice A8 n c8) hs8 ms) := P8.out.below (hb9.mono (by omega))
  have sz9 : w8.heap.size ≤ w9.heap.size := hb9.size
  clear T8 V8 M8 G8 E8 X8 I8 F8 FO8 Y8 Q8 P8
  obtain ⟨Ag9, cg9, hvg9, -⟩ := hO9.form
  rw [HL.out] at hvg9 hO9
  rw [Hm.out] at hvg9
  subst hvg9
  rw [Hok.out, Hex.out]
  have J9 := Lib.hid hO9.reads
  have W9 : Hid (OwnMag w9 w8.heap.size w9.heap.size (.slice Ag9 m cg9) hg9 L) := hO9
  clear hO9
  have hbb : (ok != ok) = false := by simp
  have hee : (ex != ex) = false := by simp
  go_wp2_with fail
  refine (eqMatrixSS_same _ _ _ _ _ _ _ _ _ L _ Hm.out hms Hlw.out (by omega) (by omega) J9.out I9.out).mono ?_
  rintro e w10 ⟨rfl, hb10⟩
  have T10 : Hid (Below w0.heap.size w0 w10) := T9.out.trans (hb10.mono (by omega))
  have V10 : Hid (FontV w10 lo hi (.agg #[.string s, .slice B p d, .slice B2 q d2]) f) := V9.out.below (by omega) hb10
  have M10 : Hid (MagI w10 lo2 hi2 A ms) := M9.out.below (by omega) hb10
  have G10 : Hid (w10.cell? ⟨2, 0, none⟩ = some (.iface ct cu)) := (hb10.cell (p := ⟨2, 0, none⟩) (by show 2 < _; omega)).trans G9.out
  have E10 : Hid (ErrH w10) := (hb10.cell (p := ⟨1, 0, none⟩) (by show 1 < _; omega)).trans E9.out
  have X10 : Hid (Blk w10 (w0.heap.size) #[.string s, .slice B p d, .slice B2 q d2] 47) := X9.out.below hb10 (by omega)
  have I10 : Hid (MagI w10 w4.heap.size w5.heap.size Ag5 L) := I9.out.below (by omega) hb10
  have F10 : Hid (FontV w10 w5.heap.size w6.heap.size (.agg #[.string s', .slice B6 p' d6, .slice C6 q' D6]) f) := F9.out.below (by omega) hb10
  have FO10 : Hid (FontO w10 w5.heap.size w6.heap.size (.agg #[.string s', .slice B6 p' d6, .slice C6 q' D6]) f) := FO9.out.below (hb10.mono (by omega))
  have Y10 : Hid (Blk w10 (w6.heap.size) #[.string s', .slice B6 p' d6, .slice C6 q' D6] 25) := Y9.out.below hb10 (by omega)
  have Q10 : Hid (MagI w10 w7.heap.size w8.heap.size A8 ms) := Q9.out.below (by omega) hb10
  have P10 : Hid (OwnMag w10 w7.heap.size w8.heap.size (.slice A8 n c8) hs8 ms) := P9.out.below (hb10.mono (by omega))
  have J10 : Hid (MagI w10 w8.heap.size w9.heap.size Ag9 L) := J9.out.below (by omega) hb10
  have W10 : Hid (OwnMag w10 w8.heap.size w9.heap.size (.slice Ag9 m cg9) hg9 L) := W9.out.below (hb10.mono (by omega))
  have sz10 : w9.heap.size ≤ w10.heap.size := hb10.size
  clear T9 V9 M9 G9 E9 X9 I9 F9 FO9 Y9 Q9 P9 J9 W9
  have q0 := cellOfBlk X10.out 0
  have q1 := cellOfBlk X10.out 1
  have q2 := cellOfBlk X10.out 2
  have r0 := cellOfBlk Y10.out 0
  have r1 := cellOfBlk Y10.out 1
  have r2 := cellOfBlk Y10.out 2
  go_upto_region 14 with fail
  have CF := Lib.hid (toFont_any lo hi _ f w10.drew (V10.out.below (B := w10.heap.size) (by omega) (Below.refl _ _).drew) (by show _ ≤ w10.heap.size; omega) hs)
  go_region_held3 (fun w' => (w'.cell? ⟨w0.heap.size, 0, none⟩ = some (.string s) ∧ w'.cell? ⟨w0.heap.size, 1, none⟩ = some (.slice B p d) ∧ w'.cell? ⟨w0.heap.size, 2, none⟩ = some (.slice B2 q d2)) ∧ (w'.cell? ⟨w6.heap.size, 0, none⟩ = some (.string s') ∧ w'.cell? ⟨w6.heap.size, 1, none⟩ = some (.slice B6 p' d6) ∧ w'.cell? ⟨w6.heap.size, 2, none⟩ = some (.slice C6 q' D6)))
    (first | go_keep | exact ⟨⟨cellOfBlk X11.out 0, cellOfBlk X11.out 1, cellOfBlk X11.out 2⟩, ⟨cellOfBlk Y11.out 0, cellOfBlk Y11.out 1, cellOfBlk Y11.out 2⟩⟩ | exact ⟨⟨(hb12.cell (by show w0.heap.size < _; omega)).trans (cellOfBlk X11.out 0), (hb12.cell (by show w0.heap.size < _; omega)).trans (cellOfBlk X11.out 1), (hb12.cell (by show w0.heap.size < _; omega)).trans (cellOfBlk X11.out 2)⟩, ⟨(hb12.cell (by show w6.heap.size < _; omega)).trans (cellOfBlk Y11.out 0), (hb12.cell (by show w6.heap.size < _; omega)).trans (cellOfBlk Y11.out 1), (hb12.cell (by show w6.heap.size < _; omega)).trans (cellOfBlk Y11.out 2)⟩⟩)
    (first
      | (go_at_call 25; refine CF.out.mono ?_; rintro e w11 ⟨v11, rfl, hO11, hbd⟩; have hb11 := undrew hbd; have T11 : Hid (Below w0.heap.size w0 w11) := T10.out.trans (hb11.mono (by omega)); have V11 : Hid (FontV w11 lo hi (.agg #[.string s, .slice B p d, .slice B2 q d2]) f) := V10.out.below (by omega) hb11; have M11 : Hid (MagI w11 lo2 hi2 A ms) := M10.out.below (by omega) hb11; have G11 : Hid (w11.cell? ⟨2, 0, none⟩ = some (.iface ct cu)) := (hb11.cell (p := ⟨2, 0, none⟩) (by show 2 < _; omega)).trans G10.out; have E11 : Hid (ErrH w11) := (hb11.cell (p := ⟨1, 0, none⟩) (by show 1 < _; omega)).trans E10.out; have X11 : Hid (Blk w11 (w0.heap.size) #[.string s, .slice B p d, .slice B2 q d2] 47) := X10.out.below hb11 (by omega); have I11 : Hid (MagI w11 w4.heap.size w5.heap.size Ag5 L) := I10.out.below (by omega) hb11; have F11 : Hid (FontV w11 w5.heap.size w6.heap.size (.agg #[.string s', .slice B6 p' d6, .slice C6 q' D6]) f) := F10.out.below (by omega) hb11; have FO11 : Hid (FontO w11 w5.heap.size w6.heap.size (.agg #[.string s', .slice B6 p' d6, .slice C6 q' D6]) f) := FO10.out.below (hb11.mono (by omega)); have Y11 : Hid (Blk w11 (w6.heap.size) #[.string s', .slice B6 p' d6, .slice C6 q' D6] 25) := Y10.out.below hb11 (by omega); have Q11 : Hid (MagI w11 w7.heap.size w8.heap.size A8 ms) := Q10.out.below (by omega) hb11; have P11 : Hid (OwnMag w11 w7.heap.size w8.heap.size (.slice A8 n c8) hs8 ms) := P10.out.below (hb11.mono (by omega)); have J11 : Hid (MagI w11 w8.heap.size w9.heap.size Ag9 L) := J10.out.below (by omega) hb11; have W11 : Hid (OwnMag w11 w8.heap.size w9.heap.size (.slice Ag9 m cg9) hg9 L) := W10.out.below (hb11.mono (by omega)); have sz11 : w10.heap.size ≤ w11.heap.size := hb11.size; clear T10 V10 M10 G10 E10 X10 I10 F10 FO10 Y10 Q10 P10 J10 W10; have H11 : Hid (FontV w11 w10.heap.size w11.heap.size v11 f) := hO11.font)
      | (go_at_call 29; refine (eqFont_same _ _ _ _ _ _ f _ F11.out H11.out (by omega) (Nat.le_refl _) hs).mono ?_; rintro e w12 ⟨rfl, hb12⟩))
  clear q0 q1 q2 r0 r1 r2 CF
  have T12 : Hid (Below w0.heap.size w0 w12) := T11.out.trans (hb12.mono (by omega))
  have V12 : Hid (FontV w12 lo hi (.agg #[.string s, .slice B p d, .slice B2 q d2]) f) := V11.out.below (by omega) hb12
  have M12 : Hid (MagI w12 lo2 hi2 A ms) := M11.out.below (by omega) hb12
  have G12 : Hid (w12.cell? ⟨2, 0, none⟩ = some (.iface ct cu)) := (hb12.cell (p := ⟨2, 0, none⟩) (by show 2 < _; omega)).trans G11.out
  have E12 : Hid (ErrH w12) := (hb12.cell (p := ⟨1, 0, none⟩) (by show 1 < _; omega)).trans E11.out
  have X12 : Hid (Blk w12 (w0.heap.size) #[.string s, .slice B p d, .slice B2 q d2] 47) := X11.out.below hb12 (by omega)
  have I12 : Hid (MagI w12 w4.heap.size w5.heap.size Ag5 L) := I11.out.below (by omega) hb12
  have F12 : Hid (FontV w12 w5.heap.size w6.heap.size (.agg #[.string s', .slice B6 p' d6, .slice C6 q' D6]) f) := F11.out.below (by omega) hb12
  have FO12 : Hid (FontO w12 w5.heap.size w6.heap.size (.agg #[.string s', .slice B6 p' d6, .slice C6 q' D6]) f) := FO11.out.below (hb12.mono (by omega))
  have Y12 : Hid (Blk w12 (w6.heap.size) #[.string s', .slice B6 p' d6, .slice C6 q' D6] 25) := Y11.out.below hb12 (by omega)
  have Q12 : Hid (MagI w12 w7.heap.size w8.heap.size A8 ms) := Q11.out.below (by omega) hb12
  have P12 : Hid (OwnMag w12 w7.heap.size w8.heap.size (.slice A8 n c8) hs8 ms) := P11.out.below (hb12.mono (by omega))
  have J12 : Hid (MagI w12 w8.heap.size w9.heap.size Ag9 L) := J11.out.below (by omega) hb12
  have W12 : Hid (OwnMag w12 w8.heap.size w9.heap.size (.slice Ag9 m cg9) hg9 L) := W11.out.below (hb12.mono (by omega))
  have sz12 : w11.heap.size ≤ w12.heap.size := hb12.size
  clear T11 V11 M11 G11 E11 X11 I11 F11 FO11 Y11 Q11 P11 J11 W11 H11
  go_wp2_with fail
  refine (toMatrixSS_any lo2 hi2 _ _ _ ms _ Hn.out hn1 Hlim.out (by omega) M12.out).mono ?_
  rintro e w13 ⟨u13, hs13, rfl, hO13, hb13⟩
  have T13 : Hid (Below w0.heap.size w0 w13) := T12.out.trans (hb13.mono (by omega))
  have V13 : Hid (FontV w13 lo hi (.agg #[.string s, .slice B p d, .slice B2 q d2]) f) := V12.out.below (by omega) hb13
  have M13 : Hid (MagI w13 lo2 hi2 A ms) := M12.out.below (by omega) hb13
  have G13 : Hid (w13.cell? ⟨2, 0, none⟩ = some (.iface ct cu)) := (hb13.cell (p := ⟨2, 0, none⟩) (by show 2 < _; omega)).trans G12.out
  have E13 : Hid (ErrH w13) := (hb13.cell (p := ⟨1, 0, none⟩) (by show 1 < _; omega)).trans E12.out
  have X13 : Hid (Blk w13 (w0.heap.size) #[.string s, .slice B p d, .slice B2 q d2] 47) := X12.out.below hb13 (by omega)
  have I13 : Hid (MagI w13 w4.heap.size w5.heap.size Ag5 L) := I12.out.below (by omega) hb13
  have F13 : Hid (FontV w13 w5.heap.size w6.heap.size (.agg #[.string s', .slice B6 p' d6, .slice C6 q' D6]) f) := F12.out.below (by omega) hb13
  have FO13 : Hid (FontO w13 w5.heap.size w6.heap.size (.agg #[.string s', .slice B6 p' d6, .slice C6 q' D6]) f) := FO12.out.below (hb13.mono (by omega))
  have Y13 : Hid (Blk w13 (w6.heap.size) #[.string s', .slice B6 p' d6, .slice C6 q' D6] 25) := Y12.out.below hb13 (by omega)
  have Q13 : Hid (MagI w13 w7.heap.size w8.heap.size A8 ms) := Q12.out.below (by omega) hb13
  have P13 : Hid (OwnMag w13 w7.heap.size w8.heap.size (.slice A8 n c8) hs8 ms) := P12.out.below (hb13.mono (by omega))
  have J13 : Hid (MagI w13 w8.heap.size w9.heap.size Ag9 L) := J12.out.below (by omega) hb13
  have W13 : Hid (OwnMag w13 w8.heap.size w9.heap.size (.slice Ag9 m cg9) hg9 L) := W12.out.below (hb13.mono (by omega))
  have sz13 : w12.heap.size ≤ w13.heap.size := hb13.size
  clear T12 V12 M12 G12 E12 X12 I12 F12 FO12 Y12 Q12 P12 J12 W12
  obtain ⟨A13, c13, hu13, -⟩ := hO13.form
  rw [Hn.out] at hu13
  subst hu13
  have H13 := Lib.hid hO13.reads
  clear hO13
  go_wp2_with fail
  refine (eqMatrixSS_same _ _ _ _ _ _ _ _ _ ms _ Hn.out hn1 Hlim.out (by omega) (Nat.le_refl _) Q13.out H13.out).mono ?_
  rintro e w14 ⟨rfl, hb14⟩
  have T14 : Hid (Below w0.heap.size w0 w14) := T13.out.trans (hb14.mono (by omega))
  have V14 : Hid (FontV w14 lo hi (.agg #[.string s, .slice B p d, .slice B2 q d2]) f) := V13.out.below (by omega) hb14
  have M14 : Hid (MagI w14 lo2 hi2 A ms) := M13.out.below (by omega) hb14
  have G14 : Hid (w14.cell? ⟨2, 0, none⟩ = some (.iface ct cu)) := (hb14.cell (p := ⟨2, 0, none⟩) (by show 2 < _; omega)).trans G13.out
  have E14 : Hid (ErrH w14) := (hb14.cell (p := ⟨1, 0, none⟩) (by show 1 < _; omega)).trans E13.out
  have X14 : Hid (Blk w14 (w0.heap.size) #[.string s, .slice B p d, .slice B2 q d2] 47) := X13.out.below hb14 (by omega)
  have I14 : Hid (MagI w14 w4.heap.size w5.heap.size Ag5 L) := I13.out.below (by omega) hb14
  have FO14 : Hid (FontO w14 w5.heap.size w6.heap.size (.agg #[.string s', .slice B6 p' d6, .slice C6 q' D6]) f) := FO13.out.below (hb14.mono (by omega))
  have Y14 : Hid (Blk w14 (w6.heap.size) #[.string s', .slice B6 p' d6, .slice C6 q' D6] 25) := Y13.out.below hb14 (by omega)
  have P14 : Hid (OwnMag w14 w7.heap.size w8.heap.size (.slice A8 n c8) hs8 ms) := P13.out.below (hb14.mono (by omega))
  have J14 : Hid (MagI w14 w8.heap.size w9.heap.size Ag9 L) := J13.out.below (by omega) hb14
  have W14 : Hid (OwnMag w14 w8.heap.size w9.heap.size (.slice Ag9 m cg9) hg9 L) := W13.out.below (hb14.mono (by omega))
  have sz14 : w13.heap.size ≤ w14.heap.size := hb14.size
  clear T13 V13 M13 G13 E13 X13 I13 F13 FO13 Y13 Q13 P13 J13 W13 H13
  have r0 := cellOfBlk Y14.out 0
  have r1 := cellOfBlk Y14.out 1
  have r2 := cellOfBlk Y14.out 2
  go_wp2_with fail
  clear r0 r1 r2
  refine (markFont_wide _ _ _ f 1 _ FO14.out (by omega) (by omega) hs (by omega) (by omega)).mono ?_
  rintro e w15 ⟨rfl, hc15⟩
  obtain ⟨K, hK⟩ : ∃ K : Int, 1 + (f.ws.length : Int) + f.cs.length = K := ⟨_, rfl⟩
  rw [hK]
  have hK0 : 0 ≤ K := by omega
  have hK1 : K ≤ 2097152 := by omega
  clear hK
  have hb15 := hc15.below (by omega)
  have W15 : Hid (OwnMag w15 w8.heap.size w9.heap.size (.slice Ag9 m cg9) hg9 L) := W14.out.chg hc15 (.inr (by omega))
  have P15 : Hid (OwnMag w15 w7.heap.size w8.heap.size (.slice A8 n c8) hs8 ms) := P14.out.chg hc15 (.inr (by omega))
  have J15 : Hid (MagI w15 w8.heap.size w9.heap.size Ag9 L) := J14.out.chg hc15 (by omega) (.inr (by omega))
  have T15 : Hid (Below w0.heap.size w0 w15) := T14.out.trans (hb15.mono (by omega))
  have V15 : Hid (FontV w15 lo hi (.agg #[.string s, .slice B p d, .slice B2 q d2]) f) := V14.out.below (by omega) hb15
  have M15 : Hid (MagI w15 lo2 hi2 A ms) := M14.out.below (by omega) hb15
  have G15 : Hid (w15.cell? ⟨2, 0, none⟩ = some (.iface ct cu)) := (hb15.cell (p := ⟨2, 0, none⟩) (by show 2 < _; omega)).trans G14.out
  have E15 : Hid (ErrH w15) := (hb15.cell (p := ⟨1, 0, none⟩) (by show 1 < _; omega)).trans E14.out
  have X15 : Hid (Blk w15 (w0.heap.size) #[.string s, .slice B p d, .slice B2 q d2] 47) := X14.out.below hb15 (by omega)
  have I15 : Hid (MagI w15 w4.heap.size w5.heap.size Ag5 L) := I14.out.below (by omega) hb15
  have sz15 : w14.heap.size ≤ w15.heap.size := hb15.size
  clear T14 V14 M14 G14 E14 X14 I14 FO14 Y14
  clear W14 P14 J14
  go_wp2_with fail
  refine (markMatrixSS_any _ _ _ _ K ms _ hK0 hK1 (by rw [Hn.out]; exact hn1) htm P15.out).mono ?_
  rintro e w16 ⟨rfl, -, hc16⟩
  obtain ⟨K2, hK2⟩ : ∃ K2 : Int, K + 2 * (tot ms : Int) = K2 := ⟨_, rfl⟩
  rw [hK2]
  have hK3 : 0 ≤ K2 := by omega
  have hK4 : decide (K2 < 0) = false := by rw [decide_eq_false_iff_not]; omega
  clear hK2
  have hb16 := hc16.below (by omega)
  have W16 : Hid (OwnMag w16 w8.heap.size w9.heap.size (.slice Ag9 m cg9) hg9 L) := W15.out.chg hc16 (.inr (by omega))
  have J16 : Hid (MagI w16 w8.heap.size w9.heap.size Ag9 L) := J15.out.chg hc16 (by omega) (.inr (by omega))
  have T16 : Hid (Below w0.heap.size w0 w16) := T15.out.trans (hb16.mono (by omega))
  have V16 : Hid (FontV w16 lo hi (.agg #[.string s, .slice B p d, .slice B2 q d2]) f) := V15.out.below (by omega) hb16
  have M16 : Hid (MagI w16 lo2 hi2 A ms) := M15.out.below (by omega) hb16
  have G16 : Hid (w16.cell? ⟨2, 0, none⟩ = some (.iface ct cu)) := (hb16.cell (p := ⟨2, 0, none⟩) (by show 2 < _; omega)).trans G15.out
  have E16 : Hid (ErrH w16) := (hb16.cell (p := ⟨1, 0, none⟩) (by show 1 < _; omega)).trans E15.out
  have X16 : Hid (Blk w16 (w0.heap.size) #[.string s, .slice B p d, .slice B2 q d2] 47) := X15.out.below hb16 (by omega)
  have I16 : Hid (MagI w16 w4.heap.size w5.heap.size Ag5 L) := I15.out.below (by omega) hb16
  have sz16 : w15.heap.size ≤ w16.heap.size := hb16.size
  clear T15 V15 M15 G15 E15 X15 I15 P15
  clear W15 J15
  go_wp2_with fail
  refine (eqMatrixSS_same _ _ _ _ _ _ _ _ _ L _ Hm.out hms Hlw.out (by omega) (by omega) J16.out I16.out).mono ?_
  rintro e w17 ⟨rfl, hb17⟩
  have T17 : Hid (Below w0.heap.size w0 w17) := T16.out.trans (hb17.mono (by omega))
  have V17 : Hid (FontV w17 lo hi (.agg #[.string s, .slice B p d, .slice B2 q d2]) f) := V16.out.below (by omega) hb17
  have M17 : Hid (MagI w17 lo2 hi2 A ms) := M16.out.below (by omega) hb17
  have G17 : Hid (w17.cell? ⟨2, 0, none⟩ = some (.iface ct cu)) := (hb17.cell (p := ⟨2, 0, none⟩) (by show 2 < _; omega)).trans G16.out
  have E17 : Hid (ErrH w17) := (hb17.cell (p := ⟨1, 0, none⟩) (by show 1 < _; omega)).trans E16.out
  have X17 : Hid (Blk w17 (w0.heap.size) #[.string s, .slice B p d, .slice B2 q d2] 47) := X16.out.below hb17 (by omega)
  have I17 : Hid (MagI w17 w4.heap.size w5.heap.size Ag5 L) := I16.out.below (by omega) hb17
  have W17 : Hid (OwnMag w17 w8.heap.size w9.heap.size (.slice Ag9 m cg9) hg9 L) := W16.out.below (hb17.mono (by omega))
  have sz17 : w16.heap.size ≤ w17.heap.size := hb17.size
  clear T16 V16 M16 G16 E16 X16 I16 W16 J16
  go_wp2_with fail
  refine (markMatrixSS_any _ _ _ _ 1 L _ (by omega) (by omega) (by rw [Hm.out]; exact hms) htw W17.out).mono ?_
  rintro e w18 ⟨rfl, hO18, hc18⟩
  have hZ18 := magMark hO18
  have hb18 := hc18.below (by omega)
  have T18 : Hid (Below w0.heap.size w0 w18) := T17.out.trans (hb18.mono (by omega))
  have V18 : Hid (FontV w18 lo hi (.agg #[.string s, .slice B p d, .slice B2 q d2]) f) := V17.out.below (by omega) hb18
  have M18 : Hid (MagI w18 lo2 hi2 A ms) := M17.out.below (by omega) hb18
  have G18 : Hid (w18.cell? ⟨2, 0, none⟩ = some (.iface ct cu)) := (hb18.cell (p := ⟨2, 0, none⟩) (by show 2 < _; omega)).trans G17.out
  have E18 : Hid (ErrH w18) := (hb18.cell (p := ⟨1, 0, none⟩) (by show 1 < _; omega)).trans E17.out
  have X18 : Hid (Blk w18 (w0.heap.size) #[.string s, .slice B p d, .slice B2 q d2] 47) := X17.out.below hb18 (by omega)
  have I18 : Hid (MagI w18 w4.heap.size w5.heap.size Ag5 L) := I17.out.below (by omega) hb18
  have sz18 : w17.heap.size ≤ w18.heap.size := hb18.size
  clear T17 V17 M17 G17 E17 X17 I17 W17
  have Z18 : Hid (MagI w18 w8.heap.size w9.heap.size Ag9 (upMM 1 L)) := hZ18
  clear hZ18 hO18
  obtain ⟨K5, hK5⟩ : ∃ K5 : Int, 1 + 2 * (tot L : Int) = K5 := ⟨_, rfl⟩
  have hK6 : decide (K5 < 0) = false := by rw [decide_eq_false_iff_not]; omega
  have hK7 : (K5 != K5) = false := by simp
  have HK5 := Lib.hid hK5
  rw [hK5]
  clear hK5
  go_wp2_with fail
  refine (heldMatrixSS_any _ _ _ _ _ 1 L _ Hm.out (by omega) (by omega) hms htw Z18.out).mono ?_
  rintro e w' ⟨rfl, rfl⟩
  rw [HK5.out]
  have q0 := cellOfBlk X18.out 0
  have q1 := cellOfBlk X18.out 1
  have q2 := cellOfBlk X18.out 2
  go_wp2_with fail
  clear q0 q1 q2
  refine (toFont_any lo hi _ f _ V18.out (by omega) hs).mono ?_
  rintro e w19 ⟨v19, rfl, hO19, hb19⟩
  have T19 : Hid (Below w0.heap.size w0 w19) := T18.out.trans (hb19.mono (by omega))
  have V19 : Hid (FontV w19 lo hi (.agg #[.string s, .slice B p d, .slice B2 q d2]) f) := V18.out.below (by omega) hb19
  have M19 : Hid (MagI w19 lo2 hi2 A ms) := M18.out.below (by omega) hb19
  have G19 : Hid (w19.cell? ⟨2, 0, none⟩ = some (.iface ct cu)) := (hb19.cell (p := ⟨2, 0, none⟩) (by show 2 < _; omega)).trans G18.out
  have E19 : Hid (ErrH w19) := (hb19.cell (p := ⟨1, 0, none⟩) (by show 1 < _; omega)).trans E18.out
  have X19 : Hid (Blk w19 (w0.heap.size) #[.string s, .slice B p d, .slice B2 q d2] 47) := X18.out.below hb19 (by omega)
  have I19 : Hid (MagI w19 w4.heap.size w5.heap.size Ag5 L) := I18.out.below (by omega) hb19
  have Z19 : Hid (MagI w19 w8.heap.size w9.heap.size Ag9 (upMM 1 L)) := Z18.out.below (by omega) hb19
  have sz19 : w18.heap.size ≤ w19.heap.size := hb19.size
  clear T18 V18 M18 G18 E18 X18 I18 Z18
  have F19 := Lib.hid hO19.font
  go_wp2_with fail
  refine (toMatrixSS_any lo2 hi2 _ _ _ ms _ Hn.out hn1 Hlim.out (by omega) M19.out).mono ?_
  rintro e w20 ⟨u20, hs20, rfl, hO20, hb20⟩
  have T20 : Hid (Below w0.heap.size w0 w20) := T19.out.trans (hb20.mono (by omega))
  have V20 : Hid (FontV w20 lo hi (.agg #[.string s, .slice B p d, .slice B2 q d2]) f) := V19.out.below (by omega) hb20
  have M20 : Hid (MagI w20 lo2 hi2 A ms) := M19.out.below (by omega) hb20
  have G20 : Hid (w20.cell? ⟨2, 0, none⟩ = some (.iface ct cu)) := (hb20.cell (p := ⟨2, 0, none⟩) (by show 2 < _; omega)).trans G19.out
  have E20 : Hid (ErrH w20) := (hb20.cell (p := ⟨1, 0, none⟩) (by show 1 < _; omega)).trans E19.out
  have X20 : Hid (Blk w20 (w0.heap.size) #[.string s, .slice B p d, .slice B2 q d2] 47) := X19.out.below hb20 (by omega)
  have I20 : Hid (MagI w20 w4.heap.size w5.heap.size Ag5 L) := I19.out.below (by omega) hb20
  have Z20 : Hid (MagI w20 w8.heap.size w9.heap.size Ag9 (upMM 1 L)) := Z19.out.below (by omega) hb20
  have F20 : Hid (FontV w20 w18.heap.size w19.heap.size v19 f) := F19.out.below (by omega) hb20
  have sz20 : w19.heap.size ≤ w20.heap.size := hb20.size
  clear T19 V19 M19 G19 E19 X19 I19 Z19 F19
  obtain ⟨A20, c20, hu20, -⟩ := hO20.form
  rw [Hn.out] at hu20
  subst hu20
  have Q20 := Lib.hid hO20.reads
  clear hO20
  go_wp2_with fail
  refine (implSweep_any _ _ _ _ _ f _ n _ ms _ F20.out (by omega) hs Hn.out hn1 Q20.out (by omega) Hwf.out ct cu G20.out E20.out).mono ?_
  rintro e w21 ⟨vg21, hg21, rfl, hO21, hb21⟩
  have T21 : Hid (Below w0.heap.size w0 w21) := T20.out.trans (hb21.mono (by omega))
  have V21 : Hid (FontV w21 lo hi (.agg #[.string s, .slice B p d, .slice B2 q d2]) f) := V20.out.below (by omega) hb21
  have M21 : Hid (MagI w21 lo2 hi2 A ms) := M20.out.below (by omega) hb21
  have G21 : Hid (w21.cell? ⟨2, 0, none⟩ = some (.iface ct cu)) := (hb21.cell (p := ⟨2, 0, none⟩) (by show 2 < _; omega)).trans G20.out
  have E21 : Hid (ErrH w21) := (hb21.cell (p := ⟨1, 0, none⟩) (by show 1 < _; omega)).trans E20.out
  have X21 : Hid (Blk w21 (w0.heap.size) #[.string s, .slice B p d, .slice B2 q d2] 47) := X20.out.below hb21 (by omega)
  have I21 : Hid (MagI w21 w4.heap.size w5.heap.size Ag5 L) := I20.out.below (by omega) hb21
  have Z21 : Hid (MagI w21 w8.heap.size w9.heap.size Ag9 (upMM 1 L)) := Z20.out.below (by omega) hb21
  have sz21 : w20.heap.size ≤ w21.heap.size := hb21.size
  clear T20 V20 M20 G20 E20 X20 I20 Z20 F20 Q20
  obtain ⟨Ag21, cg21, hvg21, -⟩ := hO21.form
  rw [HL.out] at hvg21 hO21
  rw [Hm.out] at hvg21
  subst hvg21
  rw [Hok.out, Hex.out]
  have J21 := Lib.hid hO21.reads
  clear hO21
  go_wp2_with fail
  refine (eqMatrixSS_same _ _ _ _ _ _ _ _ _ L _ Hm.out hms Hlw.out (by omega) (by omega) J21.out I21.out).mono ?_
  rintro e w22 ⟨rfl, hb22⟩
  have T22 : Hid (Below w0.heap.size w0 w22) := T21.out.trans (hb22.mono (by omega))
  have V22 : Hid (FontV w22 lo hi (.agg #[.string s, .slice B p d, .slice B2 q d2]) f) := V21.out.below (by omega) hb22
  have M22 : Hid (MagI w22 lo2 hi2 A ms) := M21.out.below (by omega) hb22
  have G22 : Hid (w22.cell? ⟨2, 0, none⟩ = some (.iface ct cu)) := (hb22.cell (p := ⟨2, 0, none⟩) (by show 2 < _; omega)).trans G21.out
  have E22 : Hid (ErrH w22) := (hb22.cell (p := ⟨1, 0, none⟩) (by show 1 < _; omega)).trans E21.out
  have X22 : Hid (Blk w22 (w0.heap.size) #[.string s, .slice B p d, .slice B2 q d2] 47) := X21.out.below hb22 (by omega)
  have I22 : Hid (MagI w22 w4.heap.size w5.heap.size Ag5 L) := I21.out.below (by omega) hb22
  have Z22 : Hid (MagI w22 w8.heap.size w9.heap.size Ag9 (upMM 1 L)) := Z21.out.below (by omega) hb22
  have sz22 : w21.heap.size ≤ w22.heap.size := hb22.size
  clear T21 V21 M21 G21 E21 X21 I21 Z21 J21
  go_wp2_with fail
  refine (heldMatrixSS_any _ _ _ _ _ 1 L _ Hm.out (by omega) (by omega) hms htw Z22.out).mono ?_
  rintro e w' ⟨rfl, rfl⟩
  rw [HK5.out]
  go_wp2
  go_ret
  exact ⟨rfl, T22.out⟩
end Go.Proofs.YtdijlofcgcikjaaDoor
