/-
  The exact law of DropMatrix: its walk. Conditions: errors.errorType and the listed error read as laid.
-/
import Derived.Test.YtdijlofcgcikjaaDoorDropS
import Derived.Test.YtdijlofcgcikjaaDoorLawsMag
import Derived.Test.YtdijlofcgcikjaaDoorLawsFill
import Derived.Test.YtdijlofcgcikjaaDoorPkD
namespace Go.Proofs.YtdijlofcgcikjaaDoor
open Go.RowKit
set_option linter.unusedVariables false
set_option linter.unusedSimpArgs false

theorem dropL_lim (f : Fnt) (ms : List (List Mat)) (x : Mat) : (dropL f ms x).length ≤ 40 ∧ ∀ xs ∈ dropL f ms x, xs.length ≤ 20 := by
  unfold dropL
  split
  · rename_i h
    unfold dropOk at h
    rw [Bool.and_eq_true, Bool.and_eq_true, decide_eq_true_eq] at h
    obtain ⟨hf, hlen, hrows⟩ := magB_rows h.1
    have hfs := fontB_size hf
    refine ⟨by rw [List.length_set, hlen]; omega, fun xs hx => ?_⟩
    rcases List.mem_or_eq_of_mem_set hx with hx | rfl
    · exact (hrows xs hx).1
    · have := h.2.2
      rw [List.length_append]; simp only [List.length_cons, List.length_nil]; omega
  · exact ⟨by simp, fun xs hx => by simp at hx⟩
set_option maxRecDepth 100000 in
set_option maxHeartbeats 12800000 in
theorem fnExactDropMatrix_walk (lo hi : Nat) (v : Value) (f : Fnt) (lo2 hi2 : Nat) (A : Option Addr) (c : Nat) (ms : List (List Mat)) (x : Mat) (w : World) (h : FontV w lo hi v f) (hhi : hi ≤ w.heap.size) (hcc : ms.length ≤ c) (hcm : c ≤ maxLen) (hM : MagI w lo2 hi2 A ms) (hhi2 : hi2 ≤ w.heap.size) (wfm : wfM ms) (wfx : (Lit.int .i64 x.2).wf = true) (ct : TypeId) (cu : Value) (hg : w.cell? ⟨2, 0, none⟩ = some (.iface ct cu)) (he : ErrH w) :
    Calls Tryd.prog 6 #[v, .slice A ms.length c, .agg #[.int .i64 x.1, .int .i64 x.2]] w fun e w' => e = .returned (.bool true) ∧ Below w.heap.size w w' := by
  obtain ⟨k1, k2⟩ := x
  simp only at wfx ⊢
  obtain ⟨B, d, B2, d2, hv⟩ := fontForm h
  obtain ⟨s, hs0⟩ : ∃ s, f.s = s := ⟨_, rfl⟩
  obtain ⟨p, hp⟩ : ∃ n, f.ws.length = n := ⟨_, rfl⟩
  obtain ⟨q, hq⟩ : ∃ m, f.cs.length = m := ⟨_, rfl⟩
  obtain ⟨n, hn⟩ : ∃ n, ms.length = n := ⟨_, rfl⟩
  rw [hs0, hp, hq] at hv
  rw [hv] at h
  rw [hv, hn]
  rw [hn] at hcc
  have hnm : n ≤ maxLen := by omega
  obtain ⟨w0, hw0⟩ : ∃ x, w = x := ⟨_, rfl⟩
  have hww : w.heap.size = w0.heap.size := by rw [hw0]
  have hg2 := World.block_lt_of_cell? _ _ hg
  have hg3 := World.block_lt_of_cell? _ _ he
  simp only at hg2 hg3
  have T0 : Hid (Below w0.heap.size w0 w0) := Below.refl _ _
  have V0 : Hid (FontV w0 lo hi (.agg #[.string s, .slice B p d, .slice B2 q d2]) f) := by rw [← hw0]; exact h
  have M0 : Hid (MagI w0 lo2 hi2 A ms) := by rw [← hw0]; exact hM
  have G0 : Hid (w0.cell? ⟨2, 0, none⟩ = some (.iface ct cu)) := by rw [← hw0]; exact hg
  have E0 : Hid (ErrH w0) := by rw [← hw0]; exact he
  have Hn := Lib.hid hn; have Hwf := Lib.hid wfm
  clear h hM hn hcc hcm hv hs0 hp hq hg he wfm
  obtain ⟨w1, hw1, hb1, hz1, hX1⟩ := mxWorld w0 #[.string s, .slice B p d, .slice B2 q d2] 47
  have T1 : Hid (Below w0.heap.size w0 w1) := T0.out.trans (hb1.mono (by omega))
  have V1 : Hid (FontV w1 lo hi (.agg #[.string s, .slice B p d, .slice B2 q d2]) f) := V0.out.below (by omega) hb1
  have M1 : Hid (MagI w1 lo2 hi2 A ms) := M0.out.below (by omega) hb1
  have G1 : Hid (w1.cell? ⟨2, 0, none⟩ = some (.iface ct cu)) := (hb1.cell (p := ⟨2, 0, none⟩) (by show 2 < _; omega)).trans G0.out
  have E1 : Hid (ErrH w1) := (hb1.cell (p := ⟨1, 0, none⟩) (by show 1 < _; omega)).trans E0.out
  have sz1 : w0.heap.size ≤ w1.heap.size := hb1.size
  clear T0 V0 M0 G0 E0
  have X1 : Hid (Blk w1 (w0.heap.size) #[.string s, .slice B p d, .slice B2 q d2] 47) := by show Blk _ _ _ _; exact hX1
  obtain ⟨w2, hw2, hb2, hz2, hX2⟩ := mxWorld w1 #[.int .i64 k1, .int .i64 k2] 58
  have T2 : Hid (Below w0.heap.size w0 w2) := T1.out.trans (hb2.mono (by omega))
  have V2 : Hid (FontV w2 lo hi (.agg #[.string s, .slice B p d, .slice B2 q d2]) f) := V1.out.below (by omega) hb2
  have M2 : Hid (MagI w2 lo2 hi2 A ms) := M1.out.below (by omega) hb2
  have G2 : Hid (w2.cell? ⟨2, 0, none⟩ = some (.iface ct cu)) := (hb2.cell (p := ⟨2, 0, none⟩) (by show 2 < _; omega)).trans G1.out
  have E2 : Hid (ErrH w2) := (hb2.cell (p := ⟨1, 0, none⟩) (by show 1 < _; omega)).trans E1.out
  have X2 : Hid (Blk w2 (w0.heap.size) #[.string s, .slice B p d, .slice B2 q d2] 47) := X1.out.below hb2 (by omega)
  have sz2 : w1.heap.size ≤ w2.heap.size := hb2.size
  clear T1 V1 M1 G1 E1 X1
  have D2 : Hid (Blk w2 (w0.heap.size + 1) #[.int .i64 k1, .int .i64 k2] 58) := by show Blk _ _ _ _; rw [← hz1]; exact hX2
  rw [hz1] at hz2
  rw [hw0]
  by_cases hbig : (1048576 : Int) < f.big
  · have Hk := Lib.hid (takeOff_bad hbig)
    go_enter Tryd.func6, Tryd.ntmps6
    have q0 := cellOfBlk X2.out 0
    have q1 := cellOfBlk X2.out 1
    have q2 := cellOfBlk X2.out 2
    go_wp2_with fail
    clear q0 q1 q2
    refine (szFont_any lo hi _ f _ _ V2.out (by omega) (by omega)).mono ?_
    rintro e w3 ⟨rfl, hb3⟩
    rw [Hk.out]
    have T3 : Hid (Below w0.heap.size w0 w3) := T2.out.trans (hb3.mono (by omega))
    have V3 : Hid (FontV w3 lo hi (.agg #[.string s, .slice B p d, .slice B2 q d2]) f) := V2.out.below (by omega) hb3
    have M3 : Hid (MagI w3 lo2 hi2 A ms) := M2.out.below (by omega) hb3
    have G3 : Hid (w3.cell? ⟨2, 0, none⟩ = some (.iface ct cu)) := (hb3.cell (p := ⟨2, 0, none⟩) (by show 2 < _; omega)).trans G2.out
    have E3 : Hid (ErrH w3) := (hb3.cell (p := ⟨1, 0, none⟩) (by show 1 < _; omega)).trans E2.out
    have X3 : Hid (Blk w3 (w0.heap.size) #[.string s, .slice B p d, .slice B2 q d2] 47) := X2.out.below hb3 (by omega)
    have D3 : Hid (Blk w3 (w0.heap.size + 1) #[.int .i64 k1, .int .i64 k2] 58) := D2.out.below hb3 (by omega)
    have sz3 : w2.heap.size ≤ w3.heap.size := hb3.size
    clear T2 V2 M2 G2 E2 X2 D2
    go_wp2
    go_ret
    exact ⟨rfl, T3.out⟩
  have Hk := Lib.hid (takeOff_good hbig)
  have hs := big_small hbig
  have hk0 : 0 ≤ 1048576 - (f.big : Int) := by omega
  by_cases hbig2 : 1048576 - (f.big : Int) < magBig ms
  · have Hk2 := Lib.hid (takeOff_bad hbig2)
    have td : decide (1048576 - (f.big : Int) < 0) = false := by rw [decide_eq_false_iff_not]; omega
    clear hbig hbig2
    go_enter Tryd.func6, Tryd.ntmps6
    have q0 := cellOfBlk X2.out 0
    have q1 := cellOfBlk X2.out 1
    have q2 := cellOfBlk X2.out 2
    go_wp2_with fail
    clear q0 q1 q2
    refine (szFont_any lo hi _ f _ _ V2.out (by omega) (by omega)).mono ?_
    rintro e w3 ⟨rfl, hb3⟩
    rw [Hk.out]
    have T3 : Hid (Below w0.heap.size w0 w3) := T2.out.trans (hb3.mono (by omega))
    have V3 : Hid (FontV w3 lo hi (.agg #[.string s, .slice B p d, .slice B2 q d2]) f) := V2.out.below (by omega) hb3
    have M3 : Hid (MagI w3 lo2 hi2 A ms) := M2.out.below (by omega) hb3
    have G3 : Hid (w3.cell? ⟨2, 0, none⟩ = some (.iface ct cu)) := (hb3.cell (p := ⟨2, 0, none⟩) (by show 2 < _; omega)).trans G2.out
    have E3 : Hid (ErrH w3) := (hb3.cell (p := ⟨1, 0, none⟩) (by show 1 < _; omega)).trans E2.out
    have X3 : Hid (Blk w3 (w0.heap.size) #[.string s, .slice B p d, .slice B2 q d2] 47) := X2.out.below hb3 (by omega)
    have D3 : Hid (Blk w3 (w0.heap.size + 1) #[.int .i64 k1, .int .i64 k2] 58) := D2.out.below hb3 (by omega)
    have sz3 : w2.heap.size ≤ w3.heap.size := hb3.size
    clear T2 V2 M2 G2 E2 X2 D2
    go_wp2_with fail
    refine (szMatrixSS_any lo2 hi2 _ _ _ ms _ _ Hn.out hnm M3.out hk0 (by omega)).mono ?_
    rintro e w' ⟨rfl, rfl⟩
    rw [Hk2.out]
    go_wp2
    go_ret
    exact ⟨rfl, T3.out⟩
  have Hk2 := Lib.hid (takeOff_good hbig2)
  obtain ⟨hn1, hlim⟩ := magBig_lim (ms := ms) (n := 1048576) (by omega)
  rw [Hn.out] at hn1
  have hk2 : 0 ≤ 1048576 - (f.big : Int) - (magBig ms : Int) := by omega
  have td : decide (1048576 - (f.big : Int) < 0) = false := by rw [decide_eq_false_iff_not]; omega
  have td2 : decide (1048576 - (f.big : Int) - (magBig ms : Int) < 0) = false := by rw [decide_eq_false_iff_not]; omega
  have Hlim := Lib.hid hlim
  have hfb : f.ws.length + f.cs.length ≤ 1048576 := by unfold Fnt.big at hbig; omega
  have htm : tot ms ≤ 1048576 := by unfold magBig at hbig2; omega
  obtain ⟨m, hm1⟩ : ∃ m, (dropL f ms (k1, k2)).length = m := ⟨_, rfl⟩
  obtain ⟨ok, hok⟩ : ∃ ok, dropOk f ms (k1, k2) = ok := ⟨_, rfl⟩
  obtain ⟨ex, hex⟩ : ∃ ex, dropI f ms (k1, k2) = ex := ⟨_, rfl⟩
  obtain ⟨L, hL⟩ : ∃ L, dropL f ms (k1, k2) = L := ⟨_, rfl⟩
  obtain ⟨hl1, hl2⟩ := dropL_lim f ms (k1, k2)
  rw [hL] at hl1 hl2 hm1
  have ht2 := tot_bound hl2
  rw [hm1] at hl1 ht2
  have hms : m ≤ 1048576 := by omega
  have htw : tot L ≤ 1048576 := by omega
  have Hlw : Hid (∀ xs ∈ L, xs.length ≤ 1048576) := fun xs hx => by have := hl2 xs hx; omega
  have Hok := Lib.hid hok; have Hex := Lib.hid hex; have HL := Lib.hid hL
  clear hl1 hl2 ht2 hok hex hL
  have Hm := Lib.hid hm1
  clear hbig hbig2 hlim hm1
  go_enter Tryd.func6, Tryd.ntmps6
  have q0 := cellOfBlk X2.out 0
  have q1 := cellOfBlk X2.out 1
  have q2 := cellOfBlk X2.out 2
  go_wp2_with fail
  clear q0 q1 q2
  refine (szFont_any lo hi _ f _ _ V2.out (by omega) (by omega)).mono ?_
  rintro e w3 ⟨rfl, hb3⟩
  rw [Hk.out]
  have T3 : Hid (Below w0.heap.size w0 w3) := T2.out.trans (hb3.mono (by omega))
  have V3 : Hid (FontV w3 lo hi (.agg #[.string s, .slice B p d, .slice B2 q d2]) f) := V2.out.below (by omega) hb3
  have M3 : Hid (MagI w3 lo2 hi2 A ms) := M2.out.below (by omega) hb3
  have G3 : Hid (w3.cell? ⟨2, 0, none⟩ = some (.iface ct cu)) := (hb3.cell (p := ⟨2, 0, none⟩) (by show 2 < _; omega)).trans G2.out
  have E3 : Hid (ErrH w3) := (hb3.cell (p := ⟨1, 0, none⟩) (by show 1 < _; omega)).trans E2.out
  have X3 : Hid (Blk w3 (w0.heap.size) #[.string s, .slice B p d, .slice B2 q d2] 47) := X2.out.below hb3 (by omega)
  have D3 : Hid (Blk w3 (w0.heap.size + 1) #[.int .i64 k1, .int .i64 k2] 58) := D2.out.below hb3 (by omega)
  have sz3 : w2.heap.size ≤ w3.heap.size := hb3.size
  clear T2 V2 M2 G2 E2 X2 D2
  go_wp2_with fail
  refine (szMatrixSS_any lo2 hi2 _ _ _ ms _ _ Hn.out hnm M3.out hk0 (by omega)).mono ?_
  rintro e w' ⟨rfl, rfl⟩
  rw [Hk2.out]
  go_wp2_with fail
  refine wp_region_plan (.take 0 (.take 2 (.take 4 (.one 1 (.one 3 (.one 5 (.one 6 (.take 7 (.take 8 (.take 9 (.take 10 (.take 11 (.take 12 (.take 13 .done)))))))))))))) (fun w' => w'.cell? ⟨w0.heap.size, 0, none⟩ = some (.string s) ∧ w'.cell? ⟨w0.heap.size, 1, none⟩ = some (.slice B p d) ∧ w'.cell? ⟨w0.heap.size, 2, none⟩ = some (.slice B2 q d2) ∧ w'.cell? ⟨w0.heap.size + 1, 0, none⟩ = some (.int .i64 k1) ∧ w'.cell? ⟨w0.heap.size + 1, 1, none⟩ = some (.int .i64 k2)) (by kernel_rfl) (by kernel_rfl) (by kernel_rfl) (by intro c a d v w h; cases d <;> exact h) ⟨cellOfBlk X3.out 0, cellOfBlk X3.out 1, cellOfBlk X3.out 2, cellOfBlk D3.out 0, cellOfBlk D3.out 1⟩ ?_
  obtain ⟨w4, hwd⟩ : ∃ x, w3.drew = x := ⟨_, rfl⟩
  have hb4 : Below w3.heap.size w3 w4 := by rw [← hwd]; exact (Below.refl _ _).drew
  have hsz4 : w4.heap.size = w3.heap.size := by rw [← hwd]; rfl
  have T4 : Hid (Below w0.heap.size w0 w4) := T3.out.trans (hb4.mono (by omega))
  have V4 : Hid (FontV w4 lo hi (.agg #[.string s, .slice B p d, .slice B2 q d2]) f) := V3.out.below (by omega) hb4
  have M4 : Hid (MagI w4 lo2 hi2 A ms) := M3.out.below (by omega) hb4
  have G4 : Hid (w4.cell? ⟨2, 0, none⟩ = some (.iface ct cu)) := (hb4.cell (p := ⟨2, 0, none⟩) (by show 2 < _; omega)).trans G3.out
  have E4 : Hid (ErrH w4) := (hb4.cell (p := ⟨1, 0, none⟩) (by show 1 < _; omega)).trans E3.out
  have X4 : Hid (Blk w4 (w0.heap.size) #[.string s, .slice B p d, .slice B2 q d2] 47) := X3.out.below hb4 (by omega)
  have D4 : Hid (Blk w4 (w0.heap.size + 1) #[.int .i64 k1, .int .i64 k2] 58) := D3.out.below hb4 (by omega)
  have sz4 : w3.heap.size ≤ w4.heap.size := hb4.size
  clear T3 V3 M3 G3 E3 X3 D3
  rw [hwd]
  clear hwd
  refine plan_quiet rfl (by rfl) (v := ?_) ?_ ?_; rotate_left; (intro w1 hSw; obtain ⟨h0, h1, h2, h3, h4⟩ := hSw; go_simp; try (with_reducible rfl)); (try simp only [Act.put, List.setIfInBounds_toArray, List.set_cons_zero, List.set_cons_succ])
  refine plan_quiet rfl (by rfl) (v := ?_) ?_ ?_; rotate_left; (intro w1 hSw; obtain ⟨h0, h1, h2, h3, h4⟩ := hSw; go_simp; try (with_reducible rfl)); (try simp only [Act.put, List.setIfInBounds_toArray, List.set_cons_zero, List.set_cons_succ])
  refine plan_quiet rfl (by rfl) (v := ?_) ?_ ?_; rotate_left; (intro w1 hSw; obtain ⟨h0, h1, h2, h3, h4⟩ := hSw; go_simp; try (with_reducible rfl)); (try simp only [Act.put, List.setIfInBounds_toArray, List.set_cons_zero, List.set_cons_succ])
  refine plan_step rfl (fun Kc hK => ?_)
  rw [if_pos (by rfl)]
  go_simp
  refine (toFont_any lo hi _ f _ V4.out (by omega) hs).mono ?_
  rintro e w5 ⟨v5, rfl, hO5, hb5⟩
  have T5 : Hid (Below w0.heap.size w0 w5) := T4.out.trans (hb5.mono (by omega))
  have V5 : Hid (FontV w5 lo hi (.agg #[.string s, .slice B p d, .slice B2 q d2]) f) := V4.out.below (by omega) hb5
  have M5 : Hid (MagI w5 lo2 hi2 A ms) := M4.out.below (by omega) hb5
  have G5 : Hid (w5.cell? ⟨2, 0, none⟩ = some (.iface ct cu)) := (hb5.cell (p := ⟨2, 0, none⟩) (by show 2 < _; omega)).trans G4.out
  have E5 : Hid (ErrH w5) := (hb5.cell (p := ⟨1, 0, none⟩) (by show 1 < _; omega)).trans E4.out
  have X5 : Hid (Blk w5 (w0.heap.size) #[.string s, .slice B p d, .slice B2 q d2] 47) := X4.out.below hb5 (by omega)
  have D5 : Hid (Blk w5 (w0.heap.size + 1) #[.int .i64 k1, .int .i64 k2] 58) := D4.out.below hb5 (by omega)
  have sz5 : w4.heap.size ≤ w5.heap.size := hb5.size
  clear T4 V4 M4 G4 E4 X4 D4
  have F5 := Lib.hid hO5.font
  refine hK.out _ _ ⟨cellOfBlk X5.out 0, cellOfBlk X5.out 1, cellOfBlk X5.out 2, cellOfBlk D5.out 0, cellOfBlk D5.out 1⟩ ?_
  clear hK Kc
  refine plan_step rfl (fun Kc hK => ?_)
  rw [if_pos (by rfl)]
  go_simp
  refine (toMatrixSS_any lo2 hi2 _ _ _ ms _ Hn.out hn1 Hlim.out (by omega) M5.out).mono ?_
  rintro e w6 ⟨u6, hs6, rfl, hO6, hb6⟩
  have T6 : Hid (Below w0.heap.size w0 w6) := T5.out.trans (hb6.mono (by omega))
  have V6 : Hid (FontV w6 lo hi (.agg #[.string s, .slice B p d, .slice B2 q d2]) f) := V5.out.below (by omega) hb6
  have M6 : Hid (MagI w6 lo2 hi2 A ms) := M5.out.below (by omega) hb6
  have G6 : Hid (w6.cell? ⟨2, 0, none⟩ = some (.iface ct cu)) := (hb6.cell (p := ⟨2, 0, none⟩) (by show 2 < _; omega)).trans G5.out
  have E6 : Hid (ErrH w6) := (hb6.cell (p := ⟨1, 0, none⟩) (by show 1 < _; omega)).trans E5.out
  have X6 : Hid (Blk w6 (w0.heap.size) #[.string s, .slice B p d, .slice B2 q d2] 47) := X5.out.below hb6 (by omega)
  have D6 : Hid (Blk w6 (w0.heap.size + 1) #[.int .i64 k1, .int .i64 k2] 58) := D5.out.below hb6 (by omega)
  have F6 : Hid (FontV w6 w4.heap.size w5.heap.size v5 f) := F5.out.below (by omega) hb6
  have sz6 : w5.heap.size ≤ w6.heap.size := hb6.size
  clear T5 V5 M5 G5 E5 X5 D5 F5
  obtain ⟨A6, c6, hu6, -⟩ := hO6.form
  rw [Hn.out] at hu6
  subst hu6
  have Q6 := Lib.hid hO6.reads
  clear hO6
  refine hK.out _ _ ⟨cellOfBlk X6.out 0, cellOfBlk X6.out 1, cellOfBlk X6.out 2, cellOfBlk D6.out 0, cellOfBlk D6.out 1⟩ ?_
  clear hK Kc
  refine plan_step rfl (fun Kc hK => ?_)
  rw [if_pos (by rfl)]
  go_simp
  refine (toMatrix_any (k1, k2) _).mono ?_
  rintro e w7 ⟨rfl, hb7⟩
  have T7 : Hid (Below w0.heap.size w0 w7) := T6.out.trans (hb7.mono (by omega))
  have V7 : Hid (FontV w7 lo hi (.agg #[.string s, .slice B p d, .slice B2 q d2]) f) := V6.out.below (by omega) hb7
  have M7 : Hid (MagI w7 lo2 hi2 A ms) := M6.out.below (by omega) hb7
  have G7 : Hid (w7.cell? ⟨2, 0, none⟩ = some (.iface ct cu)) := (hb7.cell (p := ⟨2, 0, none⟩) (by show 2 < _; omega)).trans G6.out
  have E7 : Hid (ErrH w7) := (hb7.cell (p := ⟨1, 0, none⟩) (by show 1 < _; omega)).trans E6.out
  have X7 : Hid (Blk w7 (w0.heap.size) #[.string s, .slice B p d, .slice B2 q d2] 47) := X6.out.below hb7 (by omega)
  have D7 : Hid (Blk w7 (w0.heap.size + 1) #[.int .i64 k1, .int .i64 k2] 58) := D6.out.below hb7 (by omega)
  have F7 : Hid (FontV w7 w4.heap.size w5.heap.size v5 f) := F6.out.below (by omega) hb7
  have Q7 : Hid (MagI w7 w5.heap.size w6.heap.size A6 ms) := Q6.out.below (by omega) hb7
  have sz7 : w6.heap.size ≤ w7.heap.size := hb7.size
  clear T6 V6 M6 G6 E6 X6 D6 F6 Q6
  refine hK.out _ _ ⟨cellOfBlk X7.out 0, cellOfBlk X7.out 1, cellOfBlk X7.out 2, cellOfBlk D7.out 0, cellOfBlk D7.out 1⟩ ?_
  clear hK Kc
  refine plan_step rfl (fun Kc hK => ?_)
  rw [if_pos (by rfl)]
  go_simp
  refine (specDrop_any _ _ _ _ _ f _ n _ ms k1 k2 _ F7.out (by omega) hs Hn.out hn1 Q7.out (by omega) Hwf.out wfx).mono ?_
  rintro e w8 ⟨vs8, hs8, rfl, hO8, hb8⟩
  have T8 : Hid (Below w0.heap.size w0 w8) := T7.out.trans (hb8.mono (by omega))
  have V8 : Hid (FontV w8 lo hi (.agg #[.string s, .slice B p d, .slice B2 q d2]) f) := V7.out.below (by omega) hb8
  have M8 : Hid (MagI w8 lo2 hi2 A ms) := M7.out.below (by omega) hb8
  have G8 : Hid (w8.cell? ⟨2, 0, none⟩ = some (.iface ct cu)) := (hb8.cell (p := ⟨2, 0, none⟩) (by show 2 < _; omega)).trans G7.out
  have E8 : Hid (ErrH w8) := (hb8.cell (p := ⟨1, 0, none⟩) (by show 1 < _; omega)).trans E7.out
  have X8 : Hid (Blk w8 (w0.heap.size) #[.string s, .slice B p d, .slice B2 q d2] 47) := X7.out.below hb8 (by omega)
  have D8 : Hid (Blk w8 (w0.heap.size + 1) #[.int .i64 k1, .int .i64 k2] 58) := D7.out.below hb8 (by omega)
  have sz8 : w7.heap.size ≤ w8.heap.size := hb8.size
  clear T7 V7 M7 G7 E7 X7 D7 F7 Q7
  obtain ⟨Ag8, cg8, hvg8, -⟩ := hO8.form
  rw [HL.out] at hvg8 hO8
  rw [Hm.out] at hvg8
  subst hvg8
  rw [Hok.out, Hex.out]
  have I8 := Lib.hid hO8.reads
  clear hO8
  refine hK.out _ _ ⟨cellOfBlk X8.out 0, cellOfBlk X8.out 1, cellOfBlk X8.out 2, cellOfBlk D8.out 0, cellOfBlk D8.out 1⟩ ?_
  clear hK Kc
  refine plan_quiet rfl (by rfl) (v := ?_) ?_ ?_; rotate_left; (intro w1 hSw; obtain ⟨h0, h1, h2, h3, h4⟩ := hSw; go_simp; try (with_reducible rfl)); (try simp only [Act.put, List.setIfInBounds_toArray, List.set_cons_zero, List.set_cons_succ])
  refine plan_quiet rfl (by rfl) (v := ?_) ?_ ?_; rotate_left; (intro w1 hSw; obtain ⟨h0, h1, h2, h3, h4⟩ := hSw; go_simp; try (with_reducible rfl)); (try simp only [Act.put, List.setIfInBounds_toArray, List.set_cons_zero, List.set_cons_succ])
  refine plan_quiet rfl (by rfl) (v := ?_) ?_ ?_; rotate_left; (intro w1 hSw; obtain ⟨h0, h1, h2, h3, h4⟩ := hSw; go_simp; try (with_reducible rfl)); (try simp only [Act.put, List.setIfInBounds_toArray, List.set_cons_zero, List.set_cons_succ])
  refine plan_quiet rfl (by rfl) (v := ?_) ?_ ?_; rotate_left; (intro w1 hSw; obtain ⟨h0, h1, h2, h3, h4⟩ := hSw; go_simp; try (with_reducible rfl)); (try simp only [Act.put, List.setIfInBounds_toArray, List.set_cons_zero, List.set_cons_succ])
  refine plan_quiet rfl (by rfl) (v := ?_) ?_ ?_; rotate_left; (intro w1 hSw; obtain ⟨h0, h1, h2, h3, h4⟩ := hSw; go_simp; try (with_reducible rfl)); (try simp only [Act.put, List.setIfInBounds_toArray, List.set_cons_zero, List.set_cons_succ])
  refine plan_quiet rfl (by rfl) (v := ?_) ?_ ?_; rotate_left; (intro w1 hSw; obtain ⟨h0, h1, h2, h3, h4⟩ := hSw; go_simp; try (with_reducible rfl)); (try simp only [Act.put, List.setIfInBounds_toArray, List.set_cons_zero, List.set_cons_succ])
  refine plan_quiet rfl (by rfl) (v := ?_) ?_ ?_; rotate_left; (intro w1 hSw; obtain ⟨h0, h1, h2, h3, h4⟩ := hSw; go_simp; try (with_reducible rfl)); (try simp only [Act.put, List.setIfInBounds_toArray, List.set_cons_zero, List.set_cons_succ])
  refine plan_end ?_
  have q0 := cellOfBlk X8.out 0
  have q1 := cellOfBlk X8.out 1
  have q2 := cellOfBlk X8.out 2
  go_wp2_with fail
  clear q0 q1 q2
  refine (toFont_any lo hi _ f _ V8.out (by omega) hs).mono ?_
  rintro e w9 ⟨v9, rfl, hO9, hb9⟩
  have T9 : Hid (Below w0.heap.size w0 w9) := T8.out.trans (hb9.mono (by omega))
  have V9 : Hid (FontV w9 lo hi (.agg #[.string s, .slice B p d, .slice B2 q d2]) f) := V8.out.below (by omega) hb9
  have M9 : Hid (MagI w9 lo2 hi2 A ms) := M8.out.below (by omega) hb9
  have G9 : Hid (w9.cell? ⟨2, 0, none⟩ = some (.iface ct cu)) := (hb9.cell (p := ⟨2, 0, none⟩) (by show 2 < _; omega)).trans G8.out
  have E9 : Hid (ErrH w9) := (hb9.cell (p := ⟨1, 0, none⟩) (by show 1 < _; omega)).trans E8.out
  have X9 : Hid (Blk w9 (w0.heap.size) #[.string s, .slice B p d, .slice B2 q d2] 47) := X8.out.below hb9 (by omega)
  have D9 : Hid (Blk w9 (w0.heap.size + 1) #[.int .i64 k1, .int .i64 k2] 58) := D8.out.below hb9 (by omega)
  have I9 : Hid (MagI w9 w7.heap.size w8.heap.size Ag8 L) := I8.out.below (by omega) hb9
  have sz9 : w8.heap.size ≤ w9.heap.size := hb9.size
  clear T8 V8 M8 G8 E8 X8 D8 I8
  have F9 := Lib.hid hO9.font
  obtain ⟨B6, d6, C6, D6, hv6⟩ := fontForm F9.out
  obtain ⟨s', hs'⟩ : ∃ s, f.s = s := ⟨_, rfl⟩
  obtain ⟨p', hp'⟩ : ∃ n, f.ws.length = n := ⟨_, rfl⟩
  obtain ⟨q', hq'⟩ : ∃ m, f.cs.length = m := ⟨_, rfl⟩
  rw [hs', hp', hq'] at hv6
  have FO9 : Hid (FontO w9 w8.heap.size w9.heap.size v9 f) := hO9
  clear hO9
  subst hv6
  clear hs' hp' hq'
  obtain ⟨w10, hw10, hb10, hz10, hX10⟩ := mxWorld w9 #[.string s', .slice B6 p' d6, .slice C6 q' D6] 25
  have T10 : Hid (Below w0.heap.size w0 w10) := T9.out.trans (hb10.mono (by omega))
  have V10 : Hid (FontV w10 lo hi (.agg #[.string s, .slice B p d, .slice B2 q d2]) f) := V9.out.below (by omega) hb10
  have M10 : Hid (MagI w10 lo2 hi2 A ms) := M9.out.below (by omega) hb10
  have G10 : Hid (w10.cell? ⟨2, 0, none⟩ = some (.iface ct cu)) := (hb10.cell (p := ⟨2, 0, none⟩) (by show 2 < _; omega)).trans G9.out
  have E10 : Hid (ErrH w10) := (hb10.cell (p := ⟨1, 0, none⟩) (by show 1 < _; omega)).trans E9.out
  have X10 : Hid (Blk w10 (w0.heap.size) #[.string s, .slice B p d, .slice B2 q d2] 47) := X9.out.below hb10 (by omega)
  have D10 : Hid (Blk w10 (w0.heap.size + 1) #[.int .i64 k1, .int .i64 k2] 58) := D9.out.below hb10 (by omega)
  have I10 : Hid (MagI w10 w7.heap.size w8.heap.size Ag8 L) := I9.out.below (by omega) hb10
  have F10 : Hid (FontV w10 w8.heap.size w9.heap.size (.agg #[.string s', .slice B6 p' d6, .slice C6 q' D6]) f) := F9.out.below (by omega) hb10
  have FO10 : Hid (FontO w10 w8.heap.size w9.heap.size (.agg #[.string s', .slice B6 p' d6, .slice C6 q' D6]) f) := FO9.out.below (hb10.mono (by omega))
  have sz10 : w9.heap.size ≤ w10.heap.size := hb10.size
  clear T9 V9 M9 G9 E9 X9 D9 I9 F9 FO9
  have Y10 : Hid (Blk w10 (w9.heap.size) #[.string s', .slice B6 p' d6, .slice C6 q' D6] 25) := by show Blk _ _ _ _; exact hX10
  go_wp2_with fail
  refine (toMatrixSS_any lo2 hi2 _ _ _ ms _ Hn.out hn1 Hlim.out (by omega) M10.out).mono ?_
  rintro e w11 ⟨u11, hs11, rfl, hO11, hb11⟩
  have T11 : Hid (Below w0.heap.size w0 w11) := T10.out.trans (hb11.mono (by omega))
  have V11 : Hid (FontV w11 lo hi (.agg #[.string s, .slice B p d, .slice B2 q d2]) f) := V10.out.below (by omega) hb11
  have M11 : Hid (MagI w11 lo2 hi2 A ms) := M10.out.below (by omega) hb11
  have G11 : Hid (w11.cell? ⟨2, 0, none⟩ = some (.iface ct cu)) := (hb11.cell (p := ⟨2, 0, none⟩) (by show 2 < _; omega)).trans G10.out
  have E11 : Hid (ErrH w11) := (hb11.cell (p := ⟨1, 0, none⟩) (by show 1 < _; omega)).trans E10.out
  have X11 : Hid (Blk w11 (w0.heap.size) #[.string s, .slice B p d, .slice B2 q d2] 47) := X10.out.below hb11 (by omega)
  have D11 : Hid (Blk w11 (w0.heap.size + 1) #[.int .i64 k1, .int .i64 k2] 58) := D10.out.below hb11 (by omega)
  have I11 : Hid (MagI w11 w7.heap.size w8.heap.size Ag8 L) := I10.out.below (by omega) hb11
  have F11 : Hid (FontV w11 w8.heap.size w9.heap.size (.agg #[.string s', .slice B6 p' d6, .slice C6 q' D6]) f) := F10.out.below (by omega) hb11
  have FO11 : Hid (FontO w11 w8.heap.size w9.heap.size (.agg #[.string s', .slice B6 p' d6, .slice C6 q' D6]) f) := FO10.out.below (hb11.mono (by omega))
  have Y11 : Hid (Blk w11 (w9.heap.size) #[.string s', .slice B6 p' d6, .slice C6 q' D6] 25) := Y10.out.below hb11 (by omega)
  have sz11 : w10.heap.size ≤ w11.heap.size := hb11.size
  clear T10 V10 M10 G10 E10 X10 D10 I10 F10 FO10 Y10
  obtain ⟨A11, c11, hu11, -⟩ := hO11.form
  rw [Hn.out] at hu11
  subst hu11
  have Q11 := Lib.hid hO11.reads
  have P11 : Hid (OwnMag w11 w10.heap.size w11.heap.size (.slice A11 n c11) hs11 ms) := hO11
  clear hO11
  go_wp2_with fail
  refine wp_region_plan (.take 0 (.take 1 (.take 2 (.one 3 (.one 4 (.take 5 (.take 6 (.take 7 (.take 8 (.take 9 (.take 10 (.take 11 .done)))))))))))) (fun w' => w'.cell? ⟨w9.heap.size, 0, none⟩ = some (.string s') ∧ w'.cell? ⟨w9.heap.size, 1, none⟩ = some (.slice B6 p' d6) ∧ w'.cell? ⟨w9.heap.size, 2, none⟩ = some (.slice C6 q' D6) ∧ w'.cell? ⟨w0.heap.size + 1, 0, none⟩ = some (.int .i64 k1) ∧ w'.cell? ⟨w0.heap.size + 1, 1, none⟩ = some (.int .i64 k2)) (by kernel_rfl) (by kernel_rfl) (by kernel_rfl) (by intro c a d v w h; cases d <;> exact h) ⟨cellOfBlk Y11.out 0, cellOfBlk Y11.out 1, cellOfBlk Y11.out 2, cellOfBlk D11.out 0, cellOfBlk D11.out 1⟩ ?_
  obtain ⟨w12, hwd⟩ : ∃ x, w11.drew = x := ⟨_, rfl⟩
  have hb12 : Below w11.heap.size w11 w12 := by rw [← hwd]; exact (Below.refl _ _).drew
  have hsz12 : w12.heap.size = w11.heap.size := by rw [← hwd]; rfl
  have T12 : Hid (Below w0.heap.size w0 w12) := T11.out.trans (hb12.mono (by omega))
  have V12 : Hid (FontV w12 lo hi (.agg #[.string s, .slice B p d, .slice B2 q d2]) f) := V11.out.below (by omega) hb12
  have M12 : Hid (MagI w12 lo2 hi2 A ms) := M11.out.below (by omega) hb12
  have G12 : Hid (w12.cell? ⟨2, 0, none⟩ = some (.iface ct cu)) := (hb12.cell (p := ⟨2, 0, none⟩) (by show 2 < _; omega)).trans G11.out
  have E12 : Hid (ErrH w12) := (hb12.cell (p := ⟨1, 0, none⟩) (by show 1 < _; omega)).trans E11.out
  have X12 : Hid (Blk w12 (w0.heap.size) #[.string s, .slice B p d, .slice B2 q d2] 47) := X11.out.below hb12 (by omega)
  have D12 : Hid (Blk w12 (w0.heap.size + 1) #[.int .i64 k1, .int .i64 k2] 58) := D11.out.below hb12 (by omega)
  have I12 : Hid (MagI w12 w7.heap.size w8.heap.size Ag8 L) := I11.out.below (by omega) hb12
  have F12 : Hid (FontV w12 w8.heap.size w9.heap.size (.agg #[.string s', .slice B6 p' d6, .slice C6 q' D6]) f) := F11.out.below (by omega) hb12
  have FO12 : Hid (FontO w12 w8.heap.size w9.heap.size (.agg #[.string s', .slice B6 p' d6, .slice C6 q' D6]) f) := FO11.out.below (hb12.mono (by omega))
  have Y12 : Hid (Blk w12 (w9.heap.size) #[.string s', .slice B6 p' d6, .slice C6 q' D6] 25) := Y11.out.below hb12 (by omega)
  have Q12 : Hid (MagI w12 w10.heap.size w11.heap.size A11 ms) := Q11.out.below (by omega) hb12
  have P12 : Hid (OwnMag w12 w10.heap.size w11.heap.size (.slice A11 n c11) hs11 ms) := P11.out.below (hb12.mono (by omega))
  have sz12 : w11.heap.size ≤ w12.heap.size := hb12.size
  clear T11 V11 M11 G11 E11 X11 D11 I11 F11 FO11 Y11 Q11 P11
  rw [hwd]
  clear hwd
  refine plan_quiet rfl (by rfl) (v := ?_) ?_ ?_; rotate_left; (intro w1 hSw; obtain ⟨h0, h1, h2, h3, h4⟩ := hSw; go_simp; try (with_reducible rfl)); (try simp only [Act.put, List.setIfInBounds_toArray, List.set_cons_zero, List.set_cons_succ])
  refine plan_quiet rfl (by rfl) (v := ?_) ?_ ?_; rotate_left; (intro w1 hSw; obtain ⟨h0, h1, h2, h3, h4⟩ := hSw; go_simp; try (with_reducible rfl)); (try simp only [Act.put, List.setIfInBounds_toArray, List.set_cons_zero, List.set_cons_succ])
  refine plan_quiet rfl (by rfl) (v := ?_) ?_ ?_; rotate_left; (intro w1 hSw; obtain ⟨h0, h1, h2, h3, h4⟩ := hSw; go_simp; try (with_reducible rfl)); (try simp only [Act.put, List.setIfInBounds_toArray, List.set_cons_zero, List.set_cons_succ])
  refine plan_step rfl (fun Kc hK => ?_)
  rw [if_pos (by rfl)]
  go_simp
  refine (toMatrix_any (k1, k2) _).mono ?_
  rintro e w13 ⟨rfl, hb13⟩
  have T13 : Hid (Below w0.heap.size w0 w13) := T12.out.trans (hb13.mono (by omega))
  have V13 : Hid (FontV w13 lo hi (.agg #[.string s, .slice B p d, .slice B2 q d2]) f) := V12.out.below (by omega) hb13
  have M13 : Hid (MagI w13 lo2 hi2 A ms) := M12.out.below (by omega) hb13
  have G13 : Hid (w13.cell? ⟨2, 0, none⟩ = some (.iface ct cu)) := (hb13.cell (p := ⟨2, 0, none⟩) (by show 2 < _; omega)).trans G12.out
  have E13 : Hid (ErrH w13) := (hb13.cell (p := ⟨1, 0, none⟩) (by show 1 < _; omega)).trans E12.out
  have X13 : Hid (Blk w13 (w0.heap.size) #[.string s, .slice B p d, .slice B2 q d2] 47) := X12.out.below hb13 (by omega)
  have D13 : Hid (Blk w13 (w0.heap.size + 1) #[.int .i64 k1, .int .i64 k2] 58) := D12.out.below hb13 (by omega)
  have I13 : Hid (MagI w13 w7.heap.size w8.heap.size Ag8 L) := I12.out.below (by omega) hb13
  have F13 : Hid (FontV w13 w8.heap.size w9.heap.size (.agg #[.string s', .slice B6 p' d6, .slice C6 q' D6]) f) := F12.out.below (by omega) hb13
  have FO13 : Hid (FontO w13 w8.heap.size w9.heap.size (.agg #[.string s', .slice B6 p' d6, .slice C6 q' D6]) f) := FO12.out.below (hb13.mono (by omega))
  have Y13 : Hid (Blk w13 (w9.heap.size) #[.string s', .slice B6 p' d6, .slice C6 q' D6] 25) := Y12.out.below hb13 (by omega)
  have Q13 : Hid (MagI w13 w10.heap.size w11.heap.size A11 ms) := Q12.out.below (by omega) hb13
  have P13 : Hid (OwnMag w13 w10.heap.size w11.heap.size (.slice A11 n c11) hs11 ms) := P12.out.below (hb13.mono (by omega))
  have sz13 : w12.heap.size ≤ w13.heap.size := hb13.size
  clear T12 V12 M12 G12 E12 X12 D12 I12 F12 FO12 Y12 Q12 P12
  refine hK.out _ _ ⟨cellOfBlk Y13.out 0, cellOfBlk Y13.out 1, cellOfBlk Y13.out 2, cellOfBlk D13.out 0, cellOfBlk D13.out 1⟩ ?_
  clear hK Kc
  refine plan_step rfl (fun Kc hK => ?_)
  rw [if_pos (by rfl)]
  go_simp
  refine (implDrop_any _ _ _ _ _ f _ n _ ms k1 k2 _ F13.out (by omega) hs Hn.out hn1 Q13.out (by omega) Hwf.out wfx ct cu G13.out E13.out).mono ?_
  rintro e w14 ⟨vg14, hg14, rfl, hO14, hb14⟩
  have T14 : Hid (Below w0.heap.size w0 w14) := T13.out.trans (hb14.mono (by omega))
  have V14 : Hid (FontV w14 lo hi (.agg #[.string s, .slice B p d, .slice B2 q d2]) f) := V13.out.below (by omega) hb14
  have M14 : Hid (MagI w14 lo2 hi2 A ms) := M13.out.below (by omega) hb14
  have G14 : Hid (w14.cell? ⟨2, 0, none⟩ = some (.iface ct cu)) := (hb14.cell (p := ⟨2, 0, none⟩) (by show 2 < _; omega)).trans G13.out
  have E14 : Hid (ErrH w14) := (hb14.cell (p := ⟨1, 0, none⟩) (by show 1 < _; omega)).trans E13.out
  have X14 : Hid (Blk w14 (w0.heap.size) #[.string s, .slice B p d, .slice B2 q d2] 47) := X13.out.below hb14 (by omega)
  have D14 : Hid (Blk w14 (w0.heap.size + 1) #[.int .i64 k1, .int .i64 k2] 58) := D13.out.below hb14 (by omega)
  have I14 : Hid (MagI w14 w7.heap.size w8.heap.size Ag8 L) := I13.out.below (by omega) hb14
  have F14 : Hid (FontV w14 w8.heap.size w9.heap.size (.agg #[.string s', .slice B6 p' d6, .slice C6 q' D6]) f) := F13.out.below (by omega) hb14
  have FO14 : Hid (FontO w14 w8.heap.size w9.heap.size (.agg #[.string s', .slice B6 p' d6, .slice C6 q' D6]) f) := FO13.out.below (hb14.mono (by omega))
  have Y14 : Hid (Blk w14 (w9.heap.size) #[.string s', .slice B6 p' d6, .slice C6 q' D6] 25) := Y13.out.below hb14 (by omega)
  have Q14 : Hid (MagI w14 w10.heap.size w11.heap.size A11 ms) := Q13.out.below (by omega) hb14
  have P14 : Hid (OwnMag w14 w10.heap.size w11.heap.size (.slice A11 n c11) hs11 ms) := P13.out.below (hb14.mono (by omega))
  have sz14 : w13.heap.size ≤ w14.heap.size := hb14.size
  clear T13 V13 M13 G13 E13 X13 D13 I13 F13 FO13 Y13 Q13 P13
  obtain ⟨Ag14, cg14, hvg14, -⟩ := hO14.form
  rw [HL.out] at hvg14 hO14
  rw [Hm.out] at hvg14
  subst hvg14
  rw [Hok.out, Hex.out]
  have J14 := Lib.hid hO14.reads
  have W14 : Hid (OwnMag w14 w13.heap.size w14.heap.size (.slice Ag14 m cg14) hg14 L) := hO14
  clear hO14
  refine hK.out _ _ ⟨cellOfBlk Y14.out 0, cellOfBlk Y14.out 1, cellOfBlk Y14.out 2, cellOfBlk D14.out 0, cellOfBlk D14.out 1⟩ ?_
  clear hK Kc
  refine plan_quiet rfl (by rfl) (v := ?_) ?_ ?_; rotate_left; (intro w1 hSw; obtain ⟨h0, h1, h2, h3, h4⟩ := hSw; go_simp; try (with_reducible rfl)); (try simp only [Act.put, List.setIfInBounds_toArray, List.set_cons_zero, List.set_cons_succ])
  refine plan_quiet rfl (by rfl) (v := ?_) ?_ ?_; rotate_left; (intro w1 hSw; obtain ⟨h0, h1, h2, h3, h4⟩ := hSw; go_simp; try (with_reducible rfl)); (try simp only [Act.put, List.setIfInBounds_toArray, List.set_cons_zero, List.set_cons_succ])
  refine plan_quiet rfl (by rfl) (v := ?_) ?_ ?_; rotate_left; (intro w1 hSw; obtain ⟨h0, h1, h2, h3, h4⟩ := hSw; go_simp; try (with_reducible rfl)); (try simp only [Act.put, List.setIfInBounds_toArray, List.set_cons_zero, List.set_cons_succ])
  refine plan_quiet rfl (by rfl) (v := ?_) ?_ ?_; rotate_left; (intro w1 hSw; obtain ⟨h0, h1, h2, h3, h4⟩ := hSw; go_simp; try (with_reducible rfl)); (try simp only [Act.put, List.setIfInBounds_toArray, List.set_cons_zero, List.set_cons_succ])
  refine plan_quiet rfl (by rfl) (v := ?_) ?_ ?_; rotate_left; (intro w1 hSw; obtain ⟨h0, h1, h2, h3, h4⟩ := hSw; go_simp; try (with_reducible rfl)); (try simp only [Act.put, List.setIfInBounds_toArray, List.set_cons_zero, List.set_cons_succ])
  refine plan_quiet rfl (by rfl) (v := ?_) ?_ ?_; rotate_left; (intro w1 hSw; obtain ⟨h0, h1, h2, h3, h4⟩ := hSw; go_simp; try (with_reducible rfl)); (try simp only [Act.put, List.setIfInBounds_toArray, List.set_cons_zero, List.set_cons_succ])
  refine plan_quiet rfl (by rfl) (v := ?_) ?_ ?_; rotate_left; (intro w1 hSw; obtain ⟨h0, h1, h2, h3, h4⟩ := hSw; go_simp; try (with_reducible rfl)); (try simp only [Act.put, List.setIfInBounds_toArray, List.set_cons_zero, List.set_cons_succ])
  refine plan_end ?_
  have hbb : (ok != ok) = false := by simp
  have hee : (ex != ex) = false := by simp
  go_wp2_with fail
  refine (eqMatrixSS_same _ _ _ _ _ _ _ _ _ L _ Hm.out hms Hlw.out (by omega) (by omega) J14.out I14.out).mono ?_
  rintro e w15 ⟨rfl, hb15⟩
  have T15 : Hid (Below w0.heap.size w0 w15) := T14.out.trans (hb15.mono (by omega))
  have V15 : Hid (FontV w15 lo hi (.agg #[.string s, .slice B p d, .slice B2 q d2]) f) := V14.out.below (by omega) hb15
  have M15 : Hid (MagI w15 lo2 hi2 A ms) := M14.out.below (by omega) hb15
  have G15 : Hid (w15.cell? ⟨2, 0, none⟩ = some (.iface ct cu)) := (hb15.cell (p := ⟨2, 0, none⟩) (by show 2 < _; omega)).trans G14.out
  have E15 : Hid (ErrH w15) := (hb15.cell (p := ⟨1, 0, none⟩) (by show 1 < _; omega)).trans E14.out
  have X15 : Hid (Blk w15 (w0.heap.size) #[.string s, .slice B p d, .slice B2 q d2] 47) := X14.out.below hb15 (by omega)
  have D15 : Hid (Blk w15 (w0.heap.size + 1) #[.int .i64 k1, .int .i64 k2] 58) := D14.out.below hb15 (by omega)
  have I15 : Hid (MagI w15 w7.heap.size w8.heap.size Ag8 L) := I14.out.below (by omega) hb15
  have F15 : Hid (FontV w15 w8.heap.size w9.heap.size (.agg #[.string s', .slice B6 p' d6, .slice C6 q' D6]) f) := F14.out.below (by omega) hb15
  have FO15 : Hid (FontO w15 w8.heap.size w9.heap.size (.agg #[.string s', .slice B6 p' d6, .slice C6 q' D6]) f) := FO14.out.below (hb15.mono (by omega))
  have Y15 : Hid (Blk w15 (w9.heap.size) #[.string s', .slice B6 p' d6, .slice C6 q' D6] 25) := Y14.out.below hb15 (by omega)
  have Q15 : Hid (MagI w15 w10.heap.size w11.heap.size A11 ms) := Q14.out.below (by omega) hb15
  have P15 : Hid (OwnMag w15 w10.heap.size w11.heap.size (.slice A11 n c11) hs11 ms) := P14.out.below (hb15.mono (by omega))
  have J15 : Hid (MagI w15 w13.heap.size w14.heap.size Ag14 L) := J14.out.below (by omega) hb15
  have W15 : Hid (OwnMag w15 w13.heap.size w14.heap.size (.slice Ag14 m cg14) hg14 L) := W14.out.below (hb15.mono (by omega))
  have sz15 : w14.heap.size ≤ w15.heap.size := hb15.size
  clear T14 V14 M14 G14 E14 X14 D14 I14 F14 FO14 Y14 Q14 P14 J14 W14
  have q0 := cellOfBlk X15.out 0
  have q1 := cellOfBlk X15.out 1
  have q2 := cellOfBlk X15.out 2
  have r0 := cellOfBlk Y15.out 0
  have r1 := cellOfBlk Y15.out 1
  have r2 := cellOfBlk Y15.out 2
  go_upto_region 14 with fail
  have CF := Lib.hid (toFont_any lo hi _ f w15.drew (V15.out.below (B := w15.heap.size) (by omega) (Below.refl _ _).drew) (by show _ ≤ w15.heap.size; omega) hs)
  go_region_held3 (fun w' => (w'.cell? ⟨w0.heap.size, 0, none⟩ = some (.string s) ∧ w'.cell? ⟨w0.heap.size, 1, none⟩ = some (.slice B p d) ∧ w'.cell? ⟨w0.heap.size, 2, none⟩ = some (.slice B2 q d2)) ∧ (w'.cell? ⟨w9.heap.size, 0, none⟩ = some (.string s') ∧ w'.cell? ⟨w9.heap.size, 1, none⟩ = some (.slice B6 p' d6) ∧ w'.cell? ⟨w9.heap.size, 2, none⟩ = some (.slice C6 q' D6)))
    (first | go_keep | exact ⟨⟨cellOfBlk X16.out 0, cellOfBlk X16.out 1, cellOfBlk X16.out 2⟩, ⟨cellOfBlk Y16.out 0, cellOfBlk Y16.out 1, cellOfBlk Y16.out 2⟩⟩ | exact ⟨⟨(hb17.cell (by show w0.heap.size < _; omega)).trans (cellOfBlk X16.out 0), (hb17.cell (by show w0.heap.size < _; omega)).trans (cellOfBlk X16.out 1), (hb17.cell (by show w0.heap.size < _; omega)).trans (cellOfBlk X16.out 2)⟩, ⟨(hb17.cell (by show w9.heap.size < _; omega)).trans (cellOfBlk Y16.out 0), (hb17.cell (by show w9.heap.size < _; omega)).trans (cellOfBlk Y16.out 1), (hb17.cell (by show w9.heap.size < _; omega)).trans (cellOfBlk Y16.out 2)⟩⟩)
    (first
      | (go_at_call 25; refine CF.out.mono ?_; rintro e w16 ⟨v16, rfl, hO16, hbd⟩; have hb16 := undrew hbd; have T16 : Hid (Below w0.heap.size w0 w16) := T15.out.trans (hb16.mono (by omega)); have V16 : Hid (FontV w16 lo hi (.agg #[.string s, .slice B p d, .slice B2 q d2]) f) := V15.out.below (by omega) hb16; have M16 : Hid (MagI w16 lo2 hi2 A ms) := M15.out.below (by omega) hb16; have G16 : Hid (w16.cell? ⟨2, 0, none⟩ = some (.iface ct cu)) := (hb16.cell (p := ⟨2, 0, none⟩) (by show 2 < _; omega)).trans G15.out; have E16 : Hid (ErrH w16) := (hb16.cell (p := ⟨1, 0, none⟩) (by show 1 < _; omega)).trans E15.out; have X16 : Hid (Blk w16 (w0.heap.size) #[.string s, .slice B p d, .slice B2 q d2] 47) := X15.out.below hb16 (by omega); have D16 : Hid (Blk w16 (w0.heap.size + 1) #[.int .i64 k1, .int .i64 k2] 58) := D15.out.below hb16 (by omega); have I16 : Hid (MagI w16 w7.heap.size w8.heap.size Ag8 L) := I15.out.below (by omega) hb16; have F16 : Hid (FontV w16 w8.heap.size w9.heap.size (.agg #[.string s', .slice B6 p' d6, .slice C6 q' D6]) f) := F15.out.below (by omega) hb16; have FO16 : Hid (FontO w16 w8.heap.size w9.heap.size (.agg #[.string s', .slice B6 p' d6, .slice C6 q' D6]) f) := FO15.out.below (hb16.mono (by omega)); have Y16 : Hid (Blk w16 (w9.heap.size) #[.string s', .slice B6 p' d6, .slice C6 q' D6] 25) := Y15.out.below hb16 (by omega); have Q16 : Hid (MagI w16 w10.heap.size w11.heap.size A11 ms) := Q15.out.below (by omega) hb16; have P16 : Hid (OwnMag w16 w10.heap.size w11.heap.size (.slice A11 n c11) hs11 ms) := P15.out.below (hb16.mono (by omega)); have J16 : Hid (MagI w16 w13.heap.size w14.heap.size Ag14 L) := J15.out.below (by omega) hb16; have W16 : Hid (OwnMag w16 w13.heap.size w14.heap.size (.slice Ag14 m cg14) hg14 L) := W15.out.below (hb16.mono (by omega)); have sz16 : w15.heap.size ≤ w16.heap.size := hb16.size; clear T15 V15 M15 G15 E15 X15 D15 I15 F15 FO15 Y15 Q15 P15 J15 W15; have H16 : Hid (FontV w16 w15.heap.size w16.heap.size v16 f) := hO16.font)
      | (go_at_call 29; refine (eqFont_same _ _ _ _ _ _ f _ F16.out H16.out (by omega) (Nat.le_refl _) hs).mono ?_; rintro e w17 ⟨rfl, hb17⟩))
  clear q0 q1 q2 r0 r1 r2 CF
  have T17 : Hid (Below w0.heap.size w0 w17) := T16.out.trans (hb17.mono (by omega))
  have V17 : Hid (FontV w17 lo hi (.agg #[.string s, .slice B p d, .slice B2 q d2]) f) := V16.out.below (by omega) hb17
  have M17 : Hid (MagI w17 lo2 hi2 A ms) := M16.out.below (by omega) hb17
  have G17 : Hid (w17.cell? ⟨2, 0, none⟩ = some (.iface ct cu)) := (hb17.cell (p := ⟨2, 0, none⟩) (by show 2 < _; omega)).trans G16.out
  have E17 : Hid (ErrH w17) := (hb17.cell (p := ⟨1, 0, none⟩) (by show 1 < _; omega)).trans E16.out
  have X17 : Hid (Blk w17 (w0.heap.size) #[.string s, .slice B p d, .slice B2 q d2] 47) := X16.out.below hb17 (by omega)
  have D17 : Hid (Blk w17 (w0.heap.size + 1) #[.int .i64 k1, .int .i64 k2] 58) := D16.out.below hb17 (by omega)
  have I17 : Hid (MagI w17 w7.heap.size w8.heap.size Ag8 L) := I16.out.below (by omega) hb17
  have F17 : Hid (FontV w17 w8.heap.size w9.heap.size (.agg #[.string s', .slice B6 p' d6, .slice C6 q' D6]) f) := F16.out.below (by omega) hb17
  have FO17 : Hid (FontO w17 w8.heap.size w9.heap.size (.agg #[.string s', .slice B6 p' d6, .slice C6 q' D6]) f) := FO16.out.below (hb17.mono (by omega))
  have Y17 : Hid (Blk w17 (w9.heap.size) #[.string s', .slice B6 p' d6, .slice C6 q' D6] 25) := Y16.out.below hb17 (by omega)
  have Q17 : Hid (MagI w17 w10.heap.size w11.heap.size A11 ms) := Q16.out.below (by omega) hb17
  have P17 : Hid (OwnMag w17 w10.heap.size w11.heap.size (.slice A11 n c11) hs11 ms) := P16.out.below (hb17.mono (by omega))
  have J17 : Hid (MagI w17 w13.heap.size w14.heap.size Ag14 L) := J16.out.below (by omega) hb17
  have W17 : Hid (OwnMag w17 w13.heap.size w14.heap.size (.slice Ag14 m cg14) hg14 L) := W16.out.below (hb17.mono (by omega))
  have sz17 : w16.heap.size ≤ w17.heap.size := hb17.size
  clear T16 V16 M16 G16 E16 X16 D16 I16 F16 FO16 Y16 Q16 P16 J16 W16 H16
  go_wp2_with fail
  refine (toMatrixSS_any lo2 hi2 _ _ _ ms _ Hn.out hn1 Hlim.out (by omega) M17.out).mono ?_
  rintro e w18 ⟨u18, hs18, rfl, hO18, hb18⟩
  have T18 : Hid (Below w0.heap.size w0 w18) := T17.out.trans (hb18.mono (by omega))
  have V18 : Hid (FontV w18 lo hi (.agg #[.string s, .slice B p d, .slice B2 q d2]) f) := V17.out.below (by omega) hb18
  have M18 : Hid (MagI w18 lo2 hi2 A ms) := M17.out.below (by omega) hb18
  have G18 : Hid (w18.cell? ⟨2, 0, none⟩ = some (.iface ct cu)) := (hb18.cell (p := ⟨2, 0, none⟩) (by show 2 < _; omega)).trans G17.out
  have E18 : Hid (ErrH w18) := (hb18.cell (p := ⟨1, 0, none⟩) (by show 1 < _; omega)).trans E17.out
  have X18 : Hid (Blk w18 (w0.heap.size) #[.string s, .slice B p d, .slice B2 q d2] 47) := X17.out.below hb18 (by omega)
  have D18 : Hid (Blk w18 (w0.heap.size + 1) #[.int .i64 k1, .int .i64 k2] 58) := D17.out.below hb18 (by omega)
  have I18 : Hid (MagI w18 w7.heap.size w8.heap.size Ag8 L) := I17.out.below (by omega) hb18
  have F18 : Hid (FontV w18 w8.heap.size w9.heap.size (.agg #[.string s', .slice B6 p' d6, .slice C6 q' D6]) f) := F17.out.below (by omega) hb18
  have FO18 : Hid (FontO w18 w8.heap.size w9.heap.size (.agg #[.string s', .slice B6 p' d6, .slice C6 q' D6]) f) := FO17.out.below (hb18.mono (by omega))
  have Y18 : Hid (Blk w18 (w9.heap.size) #[.string s', .slice B6 p' d6, .slice C6 q' D6] 25) := Y17.out.below hb18 (by omega)
  have Q18 : Hid (MagI w18 w10.heap.size w11.heap.size A11 ms) := Q17.out.below (by omega) hb18
  have P18 : Hid (OwnMag w18 w10.heap.size w11.heap.size (.slice A11 n c11) hs11 ms) := P17.out.below (hb18.mono (by omega))
  have J18 : Hid (MagI w18 w13.heap.size w14.heap.size Ag14 L) := J17.out.below (by omega) hb18
  have W18 : Hid (OwnMag w18 w13.heap.size w14.heap.size (.slice Ag14 m cg14) hg14 L) := W17.out.below (hb18.mono (by omega))
  have sz18 : w17.heap.size ≤ w18.heap.size := hb18.size
  clear T17 V17 M17 G17 E17 X17 D17 I17 F17 FO17 Y17 Q17 P17 J17 W17
  obtain ⟨A18, c18, hu18, -⟩ := hO18.form
  rw [Hn.out] at hu18
  subst hu18
  have H18 := Lib.hid hO18.reads
  clear hO18
  go_wp2_with fail
  refine (eqMatrixSS_same _ _ _ _ _ _ _ _ _ ms _ Hn.out hn1 Hlim.out (by omega) (Nat.le_refl _) Q18.out H18.out).mono ?_
  rintro e w19 ⟨rfl, hb19⟩
  have T19 : Hid (Below w0.heap.size w0 w19) := T18.out.trans (hb19.mono (by omega))
  have V19 : Hid (FontV w19 lo hi (.agg #[.string s, .slice B p d, .slice B2 q d2]) f) := V18.out.below (by omega) hb19
  have M19 : Hid (MagI w19 lo2 hi2 A ms) := M18.out.below (by omega) hb19
  have G19 : Hid (w19.cell? ⟨2, 0, none⟩ = some (.iface ct cu)) := (hb19.cell (p := ⟨2, 0, none⟩) (by show 2 < _; omega)).trans G18.out
  have E19 : Hid (ErrH w19) := (hb19.cell (p := ⟨1, 0, none⟩) (by show 1 < _; omega)).trans E18.out
  have X19 : Hid (Blk w19 (w0.heap.size) #[.string s, .slice B p d, .slice B2 q d2] 47) := X18.out.below hb19 (by omega)
  have D19 : Hid (Blk w19 (w0.heap.size + 1) #[.int .i64 k1, .int .i64 k2] 58) := D18.out.below hb19 (by omega)
  have I19 : Hid (MagI w19 w7.heap.size w8.heap.size Ag8 L) := I18.out.below (by omega) hb19
  have FO19 : Hid (FontO w19 w8.heap.size w9.heap.size (.agg #[.string s', .slice B6 p' d6, .slice C6 q' D6]) f) := FO18.out.below (hb19.mono (by omega))
  have Y19 : Hid (Blk w19 (w9.heap.size) #[.string s', .slice B6 p' d6, .slice C6 q' D6] 25) := Y18.out.below hb19 (by omega)
  have P19 : Hid (OwnMag w19 w10.heap.size w11.heap.size (.slice A11 n c11) hs11 ms) := P18.out.below (hb19.mono (by omega))
  have J19 : Hid (MagI w19 w13.heap.size w14.heap.size Ag14 L) := J18.out.below (by omega) hb19
  have W19 : Hid (OwnMag w19 w13.heap.size w14.heap.size (.slice Ag14 m cg14) hg14 L) := W18.out.below (hb19.mono (by omega))
  have sz19 : w18.heap.size ≤ w19.heap.size := hb19.size
  clear T18 V18 M18 G18 E18 X18 D18 I18 F18 FO18 Y18 Q18 P18 J18 W18 H18
  have r0 := cellOfBlk Y19.out 0
  have r1 := cellOfBlk Y19.out 1
  have r2 := cellOfBlk Y19.out 2
  go_wp2_with fail
  clear r0 r1 r2
  refine (markFont_wide _ _ _ f 1 _ FO19.out (by omega) (by omega) hs (by omega) (by omega)).mono ?_
  rintro e w20 ⟨rfl, hc20⟩
  obtain ⟨K, hK⟩ : ∃ K : Int, 1 + (f.ws.length : Int) + f.cs.length = K := ⟨_, rfl⟩
  rw [hK]
  have hK0 : 0 ≤ K := by omega
  have hK1 : K ≤ 2097152 := by omega
  clear hK
  have hb20 := hc20.below (by omega)
  have W20 : Hid (OwnMag w20 w13.heap.size w14.heap.size (.slice Ag14 m cg14) hg14 L) := W19.out.chg hc20 (.inr (by omega))
  have P20 : Hid (OwnMag w20 w10.heap.size w11.heap.size (.slice A11 n c11) hs11 ms) := P19.out.chg hc20 (.inr (by omega))
  have J20 : Hid (MagI w20 w13.heap.size w14.heap.size Ag14 L) := J19.out.chg hc20 (by omega) (.inr (by omega))
  have T20 : Hid (Below w0.heap.size w0 w20) := T19.out.trans (hb20.mono (by omega))
  have V20 : Hid (FontV w20 lo hi (.agg #[.string s, .slice B p d, .slice B2 q d2]) f) := V19.out.below (by omega) hb20
  have M20 : Hid (MagI w20 lo2 hi2 A ms) := M19.out.below (by omega) hb20
  have G20 : Hid (w20.cell? ⟨2, 0, none⟩ = some (.iface ct cu)) := (hb20.cell (p := ⟨2, 0, none⟩) (by show 2 < _; omega)).trans G19.out
  have E20 : Hid (ErrH w20) := (hb20.cell (p := ⟨1, 0, none⟩) (by show 1 < _; omega)).trans E19.out
  have X20 : Hid (Blk w20 (w0.heap.size) #[.string s, .slice B p d, .slice B2 q d2] 47) := X19.out.below hb20 (by omega)
  have D20 : Hid (Blk w20 (w0.heap.size + 1) #[.int .i64 k1, .int .i64 k2] 58) := D19.out.below hb20 (by omega)
  have I20 : Hid (MagI w20 w7.heap.size w8.heap.size Ag8 L) := I19.out.below (by omega) hb20
  have sz20 : w19.heap.size ≤ w20.heap.size := hb20.size
  clear T19 V19 M19 G19 E19 X19 D19 I19 FO19 Y19
  clear W19 P19 J19
  go_wp2_with fail
  refine (markMatrixSS_any _ _ _ _ K ms _ hK0 hK1 (by rw [Hn.out]; exact hn1) htm P20.out).mono ?_
  rintro e w21 ⟨rfl, -, hc21⟩
  obtain ⟨K2, hK2⟩ : ∃ K2 : Int, K + 2 * (tot ms : Int) = K2 := ⟨_, rfl⟩
  rw [hK2]
  have hK3 : 0 ≤ K2 := by omega
  have hK4 : decide (K2 < 0) = false := by rw [decide_eq_false_iff_not]; omega
  clear hK2
  have hb21 := hc21.below (by omega)
  have W21 : Hid (OwnMag w21 w13.heap.size w14.heap.size (.slice Ag14 m cg14) hg14 L) := W20.out.chg hc21 (.inr (by omega))
  have J21 : Hid (MagI w21 w13.heap.size w14.heap.size Ag14 L) := J20.out.chg hc21 (by omega) (.inr (by omega))
  have T21 : Hid (Below w0.heap.size w0 w21) := T20.out.trans (hb21.mono (by omega))
  have V21 : Hid (FontV w21 lo hi (.agg #[.string s, .slice B p d, .slice B2 q d2]) f) := V20.out.below (by omega) hb21
  have M21 : Hid (MagI w21 lo2 hi2 A ms) := M20.out.below (by omega) hb21
  have G21 : Hid (w21.cell? ⟨2, 0, none⟩ = some (.iface ct cu)) := (hb21.cell (p := ⟨2, 0, none⟩) (by show 2 < _; omega)).trans G20.out
  have E21 : Hid (ErrH w21) := (hb21.cell (p := ⟨1, 0, none⟩) (by show 1 < _; omega)).trans E20.out
  have X21 : Hid (Blk w21 (w0.heap.size) #[.string s, .slice B p d, .slice B2 q d2] 47) := X20.out.below hb21 (by omega)
  have D21 : Hid (Blk w21 (w0.heap.size + 1) #[.int .i64 k1, .int .i64 k2] 58) := D20.out.below hb21 (by omega)
  have I21 : Hid (MagI w21 w7.heap.size w8.heap.size Ag8 L) := I20.out.below (by omega) hb21
  have sz21 : w20.heap.size ≤ w21.heap.size := hb21.size
  clear T20 V20 M20 G20 E20 X20 D20 I20 P20
  clear W20 J20
  go_wp2_with fail
  refine (eqMatrixSS_same _ _ _ _ _ _ _ _ _ L _ Hm.out hms Hlw.out (by omega) (by omega) J21.out I21.out).mono ?_
  rintro e w22 ⟨rfl, hb22⟩
  have T22 : Hid (Below w0.heap.size w0 w22) := T21.out.trans (hb22.mono (by omega))
  have V22 : Hid (FontV w22 lo hi (.agg #[.string s, .slice B p d, .slice B2 q d2]) f) := V21.out.below (by omega) hb22
  have M22 : Hid (MagI w22 lo2 hi2 A ms) := M21.out.below (by omega) hb22
  have G22 : Hid (w22.cell? ⟨2, 0, none⟩ = some (.iface ct cu)) := (hb22.cell (p := ⟨2, 0, none⟩) (by show 2 < _; omega)).trans G21.out
  have E22 : Hid (ErrH w22) := (hb22.cell (p := ⟨1, 0, none⟩) (by show 1 < _; omega)).trans E21.out
  have X22 : Hid (Blk w22 (w0.heap.size) #[.string s, .slice B p d, .slice B2 q d2] 47) := X21.out.below hb22 (by omega)
  have D22 : Hid (Blk w22 (w0.heap.size + 1) #[.int .i64 k1, .int .i64 k2] 58) := D21.out.below hb22 (by omega)
  have I22 : Hid (MagI w22 w7.heap.size w8.heap.size Ag8 L) := I21.out.below (by omega) hb22
  have W22 : Hid (OwnMag w22 w13.heap.size w14.heap.size (.slice Ag14 m cg14) hg14 L) := W21.out.below (hb22.mono (by omega))
  have sz22 : w21.heap.size ≤ w22.heap.size := hb22.size
  clear T21 V21 M21 G21 E21 X21 D21 I21 W21 J21
  go_wp2_with fail
  refine (markMatrixSS_any _ _ _ _ 1 L _ (by omega) (by omega) (by rw [Hm.out]; exact hms) htw W22.out).mono ?_
  rintro e w23 ⟨rfl, hO23, hc23⟩
  have hZ23 := magMark hO23
  have hb23 := hc23.below (by omega)
  have T23 : Hid (Below w0.heap.size w0 w23) := T22.out.trans (hb23.mono (by omega))
  have V23 : Hid (FontV w23 lo hi (.agg #[.string s, .slice B p d, .slice B2 q d2]) f) := V22.out.below (by omega) hb23
  have M23 : Hid (MagI w23 lo2 hi2 A ms) := M22.out.below (by omega) hb23
  have G23 : Hid (w23.cell? ⟨2, 0, none⟩ = some (.iface ct cu)) := (hb23.cell (p := ⟨2, 0, none⟩) (by show 2 < _; omega)).trans G22.out
  have E23 : Hid (ErrH w23) := (hb23.cell (p := ⟨1, 0, none⟩) (by show 1 < _; omega)).trans E22.out
  have X23 : Hid (Blk w23 (w0.heap.size) #[.string s, .slice B p d, .slice B2 q d2] 47) := X22.out.below hb23 (by omega)
  have D23 : Hid (Blk w23 (w0.heap.size + 1) #[.int .i64 k1, .int .i64 k2] 58) := D22.out.below hb23 (by omega)
  have I23 : Hid (MagI w23 w7.heap.size w8.heap.size Ag8 L) := I22.out.below (by omega) hb23
  have sz23 : w22.heap.size ≤ w23.heap.size := hb23.size
  clear T22 V22 M22 G22 E22 X22 D22 I22 W22
  have Z23 : Hid (MagI w23 w13.heap.size w14.heap.size Ag14 (upMM 1 L)) := hZ23
  clear hZ23 hO23
  obtain ⟨K5, hK5⟩ : ∃ K5 : Int, 1 + 2 * (tot L : Int) = K5 := ⟨_, rfl⟩
  have hK6 : decide (K5 < 0) = false := by rw [decide_eq_false_iff_not]; omega
  have hK7 : (K5 != K5) = false := by simp
  have HK5 := Lib.hid hK5
  rw [hK5]
  clear hK5
  go_wp2_with fail
  refine (heldMatrixSS_any _ _ _ _ _ 1 L _ Hm.out (by omega) (by omega) hms htw Z23.out).mono ?_
  rintro e w' ⟨rfl, rfl⟩
  rw [HK5.out]
  go_wp2_with fail
  refine wp_region_plan (.take 0 (.take 2 (.take 4 (.one 1 (.one 3 (.one 5 (.one 6 (.take 7 (.take 8 (.take 9 (.take 10 (.take 11 (.take 12 (.take 13 .done)))))))))))))) (fun w' => w'.cell? ⟨w0.heap.size, 0, none⟩ = some (.string s) ∧ w'.cell? ⟨w0.heap.size, 1, none⟩ = some (.slice B p d) ∧ w'.cell? ⟨w0.heap.size, 2, none⟩ = some (.slice B2 q d2) ∧ w'.cell? ⟨w0.heap.size + 1, 0, none⟩ = some (.int .i64 k1) ∧ w'.cell? ⟨w0.heap.size + 1, 1, none⟩ = some (.int .i64 k2)) (by kernel_rfl) (by kernel_rfl) (by kernel_rfl) (by intro c a d v w h; cases d <;> exact h) ⟨cellOfBlk X23.out 0, cellOfBlk X23.out 1, cellOfBlk X23.out 2, cellOfBlk D23.out 0, cellOfBlk D23.out 1⟩ ?_
  obtain ⟨w24, hwd⟩ : ∃ x, w23.drew = x := ⟨_, rfl⟩
  have hb24 : Below w23.heap.size w23 w24 := by rw [← hwd]; exact (Below.refl _ _).drew
  have hsz24 : w24.heap.size = w23.heap.size := by rw [← hwd]; rfl
  have T24 : Hid (Below w0.heap.size w0 w24) := T23.out.trans (hb24.mono (by omega))
  have V24 : Hid (FontV w24 lo hi (.agg #[.string s, .slice B p d, .slice B2 q d2]) f) := V23.out.below (by omega) hb24
  have M24 : Hid (MagI w24 lo2 hi2 A ms) := M23.out.below (by omega) hb24
  have G24 : Hid (w24.cell? ⟨2, 0, none⟩ = some (.iface ct cu)) := (hb24.cell (p := ⟨2, 0, none⟩) (by show 2 < _; omega)).trans G23.out
  have E24 : Hid (ErrH w24) := (hb24.cell (p := ⟨1, 0, none⟩) (by show 1 < _; omega)).trans E23.out
  have X24 : Hid (Blk w24 (w0.heap.size) #[.string s, .slice B p d, .slice B2 q d2] 47) := X23.out.below hb24 (by omega)
  have D24 : Hid (Blk w24 (w0.heap.size + 1) #[.int .i64 k1, .int .i64 k2] 58) := D23.out.below hb24 (by omega)
  have I24 : Hid (MagI w24 w7.heap.size w8.heap.size Ag8 L) := I23.out.below (by omega) hb24
  have Z24 : Hid (MagI w24 w13.heap.size w14.heap.size Ag14 (upMM 1 L)) := Z23.out.below (by omega) hb24
  have sz24 : w23.heap.size ≤ w24.heap.size := hb24.size
  clear T23 V23 M23 G23 E23 X23 D23 I23 Z23
  rw [hwd]
  clear hwd
  refine plan_quiet rfl (by rfl) (v := ?_) ?_ ?_; rotate_left; (intro w1 hSw; obtain ⟨h0, h1, h2, h3, h4⟩ := hSw; go_simp; try (with_reducible rfl)); (try simp only [Act.put, List.setIfInBounds_toArray, List.set_cons_zero, List.set_cons_succ])
  refine plan_quiet rfl (by rfl) (v := ?_) ?_ ?_; rotate_left; (intro w1 hSw; obtain ⟨h0, h1, h2, h3, h4⟩ := hSw; go_simp; try (with_reducible rfl)); (try simp only [Act.put, List.setIfInBounds_toArray, List.set_cons_zero, List.set_cons_succ])
  refine plan_quiet rfl (by rfl) (v := ?_) ?_ ?_; rotate_left; (intro w1 hSw; obtain ⟨h0, h1, h2, h3, h4⟩ := hSw; go_simp; try (with_reducible rfl)); (try simp only [Act.put, List.setIfInBounds_toArray, List.set_cons_zero, List.set_cons_succ])
  refine plan_step rfl (fun Kc hK => ?_)
  rw [if_pos (by rfl)]
  go_simp
  refine (toFont_any lo hi _ f _ V24.out (by omega) hs).mono ?_
  rintro e w25 ⟨v25, rfl, hO25, hb25⟩
  have T25 : Hid (Below w0.heap.size w0 w25) := T24.out.trans (hb25.mono (by omega))
  have V25 : Hid (FontV w25 lo hi (.agg #[.string s, .slice B p d, .slice B2 q d2]) f) := V24.out.below (by omega) hb25
  have M25 : Hid (MagI w25 lo2 hi2 A ms) := M24.out.below (by omega) hb25
  have G25 : Hid (w25.cell? ⟨2, 0, none⟩ = some (.iface ct cu)) := (hb25.cell (p := ⟨2, 0, none⟩) (by show 2 < _; omega)).trans G24.out
  have E25 : Hid (ErrH w25) := (hb25.cell (p := ⟨1, 0, none⟩) (by show 1 < _; omega)).trans E24.out
  have X25 : Hid (Blk w25 (w0.heap.size) #[.string s, .slice B p d, .slice B2 q d2] 47) := X24.out.below hb25 (by omega)
  have D25 : Hid (Blk w25 (w0.heap.size + 1) #[.int .i64 k1, .int .i64 k2] 58) := D24.out.below hb25 (by omega)
  have I25 : Hid (MagI w25 w7.heap.size w8.heap.size Ag8 L) := I24.out.below (by omega) hb25
  have Z25 : Hid (MagI w25 w13.heap.size w14.heap.size Ag14 (upMM 1 L)) := Z24.out.below (by omega) hb25
  have sz25 : w24.heap.size ≤ w25.heap.size := hb25.size
  clear T24 V24 M24 G24 E24 X24 D24 I24 Z24
  have F25 := Lib.hid hO25.font
  refine hK.out _ _ ⟨cellOfBlk X25.out 0, cellOfBlk X25.out 1, cellOfBlk X25.out 2, cellOfBlk D25.out 0, cellOfBlk D25.out 1⟩ ?_
  clear hK Kc
  refine plan_step rfl (fun Kc hK => ?_)
  rw [if_pos (by rfl)]
  go_simp
  refine (toMatrixSS_any lo2 hi2 _ _ _ ms _ Hn.out hn1 Hlim.out (by omega) M25.out).mono ?_
  rintro e w26 ⟨u26, hs26, rfl, hO26, hb26⟩
  have T26 : Hid (Below w0.heap.size w0 w26) := T25.out.trans (hb26.mono (by omega))
  have V26 : Hid (FontV w26 lo hi (.agg #[.string s, .slice B p d, .slice B2 q d2]) f) := V25.out.below (by omega) hb26
  have M26 : Hid (MagI w26 lo2 hi2 A ms) := M25.out.below (by omega) hb26
  have G26 : Hid (w26.cell? ⟨2, 0, none⟩ = some (.iface ct cu)) := (hb26.cell (p := ⟨2, 0, none⟩) (by show 2 < _; omega)).trans G25.out
  have E26 : Hid (ErrH w26) := (hb26.cell (p := ⟨1, 0, none⟩) (by show 1 < _; omega)).trans E25.out
  have X26 : Hid (Blk w26 (w0.heap.size) #[.string s, .slice B p d, .slice B2 q d2] 47) := X25.out.below hb26 (by omega)
  have D26 : Hid (Blk w26 (w0.heap.size + 1) #[.int .i64 k1, .int .i64 k2] 58) := D25.out.below hb26 (by omega)
  have I26 : Hid (MagI w26 w7.heap.size w8.heap.size Ag8 L) := I25.out.below (by omega) hb26
  have Z26 : Hid (MagI w26 w13.heap.size w14.heap.size Ag14 (upMM 1 L)) := Z25.out.below (by omega) hb26
  have F26 : Hid (FontV w26 w24.heap.size w25.heap.size v25 f) := F25.out.below (by omega) hb26
  have sz26 : w25.heap.size ≤ w26.heap.size := hb26.size
  clear T25 V25 M25 G25 E25 X25 D25 I25 Z25 F25
  obtain ⟨A26, c26, hu26, -⟩ := hO26.form
  rw [Hn.out] at hu26
  subst hu26
  have Q26 := Lib.hid hO26.reads
  clear hO26
  refine hK.out _ _ ⟨cellOfBlk X26.out 0, cellOfBlk X26.out 1, cellOfBlk X26.out 2, cellOfBlk D26.out 0, cellOfBlk D26.out 1⟩ ?_
  clear hK Kc
  refine plan_step rfl (fun Kc hK => ?_)
  rw [if_pos (by rfl)]
  go_simp
  refine (toMatrix_any (k1, k2) _).mono ?_
  rintro e w27 ⟨rfl, hb27⟩
  have T27 : Hid (Below w0.heap.size w0 w27) := T26.out.trans (hb27.mono (by omega))
  have V27 : Hid (FontV w27 lo hi (.agg #[.string s, .slice B p d, .slice B2 q d2]) f) := V26.out.below (by omega) hb27
  have M27 : Hid (MagI w27 lo2 hi2 A ms) := M26.out.below (by omega) hb27
  have G27 : Hid (w27.cell? ⟨2, 0, none⟩ = some (.iface ct cu)) := (hb27.cell (p := ⟨2, 0, none⟩) (by show 2 < _; omega)).trans G26.out
  have E27 : Hid (ErrH w27) := (hb27.cell (p := ⟨1, 0, none⟩) (by show 1 < _; omega)).trans E26.out
  have X27 : Hid (Blk w27 (w0.heap.size) #[.string s, .slice B p d, .slice B2 q d2] 47) := X26.out.below hb27 (by omega)
  have D27 : Hid (Blk w27 (w0.heap.size + 1) #[.int .i64 k1, .int .i64 k2] 58) := D26.out.below hb27 (by omega)
  have I27 : Hid (MagI w27 w7.heap.size w8.heap.size Ag8 L) := I26.out.below (by omega) hb27
  have Z27 : Hid (MagI w27 w13.heap.size w14.heap.size Ag14 (upMM 1 L)) := Z26.out.below (by omega) hb27
  have F27 : Hid (FontV w27 w24.heap.size w25.heap.size v25 f) := F26.out.below (by omega) hb27
  have Q27 : Hid (MagI w27 w25.heap.size w26.heap.size A26 ms) := Q26.out.below (by omega) hb27
  have sz27 : w26.heap.size ≤ w27.heap.size := hb27.size
  clear T26 V26 M26 G26 E26 X26 D26 I26 Z26 F26 Q26
  refine hK.out _ _ ⟨cellOfBlk X27.out 0, cellOfBlk X27.out 1, cellOfBlk X27.out 2, cellOfBlk D27.out 0, cellOfBlk D27.out 1⟩ ?_
  clear hK Kc
  refine plan_step rfl (fun Kc hK => ?_)
  rw [if_pos (by rfl)]
  go_simp
  refine (implDrop_any _ _ _ _ _ f _ n _ ms k1 k2 _ F27.out (by omega) hs Hn.out hn1 Q27.out (by omega) Hwf.out wfx ct cu G27.out E27.out).mono ?_
  rintro e w28 ⟨vg28, hg28, rfl, hO28, hb28⟩
  have T28 : Hid (Below w0.heap.size w0 w28) := T27.out.trans (hb28.mono (by omega))
  have V28 : Hid (FontV w28 lo hi (.agg #[.string s, .slice B p d, .slice B2 q d2]) f) := V27.out.below (by omega) hb28
  have M28 : Hid (MagI w28 lo2 hi2 A ms) := M27.out.below (by omega) hb28
  have G28 : Hid (w28.cell? ⟨2, 0, none⟩ = some (.iface ct cu)) := (hb28.cell (p := ⟨2, 0, none⟩) (by show 2 < _; omega)).trans G27.out
  have E28 : Hid (ErrH w28) := (hb28.cell (p := ⟨1, 0, none⟩) (by show 1 < _; omega)).trans E27.out
  have X28 : Hid (Blk w28 (w0.heap.size) #[.string s, .slice B p d, .slice B2 q d2] 47) := X27.out.below hb28 (by omega)
  have D28 : Hid (Blk w28 (w0.heap.size + 1) #[.int .i64 k1, .int .i64 k2] 58) := D27.out.below hb28 (by omega)
  have I28 : Hid (MagI w28 w7.heap.size w8.heap.size Ag8 L) := I27.out.below (by omega) hb28
  have Z28 : Hid (MagI w28 w13.heap.size w14.heap.size Ag14 (upMM 1 L)) := Z27.out.below (by omega) hb28
  have sz28 : w27.heap.size ≤ w28.heap.size := hb28.size
  clear T27 V27 M27 G27 E27 X27 D27 I27 Z27 F27 Q27
  obtain ⟨Ag28, cg28, hvg28, -⟩ := hO28.form
  rw [HL.out] at hvg28 hO28
  rw [Hm.out] at hvg28
  subst hvg28
  rw [Hok.out, Hex.out]
  have J28 := Lib.hid hO28.reads
  clear hO28
  refine hK.out _ _ ⟨cellOfBlk X28.out 0, cellOfBlk X28.out 1, cellOfBlk X28.out 2, cellOfBlk D28.out 0, cellOfBlk D28.out 1⟩ ?_
  clear hK Kc
  refine plan_quiet rfl (by rfl) (v := ?_) ?_ ?_; rotate_left; (intro w1 hSw; obtain ⟨h0, h1, h2, h3, h4⟩ := hSw; go_simp; try (with_reducible rfl)); (try simp only [Act.put, List.setIfInBounds_toArray, List.set_cons_zero, List.set_cons_succ])
  refine plan_quiet rfl (by rfl) (v := ?_) ?_ ?_; rotate_left; (intro w1 hSw; obtain ⟨h0, h1, h2, h3, h4⟩ := hSw; go_simp; try (with_reducible rfl)); (try simp only [Act.put, List.setIfInBounds_toArray, List.set_cons_zero, List.set_cons_succ])
  refine plan_quiet rfl (by rfl) (v := ?_) ?_ ?_; rotate_left; (intro w1 hSw; obtain ⟨h0, h1, h2, h3, h4⟩ := hSw; go_simp; try (with_reducible rfl)); (try simp only [Act.put, List.setIfInBounds_toArray, List.set_cons_zero, List.set_cons_succ])
  refine plan_quiet rfl (by rfl) (v := ?_) ?_ ?_; rotate_left; (intro w1 hSw; obtain ⟨h0, h1, h2, h3, h4⟩ := hSw; go_simp; try (with_reducible rfl)); (try simp only [Act.put, List.setIfInBounds_toArray, List.set_cons_zero, List.set_cons_succ])
  refine plan_quiet rfl (by rfl) (v := ?_) ?_ ?_; rotate_left; (intro w1 hSw; obtain ⟨h0, h1, h2, h3, h4⟩ := hSw; go_simp; try (with_reducible rfl)); (try simp only [Act.put, List.setIfInBounds_toArray, List.set_cons_zero, List.set_cons_succ])
  refine plan_quiet rfl (by rfl) (v := ?_) ?_ ?_; rotate_left; (intro w1 hSw; obtain ⟨h0, h1, h2, h3, h4⟩ := hSw; go_simp; try (with_reducible rfl)); (try simp only [Act.put, List.setIfInBounds_toArray, List.set_cons_zero, List.set_cons_succ])
  refine plan_quiet rfl (by rfl) (v := ?_) ?_ ?_; rotate_left; (intro w1 hSw; obtain ⟨h0, h1, h2, h3, h4⟩ := hSw; go_simp; try (with_reducible rfl)); (try simp only [Act.put, List.setIfInBounds_toArray, List.set_cons_zero, List.set_cons_succ])
  refine plan_end ?_
  go_wp2_with fail
  refine (eqMatrixSS_same _ _ _ _ _ _ _ _ _ L _ Hm.out hms Hlw.out (by omega) (by omega) J28.out I28.out).mono ?_
  rintro e w29 ⟨rfl, hb29⟩
  have T29 : Hid (Below w0.heap.size w0 w29) := T28.out.trans (hb29.mono (by omega))
  have V29 : Hid (FontV w29 lo hi (.agg #[.string s, .slice B p d, .slice B2 q d2]) f) := V28.out.below (by omega) hb29
  have M29 : Hid (MagI w29 lo2 hi2 A ms) := M28.out.below (by omega) hb29
  have G29 : Hid (w29.cell? ⟨2, 0, none⟩ = some (.iface ct cu)) := (hb29.cell (p := ⟨2, 0, none⟩) (by show 2 < _; omega)).trans G28.out
  have E29 : Hid (ErrH w29) := (hb29.cell (p := ⟨1, 0, none⟩) (by show 1 < _; omega)).trans E28.out
  have X29 : Hid (Blk w29 (w0.heap.size) #[.string s, .slice B p d, .slice B2 q d2] 47) := X28.out.below hb29 (by omega)
  have D29 : Hid (Blk w29 (w0.heap.size + 1) #[.int .i64 k1, .int .i64 k2] 58) := D28.out.below hb29 (by omega)
  have I29 : Hid (MagI w29 w7.heap.size w8.heap.size Ag8 L) := I28.out.below (by omega) hb29
  have Z29 : Hid (MagI w29 w13.heap.size w14.heap.size Ag14 (upMM 1 L)) := Z28.out.below (by omega) hb29
  have sz29 : w28.heap.size ≤ w29.heap.size := hb29.size
  clear T28 V28 M28 G28 E28 X28 D28 I28 Z28 J28
  go_wp2_with fail
  refine (heldMatrixSS_any _ _ _ _ _ 1 L _ Hm.out (by omega) (by omega) hms htw Z29.out).mono ?_
  rintro e w' ⟨rfl, rfl⟩
  rw [HK5.out]
  go_wp2
  go_ret
  exact ⟨rfl, T29.out⟩
end Go.Proofs.YtdijlofcgcikjaaDoor
