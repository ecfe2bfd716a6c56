/-
  FnSwept: its walk. Conditions: errors.errorType and errFull read as laid.
-/
import Derived.Test.YtdijlofcgcikjaaDoorDrawSw
import Derived.Test.YtdijlofcgcikjaaDoorPkT
import Derived.Test.YtdijlofcgcikjaaDoorPkS
import Derived.Test.YtdijlofcgcikjaaDoorStkEq
import Derived.Test.YtdijlofcgcikjaaDoorPkD
namespace Go.Proofs.YtdijlofcgcikjaaDoor
open Go.RowKit
set_option linter.unusedVariables false
set_option linter.unusedSimpArgs false

theorem stk_wf3 {b : Nat} {ms : List (List Mat)} (h : StkB b ms) : wfM ms := by
  intro ys hy z hz
  have := (h ys hy).2 z hz
  show (Lit.int .i64 z.2).wf = true
  generalize z.2 = zz at this ⊢
  simp [Lit.wf, IntKind.min, IntKind.max, IntKind.signed, IntKind.bits]
  omega
theorem wfM_perm {ms L : List (List Mat)} (h : wfM ms) (hp : L.flatten.Perm ms.flatten) : wfM L := fun xs hx x hm => by
  have h3 : x ∈ ms.flatten := hp.subset (List.mem_flatten.2 ⟨xs, hx, hm⟩)
  obtain ⟨ys, h4, h5⟩ := List.mem_flatten.1 h3
  exact h ys h4 x h5
theorem kind_perm {f : Fnt} {ms L : List (List Mat)} (hm : magB f ms = true) (hl : magB f L = true) (hlen : L.length = ms.length) (hp : L.flatten.Perm ms.flatten) : kindL f L = kindL f ms := by
  unfold kindL
  rw [hm, hl, if_pos rfl, if_pos rfl, hlen]
  exact kAll_perm hp
theorem worn_perm {f : Fnt} {ms L : List (List Mat)} (hm : magB f ms = true) (hl : magB f L = true) (hp : L.flatten.Perm ms.flatten) : cntI f L (wornP f) = cntI f ms (wornP f) := by
  unfold cntI
  rw [hm, hl, if_pos rfl, if_pos rfl, cnt_worn hp]
theorem stray_len {f : Fnt} {ms : List (List Mat)} (hm : magB f ms = true) : cntI f ms strayP = ((strs ms ms.length).length : Int) := by
  unfold cntI
  rw [hm, if_pos rfl, cntM_strs ms _ (Nat.le_refl _)]
set_option maxRecDepth 100000 in
set_option maxHeartbeats 12800000 in
theorem fnSwept_walk (A : Option Addr) (n c : Nat) (bs : List Int) (w : World) (hn : bs.length = n) (hm : n ≤ maxLen) (h : Bytes w A bs) (wf : ∀ z ∈ bs, (Lit.int .u8 z).wf = true) (ct : TypeId) (cu : Value) (hg : w.cell? ⟨2, 0, none⟩ = some (.iface ct cu)) (he : ErrH w) :
    Calls Tryd.prog 4 #[.slice A n c] w fun e w' => e = .returned (.bool true) ∧ Below w.heap.size w w' := by
  have H := Lib.hid h; have Hn := Lib.hid hn; have Hwf := Lib.hid wf
  clear h hn wf
  have hm0 := hm
  unfold maxLen at hm
  by_cases hbig : 1048576 < n
  · go_enter Tryd.func4, Tryd.ntmps4
    go_wp2
    go_ret
    exact ⟨rfl, Below.refl _ _⟩
  obtain ⟨w0, hw0⟩ : ∃ x, w = x := ⟨_, rfl⟩
  have hww : w.heap.size = w0.heap.size := by rw [hw0]
  rw [hw0] at H hg he
  have hg4 := World.block_lt_of_cell? _ _ hg
  have hg5 := World.block_lt_of_cell? _ _ he
  simp only at hg4 hg5
  have T0 : Hid (Below w0.heap.size w0 w0) := Below.refl _ _
  have H0 : Hid (w0.cell? ⟨2, 0, none⟩ = some (.iface ct cu)) := hg
  have E0 : Hid (ErrH w0) := he
  clear hg he
  rw [hw0]
  go_enter Tryd.func4, Tryd.ntmps4
  go_wp2_with fail
  refine (drawSweep_any _ _ _ bs _ Hn.out hm0 H.out Hwf.out).mono ?_
  rintro e w1 ⟨u, v, ⟨s, ws, cs⟩, ms, rfl, hMD⟩
  obtain ⟨B, nn, cc, rfl, hs24, hw24, hc24, hbd, hml, hnc, hcc, hst, hF, hI, hb1⟩ := hMD
  simp only at hs24 hw24 hc24 hbd
  obtain ⟨ad, had⟩ : ∃ y, (⟨B, 0, none⟩ : Addr) = y := ⟨_, rfl⟩
  rw [had] at hI ⊢
  clear had
  have HS : Hid (Small ⟨s, ws, cs⟩) := ⟨by show s.size ≤ _; omega, by show ws.length ≤ _; omega, by show cs.length ≤ _; omega⟩
  have HWF := Lib.hid (stk_wf3 hst); have HML := Lib.hid hml; have HST := Lib.hid hst
  obtain ⟨B1, d1, B2, d2, rfl, hIC⟩ := fontForm2 hF
  have T1 : Hid (Below w0.heap.size w0 w1) := T0.out.trans (hb1.mono (by omega))
  have H1 : Hid (w1.cell? ⟨2, 0, none⟩ = some (.iface ct cu)) := (hb1.cell (p := ⟨2, 0, none⟩) (by show 2 < _; omega)).trans H0.out
  have E1 : Hid (ErrH w1) := (hb1.cell (p := ⟨1, 0, none⟩) (by show 1 < _; omega)).trans E0.out
  have sz1 : w0.heap.size ≤ w1.heap.size := hb1.size
  clear T0 H0 E0
  have V1 : Hid (FontV w1 w0.heap.size w1.heap.size (.agg #[.string s, .slice B1 ws.length d1, .slice B2 cs.length d2]) ⟨s, ws, cs⟩) := hF
  have M1 : Hid (MagI w1 w0.heap.size w1.heap.size (some ad) ms) := hI
  clear hF hI hb1 hml hst hbd H Hn Hwf hIC
  obtain ⟨w2, hw2, hb2, hz2, hX2⟩ := mxWorld w1 #[.string s, .slice B1 ws.length d1, .slice B2 cs.length d2] 25
  have T2 : Hid (Below w0.heap.size w0 w2) := T1.out.trans (hb2.mono (by omega))
  have H2 : Hid (w2.cell? ⟨2, 0, none⟩ = some (.iface ct cu)) := (hb2.cell (p := ⟨2, 0, none⟩) (by show 2 < _; omega)).trans H1.out
  have E2 : Hid (ErrH w2) := (hb2.cell (p := ⟨1, 0, none⟩) (by show 1 < _; omega)).trans E1.out
  have V2 : Hid (FontV w2 w0.heap.size w1.heap.size (.agg #[.string s, .slice B1 ws.length d1, .slice B2 cs.length d2]) ⟨s, ws, cs⟩) := V1.out.below (by omega) hb2
  have M2 : Hid (MagI w2 w0.heap.size w1.heap.size (some ad) ms) := M1.out.below (by omega) hb2
  have sz2 : w1.heap.size ≤ w2.heap.size := hb2.size
  clear T1 H1 E1 V1 M1
  have K2 : Hid (Blk w2 (w1.heap.size) #[.string s, .slice B1 ws.length d1, .slice B2 cs.length d2] 25) := by show Blk _ _ _ _; exact hX2
  have b0 := cellOfBlk K2.out 0
  have b1 := cellOfBlk K2.out 1
  have b2 := cellOfBlk K2.out 2
  go_wp2_with fail
  clear b0 b1 b2
  refine (implSweep_any _ _ _ _ _ ⟨s, ws, cs⟩ (some ad) nn cc ms _ V2.out (by omega) HS.out HML.out (by omega) M2.out (by omega) HWF.out ct cu H2.out E2.out).mono ?_
  rintro e w3 ⟨u3, hs3, rfl, hO, hb3⟩
  have T3 : Hid (Below w0.heap.size w0 w3) := T2.out.trans (hb3.mono (by omega))
  have H3 : Hid (w3.cell? ⟨2, 0, none⟩ = some (.iface ct cu)) := (hb3.cell (p := ⟨2, 0, none⟩) (by show 2 < _; omega)).trans H2.out
  have E3 : Hid (ErrH w3) := (hb3.cell (p := ⟨1, 0, none⟩) (by show 1 < _; omega)).trans E2.out
  have V3 : Hid (FontV w3 w0.heap.size w1.heap.size (.agg #[.string s, .slice B1 ws.length d1, .slice B2 cs.length d2]) ⟨s, ws, cs⟩) := V2.out.below (by omega) hb3
  have M3 : Hid (MagI w3 w0.heap.size w1.heap.size (some ad) ms) := M2.out.below (by omega) hb3
  have K3 : Hid (Blk w3 (w1.heap.size) #[.string s, .slice B1 ws.length d1, .slice B2 cs.length d2] 25) := K2.out.below hb3 (by omega)
  have sz3 : w2.heap.size ≤ w3.heap.size := hb3.size
  clear T2 H2 E2 V2 M2 K2
  cases hmb : magB ⟨s, ws, cs⟩ ms
  · have hok : sweepOk ⟨s, ws, cs⟩ ms = false := by unfold sweepOk; rw [hmb]; rfl
    obtain ⟨e2, e3⟩ := sweep_off hok
    rw [hok, e3]
    rw [e2] at hO
    obtain ⟨A9, c9, rfl, -⟩ := hO.form
    have hcs : cntI ⟨s, ws, cs⟩ ms strayP = -1 := by unfold cntI; rw [hmb]; rfl
    clear hO e2 e3 hok
    have HCS := Lib.hid hcs
    clear hcs
    have b0 := cellOfBlk K3.out 0
    have b1 := cellOfBlk K3.out 1
    have b2 := cellOfBlk K3.out 2
    go_wp2_with fail
    refine (specMagOk_any _ _ _ _ _ ⟨s, ws, cs⟩ (some ad) nn cc ms w3 V3.out (by omega) HS.out HML.out (by omega) M3.out (by omega)).mono ?_
    rintro e w4 ⟨rfl, hb4⟩
    rw [hmb]
    clear b0 b1 b2
    have T4 : Hid (Below w0.heap.size w0 w4) := T3.out.trans (hb4.mono (by omega))
    have H4 : Hid (w4.cell? ⟨2, 0, none⟩ = some (.iface ct cu)) := (hb4.cell (p := ⟨2, 0, none⟩) (by show 2 < _; omega)).trans H3.out
    have E4 : Hid (ErrH w4) := (hb4.cell (p := ⟨1, 0, none⟩) (by show 1 < _; omega)).trans E3.out
    have V4 : Hid (FontV w4 w0.heap.size w1.heap.size (.agg #[.string s, .slice B1 ws.length d1, .slice B2 cs.length d2]) ⟨s, ws, cs⟩) := V3.out.below (by omega) hb4
    have M4 : Hid (MagI w4 w0.heap.size w1.heap.size (some ad) ms) := M3.out.below (by omega) hb4
    have K4 : Hid (Blk w4 (w1.heap.size) #[.string s, .slice B1 ws.length d1, .slice B2 cs.length d2] 25) := K3.out.below hb4 (by omega)
    have sz4 : w3.heap.size ≤ w4.heap.size := hb4.size
    clear T3 H3 E3 V3 M3 K3
    have b0 := cellOfBlk K4.out 0
    have b1 := cellOfBlk K4.out 1
    have b2 := cellOfBlk K4.out 2
    go_wp2_with fail
    refine (implStrays_any _ _ _ _ _ ⟨s, ws, cs⟩ (some ad) nn cc ms w4 V4.out (by omega) HS.out HML.out (by omega) M4.out (by omega) HWF.out).mono ?_
    rintro e w5 ⟨rfl, hb5⟩
    rw [HCS.out]
    clear b0 b1 b2
    have T5 : Hid (Below w0.heap.size w0 w5) := T4.out.trans (hb5.mono (by omega))
    have H5 : Hid (w5.cell? ⟨2, 0, none⟩ = some (.iface ct cu)) := (hb5.cell (p := ⟨2, 0, none⟩) (by show 2 < _; omega)).trans H4.out
    have E5 : Hid (ErrH w5) := (hb5.cell (p := ⟨1, 0, none⟩) (by show 1 < _; omega)).trans E4.out
    have V5 : Hid (FontV w5 w0.heap.size w1.heap.size (.agg #[.string s, .slice B1 ws.length d1, .slice B2 cs.length d2]) ⟨s, ws, cs⟩) := V4.out.below (by omega) hb5
    have M5 : Hid (MagI w5 w0.heap.size w1.heap.size (some ad) ms) := M4.out.below (by omega) hb5
    have K5 : Hid (Blk w5 (w1.heap.size) #[.string s, .slice B1 ws.length d1, .slice B2 cs.length d2] 25) := K4.out.below hb5 (by omega)
    have sz5 : w4.heap.size ≤ w5.heap.size := hb5.size
    clear T4 H4 E4 V4 M4 K4
    go_wp2
    go_ret
    exact ⟨rfl, T5.out⟩
  · have HMB := Lib.hid hmb
    cases hsw : swept ms
    · have hok := sweep_none (f := ⟨s, ws, cs⟩) hsw
      obtain ⟨e2, e3⟩ := sweep_off hok
      rw [hok, e3]
      rw [e2] at hO
      obtain ⟨A9, c9, rfl, -⟩ := hO.form
      obtain ⟨kx, zx, hkx, hzx⟩ := swept_full hmb hsw
      have HKX := Lib.hid hkx; have HZX := Lib.hid hzx
      clear hO e2 e3 hok hsw hkx hzx
      have b0 := cellOfBlk K3.out 0
      have b1 := cellOfBlk K3.out 1
      have b2 := cellOfBlk K3.out 2
      go_wp2_with fail
      clear hmb
      refine (specMagOk_any _ _ _ _ _ ⟨s, ws, cs⟩ (some ad) nn cc ms w3 V3.out (by omega) HS.out HML.out (by omega) M3.out (by omega)).mono ?_
      rintro e w4 ⟨rfl, hb4⟩
      rw [HMB.out]
      clear b0 b1 b2
      have T4 : Hid (Below w0.heap.size w0 w4) := T3.out.trans (hb4.mono (by omega))
      have H4 : Hid (w4.cell? ⟨2, 0, none⟩ = some (.iface ct cu)) := (hb4.cell (p := ⟨2, 0, none⟩) (by show 2 < _; omega)).trans H3.out
      have E4 : Hid (ErrH w4) := (hb4.cell (p := ⟨1, 0, none⟩) (by show 1 < _; omega)).trans E3.out
      have V4 : Hid (FontV w4 w0.heap.size w1.heap.size (.agg #[.string s, .slice B1 ws.length d1, .slice B2 cs.length d2]) ⟨s, ws, cs⟩) := V3.out.below (by omega) hb4
      have M4 : Hid (MagI w4 w0.heap.size w1.heap.size (some ad) ms) := M3.out.below (by omega) hb4
      have K4 : Hid (Blk w4 (w1.heap.size) #[.string s, .slice B1 ws.length d1, .slice B2 cs.length d2] 25) := K3.out.below hb4 (by omega)
      have sz4 : w3.heap.size ≤ w4.heap.size := hb4.size
      clear T3 H3 E3 V3 M3 K3
      have b0 := cellOfBlk K4.out 0
      have b1 := cellOfBlk K4.out 1
      have b2 := cellOfBlk K4.out 2
      go_wp2_with fail
      refine (implKind_any _ _ _ _ _ ⟨s, ws, cs⟩ (some ad) nn cc ms _ V4.out (by omega) HS.out HML.out (by omega) M4.out (by omega) HWF.out).mono ?_
      rintro e w5 ⟨u5, rfl, hO5, hb5⟩
      clear b0 b1 b2
      obtain ⟨A5, c5, rfl, hI5, -, hc5, hcm5⟩ := hO5.form
      obtain ⟨kl, hkl⟩ : ∃ y, (kindL ⟨s, ws, cs⟩ ms).length = y := ⟨_, rfl⟩
      rw [hkl] at hc5 ⊢
      have hklb : kl ≤ 1048576 := by rw [← hkl]; exact kindL_len ⟨s, ws, cs⟩ ms (by rw [HML.out]; omega)
      have HKL := Lib.hid hkl
      clear hkl hO5
      have T5 : Hid (Below w0.heap.size w0 w5) := T4.out.trans (hb5.mono (by omega))
      have H5 : Hid (w5.cell? ⟨2, 0, none⟩ = some (.iface ct cu)) := (hb5.cell (p := ⟨2, 0, none⟩) (by show 2 < _; omega)).trans H4.out
      have E5 : Hid (ErrH w5) := (hb5.cell (p := ⟨1, 0, none⟩) (by show 1 < _; omega)).trans E4.out
      have V5 : Hid (FontV w5 w0.heap.size w1.heap.size (.agg #[.string s, .slice B1 ws.length d1, .slice B2 cs.length d2]) ⟨s, ws, cs⟩) := V4.out.below (by omega) hb5
      have M5 : Hid (MagI w5 w0.heap.size w1.heap.size (some ad) ms) := M4.out.below (by omega) hb5
      have K5 : Hid (Blk w5 (w1.heap.size) #[.string s, .slice B1 ws.length d1, .slice B2 cs.length d2] 25) := K4.out.below hb5 (by omega)
      have sz5 : w4.heap.size ≤ w5.heap.size := hb5.size
      clear T4 H4 E4 V4 M4 K4
      have U5 : Hid (Ints w5 A5 (kindL ⟨s, ws, cs⟩ ms)) := hI5
      clear hI5
      go_wp2
      go_loopw [52] (fun jv wr => ∃ j : Nat, j ≤ kl ∧ jv = .int .i64 j ∧ wr = w5 ∧ Hid (∀ (q : Nat) (z : Int), q < j → (kindL ⟨s, ws, cs⟩ ms)[q]? = some z → z ≤ 20)) (fun jv _ => kl - (intOf jv).toNat)
      case atStart => exact ⟨0, Nat.zero_le _, rfl, rfl, fun q z h => absurd h (Nat.not_lt_zero _)⟩
      case round =>
        obtain ⟨j, hjl, rfl, rfl, hno⟩ := hrel
        by_cases hj : j < kl
        · obtain ⟨ad6, x, hA6, hx, hc6⟩ := U5.out.at_ (k := j) (by rw [HKL.out]; exact hj)
          subst hA6
          have hji : (j : Int) < (kl : Int) := by omega
          by_cases hbig2 : 20 < x
          · go_wp2
            go_ret
            exact ⟨rfl, T5.out⟩
          · have hno2 : Hid (∀ (q : Nat) (z : Int), q < j + 1 → (kindL ⟨s, ws, cs⟩ ms)[q]? = some z → z ≤ 20) := fun q z h1 h2 => by
              by_cases e : q = j
              · subst e; have h9 := hx.out; rw [h2] at h9; injection h9 with h9; omega
              · exact hno.out q z (by omega) h2
            have hj1 : j + 1 ≤ kl := by omega
            clear hno hx
            go_wp2
            exact ⟨⟨j + 1, hj1, rfl, by trivial, hno2⟩, by simp [intOf]; omega⟩
        · exfalso
          have hje : j = kl := by omega
          have h1 := (List.getElem?_eq_some_iff.1 HKX.out).1
          rw [HKL.out] at h1
          have h2 := hno.out kx zx (by omega) HKX.out
          have h3 := HZX.out
          omega
    · rename_i L
      obtain ⟨e1, e2, e3⟩ := sweep_on hmb hsw
      obtain ⟨hL1, hL2, hL3, hL4⟩ := swept_good hmb hsw
      have hcS := stray_len hmb
      rw [← hcS] at e3
      rw [e1, e3]
      rw [e2] at hO
      rw [HML.out] at hL1
      obtain ⟨A3, c3, rfl, -⟩ := hO.form
      rw [hL1] at hO ⊢
      obtain ⟨cS, hcS2⟩ : ∃ y, cntI ⟨s, ws, cs⟩ ms strayP = y := ⟨_, rfl⟩
      obtain ⟨cW, hcW⟩ : ∃ y, cntI ⟨s, ws, cs⟩ ms (wornP ⟨s, ws, cs⟩) = y := ⟨_, rfl⟩
      rw [hcS2]
      have hW2 : cntI ⟨s, ws, cs⟩ L (wornP ⟨s, ws, cs⟩) = cW := by rw [worn_perm hmb hL2 hL4, hcW]
      have hS2 : cntI ⟨s, ws, cs⟩ L strayP = 0 := swept_stray hL2 hL3
      have hK2 : kindL ⟨s, ws, cs⟩ L = kindL ⟨s, ws, cs⟩ ms := kind_perm hmb hL2 (by rw [hL1, HML.out]) hL4
      have hwf2 := wfM_perm HWF.out hL4
      obtain ⟨g1, g2, g3⟩ := sweep_on hL2 (home_swept hL3)
      have g4 : sweepI ⟨s, ws, cs⟩ L = 0 := by rw [g3, home_str hL3 _ (Nat.le_refl _)]; rfl
      have hlimL : ∀ xs ∈ L, xs.length ≤ 1048576 := fun xs hx => by have := ((magB_rows hL2).2.2 xs hx).1; omega
      have HCS := Lib.hid hcS2; have HCW := Lib.hid hcW; have HW2 := Lib.hid hW2; have HS2 := Lib.hid hS2; have HK2 := Lib.hid hK2; have HWF2 := Lib.hid hwf2; have HG1 := Lib.hid g1; have HG2 := Lib.hid g2; have HG4 := Lib.hid g4; have HLL := Lib.hid hL1; have HML2 := Lib.hid hL2; have HLIM := Lib.hid hlimL
      clear hcS2 hcW hW2 hS2 hK2 hwf2 g1 g2 g3 g4 hL1 hL2 hL3 hL4 hcS e1 e2 e3 hsw hmb hlimL
      have J3 : Hid (MagI w3 w2.heap.size w3.heap.size A3 L) := hO.reads
      clear hO
      have b0 := cellOfBlk K3.out 0
      have b1 := cellOfBlk K3.out 1
      have b2 := cellOfBlk K3.out 2
      go_wp2_with fail
      refine (specMagOk_any _ _ _ _ _ ⟨s, ws, cs⟩ (some ad) nn cc ms w3 V3.out (by omega) HS.out HML.out (by omega) M3.out (by omega)).mono ?_
      rintro e w4 ⟨rfl, hb4⟩
      rw [HMB.out]
      clear b0 b1 b2
      have T4 : Hid (Below w0.heap.size w0 w4) := T3.out.trans (hb4.mono (by omega))
      have H4 : Hid (w4.cell? ⟨2, 0, none⟩ = some (.iface ct cu)) := (hb4.cell (p := ⟨2, 0, none⟩) (by show 2 < _; omega)).trans H3.out
      have E4 : Hid (ErrH w4) := (hb4.cell (p := ⟨1, 0, none⟩) (by show 1 < _; omega)).trans E3.out
      have V4 : Hid (FontV w4 w0.heap.size w1.heap.size (.agg #[.string s, .slice B1 ws.length d1, .slice B2 cs.length d2]) ⟨s, ws, cs⟩) := V3.out.below (by omega) hb4
      have M4 : Hid (MagI w4 w0.heap.size w1.heap.size (some ad) ms) := M3.out.below (by omega) hb4
      have K4 : Hid (Blk w4 (w1.heap.size) #[.string s, .slice B1 ws.length d1, .slice B2 cs.length d2] 25) := K3.out.below hb4 (by omega)
      have J4 : Hid (MagI w4 w2.heap.size w3.heap.size A3 L) := J3.out.below (by omega) hb4
      have sz4 : w3.heap.size ≤ w4.heap.size := hb4.size
      clear T3 H3 E3 V3 M3 K3 J3
      have b0 := cellOfBlk K4.out 0
      have b1 := cellOfBlk K4.out 1
      have b2 := cellOfBlk K4.out 2
      go_wp2_with fail
      refine (implKind_any _ _ _ _ _ ⟨s, ws, cs⟩ (some ad) nn cc ms _ V4.out (by omega) HS.out HML.out (by omega) M4.out (by omega) HWF.out).mono ?_
      rintro e w5 ⟨u5, rfl, hO5, hb5⟩
      clear b0 b1 b2
      obtain ⟨A5, c5, rfl, hI5, -, hc5, hcm5⟩ := hO5.form
      obtain ⟨kl, hkl⟩ : ∃ y, (kindL ⟨s, ws, cs⟩ ms).length = y := ⟨_, rfl⟩
      rw [hkl] at hc5 ⊢
      have hklb : kl ≤ 1048576 := by rw [← hkl]; exact kindL_len ⟨s, ws, cs⟩ ms (by rw [HML.out]; omega)
      have HKL := Lib.hid hkl
      clear hkl hO5
      have T5 : Hid (Below w0.heap.size w0 w5) := T4.out.trans (hb5.mono (by omega))
      have H5 : Hid (w5.cell? ⟨2, 0, none⟩ = some (.iface ct cu)) := (hb5.cell (p := ⟨2, 0, none⟩) (by show 2 < _; omega)).trans H4.out
      have E5 : Hid (ErrH w5) := (hb5.cell (p := ⟨1, 0, none⟩) (by show 1 < _; omega)).trans E4.out
      have V5 : Hid (FontV w5 w0.heap.size w1.heap.size (.agg #[.string s, .slice B1 ws.length d1, .slice B2 cs.length d2]) ⟨s, ws, cs⟩) := V4.out.below (by omega) hb5
      have M5 : Hid (MagI w5 w0.heap.size w1.heap.size (some ad) ms) := M4.out.below (by omega) hb5
      have K5 : Hid (Blk w5 (w1.heap.size) #[.string s, .slice B1 ws.length d1, .slice B2 cs.length d2] 25) := K4.out.below hb5 (by omega)
      have J5 : Hid (MagI w5 w2.heap.size w3.heap.size A3 L) := J4.out.below (by omega) hb5
      have sz5 : w4.heap.size ≤ w5.heap.size := hb5.size
      clear T4 H4 E4 V4 M4 K4 J4
      have U5 : Hid (Ints w5 A5 (kindL ⟨s, ws, cs⟩ ms)) := hI5
      clear hI5
      go_upto_region 16 with fail
      have hcc2 : (cS != cS) = false := by simp
      have hww2 : (cW != cW) = false := by simp
      refine wp_region_plan (.take 0 (.take 1 (.one 2 (.take 3 (.take 4 (.take 5 (.take 6 (.take 7 (.one 8 (.take 9 (.take 10 (.take 11 (.take 12 (.take 13 (.one 14 (.take 15 (.take 16 (.take 17 (.take 18 (.take 19 (.take 21 (.take 22 (.one 20 (.one 23 (.take 24 (.take 25 .done)))))))))))))))))))))))))) (fun w' => w'.cell? ⟨w1.heap.size, 0, none⟩ = some (.string s) ∧ w'.cell? ⟨w1.heap.size, 1, none⟩ = some (.slice B1 ws.length d1) ∧ w'.cell? ⟨w1.heap.size, 2, none⟩ = some (.slice B2 cs.length d2)) (by kernel_rfl) (by kernel_rfl) (by kernel_rfl) (by intro c a d v w h; cases d <;> exact h) ⟨cellOfBlk K5.out 0, cellOfBlk K5.out 1, cellOfBlk K5.out 2⟩ ?_
      obtain ⟨w6, hwd⟩ : ∃ x, w5.drew = x := ⟨_, rfl⟩
      have hb6 : Below w5.heap.size w5 w6 := by rw [← hwd]; exact (Below.refl _ _).drew
      have hsz6 : w6.heap.size = w5.heap.size := by rw [← hwd]; rfl
      have T6 : Hid (Below w0.heap.size w0 w6) := T5.out.trans (hb6.mono (by omega))
      have H6 : Hid (w6.cell? ⟨2, 0, none⟩ = some (.iface ct cu)) := (hb6.cell (p := ⟨2, 0, none⟩) (by show 2 < _; omega)).trans H5.out
      have E6 : Hid (ErrH w6) := (hb6.cell (p := ⟨1, 0, none⟩) (by show 1 < _; omega)).trans E5.out
      have V6 : Hid (FontV w6 w0.heap.size w1.heap.size (.agg #[.string s, .slice B1 ws.length d1, .slice B2 cs.length d2]) ⟨s, ws, cs⟩) := V5.out.below (by omega) hb6
      have M6 : Hid (MagI w6 w0.heap.size w1.heap.size (some ad) ms) := M5.out.below (by omega) hb6
      have K6 : Hid (Blk w6 (w1.heap.size) #[.string s, .slice B1 ws.length d1, .slice B2 cs.length d2] 25) := K5.out.below hb6 (by omega)
      have J6 : Hid (MagI w6 w2.heap.size w3.heap.size A3 L) := J5.out.below (by omega) hb6
      have U6 : Hid (Ints w6 A5 (kindL ⟨s, ws, cs⟩ ms)) := U5.out.below hb6
      have sz6 : w5.heap.size ≤ w6.heap.size := hb6.size
      clear T5 H5 E5 V5 M5 K5 J5 U5
      rw [hwd]
      clear hwd
      refine plan_quiet rfl (by rfl) (v := ?_) ?_ ?_; rotate_left; (intro w1 hSw; obtain ⟨hs0, hs1, hs2⟩ := hSw; go_simp; try (with_reducible rfl)); (try simp only [Act.put, List.setIfInBounds_toArray, List.set_cons_zero, List.set_cons_succ])
      refine plan_quiet rfl (by rfl) (v := ?_) ?_ ?_; rotate_left; (intro w1 hSw; obtain ⟨hs0, hs1, hs2⟩ := hSw; go_simp; try (with_reducible rfl)); (try simp only [Act.put, List.setIfInBounds_toArray, List.set_cons_zero, List.set_cons_succ])
      refine plan_step rfl (fun Kc hK => ?_)
      rw [if_pos (by rfl)]
      go_simp
      refine (implMagOk_any _ _ _ _ _ ⟨s, ws, cs⟩ A3 nn c3 L w6 V6.out (by omega) HS.out HLL.out (by omega) J6.out (by omega) HWF2.out).mono ?_
      rintro e w7 ⟨rfl, hb7⟩
      rw [HML2.out]
      have T7 : Hid (Below w0.heap.size w0 w7) := T6.out.trans (hb7.mono (by omega))
      have H7 : Hid (w7.cell? ⟨2, 0, none⟩ = some (.iface ct cu)) := (hb7.cell (p := ⟨2, 0, none⟩) (by show 2 < _; omega)).trans H6.out
      have E7 : Hid (ErrH w7) := (hb7.cell (p := ⟨1, 0, none⟩) (by show 1 < _; omega)).trans E6.out
      have V7 : Hid (FontV w7 w0.heap.size w1.heap.size (.agg #[.string s, .slice B1 ws.length d1, .slice B2 cs.length d2]) ⟨s, ws, cs⟩) := V6.out.below (by omega) hb7
      have M7 : Hid (MagI w7 w0.heap.size w1.heap.size (some ad) ms) := M6.out.below (by omega) hb7
      have K7 : Hid (Blk w7 (w1.heap.size) #[.string s, .slice B1 ws.length d1, .slice B2 cs.length d2] 25) := K6.out.below hb7 (by omega)
      have J7 : Hid (MagI w7 w2.heap.size w3.heap.size A3 L) := J6.out.below (by omega) hb7
      have U7 : Hid (Ints w7 A5 (kindL ⟨s, ws, cs⟩ ms)) := U6.out.below hb7
      have sz7 : w6.heap.size ≤ w7.heap.size := hb7.size
      clear T6 H6 E6 V6 M6 K6 J6 U6
      refine hK.out _ _ ⟨cellOfBlk K7.out 0, cellOfBlk K7.out 1, cellOfBlk K7.out 2⟩ ?_
      clear hK Kc
      refine plan_quiet rfl (by rfl) (v := ?_) ?_ ?_; rotate_left; (intro w1 hSw; obtain ⟨hs0, hs1, hs2⟩ := hSw; go_simp; try (with_reducible rfl)); (try simp only [Act.put, List.setIfInBounds_toArray, List.set_cons_zero, List.set_cons_succ])
      refine plan_quiet rfl (by rfl) (v := ?_) ?_ ?_; rotate_left; (intro w1 hSw; obtain ⟨hs0, hs1, hs2⟩ := hSw; go_simp; try (with_reducible rfl)); (try simp only [Act.put, List.setIfInBounds_toArray, List.set_cons_zero, List.set_cons_succ])
      refine plan_quiet rfl (by rfl) (v := ?_) ?_ ?_; rotate_left; (intro w1 hSw; obtain ⟨hs0, hs1, hs2⟩ := hSw; go_simp; try (with_reducible rfl)); (try simp only [Act.put, List.setIfInBounds_toArray, List.set_cons_zero, List.set_cons_succ])
      refine plan_quiet rfl (by rfl) (v := ?_) ?_ ?_; rotate_left; (intro w1 hSw; obtain ⟨hs0, hs1, hs2⟩ := hSw; go_simp; try (with_reducible rfl)); (try simp only [Act.put, List.setIfInBounds_toArray, List.set_cons_zero, List.set_cons_succ])
      refine plan_quiet rfl (by rfl) (v := ?_) ?_ ?_; rotate_left; (intro w1 hSw; obtain ⟨hs0, hs1, hs2⟩ := hSw; go_simp; try (with_reducible rfl)); (try simp only [Act.put, List.setIfInBounds_toArray, List.set_cons_zero, List.set_cons_succ])
      refine plan_step rfl (fun Kc hK => ?_)
      rw [if_pos (by rfl)]
      go_simp
      refine (implStrays_any _ _ _ _ _ ⟨s, ws, cs⟩ (some ad) nn cc ms w7 V7.out (by omega) HS.out HML.out (by omega) M7.out (by omega) HWF.out).mono ?_
      rintro e w8 ⟨rfl, hb8⟩
      rw [HCS.out]
      have T8 : Hid (Below w0.heap.size w0 w8) := T7.out.trans (hb8.mono (by omega))
      have H8 : Hid (w8.cell? ⟨2, 0, none⟩ = some (.iface ct cu)) := (hb8.cell (p := ⟨2, 0, none⟩) (by show 2 < _; omega)).trans H7.out
      have E8 : Hid (ErrH w8) := (hb8.cell (p := ⟨1, 0, none⟩) (by show 1 < _; omega)).trans E7.out
      have V8 : Hid (FontV w8 w0.heap.size w1.heap.size (.agg #[.string s, .slice B1 ws.length d1, .slice B2 cs.length d2]) ⟨s, ws, cs⟩) := V7.out.below (by omega) hb8
      have M8 : Hid (MagI w8 w0.heap.size w1.heap.size (some ad) ms) := M7.out.below (by omega) hb8
      have K8 : Hid (Blk w8 (w1.heap.size) #[.string s, .slice B1 ws.length d1, .slice B2 cs.length d2] 25) := K7.out.below hb8 (by omega)
      have J8 : Hid (MagI w8 w2.heap.size w3.heap.size A3 L) := J7.out.below (by omega) hb8
      have U8 : Hid (Ints w8 A5 (kindL ⟨s, ws, cs⟩ ms)) := U7.out.below hb8
      have sz8 : w7.heap.size ≤ w8.heap.size := hb8.size
      clear T7 H7 E7 V7 M7 K7 J7 U7
      refine hK.out _ _ ⟨cellOfBlk K8.out 0, cellOfBlk K8.out 1, cellOfBlk K8.out 2⟩ ?_
      clear hK Kc
      refine plan_quiet rfl (by rfl) (v := ?_) ?_ ?_; rotate_left; (intro w1 hSw; obtain ⟨hs0, hs1, hs2⟩ := hSw; go_simp; try (with_reducible rfl)); (try simp only [Act.put, List.setIfInBounds_toArray, List.set_cons_zero, List.set_cons_succ])
      refine plan_quiet rfl (by rfl) (v := ?_) ?_ ?_; rotate_left; (intro w1 hSw; obtain ⟨hs0, hs1, hs2⟩ := hSw; go_simp; try (with_reducible rfl)); (try simp only [Act.put, List.setIfInBounds_toArray, List.set_cons_zero, List.set_cons_succ])
      refine plan_quiet rfl (by rfl) (v := ?_) ?_ ?_; rotate_left; (intro w1 hSw; obtain ⟨hs0, hs1, hs2⟩ := hSw; go_simp; try (with_reducible rfl)); (try simp only [Act.put, List.setIfInBounds_toArray, List.set_cons_zero, List.set_cons_succ])
      refine plan_quiet rfl (by rfl) (v := ?_) ?_ ?_; rotate_left; (intro w1 hSw; obtain ⟨hs0, hs1, hs2⟩ := hSw; go_simp; try (with_reducible rfl)); (try simp only [Act.put, List.setIfInBounds_toArray, List.set_cons_zero, List.set_cons_succ])
      refine plan_quiet rfl (by rfl) (v := ?_) ?_ ?_; rotate_left; (intro w1 hSw; obtain ⟨hs0, hs1, hs2⟩ := hSw; go_simp; try (with_reducible rfl)); (try simp only [Act.put, List.setIfInBounds_toArray, List.set_cons_zero, List.set_cons_succ])
      refine plan_step rfl (fun Kc hK => ?_)
      rw [if_pos (by rfl)]
      go_simp
      refine (implStrays_any _ _ _ _ _ ⟨s, ws, cs⟩ A3 nn c3 L w8 V8.out (by omega) HS.out HLL.out (by omega) J8.out (by omega) HWF2.out).mono ?_
      rintro e w9 ⟨rfl, hb9⟩
      rw [HS2.out]
      have T9 : Hid (Below w0.heap.size w0 w9) := T8.out.trans (hb9.mono (by omega))
      have H9 : Hid (w9.cell? ⟨2, 0, none⟩ = some (.iface ct cu)) := (hb9.cell (p := ⟨2, 0, none⟩) (by show 2 < _; omega)).trans H8.out
      have E9 : Hid (ErrH w9) := (hb9.cell (p := ⟨1, 0, none⟩) (by show 1 < _; omega)).trans E8.out
      have V9 : Hid (FontV w9 w0.heap.size w1.heap.size (.agg #[.string s, .slice B1 ws.length d1, .slice B2 cs.length d2]) ⟨s, ws, cs⟩) := V8.out.below (by omega) hb9
      have M9 : Hid (MagI w9 w0.heap.size w1.heap.size (some ad) ms) := M8.out.below (by omega) hb9
      have K9 : Hid (Blk w9 (w1.heap.size) #[.string s, .slice B1 ws.length d1, .slice B2 cs.length d2] 25) := K8.out.below hb9 (by omega)
      have J9 : Hid (MagI w9 w2.heap.size w3.heap.size A3 L) := J8.out.below (by omega) hb9
      have U9 : Hid (Ints w9 A5 (kindL ⟨s, ws, cs⟩ ms)) := U8.out.below hb9
      have sz9 : w8.heap.size ≤ w9.heap.size := hb9.size
      clear T8 H8 E8 V8 M8 K8 J8 U8
      refine hK.out _ _ ⟨cellOfBlk K9.out 0, cellOfBlk K9.out 1, cellOfBlk K9.out 2⟩ ?_
      clear hK Kc
      refine plan_quiet rfl (by rfl) (v := ?_) ?_ ?_; rotate_left; (intro w1 hSw; obtain ⟨hs0, hs1, hs2⟩ := hSw; go_simp; try (with_reducible rfl)); (try simp only [Act.put, List.setIfInBounds_toArray, List.set_cons_zero, List.set_cons_succ])
      refine plan_quiet rfl (by rfl) (v := ?_) ?_ ?_; rotate_left; (intro w1 hSw; obtain ⟨hs0, hs1, hs2⟩ := hSw; go_simp; try (with_reducible rfl)); (try simp only [Act.put, List.setIfInBounds_toArray, List.set_cons_zero, List.set_cons_succ])
      refine plan_quiet rfl (by rfl) (v := ?_) ?_ ?_; rotate_left; (intro w1 hSw; obtain ⟨hs0, hs1, hs2⟩ := hSw; go_simp; try (with_reducible rfl)); (try simp only [Act.put, List.setIfInBounds_toArray, List.set_cons_zero, List.set_cons_succ])
      refine plan_quiet rfl (by rfl) (v := ?_) ?_ ?_; rotate_left; (intro w1 hSw; obtain ⟨hs0, hs1, hs2⟩ := hSw; go_simp; try (with_reducible rfl)); (try simp only [Act.put, List.setIfInBounds_toArray, List.set_cons_zero, List.set_cons_succ])
      refine plan_quiet rfl (by rfl) (v := ?_) ?_ ?_; rotate_left; (intro w1 hSw; obtain ⟨hs0, hs1, hs2⟩ := hSw; go_simp; try (with_reducible rfl)); (try simp only [Act.put, List.setIfInBounds_toArray, List.set_cons_zero, List.set_cons_succ])
      refine plan_quiet rfl (by rfl) (v := ?_) ?_ ?_; rotate_left; (intro w1 hSw; obtain ⟨hs0, hs1, hs2⟩ := hSw; go_simp; try (with_reducible rfl)); (try simp only [Act.put, List.setIfInBounds_toArray, List.set_cons_zero, List.set_cons_succ])
      refine plan_quiet rfl (by rfl) (v := ?_) ?_ ?_; rotate_left; (intro w1 hSw; obtain ⟨hs0, hs1, hs2⟩ := hSw; go_simp; try (with_reducible rfl)); (try simp only [Act.put, List.setIfInBounds_toArray, List.set_cons_zero, List.set_cons_succ])
      refine plan_step rfl (fun Kc hK => ?_)
      rw [if_pos (by rfl)]
      go_simp
      refine (implWorn_any _ _ _ _ _ ⟨s, ws, cs⟩ A3 nn c3 L w9 V9.out (by omega) HS.out HLL.out (by omega) J9.out (by omega) HWF2.out).mono ?_
      rintro e w10 ⟨rfl, hb10⟩
      rw [HW2.out]
      have T10 : Hid (Below w0.heap.size w0 w10) := T9.out.trans (hb10.mono (by omega))
      have H10 : Hid (w10.cell? ⟨2, 0, none⟩ = some (.iface ct cu)) := (hb10.cell (p := ⟨2, 0, none⟩) (by show 2 < _; omega)).trans H9.out
      have E10 : Hid (ErrH w10) := (hb10.cell (p := ⟨1, 0, none⟩) (by show 1 < _; omega)).trans E9.out
      have V10 : Hid (FontV w10 w0.heap.size w1.heap.size (.agg #[.string s, .slice B1 ws.length d1, .slice B2 cs.length d2]) ⟨s, ws, cs⟩) := V9.out.below (by omega) hb10
      have M10 : Hid (MagI w10 w0.heap.size w1.heap.size (some ad) ms) := M9.out.below (by omega) hb10
      have K10 : Hid (Blk w10 (w1.heap.size) #[.string s, .slice B1 ws.length d1, .slice B2 cs.length d2] 25) := K9.out.below hb10 (by omega)
      have J10 : Hid (MagI w10 w2.heap.size w3.heap.size A3 L) := J9.out.below (by omega) hb10
      have U10 : Hid (Ints w10 A5 (kindL ⟨s, ws, cs⟩ ms)) := U9.out.below hb10
      have sz10 : w9.heap.size ≤ w10.heap.size := hb10.size
      clear T9 H9 E9 V9 M9 K9 J9 U9
      refine hK.out _ _ ⟨cellOfBlk K10.out 0, cellOfBlk K10.out 1, cellOfBlk K10.out 2⟩ ?_
      clear hK Kc
      refine plan_step rfl (fun Kc hK => ?_)
      rw [if_pos (by rfl)]
      go_simp
      refine (implWorn_any _ _ _ _ _ ⟨s, ws, cs⟩ (some ad) nn cc ms w10 V10.out (by omega) HS.out HML.out (by omega) M10.out (by omega) HWF.out).mono ?_
      rintro e w11 ⟨rfl, hb11⟩
      rw [HCW.out]
      have T11 : Hid (Below w0.heap.size w0 w11) := T10.out.trans (hb11.mono (by omega))
      have H11 : Hid (w11.cell? ⟨2, 0, none⟩ = some (.iface ct cu)) := (hb11.cell (p := ⟨2, 0, none⟩) (by show 2 < _; omega)).trans H10.out
      have E11 : Hid (ErrH w11) := (hb11.cell (p := ⟨1, 0, none⟩) (by show 1 < _; omega)).trans E10.out
      have V11 : Hid (FontV w11 w0.heap.size w1.heap.size (.agg #[.string s, .slice B1 ws.length d1, .slice B2 cs.length d2]) ⟨s, ws, cs⟩) := V10.out.below (by omega) hb11
      have M11 : Hid (MagI w11 w0.heap.size w1.heap.size (some ad) ms) := M10.out.below (by omega) hb11
      have K11 : Hid (Blk w11 (w1.heap.size) #[.string s, .slice B1 ws.length d1, .slice B2 cs.length d2] 25) := K10.out.below hb11 (by omega)
      have J11 : Hid (MagI w11 w2.heap.size w3.heap.size A3 L) := J10.out.below (by omega) hb11
      have U11 : Hid (Ints w11 A5 (kindL ⟨s, ws, cs⟩ ms)) := U10.out.below hb11
      have sz11 : w10.heap.size ≤ w11.heap.size := hb11.size
      clear T10 H10 E10 V10 M10 K10 J10 U10
      refine hK.out _ _ ⟨cellOfBlk K11.out 0, cellOfBlk K11.out 1, cellOfBlk K11.out 2⟩ ?_
      clear hK Kc
      refine plan_quiet rfl (by rfl) (v := ?_) ?_ ?_; rotate_left; (intro w1 hSw; obtain ⟨hs0, hs1, hs2⟩ := hSw; go_simp; try (with_reducible rfl)); (try simp only [Act.put, List.setIfInBounds_toArray, List.set_cons_zero, List.set_cons_succ])
      refine plan_quiet rfl (by rfl) (v := ?_) ?_ ?_; rotate_left; (intro w1 hSw; obtain ⟨hs0, hs1, hs2⟩ := hSw; go_simp; try (with_reducible rfl)); (try simp only [Act.put, List.setIfInBounds_toArray, List.set_cons_zero, List.set_cons_succ])
      refine plan_end ?_
      have b0 := cellOfBlk K11.out 0
      have b1 := cellOfBlk K11.out 1
      have b2 := cellOfBlk K11.out 2
      go_wp2_with fail
      clear b0 b1 b2
      refine (implSweep_any _ _ _ _ _ ⟨s, ws, cs⟩ A3 nn c3 L _ V11.out (by omega) HS.out HLL.out (by omega) J11.out (by omega) HWF2.out ct cu H11.out E11.out).mono ?_
      rintro e w12 ⟨u12, hs12, rfl, hO, hb12⟩
      have T12 : Hid (Below w0.heap.size w0 w12) := T11.out.trans (hb12.mono (by omega))
      have H12 : Hid (w12.cell? ⟨2, 0, none⟩ = some (.iface ct cu)) := (hb12.cell (p := ⟨2, 0, none⟩) (by show 2 < _; omega)).trans H11.out
      have E12 : Hid (ErrH w12) := (hb12.cell (p := ⟨1, 0, none⟩) (by show 1 < _; omega)).trans E11.out
      have V12 : Hid (FontV w12 w0.heap.size w1.heap.size (.agg #[.string s, .slice B1 ws.length d1, .slice B2 cs.length d2]) ⟨s, ws, cs⟩) := V11.out.below (by omega) hb12
      have M12 : Hid (MagI w12 w0.heap.size w1.heap.size (some ad) ms) := M11.out.below (by omega) hb12
      have K12 : Hid (Blk w12 (w1.heap.size) #[.string s, .slice B1 ws.length d1, .slice B2 cs.length d2] 25) := K11.out.below hb12 (by omega)
      have J12 : Hid (MagI w12 w2.heap.size w3.heap.size A3 L) := J11.out.below (by omega) hb12
      have U12 : Hid (Ints w12 A5 (kindL ⟨s, ws, cs⟩ ms)) := U11.out.below hb12
      have sz12 : w11.heap.size ≤ w12.heap.size := hb12.size
      clear T11 H11 E11 V11 M11 K11 J11 U11
      rw [HG1.out, HG4.out]
      rw [HG2.out] at hO
      obtain ⟨A4, c4, rfl, -⟩ := hO.form
      rw [HLL.out] at hO ⊢
      have P12 : Hid (MagI w12 w11.heap.size w12.heap.size A4 L) := hO.reads
      clear hO
      have b0 := cellOfBlk K12.out 0
      have b1 := cellOfBlk K12.out 1
      have b2 := cellOfBlk K12.out 2
      go_wp2_with fail
      clear b0 b1 b2
      refine (implKind_any _ _ _ _ _ ⟨s, ws, cs⟩ A3 nn c3 L w12 V12.out (by omega) HS.out HLL.out (by omega) J12.out (by omega) HWF2.out).mono ?_
      rintro e w13 ⟨u7, rfl, hO, hb13⟩
      rw [HK2.out] at hO
      obtain ⟨A7, c7, rfl, hI7, -, hc7, hcm7⟩ := hO.form
      rw [HKL.out] at hc7 ⊢
      have T13 : Hid (Below w0.heap.size w0 w13) := T12.out.trans (hb13.mono (by omega))
      have H13 : Hid (w13.cell? ⟨2, 0, none⟩ = some (.iface ct cu)) := (hb13.cell (p := ⟨2, 0, none⟩) (by show 2 < _; omega)).trans H12.out
      have E13 : Hid (ErrH w13) := (hb13.cell (p := ⟨1, 0, none⟩) (by show 1 < _; omega)).trans E12.out
      have V13 : Hid (FontV w13 w0.heap.size w1.heap.size (.agg #[.string s, .slice B1 ws.length d1, .slice B2 cs.length d2]) ⟨s, ws, cs⟩) := V12.out.below (by omega) hb13
      have M13 : Hid (MagI w13 w0.heap.size w1.heap.size (some ad) ms) := M12.out.below (by omega) hb13
      have K13 : Hid (Blk w13 (w1.heap.size) #[.string s, .slice B1 ws.length d1, .slice B2 cs.length d2] 25) := K12.out.below hb13 (by omega)
      have J13 : Hid (MagI w13 w2.heap.size w3.heap.size A3 L) := J12.out.below (by omega) hb13
      have U13 : Hid (Ints w13 A5 (kindL ⟨s, ws, cs⟩ ms)) := U12.out.below hb13
      have P13 : Hid (MagI w13 w11.heap.size w12.heap.size A4 L) := P12.out.below (by omega) hb13
      have sz13 : w12.heap.size ≤ w13.heap.size := hb13.size
      clear T12 H12 E12 V12 M12 K12 J12 U12 P12
      have U713 : Hid (Ints w13 A7 (kindL ⟨s, ws, cs⟩ ms)) := hI7
      clear hO hI7
      go_wp2_with fail
      have hkm : kl ≤ maxLen := by omega
      refine (lawInts_any A7 A5 kl c7 kl c5 _ _ w13 HKL.out HKL.out hkm hkm U713.out U13.out).mono ?_
      rintro e7 w' ⟨dk, rfl, rfl⟩
      rw [decide_eq_true rfl]
      obtain ⟨w14, hwd⟩ : ∃ x, w13.drewN dk = x := ⟨_, rfl⟩
      have hb14 : Below w13.heap.size w13 w14 := by rw [← hwd]; exact below_drewN (Below.refl _ _) dk
      have T14 : Hid (Below w0.heap.size w0 w14) := T13.out.trans (hb14.mono (by omega))
      have H14 : Hid (w14.cell? ⟨2, 0, none⟩ = some (.iface ct cu)) := (hb14.cell (p := ⟨2, 0, none⟩) (by show 2 < _; omega)).trans H13.out
      have E14 : Hid (ErrH w14) := (hb14.cell (p := ⟨1, 0, none⟩) (by show 1 < _; omega)).trans E13.out
      have V14 : Hid (FontV w14 w0.heap.size w1.heap.size (.agg #[.string s, .slice B1 ws.length d1, .slice B2 cs.length d2]) ⟨s, ws, cs⟩) := V13.out.below (by omega) hb14
      have M14 : Hid (MagI w14 w0.heap.size w1.heap.size (some ad) ms) := M13.out.below (by omega) hb14
      have K14 : Hid (Blk w14 (w1.heap.size) #[.string s, .slice B1 ws.length d1, .slice B2 cs.length d2] 25) := K13.out.below hb14 (by omega)
      have J14 : Hid (MagI w14 w2.heap.size w3.heap.size A3 L) := J13.out.below (by omega) hb14
      have U14 : Hid (Ints w14 A5 (kindL ⟨s, ws, cs⟩ ms)) := U13.out.below hb14
      have P14 : Hid (MagI w14 w11.heap.size w12.heap.size A4 L) := P13.out.below (by omega) hb14
      have U714 : Hid (Ints w14 A7 (kindL ⟨s, ws, cs⟩ ms)) := U713.out.below hb14
      have sz14 : w13.heap.size ≤ w14.heap.size := hb14.size
      clear T13 H13 E13 V13 M13 K13 J13 U13 P13 U713
      rw [hwd]
      clear hwd
      go_wp2_with fail
      refine (stocks_same _ _ _ _ A4 A3 nn c4 c3 L w14 HLL.out (by omega) HLIM.out P14.out J14.out).mono ?_
      rintro e8 w' ⟨dk2, rfl, rfl⟩
      obtain ⟨w15, hwd⟩ : ∃ x, w14.drewN dk2 = x := ⟨_, rfl⟩
      have hb15 : Below w14.heap.size w14 w15 := by rw [← hwd]; exact below_drewN (Below.refl _ _) dk2
      have T15 : Hid (Below w0.heap.size w0 w15) := T14.out.trans (hb15.mono (by omega))
      have H15 : Hid (w15.cell? ⟨2, 0, none⟩ = some (.iface ct cu)) := (hb15.cell (p := ⟨2, 0, none⟩) (by show 2 < _; omega)).trans H14.out
      have E15 : Hid (ErrH w15) := (hb15.cell (p := ⟨1, 0, none⟩) (by show 1 < _; omega)).trans E14.out
      have V15 : Hid (FontV w15 w0.heap.size w1.heap.size (.agg #[.string s, .slice B1 ws.length d1, .slice B2 cs.length d2]) ⟨s, ws, cs⟩) := V14.out.below (by omega) hb15
      have M15 : Hid (MagI w15 w0.heap.size w1.heap.size (some ad) ms) := M14.out.below (by omega) hb15
      have K15 : Hid (Blk w15 (w1.heap.size) #[.string s, .slice B1 ws.length d1, .slice B2 cs.length d2] 25) := K14.out.below hb15 (by omega)
      have J15 : Hid (MagI w15 w2.heap.size w3.heap.size A3 L) := J14.out.below (by omega) hb15
      have U15 : Hid (Ints w15 A5 (kindL ⟨s, ws, cs⟩ ms)) := U14.out.below hb15
      have P15 : Hid (MagI w15 w11.heap.size w12.heap.size A4 L) := P14.out.below (by omega) hb15
      have U715 : Hid (Ints w15 A7 (kindL ⟨s, ws, cs⟩ ms)) := U714.out.below hb15
      have sz15 : w14.heap.size ≤ w15.heap.size := hb15.size
      clear T14 H14 E14 V14 M14 K14 J14 U14 P14 U714
      rw [hwd]
      clear hwd
      go_wp2
      go_ret
      exact ⟨rfl, T15.out⟩
end Go.Proofs.YtdijlofcgcikjaaDoor
