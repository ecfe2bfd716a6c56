/-
  sweep by contract: the strays come home one after the other, or the first without room stops it. Conditions: channels of at most 20; errFull reads as laid.
-/
import Derived.Test.YtdijlofcgcikjaaDoorStrayM
namespace Go.Proofs.YtdijlofcgcikjaaDoor
open Go.RowKit Go.Conc
set_option linter.unusedVariables false
set_option linter.unusedSimpArgs false

set_option maxRecDepth 100000 in
set_option maxHeartbeats 12800000 in
theorem sweep_any (cv : Value) (hcv : cv.oneCell' = true) (B hi n : Nat) (hs : List (Option Nat)) (ms : List (List Mat)) (w : World) (hn : ms.length = n) (hm : n ≤ 40) (hlim : ∀ xs ∈ ms, xs.length ≤ 20) (hmd : Made hs n n) (h : ChM w B hi (.slice (some ⟨B, 0, none⟩) n n) hs ms) (hhi : hi ≤ w.heap.size) (hB2 : 2 < B)
    (hk : ∀ x ∈ strs ms n, 0 ≤ x.1 ∧ x.1.toNat < n) (ct : TypeId) (cu : Value) (hg : w.cell? ⟨2, 0, none⟩ = some (.iface ct cu)) :
    Calls Tryd.prog 52 #[.agg #[cv, .slice (some ⟨B, 0, none⟩) n n]] w fun e w' => ((∃ L, sweepGo (hom ms n) (strs ms n) = some L ∧ e = .returned (.tuple #[.int .i64 ((strs ms n).length : Int), .nilIface]) ∧ ChM w' B hi (.slice (some ⟨B, 0, none⟩) n n) hs L) ∨ (sweepGo (hom ms n) (strs ms n) = none ∧ ∃ k : Int, e = .returned (.tuple #[.int .i64 0, .iface 105 (.agg #[.int .i64 k, .iface ct cu])]))) ∧ Chg B hi w w' := by
  have hBh := h.top B rfl
  have hBw : B < w.heap.size := by omega
  obtain ⟨w0, hw0⟩ : ∃ x, w = x := ⟨_, rfl⟩
  have hww : w.heap.size = w0.heap.size := by rw [hw0]
  rw [hw0]
  have hslen := strs_le hlim n (by omega)
  have hLlen := hom_len ms n
  rw [hn] at hLlen
  have hLlim := hom_lim hlim n
  have HMD := Lib.hid hmd; have Hn := Lib.hid hn; have HLIM := Lib.hid hlim
  obtain ⟨S, hS⟩ : ∃ S, strs ms n = S := ⟨_, rfl⟩
  obtain ⟨L0, hL0⟩ : ∃ L, hom ms n = L := ⟨_, rfl⟩
  rw [hS] at hk hslen ⊢
  rw [hL0] at hLlen hLlim ⊢
  obtain ⟨l, hl⟩ : ∃ l, S.length = l := ⟨_, rfl⟩
  rw [hl] at hslen ⊢
  have HSS := Lib.hid hS; have HL0 := Lib.hid hL0; have HL := Lib.hid hl; have HK := Lib.hid hk; have HLL := Lib.hid hLlim
  clear hS hL0 hl hk hLlim
  have C0 : Hid (Chg B hi w0 w0) := Chg.of_below (Below.refl _ _)
  have H0 : Hid (ChM w0 B hi (.slice (some ⟨B, 0, none⟩) n n) hs ms) := by show ChM _ _ _ _ _ _; rw [← hw0]; exact h
  have G0 : Hid (w0.cell? ⟨2, 0, none⟩ = some (.iface ct cu)) := by rw [← hw0]; exact hg
  clear h hg hmd hn hlim
  obtain ⟨w1, hw1, hb1, hz1, hX1⟩ := mxWorld w0 #[cv, .slice (some ⟨B, 0, none⟩) n n] 69
  have C1 : Hid (Chg B hi w0 w1) := C0.out.trans (Chg.of_below hb1)
  have H1 : Hid (ChM w1 B hi (.slice (some ⟨B, 0, none⟩) n n) hs ms) := H0.out.below (by omega) hb1
  have G1 : Hid (w1.cell? ⟨2, 0, none⟩ = some (.iface ct cu)) := (hb1.cell (p := ⟨2, 0, none⟩) (by show 2 < _; omega)).trans G0.out
  have sz1 : w0.heap.size ≤ w1.heap.size := hb1.size
  clear C0 H0 G0
  have R1 : Hid (Blk w1 (w0.heap.size) #[cv, .slice (some ⟨B, 0, none⟩) n n] 69) := by show Blk _ _ _ _; exact hX1
  have r0 := cellOfBlk R1.out 0
  have r1 := cellOfBlk R1.out 1
  go_enter Tryd.func52, Tryd.ntmps52
  go_wp2_with fail
  refine (strays_any cv B hi n hs ms w1 Hn.out hm HLIM.out HMD.out H1.out (by omega)).mono ?_
  rintro e w2 ⟨v1, rfl, hO, hH, hc⟩
  rw [HSS.out] at hO
  rw [HL0.out] at hH
  obtain ⟨A, c, rfl, hlc, hcm, -, -⟩ := hO.form
  rw [HL.out] at hO hlc ⊢
  clear H1
  have hb2 := hc.below (by omega)
  have C2 : Hid (Chg B hi w0 w2) := C1.out.trans hc
  have O2 : Hid (OwnM w2 (w1.heap.size + 1) (.slice A l c) S) := hO
  have H2 : Hid (ChM w2 B hi (.slice (some ⟨B, 0, none⟩) n n) hs L0) := hH
  have R2 : Hid (Blk w2 (w0.heap.size) #[cv, .slice (some ⟨B, 0, none⟩) n n] 69) := (hc.block _ (by omega) (by omega)).trans R1.out
  have G2 : Hid (w2.cell? ⟨2, 0, none⟩ = some (.iface ct cu)) := (hc.cell (p := ⟨2, 0, none⟩) (by show 2 < _; omega) (by show ¬(B ≤ 2 ∧ 2 < hi); omega)).trans G1.out
  have sz2 : w1.heap.size ≤ w2.heap.size := hb2.size
  clear C1 R1 G1
  clear hc hO hH r0 r1
  go_wp2
  obtain ⟨b, hbz⟩ : ∃ b, w1.heap.size = b := ⟨_, rfl⟩
  rw [hbz] at O2
  have P2 : Hid (sweepGo L0 (S.take 0) = some L0) := rfl
  go_loopw [12] (fun jv wr => ∃ (j : Nat) (L : List (List Mat)), j ≤ l ∧ jv = .int .i64 j ∧ Hid (Chg B hi w0 wr) ∧ Hid (ChM wr B hi (.slice (some ⟨B, 0, none⟩) n n) hs L) ∧ Hid (Blk wr (w0.heap.size) #[cv, .slice (some ⟨B, 0, none⟩) n n] 69) ∧ Hid (wr.cell? ⟨2, 0, none⟩ = some (.iface ct cu)) ∧ Hid (OwnM wr (b + 1) (.slice A l c) S) ∧ Hid (sweepGo L0 (S.take j) = some L) ∧ w2.heap.size ≤ wr.heap.size) (fun jv _ => l - (intOf jv).toNat)
  case atStart => exact ⟨0, L0, Nat.zero_le _, rfl, C2, H2, R2, G2, O2, P2, Nat.le_refl _⟩
  case round =>
    clear C2 H2 R2 G2 O2 P2
    obtain ⟨j, L, hjl, rfl, C3, H3, R3, G3, O3, hP, hsz⟩ := hrel
    obtain ⟨w3, hwk⟩ : ∃ x, x = wr := ⟨_, rfl⟩
    subst hwk
    have hLn := sweepGo_len hP.out
    rw [hLlen] at hLn
    have HLm := Lib.hid (sweepGo_lim HLL.out hP.out)
    by_cases hj : j < l
    · obtain ⟨ad, x, hA, hx, c0, c1⟩ := (O3.out.reads).at_ (k := j) (by rw [HL.out]; exact hj)
      obtain ⟨k1, k2⟩ := x
      obtain ⟨kx0, kx1⟩ := HK.out _ (List.mem_of_getElem? hx.out)
      simp only at kx0 kx1 c0 c1
      obtain ⟨m, rfl⟩ := Int.eq_ofNat_of_zero_le kx0
      have hmn : m < n := by simpa using kx1
      obtain ⟨xs, hxs⟩ : ∃ xs, L[m]? = some xs := ⟨_, List.getElem?_eq_getElem (by omega)⟩
      have HXS := Lib.hid hxs
      have hra : rowAt L (m : Int) = xs := rowAt_of hxs
      have HRA := Lib.hid hra
      have hxl := HLm.out xs (List.mem_of_getElem? hxs)
      have hji : (j : Int) < (l : Int) := by omega
      clear hxs hra kx0 kx1
      have hA2 := hA
      subst hA2
      obtain ⟨w4, hw4, hb4, hz4, hX4⟩ := mxWorld w3 #[.int .i64 (m : Int), .int .i64 k2] 30
      have C4 : Hid (Chg B hi w0 w4) := C3.out.trans (Chg.of_below hb4)
      have H4 : Hid (ChM w4 B hi (.slice (some ⟨B, 0, none⟩) n n) hs L) := H3.out.below (by omega) hb4
      have R4 : Hid (Blk w4 (w0.heap.size) #[cv, .slice (some ⟨B, 0, none⟩) n n] 69) := R3.out.below hb4 (by omega)
      have G4 : Hid (w4.cell? ⟨2, 0, none⟩ = some (.iface ct cu)) := (hb4.cell (p := ⟨2, 0, none⟩) (by show 2 < _; omega)).trans G3.out
      have O4 : Hid (OwnM w4 (b + 1) (.slice (some ad) l c) S) := O3.out.below hb4
      have sz4 : w3.heap.size ≤ w4.heap.size := hb4.size
      clear C3 H3 R3 G3 O3
      have X4 : Hid (Blk w4 (w3.heap.size) #[.int .i64 (m : Int), .int .i64 k2] 30) := by show Blk _ _ _ _; exact hX4
      have r0 := cellOfBlk R4.out 0
      have r1 := cellOfBlk R4.out 1
      have x0 := cellOfBlk X4.out 0
      have x1 := cellOfBlk X4.out 1
      go_wp2_with fail
      by_cases hr : xs.length < 20
      · refine (put_room cv B hi n hs L m w4 HMD.out H4.out (by omega) hmn (m : Int) k2 xs HXS.out hr).mono ?_
        rintro e w5 ⟨rfl, hH, hc⟩
        clear X4
        have hb5 := hc.below (by omega)
        have C5 : Hid (Chg B hi w0 w5) := C4.out.trans hc
        have O5 : Hid (OwnM w5 (b + 1) (.slice (some ad) l c) S) := O4.out.chg hc (fun q hq => by have := O4.out.lt q hq; omega)
        have H5 : Hid (ChM w5 B hi (.slice (some ⟨B, 0, none⟩) n n) hs (L.set m (xs ++ [((m : Int), k2)]))) := hH
        have R5 : Hid (Blk w5 (w0.heap.size) #[cv, .slice (some ⟨B, 0, none⟩) n n] 69) := (hc.block _ (by omega) (by omega)).trans R4.out
        have G5 : Hid (w5.cell? ⟨2, 0, none⟩ = some (.iface ct cu)) := (hc.cell (p := ⟨2, 0, none⟩) (by show 2 < _; omega) (by show ¬(B ≤ 2 ∧ 2 < hi); omega)).trans G4.out
        have sz5 : w4.heap.size ≤ w5.heap.size := hb5.size
        clear C4 O4 H4 R4 G4
        have hP2 : Hid (sweepGo L0 (S.take (j + 1)) = some (L.set m (xs ++ [((m : Int), k2)]))) := by have h9 := sweepGo_next hP.out hx.out (by show (rowAt L (m : Int)).length < 20; rw [HRA.out]; exact hr); rw [show ((m : Int), k2).1.toNat = m from Int.toNat_natCast m] at h9; show _ = _; rw [h9]; show some (L.set m (rowAt L (m : Int) ++ _)) = _; rw [HRA.out]
        clear hc hH hP r0 r1 x0 x1 c0 c1
        go_wp2
        exact ⟨⟨j + 1, _, by omega, rfl, C5, H5, R5, G5, O5, hP2, by omega⟩, by simp [intOf]; omega⟩
      · refine (put_full cv B hi n hs L m w4 HMD.out H4.out (by omega) hmn (m : Int) k2 xs ct cu G4.out HXS.out (by omega)).mono ?_
        rintro e w5 ⟨rfl, hH, hc⟩
        have hstop := sweepGo_stop hP.out hx.out (by show 20 ≤ (rowAt L (m : Int)).length; rw [HRA.out]; omega)
        have Cz := C4.out.trans hc
        have hbz2 := hc.below (by omega)
        clear hc hH r0 r1 x0 x1 c0 c1
        go_wp2
        go_ret2
        exact ⟨.inr ⟨hstop, _, rfl⟩, Cz⟩
    · have hje : j = l := by omega
      subst hje
      have hjf : decide ((j : Int) < (j : Int)) = false := by simp
      have hall := hP.out
      rw [List.take_of_length_le (by rw [HL.out]; exact Nat.le_refl _)] at hall
      go_wp2
      go_ret2
      exact ⟨.inl ⟨L, hall, rfl, H3.out⟩, C3.out⟩
end Go.Proofs.YtdijlofcgcikjaaDoor
