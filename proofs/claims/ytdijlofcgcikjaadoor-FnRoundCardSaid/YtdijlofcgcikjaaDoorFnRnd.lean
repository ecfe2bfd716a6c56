/-
  FnRound: its walk. Conditions: errors.errorType, errEmpty and errFull read as laid.
-/
import Derived.Test.YtdijlofcgcikjaaDoorDrawTk
import Derived.Test.YtdijlofcgcikjaaDoorRndM
import Derived.Test.YtdijlofcgcikjaaDoorLawKit
import Derived.Test.YtdijlofcgcikjaaDoorPkD
namespace Go.Proofs.YtdijlofcgcikjaaDoor
open Go.RowKit
set_option linter.unusedVariables false
set_option linter.unusedSimpArgs false

theorem stk_wf2 {b : Nat} {ms : List (List Mat)} (h : StkB b ms) : wfM ms := by
  intro ys hy z hz
  have := (h ys hy).2 z hz
  show (Lit.int .i64 z.2).wf = true
  generalize z.2 = zz at this ⊢
  simp [Lit.wf, IntKind.min, IntKind.max, IntKind.signed, IntKind.bits]
  omega
theorem wfM_set {ms : List (List Mat)} {i : Nat} {e : Mat} {r : List Mat} (h : wfM ms) (hx : ms[i]? = some (e :: r)) : wfM (ms.set i r) ∧ (Lit.int .i64 e.2).wf = true := by
  have hr := h _ (List.mem_of_getElem? hx)
  refine ⟨fun xs hm => ?_, hr e (by simp)⟩
  rcases List.mem_or_eq_of_mem_set hm with hm | rfl
  · exact h xs hm
  · exact fun x hx => hr x (by simp [hx])
theorem wfM_snoc {L : List (List Mat)} {g : Nat} {q : List Mat} {e : Mat} (h : wfM L) (hx : L[g]? = some q) (he : (Lit.int .i64 e.2).wf = true) : wfM (L.set g (q ++ [e])) := fun xs hm => by
  rcases List.mem_or_eq_of_mem_set hm with hm | rfl
  · exact h xs hm
  · intro x hx2
    rcases List.mem_append.1 hx2 with hx2 | hx2
    · exact h q (List.mem_of_getElem? hx) x hx2
    · rw [List.mem_singleton] at hx2; subst hx2; exact he
set_option maxRecDepth 100000 in
set_option maxHeartbeats 12800000 in
theorem fnRound_walk (A : Option Addr) (n c : Nat) (bs : List Int) (w : World) (hn : bs.length = n) (hm : n ≤ maxLen) (h : Bytes w A bs) (wf : ∀ z ∈ bs, (Lit.int .u8 z).wf = true) (ct : TypeId) (cu : Value) (hg : w.cell? ⟨0, 0, none⟩ = some (.iface ct cu)) (ct2 : TypeId) (cu2 : Value) (hg2 : w.cell? ⟨2, 0, none⟩ = some (.iface ct2 cu2)) (he : ErrH w) :
    Calls Tryd.prog 3 #[.slice A n c] w fun e w' => e = .returned (.bool true) ∧ Below w.heap.size w w' := by
  have H := Lib.hid h; have Hn := Lib.hid hn; have Hwf := Lib.hid wf
  clear h hn wf
  have hm0 := hm
  unfold maxLen at hm
  by_cases hbig : 1048576 < n
  · go_enter Tryd.func3, Tryd.ntmps3
    go_wp2
    go_ret
    exact ⟨rfl, Below.refl _ _⟩
  obtain ⟨w0, hw0⟩ : ∃ x, w = x := ⟨_, rfl⟩
  have hww : w.heap.size = w0.heap.size := by rw [hw0]
  rw [hw0] at H hg hg2 he
  have hg3 := World.block_lt_of_cell? _ _ hg
  have hg4 := World.block_lt_of_cell? _ _ hg2
  have hg5 := World.block_lt_of_cell? _ _ he
  simp only at hg3 hg4 hg5
  have T0 : Hid (Below w0.heap.size w0 w0) := Below.refl _ _
  have G0 : Hid (w0.cell? ⟨0, 0, none⟩ = some (.iface ct cu)) := hg
  have H0 : Hid (w0.cell? ⟨2, 0, none⟩ = some (.iface ct2 cu2)) := hg2
  have E0 : Hid (ErrH w0) := he
  clear hg hg2 he
  rw [hw0]
  go_enter Tryd.func3, Tryd.ntmps3
  go_wp2_with fail
  refine (drawTake_any _ _ _ bs _ Hn.out hm0 H.out Hwf.out).mono ?_
  rintro e w1 ⟨u, v, ⟨s, ws, cs⟩, ms, ch, rfl, hch0, hch1, hMD⟩
  obtain ⟨B, nn, cc, rfl, hs24, hw24, hc24, hbd, hml, hnc, hcc, hst, hF, hI, hb1⟩ := hMD
  simp only at hs24 hw24 hc24 hbd
  obtain ⟨ad, had⟩ : ∃ y, (⟨B, 0, none⟩ : Addr) = y := ⟨_, rfl⟩
  rw [had] at hI ⊢
  clear had
  have HS : Hid (Small ⟨s, ws, cs⟩) := ⟨by show s.size ≤ _; omega, by show ws.length ≤ _; omega, by show cs.length ≤ _; omega⟩
  have HWF := Lib.hid (stk_wf2 hst); have HML := Lib.hid hml; have HST := Lib.hid hst
  obtain ⟨B1, d1, B2, d2, rfl, hIC⟩ := fontForm2 hF
  have T1 : Hid (Below w0.heap.size w0 w1) := T0.out.trans (hb1.mono (by omega))
  have G1 : Hid (w1.cell? ⟨0, 0, none⟩ = some (.iface ct cu)) := (hb1.cell (p := ⟨0, 0, none⟩) (by show 0 < _; omega)).trans G0.out
  have H1 : Hid (w1.cell? ⟨2, 0, none⟩ = some (.iface ct2 cu2)) := (hb1.cell (p := ⟨2, 0, none⟩) (by show 2 < _; omega)).trans H0.out
  have E1 : Hid (ErrH w1) := (hb1.cell (p := ⟨1, 0, none⟩) (by show 1 < _; omega)).trans E0.out
  have sz1 : w0.heap.size ≤ w1.heap.size := hb1.size
  clear T0 G0 H0 E0
  have V1 : Hid (FontV w1 w0.heap.size w1.heap.size (.agg #[.string s, .slice B1 ws.length d1, .slice B2 cs.length d2]) ⟨s, ws, cs⟩) := hF
  have M1 : Hid (MagI w1 w0.heap.size w1.heap.size (some ad) ms) := hI
  have Q1 : Hid (IntsI w1 w0.heap.size w1.heap.size B2 cs) := hIC
  clear hF hI hb1 hml hst hbd H Hn Hwf hIC
  obtain ⟨w2, hw2, hb2, hz2, hX2⟩ := mxWorld w1 #[.string s, .slice B1 ws.length d1, .slice B2 cs.length d2] 25
  have T2 : Hid (Below w0.heap.size w0 w2) := T1.out.trans (hb2.mono (by omega))
  have G2 : Hid (w2.cell? ⟨0, 0, none⟩ = some (.iface ct cu)) := (hb2.cell (p := ⟨0, 0, none⟩) (by show 0 < _; omega)).trans G1.out
  have H2 : Hid (w2.cell? ⟨2, 0, none⟩ = some (.iface ct2 cu2)) := (hb2.cell (p := ⟨2, 0, none⟩) (by show 2 < _; omega)).trans H1.out
  have E2 : Hid (ErrH w2) := (hb2.cell (p := ⟨1, 0, none⟩) (by show 1 < _; omega)).trans E1.out
  have V2 : Hid (FontV w2 w0.heap.size w1.heap.size (.agg #[.string s, .slice B1 ws.length d1, .slice B2 cs.length d2]) ⟨s, ws, cs⟩) := V1.out.below (by omega) hb2
  have M2 : Hid (MagI w2 w0.heap.size w1.heap.size (some ad) ms) := M1.out.below (by omega) hb2
  have Q2 : Hid (IntsI w2 w0.heap.size w1.heap.size B2 cs) := Q1.out.below (by omega) hb2
  have sz2 : w1.heap.size ≤ w2.heap.size := hb2.size
  clear T1 G1 H1 E1 V1 M1 Q1
  have K2 : Hid (Blk w2 (w1.heap.size) #[.string s, .slice B1 ws.length d1, .slice B2 cs.length d2] 25) := by show Blk _ _ _ _; exact hX2
  have b0 := cellOfBlk K2.out 0
  have b1 := cellOfBlk K2.out 1
  have b2 := cellOfBlk K2.out 2
  go_wp2_with fail
  clear b0 b1 b2
  refine (implTake_any _ _ _ _ _ ⟨s, ws, cs⟩ (some ad) nn cc ms ch _ V2.out (by omega) HS.out HML.out (by omega) M2.out (by omega) HWF.out ct cu G2.out E2.out).mono ?_
  rintro e w3 ⟨ug, hsg, rfl, hO, hb3⟩
  have T3 : Hid (Below w0.heap.size w0 w3) := T2.out.trans (hb3.mono (by omega))
  have G3 : Hid (w3.cell? ⟨0, 0, none⟩ = some (.iface ct cu)) := (hb3.cell (p := ⟨0, 0, none⟩) (by show 0 < _; omega)).trans G2.out
  have H3 : Hid (w3.cell? ⟨2, 0, none⟩ = some (.iface ct2 cu2)) := (hb3.cell (p := ⟨2, 0, none⟩) (by show 2 < _; omega)).trans H2.out
  have E3 : Hid (ErrH w3) := (hb3.cell (p := ⟨1, 0, none⟩) (by show 1 < _; omega)).trans E2.out
  have V3 : Hid (FontV w3 w0.heap.size w1.heap.size (.agg #[.string s, .slice B1 ws.length d1, .slice B2 cs.length d2]) ⟨s, ws, cs⟩) := V2.out.below (by omega) hb3
  have M3 : Hid (MagI w3 w0.heap.size w1.heap.size (some ad) ms) := M2.out.below (by omega) hb3
  have Q3 : Hid (IntsI w3 w0.heap.size w1.heap.size B2 cs) := Q2.out.below (by omega) hb3
  have K3 : Hid (Blk w3 (w1.heap.size) #[.string s, .slice B1 ws.length d1, .slice B2 cs.length d2] 25) := K2.out.below hb3 (by omega)
  have sz3 : w2.heap.size ≤ w3.heap.size := hb3.size
  clear T2 G2 H2 E2 V2 M2 Q2 K2
  cases hok : takeOk ⟨s, ws, cs⟩ ms ch
  · have hL : takeL ⟨s, ws, cs⟩ ms ch = [] := by unfold takeL; rw [hok]; rfl
    have hX : takeX ⟨s, ws, cs⟩ ms ch = (0, 0) := by unfold takeX; rw [hok]; rfl
    rw [hL] at hO
    rw [hX]
    unfold cvM
    obtain ⟨A9, c9, rfl, -⟩ := hO.form
    clear hO hL hX
    have HOK := Lib.hid hok
    clear hok
    go_upto_region 5 with fail
    obtain ⟨w4, hw4, hb4, hz4, hX4⟩ := mxWorld w3 #[.int .i64 0, .int .i64 0] 30
    have T4 : Hid (Below w0.heap.size w0 w4) := T3.out.trans (hb4.mono (by omega))
    have G4 : Hid (w4.cell? ⟨0, 0, none⟩ = some (.iface ct cu)) := (hb4.cell (p := ⟨0, 0, none⟩) (by show 0 < _; omega)).trans G3.out
    have H4 : Hid (w4.cell? ⟨2, 0, none⟩ = some (.iface ct2 cu2)) := (hb4.cell (p := ⟨2, 0, none⟩) (by show 2 < _; omega)).trans H3.out
    have E4 : Hid (ErrH w4) := (hb4.cell (p := ⟨1, 0, none⟩) (by show 1 < _; omega)).trans E3.out
    have V4 : Hid (FontV w4 w0.heap.size w1.heap.size (.agg #[.string s, .slice B1 ws.length d1, .slice B2 cs.length d2]) ⟨s, ws, cs⟩) := V3.out.below (by omega) hb4
    have M4 : Hid (MagI w4 w0.heap.size w1.heap.size (some ad) ms) := M3.out.below (by omega) hb4
    have Q4 : Hid (IntsI w4 w0.heap.size w1.heap.size B2 cs) := Q3.out.below (by omega) hb4
    have K4 : Hid (Blk w4 (w1.heap.size) #[.string s, .slice B1 ws.length d1, .slice B2 cs.length d2] 25) := K3.out.below hb4 (by omega)
    have sz4 : w3.heap.size ≤ w4.heap.size := hb4.size
    clear T3 G3 H3 E3 V3 M3 Q3 K3
    have X4 : Hid (Blk w4 (w3.heap.size) #[.int .i64 0, .int .i64 0] 30) := by show Blk _ _ _ _; exact hX4
    rw [hw4]
    have b0 := cellOfBlk K4.out 0
    have b1 := cellOfBlk K4.out 1
    have b2 := cellOfBlk K4.out 2
    go_wp2_with fail
    refine (specMagOk_any _ _ _ _ _ ⟨s, ws, cs⟩ (some ad) nn cc ms w4 V4.out (by omega) HS.out HML.out (by omega) M4.out (by omega)).mono ?_
    rintro e4 w5 ⟨rfl, hb5⟩
    clear b0 b1 b2
    have T5 : Hid (Below w0.heap.size w0 w5) := T4.out.trans (hb5.mono (by omega))
    have G5 : Hid (w5.cell? ⟨0, 0, none⟩ = some (.iface ct cu)) := (hb5.cell (p := ⟨0, 0, none⟩) (by show 0 < _; omega)).trans G4.out
    have H5 : Hid (w5.cell? ⟨2, 0, none⟩ = some (.iface ct2 cu2)) := (hb5.cell (p := ⟨2, 0, none⟩) (by show 2 < _; omega)).trans H4.out
    have E5 : Hid (ErrH w5) := (hb5.cell (p := ⟨1, 0, none⟩) (by show 1 < _; omega)).trans E4.out
    have V5 : Hid (FontV w5 w0.heap.size w1.heap.size (.agg #[.string s, .slice B1 ws.length d1, .slice B2 cs.length d2]) ⟨s, ws, cs⟩) := V4.out.below (by omega) hb5
    have M5 : Hid (MagI w5 w0.heap.size w1.heap.size (some ad) ms) := M4.out.below (by omega) hb5
    have Q5 : Hid (IntsI w5 w0.heap.size w1.heap.size B2 cs) := Q4.out.below (by omega) hb5
    have K5 : Hid (Blk w5 (w1.heap.size) #[.string s, .slice B1 ws.length d1, .slice B2 cs.length d2] 25) := K4.out.below hb5 (by omega)
    have X5 : Hid (Blk w5 (w3.heap.size) #[.int .i64 0, .int .i64 0] 30) := X4.out.below hb5 (by omega)
    have sz5 : w4.heap.size ≤ w5.heap.size := hb5.size
    clear T4 G4 H4 E4 V4 M4 Q4 K4 X4
    cases hmb : magB ⟨s, ws, cs⟩ ms
    · go_wp2
      go_ret
      exact ⟨rfl, T5.out⟩
    by_cases h1 : ch < 0
    · go_wp2
      go_ret
      exact ⟨rfl, T5.out⟩
    by_cases h2 : (nn : Int) ≤ ch
    · go_wp2
      go_ret
      exact ⟨rfl, T5.out⟩
    obtain ⟨q, rfl⟩ := Int.eq_ofNat_of_zero_le (by omega : 0 ≤ ch)
    have hqn : q < nn := by omega
    have hqi : (q : Int) < (nn : Int) := by omega
    obtain ⟨ad2, xs, Aj, cj, hA, hx, hcell, hcap, hcm, hI⟩ := M5.out.at_ (k := q) (by rw [HML.out]; omega)
    injection hA with hA
    subst hA
    have hl0 := take_no HOK.out hmb hx.out
    rw [hl0] at hcell
    clear hI h1 h2 hx hl0
    go_wp2
    go_ret
    exact ⟨rfl, T5.out⟩
  · obtain ⟨i, e, r, rfl, hx, hX, hL, hmB, heB, hm1B⟩ := take_facts hok
    rw [hX]
    rw [hL] at hO
    obtain ⟨g, qs, hdg, hfall, hgl, hq, hq20, hdok, hdr⟩ := drop_facts hm1B heB
    obtain ⟨hwf1, hwfe⟩ := wfM_set HWF.out hx
    have hkin : ∃ k : Nat, e.1 = (k : Int) ∧ k < cs.length ∧ k < nn := by
      obtain ⟨hf, hlen, -⟩ := magB_rows hmB
      obtain ⟨e1, -, -⟩ := fontB_codes hf
      have hh := heB
      unfold matB at hh
      rw [Bool.and_eq_true] at hh
      obtain ⟨k0, k1⟩ := (inB_iff _ _ _).1 hh.1
      obtain ⟨k, hk⟩ := Int.eq_ofNat_of_zero_le k0
      simp only at e1 hlen k1
      rw [HML.out] at hlen
      exact ⟨k, hk, by omega, by omega⟩
    obtain ⟨k, hk, hkc, hkn⟩ := hkin
    obtain ⟨k1, k2⟩ := e
    simp only at hk hfall hwfe
    subst hk
    have hin : i < nn := by rw [← HML.out]; exact (List.getElem?_eq_some_iff.1 hx).1
    have hlen1 : (ms.set i r).length = nn := by rw [List.length_set]; exact HML.out
    rw [hlen1] at hgl
    have hhome : k2 = cs.getD k 0 → g = k := fun h9 => by rw [← hdg]; exact whole_home (magB_rows hmB).1 rfl hkc h9
    have hmat : matI ⟨s, ws, cs⟩ ((k : Int), k2) = true := by unfold matI; rw [(magB_rows hmB).1, heB]; rfl
    have hkind : qs.length < 20 → kindL ⟨s, ws, cs⟩ ((ms.set i r).set g (qs ++ [((k : Int), k2)])) = kindL ⟨s, ws, cs⟩ ms := fun h9 => round_kinds hmB hx hq (hdr h9).2.2
    obtain ⟨L1, hL1⟩ : ∃ L, ms.set i r = L := ⟨_, rfl⟩
    rw [hL1] at hO hq hdok hdr hwf1 hlen1 hkind
    obtain ⟨A3, c3, rfl, -⟩ := hO.form
    rw [hlen1] at hO ⊢
    have HX := Lib.hid hx; have HQS := Lib.hid hq; have HDOK := Lib.hid hdok; have HDR := Lib.hid hdr; have HW1 := Lib.hid hwf1; have HWE := Lib.hid hwfe; have HLN1 := Lib.hid hlen1; have HHM := Lib.hid hhome; have HMT := Lib.hid hmat; have HKD := Lib.hid hkind; have HFL := Lib.hid hfall
    clear hx hX hL hmB heB hm1B hdg hq hdok hdr hwf1 hwfe hlen1 hhome hmat hkind hfall hL1
    unfold cvM
    have J3 : Hid (MagI w3 w2.heap.size w3.heap.size A3 L1) := hO.reads
    clear hO
    obtain ⟨w4, hw4, hb4, hz4, hX4⟩ := mxWorld w3 #[.int .i64 (k : Int), .int .i64 k2] 30
    have T4 : Hid (Below w0.heap.size w0 w4) := T3.out.trans (hb4.mono (by omega))
    have G4 : Hid (w4.cell? ⟨0, 0, none⟩ = some (.iface ct cu)) := (hb4.cell (p := ⟨0, 0, none⟩) (by show 0 < _; omega)).trans G3.out
    have H4 : Hid (w4.cell? ⟨2, 0, none⟩ = some (.iface ct2 cu2)) := (hb4.cell (p := ⟨2, 0, none⟩) (by show 2 < _; omega)).trans H3.out
    have E4 : Hid (ErrH w4) := (hb4.cell (p := ⟨1, 0, none⟩) (by show 1 < _; omega)).trans E3.out
    have V4 : Hid (FontV w4 w0.heap.size w1.heap.size (.agg #[.string s, .slice B1 ws.length d1, .slice B2 cs.length d2]) ⟨s, ws, cs⟩) := V3.out.below (by omega) hb4
    have M4 : Hid (MagI w4 w0.heap.size w1.heap.size (some ad) ms) := M3.out.below (by omega) hb4
    have Q4 : Hid (IntsI w4 w0.heap.size w1.heap.size B2 cs) := Q3.out.below (by omega) hb4
    have K4 : Hid (Blk w4 (w1.heap.size) #[.string s, .slice B1 ws.length d1, .slice B2 cs.length d2] 25) := K3.out.below hb4 (by omega)
    have J4 : Hid (MagI w4 w2.heap.size w3.heap.size A3 L1) := J3.out.below (by omega) hb4
    have sz4 : w3.heap.size ≤ w4.heap.size := hb4.size
    clear T3 G3 H3 E3 V3 M3 Q3 K3 J3
    have X4 : Hid (Blk w4 (w3.heap.size) #[.int .i64 (k : Int), .int .i64 k2] 30) := by show Blk _ _ _ _; exact hX4
    have b0 := cellOfBlk K4.out 0
    have b1 := cellOfBlk K4.out 1
    have b2 := cellOfBlk K4.out 2
    have x0 := cellOfBlk X4.out 0
    have x1 := cellOfBlk X4.out 1
    go_wp2_with fail
    refine (implDrop_any _ _ _ _ _ ⟨s, ws, cs⟩ A3 nn c3 L1 (k : Int) k2 _ V4.out (by omega) HS.out HLN1.out (by omega) J4.out (by omega) HW1.out HWE.out ct2 cu2 H4.out E4.out).mono ?_
    rintro e w5 ⟨ud, hsd, rfl, hO, hb5⟩
    clear b0 b1 b2 x0 x1
    have T5 : Hid (Below w0.heap.size w0 w5) := T4.out.trans (hb5.mono (by omega))
    have G5 : Hid (w5.cell? ⟨0, 0, none⟩ = some (.iface ct cu)) := (hb5.cell (p := ⟨0, 0, none⟩) (by show 0 < _; omega)).trans G4.out
    have H5 : Hid (w5.cell? ⟨2, 0, none⟩ = some (.iface ct2 cu2)) := (hb5.cell (p := ⟨2, 0, none⟩) (by show 2 < _; omega)).trans H4.out
    have E5 : Hid (ErrH w5) := (hb5.cell (p := ⟨1, 0, none⟩) (by show 1 < _; omega)).trans E4.out
    have V5 : Hid (FontV w5 w0.heap.size w1.heap.size (.agg #[.string s, .slice B1 ws.length d1, .slice B2 cs.length d2]) ⟨s, ws, cs⟩) := V4.out.below (by omega) hb5
    have M5 : Hid (MagI w5 w0.heap.size w1.heap.size (some ad) ms) := M4.out.below (by omega) hb5
    have Q5 : Hid (IntsI w5 w0.heap.size w1.heap.size B2 cs) := Q4.out.below (by omega) hb5
    have K5 : Hid (Blk w5 (w1.heap.size) #[.string s, .slice B1 ws.length d1, .slice B2 cs.length d2] 25) := K4.out.below hb5 (by omega)
    have J5 : Hid (MagI w5 w2.heap.size w3.heap.size A3 L1) := J4.out.below (by omega) hb5
    have X5 : Hid (Blk w5 (w3.heap.size) #[.int .i64 (k : Int), .int .i64 k2] 30) := X4.out.below hb5 (by omega)
    have sz5 : w4.heap.size ≤ w5.heap.size := hb5.size
    clear T4 G4 H4 E4 V4 M4 Q4 K4 J4 X4
    rw [HDOK.out]
    obtain ⟨P2, hP2⟩ : ∃ y, dropI ⟨s, ws, cs⟩ L1 ((k : Int), k2) = y := ⟨_, rfl⟩
    obtain ⟨L2, hL2⟩ : ∃ y, dropL ⟨s, ws, cs⟩ L1 ((k : Int), k2) = y := ⟨_, rfl⟩
    obtain ⟨m2, hm2⟩ : ∃ y, L2.length = y := ⟨_, rfl⟩
    obtain ⟨fine, hfine⟩ : ∃ y, decide (qs.length < 20) = y := ⟨_, rfl⟩
    rw [hP2, hfine]
    rw [hL2] at hO
    obtain ⟨A4, c4, rfl, -⟩ := hO.form
    rw [hm2] at hO ⊢
    have HP2 := Lib.hid hP2; have HL2 := Lib.hid hL2; have HM2 := Lib.hid hm2; have HFN := Lib.hid hfine
    clear hP2 hL2 hm2 hfine
    have P5 : Hid (MagI w5 w4.heap.size w5.heap.size A4 L2) := hO.reads
    clear hO
    have b0 := cellOfBlk K5.out 0
    have b1 := cellOfBlk K5.out 1
    have b2 := cellOfBlk K5.out 2
    have x0 := cellOfBlk X5.out 0
    have x1 := cellOfBlk X5.out 1
    go_wp2_with fail
    refine (implFallOf_any B2 cs.length d2 cs k2 w5 rfl (by unfold maxLen; omega) Q5.out.ints).mono ?_
    rintro e w' ⟨rfl, rfl⟩
    rw [HFL.out]
    go_wp2_with fail
    refine (implMatrixOk_any _ _ _ ⟨s, ws, cs⟩ ((k : Int), k2) _ V5.out (by omega) HS.out HWE.out).mono ?_
    rintro e w6 ⟨rfl, hb6⟩
    rw [HMT.out]
    clear b0 b1 b2 x0 x1
    have T6 : Hid (Below w0.heap.size w0 w6) := T5.out.trans (hb6.mono (by omega))
    have G6 : Hid (w6.cell? ⟨0, 0, none⟩ = some (.iface ct cu)) := (hb6.cell (p := ⟨0, 0, none⟩) (by show 0 < _; omega)).trans G5.out
    have H6 : Hid (w6.cell? ⟨2, 0, none⟩ = some (.iface ct2 cu2)) := (hb6.cell (p := ⟨2, 0, none⟩) (by show 2 < _; omega)).trans H5.out
    have E6 : Hid (ErrH w6) := (hb6.cell (p := ⟨1, 0, none⟩) (by show 1 < _; omega)).trans E5.out
    have V6 : Hid (FontV w6 w0.heap.size w1.heap.size (.agg #[.string s, .slice B1 ws.length d1, .slice B2 cs.length d2]) ⟨s, ws, cs⟩) := V5.out.below (by omega) hb6
    have M6 : Hid (MagI w6 w0.heap.size w1.heap.size (some ad) ms) := M5.out.below (by omega) hb6
    have Q6 : Hid (IntsI w6 w0.heap.size w1.heap.size B2 cs) := Q5.out.below (by omega) hb6
    have K6 : Hid (Blk w6 (w1.heap.size) #[.string s, .slice B1 ws.length d1, .slice B2 cs.length d2] 25) := K5.out.below hb6 (by omega)
    have J6 : Hid (MagI w6 w2.heap.size w3.heap.size A3 L1) := J5.out.below (by omega) hb6
    have X6 : Hid (Blk w6 (w3.heap.size) #[.int .i64 (k : Int), .int .i64 k2] 30) := X5.out.below hb6 (by omega)
    have P6 : Hid (MagI w6 w4.heap.size w5.heap.size A4 L2) := P5.out.below (by omega) hb6
    have sz6 : w5.heap.size ≤ w6.heap.size := hb6.size
    clear T5 G5 H5 E5 V5 M5 Q5 K5 J5 X5 P5
    have b0 := cellOfBlk K6.out 0
    have b1 := cellOfBlk K6.out 1
    have b2 := cellOfBlk K6.out 2
    have x0 := cellOfBlk X6.out 0
    have x1 := cellOfBlk X6.out 1
    have hgi : decide ((nn : Int) ≤ (g : Int)) = false := by rw [decide_eq_false_iff_not]; omega
    cases fine
    · obtain ⟨ad3, xs, Aj, cj, hA, hx, hcell, -⟩ := J6.out.at_ (k := g) (by rw [HLN1.out]; omega)
      subst hA
      obtain rfl : qs = xs := by have h9 := HQS.out; rw [hx.out] at h9; injection h9 with h9; exact h9.symm
      have h20 : qs.length = 20 := by have h9 := HFN.out; rw [decide_eq_false_iff_not] at h9; omega
      rw [h20] at hcell
      have hgn : (g : Int) < (nn : Int) := by omega
      clear hx h20 hq20
      go_wp2
      go_ret
      exact ⟨rfl, T6.out⟩
    · have hlt : qs.length < 20 := by have h9 := HFN.out; exact of_decide_eq_true h9
      obtain ⟨d1e, d2e, -⟩ := HDR.out hlt
      have hPg := HP2.out
      rw [d1e] at hPg
      subst hPg
      have hLg := HL2.out
      rw [d2e] at hLg
      have hm2 := HM2.out
      rw [← hLg, List.length_set, HLN1.out] at hm2
      subst hm2
      have hkd2 := HKD.out hlt
      rw [hLg] at hkd2
      have HKD2 := Lib.hid hkd2
      clear hkd2
      have hw2 := wfM_snoc (e := ((k : Int), k2)) HW1.out HQS.out HWE.out
      rw [hLg] at hw2
      have HW2 := Lib.hid hw2
      clear hw2
      have hL2g : L2[g]? = some (qs ++ [((k : Int), k2)]) := by rw [← hLg]; exact List.getElem?_set_self (by rw [HLN1.out]; exact hgl)
      have HL2g := Lib.hid hL2g
      clear d1e d2e hLg hL2g
      obtain ⟨ad5, cv, hA5, hcv, hcc5⟩ := (Q6.out.ints).at_ (k := k) hkc
      subst hA5
      have hgd : cs.getD k 0 = cv := by rw [List.getD, hcv.out]; rfl
      have HGD := Lib.hid hgd
      clear hgd hcv
      have C6 : Hid (w6.cell? (ad5.add k) = some (.int .i64 cv)) := hcc5
      clear hcc5 b0 b1 b2 x0 x1
      have hki : (k : Int) < (cs.length : Int) := by omega
      have hkni : decide ((nn : Int) ≤ (k : Int)) = false := by rw [decide_eq_false_iff_not]; omega
      have hk0 : decide ((k : Int) < 0) = false := by rw [decide_eq_false_iff_not]; omega
      have hk3 : decide (nn ≤ k) = false := by rw [decide_eq_false_iff_not]; omega
      by_cases heq : k2 = cv
      · have hgk : g = k := HHM.out (by rw [HGD.out]; exact heq)
        have hgkb : ((g : Int) != (k : Int)) = false := by rw [hgk]; simp
        have hcmp : (k2 == cv) = true := by simpa using heq
        clear hgk
        clear heq
        go_upto_region 13 with fail
        refine wp_region_plan (.take 0 (.take 1 (.take 2 (.take 3 (.take 4 (.take 5 (.take 6 (.take 7 (.take 8 (.take 9 (.take 10 (.take 11 (.take 12 (.take 13 (.take 14 (.take 15 (.take 16 (.take 17 (.take 18 (.take 19 (.take 20 (.take 21 (.take 22 (.take 23 (.take 24 (.take 25 (.take 26 (.take 27 (.take 28 (.take 29 (.take 30 (.take 31 (.take 32 (.take 33 (.take 34 (.take 35 (.take 36 (.take 37 (.take 38 .done))))))))))))))))))))))))))))))))))))))) (fun w' => w'.cell? ⟨w1.heap.size, 0, none⟩ = some (.string s) ∧ w'.cell? ⟨w1.heap.size, 1, none⟩ = some (.slice B1 ws.length d1) ∧ w'.cell? ⟨w1.heap.size, 2, none⟩ = some (.slice (some ad5) cs.length d2) ∧ w'.cell? ⟨w3.heap.size, 0, none⟩ = some (.int .i64 (k : Int)) ∧ w'.cell? ⟨w3.heap.size, 1, none⟩ = some (.int .i64 k2) ∧ w'.cell? (ad5.add k) = some (.int .i64 cv)) (by kernel_rfl) (by kernel_rfl) (by kernel_rfl) (by intro c a d v w h; cases d <;> exact h) ⟨cellOfBlk K6.out 0, cellOfBlk K6.out 1, cellOfBlk K6.out 2, cellOfBlk X6.out 0, cellOfBlk X6.out 1, C6.out⟩ ?_
        obtain ⟨w7, hwd⟩ : ∃ x, w6.drew = x := ⟨_, rfl⟩
        have hb7 : Below w6.heap.size w6 w7 := by rw [← hwd]; exact (Below.refl _ _).drew
        have hsz7 : w7.heap.size = w6.heap.size := by rw [← hwd]; rfl
        have T7 : Hid (Below w0.heap.size w0 w7) := T6.out.trans (hb7.mono (by omega))
        have G7 : Hid (w7.cell? ⟨0, 0, none⟩ = some (.iface ct cu)) := (hb7.cell (p := ⟨0, 0, none⟩) (by show 0 < _; omega)).trans G6.out
        have H7 : Hid (w7.cell? ⟨2, 0, none⟩ = some (.iface ct2 cu2)) := (hb7.cell (p := ⟨2, 0, none⟩) (by show 2 < _; omega)).trans H6.out
        have E7 : Hid (ErrH w7) := (hb7.cell (p := ⟨1, 0, none⟩) (by show 1 < _; omega)).trans E6.out
        have V7 : Hid (FontV w7 w0.heap.size w1.heap.size (.agg #[.string s, .slice B1 ws.length d1, .slice (some ad5) cs.length d2]) ⟨s, ws, cs⟩) := V6.out.below (by omega) hb7
        have M7 : Hid (MagI w7 w0.heap.size w1.heap.size (some ad) ms) := M6.out.below (by omega) hb7
        have Q7 : Hid (IntsI w7 w0.heap.size w1.heap.size (some ad5) cs) := Q6.out.below (by omega) hb7
        have K7 : Hid (Blk w7 (w1.heap.size) #[.string s, .slice B1 ws.length d1, .slice (some ad5) cs.length d2] 25) := K6.out.below hb7 (by omega)
        have J7 : Hid (MagI w7 w2.heap.size w3.heap.size A3 L1) := J6.out.below (by omega) hb7
        have X7 : Hid (Blk w7 (w3.heap.size) #[.int .i64 (k : Int), .int .i64 k2] 30) := X6.out.below hb7 (by omega)
        have P7 : Hid (MagI w7 w4.heap.size w5.heap.size A4 L2) := P6.out.below (by omega) hb7
        have C7 : Hid (w7.cell? (ad5.add k) = some (.int .i64 cv)) := (hb7.cell (World.block_lt_of_cell? _ _ C6.out)).trans C6.out
        have sz7 : w6.heap.size ≤ w7.heap.size := hb7.size
        clear T6 G6 H6 E6 V6 M6 Q6 K6 J6 X6 P6 C6
        rw [hwd]
        clear hwd
        refine plan_quiet rfl (by rfl) (v := ?_) ?_ ?_; rotate_left; (intro w1 hSw; obtain ⟨hs0, hs1, hs2, hs3, hs4, hs5⟩ := hSw; go_simp; try (with_reducible rfl)); (try simp only [Act.put, List.setIfInBounds_toArray, List.set_cons_zero, List.set_cons_succ])
        refine plan_quiet rfl (by rfl) (v := ?_) ?_ ?_; rotate_left; (intro w1 hSw; obtain ⟨hs0, hs1, hs2, hs3, hs4, hs5⟩ := hSw; go_simp; try (with_reducible rfl)); (try simp only [Act.put, List.setIfInBounds_toArray, List.set_cons_zero, List.set_cons_succ])
        refine plan_quiet rfl (by rfl) (v := ?_) ?_ ?_; rotate_left; (intro w1 hSw; obtain ⟨hs0, hs1, hs2, hs3, hs4, hs5⟩ := hSw; go_simp; try (with_reducible rfl)); (try simp only [Act.put, List.setIfInBounds_toArray, List.set_cons_zero, List.set_cons_succ])
        refine plan_quiet rfl (by rfl) (v := ?_) ?_ ?_; rotate_left; (intro w1 hSw; obtain ⟨hs0, hs1, hs2, hs3, hs4, hs5⟩ := hSw; go_simp; try (with_reducible rfl)); (try simp only [Act.put, List.setIfInBounds_toArray, List.set_cons_zero, List.set_cons_succ])
        refine plan_quiet rfl (by rfl) (v := ?_) ?_ ?_; rotate_left; (intro w1 hSw; obtain ⟨hs0, hs1, hs2, hs3, hs4, hs5⟩ := hSw; go_simp; try (with_reducible rfl)); (try simp only [Act.put, List.setIfInBounds_toArray, List.set_cons_zero, List.set_cons_succ])
        refine plan_quiet rfl (by rfl) (v := ?_) ?_ ?_; rotate_left; (intro w1 hSw; obtain ⟨hs0, hs1, hs2, hs3, hs4, hs5⟩ := hSw; go_simp; try (with_reducible rfl)); (try simp only [Act.put, List.setIfInBounds_toArray, List.set_cons_zero, List.set_cons_succ])
        refine plan_quiet rfl (by rfl) (v := ?_) ?_ ?_; rotate_left; (intro w1 hSw; obtain ⟨hs0, hs1, hs2, hs3, hs4, hs5⟩ := hSw; go_simp; try (with_reducible rfl)); (try simp only [Act.put, List.setIfInBounds_toArray, List.set_cons_zero, List.set_cons_succ])
        refine plan_quiet rfl (by rfl) (v := ?_) ?_ ?_; rotate_left; (intro w1 hSw; obtain ⟨hs0, hs1, hs2, hs3, hs4, hs5⟩ := hSw; go_simp; try (with_reducible rfl)); (try simp only [Act.put, List.setIfInBounds_toArray, List.set_cons_zero, List.set_cons_succ])
        refine plan_quiet rfl (by rfl) (v := ?_) ?_ ?_; rotate_left; (intro w1 hSw; obtain ⟨hs0, hs1, hs2, hs3, hs4, hs5⟩ := hSw; go_simp; try (with_reducible rfl)); (try simp only [Act.put, List.setIfInBounds_toArray, List.set_cons_zero, List.set_cons_succ])
        refine plan_quiet rfl (by rfl) (v := ?_) ?_ ?_; rotate_left; (intro w1 hSw; obtain ⟨hs0, hs1, hs2, hs3, hs4, hs5⟩ := hSw; go_simp; try (with_reducible rfl)); (try simp only [Act.put, List.setIfInBounds_toArray, List.set_cons_zero, List.set_cons_succ])
        refine plan_quiet rfl (by rfl) (v := ?_) ?_ ?_; rotate_left; (intro w1 hSw; obtain ⟨hs0, hs1, hs2, hs3, hs4, hs5⟩ := hSw; go_simp; try (with_reducible rfl)); (try simp only [Act.put, List.setIfInBounds_toArray, List.set_cons_zero, List.set_cons_succ])
        refine plan_quiet rfl (by rfl) (v := ?_) ?_ ?_; rotate_left; (intro w1 hSw; obtain ⟨hs0, hs1, hs2, hs3, hs4, hs5⟩ := hSw; go_simp; try (with_reducible rfl)); (try simp only [Act.put, List.setIfInBounds_toArray, List.set_cons_zero, List.set_cons_succ])
        refine plan_quiet rfl (by rfl) (v := ?_) ?_ ?_; rotate_left; (intro w1 hSw; obtain ⟨hs0, hs1, hs2, hs3, hs4, hs5⟩ := hSw; go_simp; try (with_reducible rfl)); (try simp only [Act.put, List.setIfInBounds_toArray, List.set_cons_zero, List.set_cons_succ])
        refine plan_quiet rfl (by rfl) (v := ?_) ?_ ?_; rotate_left; (intro w1 hSw; obtain ⟨hs0, hs1, hs2, hs3, hs4, hs5⟩ := hSw; go_simp; try (with_reducible rfl)); (try simp only [Act.put, List.setIfInBounds_toArray, List.set_cons_zero, List.set_cons_succ])
        refine plan_quiet rfl (by rfl) (v := ?_) ?_ ?_; rotate_left; (intro w1 hSw; obtain ⟨hs0, hs1, hs2, hs3, hs4, hs5⟩ := hSw; go_simp; try (with_reducible rfl)); (try simp only [Act.put, List.setIfInBounds_toArray, List.set_cons_zero, List.set_cons_succ])
        refine plan_quiet rfl (by rfl) (v := ?_) ?_ ?_; rotate_left; (intro w1 hSw; obtain ⟨hs0, hs1, hs2, hs3, hs4, hs5⟩ := hSw; go_simp; try (with_reducible rfl)); (try simp only [Act.put, List.setIfInBounds_toArray, List.set_cons_zero, List.set_cons_succ])
        refine plan_quiet rfl (by rfl) (v := ?_) ?_ ?_; rotate_left; (intro w1 hSw; obtain ⟨hs0, hs1, hs2, hs3, hs4, hs5⟩ := hSw; go_simp; try (with_reducible rfl)); (try simp only [Act.put, List.setIfInBounds_toArray, List.set_cons_zero, List.set_cons_succ])
        refine plan_quiet rfl (by rfl) (v := ?_) ?_ ?_; rotate_left; (intro w1 hSw; obtain ⟨hs0, hs1, hs2, hs3, hs4, hs5⟩ := hSw; go_simp; try (with_reducible rfl)); (try simp only [Act.put, List.setIfInBounds_toArray, List.set_cons_zero, List.set_cons_succ])
        refine plan_quiet rfl (by rfl) (v := ?_) ?_ ?_; rotate_left; (intro w1 hSw; obtain ⟨hs0, hs1, hs2, hs3, hs4, hs5⟩ := hSw; go_simp; try (with_reducible rfl)); (try simp only [Act.put, List.setIfInBounds_toArray, List.set_cons_zero, List.set_cons_succ])
        refine plan_quiet rfl (by rfl) (v := ?_) ?_ ?_; rotate_left; (intro w1 hSw; obtain ⟨hs0, hs1, hs2, hs3, hs4, hs5⟩ := hSw; go_simp; try (with_reducible rfl)); (try simp only [Act.put, List.setIfInBounds_toArray, List.set_cons_zero, List.set_cons_succ])
        refine plan_quiet rfl (by rfl) (v := ?_) ?_ ?_; rotate_left; (intro w1 hSw; obtain ⟨hs0, hs1, hs2, hs3, hs4, hs5⟩ := hSw; go_simp; try (with_reducible rfl)); (try simp only [Act.put, List.setIfInBounds_toArray, List.set_cons_zero, List.set_cons_succ])
        refine plan_quiet rfl (by rfl) (v := ?_) ?_ ?_; rotate_left; (intro w1 hSw; obtain ⟨hs0, hs1, hs2, hs3, hs4, hs5⟩ := hSw; go_simp; try (with_reducible rfl)); (try simp only [Act.put, List.setIfInBounds_toArray, List.set_cons_zero, List.set_cons_succ])
        refine plan_quiet rfl (by rfl) (v := ?_) ?_ ?_; rotate_left; (intro w1 hSw; obtain ⟨hs0, hs1, hs2, hs3, hs4, hs5⟩ := hSw; go_simp; try (with_reducible rfl)); (try simp only [Act.put, List.setIfInBounds_toArray, List.set_cons_zero, List.set_cons_succ])
        refine plan_quiet rfl (by rfl) (v := ?_) ?_ ?_; rotate_left; (intro w1 hSw; obtain ⟨hs0, hs1, hs2, hs3, hs4, hs5⟩ := hSw; go_simp; try (with_reducible rfl)); (try simp only [Act.put, List.setIfInBounds_toArray, List.set_cons_zero, List.set_cons_succ])
        refine plan_quiet rfl (by rfl) (v := ?_) ?_ ?_; rotate_left; (intro w1 hSw; obtain ⟨hs0, hs1, hs2, hs3, hs4, hs5⟩ := hSw; go_simp; try (with_reducible rfl)); (try simp only [Act.put, List.setIfInBounds_toArray, List.set_cons_zero, List.set_cons_succ])
        refine plan_quiet rfl (by rfl) (v := ?_) ?_ ?_; rotate_left; (intro w1 hSw; obtain ⟨hs0, hs1, hs2, hs3, hs4, hs5⟩ := hSw; go_simp; try (with_reducible rfl)); (try simp only [Act.put, List.setIfInBounds_toArray, List.set_cons_zero, List.set_cons_succ])
        refine plan_quiet rfl (by rfl) (v := ?_) ?_ ?_; rotate_left; (intro w1 hSw; obtain ⟨hs0, hs1, hs2, hs3, hs4, hs5⟩ := hSw; go_simp; try (with_reducible rfl)); (try simp only [Act.put, List.setIfInBounds_toArray, List.set_cons_zero, List.set_cons_succ])
        refine plan_quiet rfl (by rfl) (v := ?_) ?_ ?_; rotate_left; (intro w1 hSw; obtain ⟨hs0, hs1, hs2, hs3, hs4, hs5⟩ := hSw; go_simp; try (with_reducible rfl)); (try simp only [Act.put, List.setIfInBounds_toArray, List.set_cons_zero, List.set_cons_succ])
        refine plan_quiet rfl (by rfl) (v := ?_) ?_ ?_; rotate_left; (intro w1 hSw; obtain ⟨hs0, hs1, hs2, hs3, hs4, hs5⟩ := hSw; go_simp; try (with_reducible rfl)); (try simp only [Act.put, List.setIfInBounds_toArray, List.set_cons_zero, List.set_cons_succ])
        refine plan_quiet rfl (by rfl) (v := ?_) ?_ ?_; rotate_left; (intro w1 hSw; obtain ⟨hs0, hs1, hs2, hs3, hs4, hs5⟩ := hSw; go_simp; try (with_reducible rfl)); (try simp only [Act.put, List.setIfInBounds_toArray, List.set_cons_zero, List.set_cons_succ])
        refine plan_quiet rfl (by rfl) (v := ?_) ?_ ?_; rotate_left; (intro w1 hSw; obtain ⟨hs0, hs1, hs2, hs3, hs4, hs5⟩ := hSw; go_simp; try (with_reducible rfl)); (try simp only [Act.put, List.setIfInBounds_toArray, List.set_cons_zero, List.set_cons_succ])
        refine plan_quiet rfl (by rfl) (v := ?_) ?_ ?_; rotate_left; (intro w1 hSw; obtain ⟨hs0, hs1, hs2, hs3, hs4, hs5⟩ := hSw; go_simp; try (with_reducible rfl)); (try simp only [Act.put, List.setIfInBounds_toArray, List.set_cons_zero, List.set_cons_succ])
        refine plan_quiet rfl (by rfl) (v := ?_) ?_ ?_; rotate_left; (intro w1 hSw; obtain ⟨hs0, hs1, hs2, hs3, hs4, hs5⟩ := hSw; go_simp; try (with_reducible rfl)); (try simp only [Act.put, List.setIfInBounds_toArray, List.set_cons_zero, List.set_cons_succ])
        refine plan_quiet rfl (by rfl) (v := ?_) ?_ ?_; rotate_left; (intro w1 hSw; obtain ⟨hs0, hs1, hs2, hs3, hs4, hs5⟩ := hSw; go_simp; try (with_reducible rfl)); (try simp only [Act.put, List.setIfInBounds_toArray, List.set_cons_zero, List.set_cons_succ])
        refine plan_quiet rfl (by rfl) (v := ?_) ?_ ?_; rotate_left; (intro w1 hSw; obtain ⟨hs0, hs1, hs2, hs3, hs4, hs5⟩ := hSw; go_simp; try (with_reducible rfl)); (try simp only [Act.put, List.setIfInBounds_toArray, List.set_cons_zero, List.set_cons_succ])
        refine plan_quiet rfl (by rfl) (v := ?_) ?_ ?_; rotate_left; (intro w1 hSw; obtain ⟨hs0, hs1, hs2, hs3, hs4, hs5⟩ := hSw; go_simp; try (with_reducible rfl)); (try simp only [Act.put, List.setIfInBounds_toArray, List.set_cons_zero, List.set_cons_succ])
        refine plan_quiet rfl (by rfl) (v := ?_) ?_ ?_; rotate_left; (intro w1 hSw; obtain ⟨hs0, hs1, hs2, hs3, hs4, hs5⟩ := hSw; go_simp; try (with_reducible rfl)); (try simp only [Act.put, List.setIfInBounds_toArray, List.set_cons_zero, List.set_cons_succ])
        refine plan_quiet rfl (by rfl) (v := ?_) ?_ ?_; rotate_left; (intro w1 hSw; obtain ⟨hs0, hs1, hs2, hs3, hs4, hs5⟩ := hSw; go_simp; try (with_reducible rfl)); (try simp only [Act.put, List.setIfInBounds_toArray, List.set_cons_zero, List.set_cons_succ])
        refine plan_quiet rfl (by rfl) (v := ?_) ?_ ?_; rotate_left; (intro w1 hSw; obtain ⟨hs0, hs1, hs2, hs3, hs4, hs5⟩ := hSw; go_simp; try (with_reducible rfl)); (try simp only [Act.put, List.setIfInBounds_toArray, List.set_cons_zero, List.set_cons_succ])
        refine plan_end ?_
        obtain ⟨ad6, xs6, A6, c6, hA6, hx6, hcell6, -, -, hI6⟩ := P7.out.at_ (k := g) (by rw [HM2.out]; omega)
        subst hA6
        obtain rfl : qs ++ [((k : Int), k2)] = xs6 := by have h9 := HL2g.out; rw [hx6.out] at h9; injection h9 with h9; exact h9.symm
        obtain ⟨l, hl⟩ : ∃ y, qs.length = y := ⟨_, rfl⟩
        obtain ⟨l1, hl1⟩ : ∃ y, l + 1 = y := ⟨_, rfl⟩
        rw [show (qs ++ [((k : Int), k2)]).length = l1 by rw [List.length_append, hl, ← hl1]; rfl] at hcell6
        obtain ⟨ad7, z7, hA7, hz7, c70, c71⟩ := hI6.at_ (k := l) (by rw [List.length_append, hl]; simp)
        subst hA7
        obtain rfl : ((k : Int), k2) = z7 := by have h9 := hz7.out; rw [← hl, List.getElem?_concat_length] at h9; injection h9
        simp only at c70 c71
        obtain ⟨ad8, xs8, A8, c8, hA8, hx8, hcell8, -, -, hI8⟩ := M7.out.at_ (k := i) (by rw [HML.out]; exact hin)
        injection hA8 with hA8
        subst hA8
        obtain rfl : ((k : Int), k2) :: r = xs8 := by have h9 := HX.out; rw [hx8.out] at h9; injection h9 with h9; exact h9.symm
        obtain ⟨l8, hl8⟩ : ∃ y, (((k : Int), k2) :: r).length = y := ⟨_, rfl⟩
        rw [hl8] at hcell8
        have hl80 : 0 < l8 := by rw [← hl8]; simp
        obtain ⟨ad9, z9, hA9, hz9, c90, c91⟩ := hI8.at_ (k := 0) (by simp)
        subst hA9
        obtain rfl : ((k : Int), k2) = z9 := by have h9 := hz9.out; simpa using h9
        simp only at c90 c91
        rw [show ad9.add (0 * 2) = ad9 by simp [Addr.add]] at c90 c91
        have Y7 : Hid (w7.cell? (ad6.add g) = some (.slice (some ad7) l1 c6)) := hcell6
        have Z7 : Hid (w7.cell? (ad7.add (l * 2)) = some (.int .i64 (k : Int))) := c70
        have Z27 : Hid (w7.cell? ⟨(ad7.add (l * 2)).block, (ad7.add (l * 2)).off + 1, none⟩ = some (.int .i64 k2)) := c71
        have N7 : Hid (w7.cell? (ad.add i) = some (.slice (some ad9) l8 c8)) := hcell8
        have O7 : Hid (w7.cell? ad9 = some (.int .i64 (k : Int))) := c90
        have O27 : Hid (w7.cell? ⟨ad9.block, ad9.off + 1, none⟩ = some (.int .i64 k2)) := c91
        clear hcell6 c70 c71 hcell8 c90 c91 hx6 hz7 hx8 hz9 hI6 hI8
        have e1 : (l1 : Int) - 1 = (l : Int) := by omega
        have e2 : IntKind.i64.wrap (l : Int) = (l : Int) := by rw [IntKind.wrap_i64]; omega
        have hll : l < l1 := by omega
        have hlli : (l : Int) < (l1 : Int) := by omega
        have hl10 : decide ((0 : Int) < (l1 : Int)) = true := by rw [decide_eq_true_eq]; omega
        have hl11 : decide (0 < l1) = true := by rw [decide_eq_true_eq]; omega
        have hl1p : 0 < l1 := by omega
        have hgn : (g : Int) < (nn : Int) := by omega
        have hini : (i : Int) < (nn : Int) := by omega
        have hl8i : (0 : Int) < (l8 : Int) := by omega
        have hy9 := Y7.out
        go_upto_region 16 with fail
        clear hy9
        refine wp_region_plan (.take 0 (.take 1 (.take 2 (.take 3 (.take 4 (.take 5 (.take 6 (.take 7 (.take 8 (.take 9 (.take 10 (.take 11 (.take 12 (.take 13 (.take 14 (.take 15 (.take 16 (.take 17 (.take 18 (.take 19 (.take 20 (.take 21 (.take 22 (.take 23 (.take 24 (.take 25 (.take 27 (.take 28 (.one 26 (.one 29 (.one 30 (.take 31 (.take 32 .done))))))))))))))))))))))))))))))))) (fun w' => w'.cell? ⟨w1.heap.size, 0, none⟩ = some (.string s) ∧ w'.cell? ⟨w1.heap.size, 1, none⟩ = some (.slice B1 ws.length d1) ∧ w'.cell? ⟨w1.heap.size, 2, none⟩ = some (.slice (some ad5) cs.length d2) ∧ w'.cell? ⟨w3.heap.size, 0, none⟩ = some (.int .i64 (k : Int)) ∧ w'.cell? ⟨w3.heap.size, 1, none⟩ = some (.int .i64 k2) ∧ w'.cell? (ad6.add g) = some (.slice (some ad7) l1 c6) ∧ w'.cell? (ad7.add (l * 2)) = some (.int .i64 (k : Int)) ∧ w'.cell? ⟨(ad7.add (l * 2)).block, (ad7.add (l * 2)).off + 1, none⟩ = some (.int .i64 k2) ∧ w'.cell? (ad.add i) = some (.slice (some ad9) l8 c8) ∧ w'.cell? ad9 = some (.int .i64 (k : Int)) ∧ w'.cell? ⟨ad9.block, ad9.off + 1, none⟩ = some (.int .i64 k2)) (by kernel_rfl) (by kernel_rfl) (by kernel_rfl) (by intro c a d v w h; cases d <;> exact h) ⟨cellOfBlk K7.out 0, cellOfBlk K7.out 1, cellOfBlk K7.out 2, cellOfBlk X7.out 0, cellOfBlk X7.out 1, Y7.out, Z7.out, Z27.out, N7.out, O7.out, O27.out⟩ ?_
        obtain ⟨w8, hwd⟩ : ∃ x, w7.drew = x := ⟨_, rfl⟩
        have hb8 : Below w7.heap.size w7 w8 := by rw [← hwd]; exact (Below.refl _ _).drew
        have hsz8 : w8.heap.size = w7.heap.size := by rw [← hwd]; rfl
        have T8 : Hid (Below w0.heap.size w0 w8) := T7.out.trans (hb8.mono (by omega))
        have G8 : Hid (w8.cell? ⟨0, 0, none⟩ = some (.iface ct cu)) := (hb8.cell (p := ⟨0, 0, none⟩) (by show 0 < _; omega)).trans G7.out
        have H8 : Hid (w8.cell? ⟨2, 0, none⟩ = some (.iface ct2 cu2)) := (hb8.cell (p := ⟨2, 0, none⟩) (by show 2 < _; omega)).trans H7.out
        have E8 : Hid (ErrH w8) := (hb8.cell (p := ⟨1, 0, none⟩) (by show 1 < _; omega)).trans E7.out
        have V8 : Hid (FontV w8 w0.heap.size w1.heap.size (.agg #[.string s, .slice B1 ws.length d1, .slice (some ad5) cs.length d2]) ⟨s, ws, cs⟩) := V7.out.below (by omega) hb8
        have M8 : Hid (MagI w8 w0.heap.size w1.heap.size (some ad) ms) := M7.out.below (by omega) hb8
        have Q8 : Hid (IntsI w8 w0.heap.size w1.heap.size (some ad5) cs) := Q7.out.below (by omega) hb8
        have K8 : Hid (Blk w8 (w1.heap.size) #[.string s, .slice B1 ws.length d1, .slice (some ad5) cs.length d2] 25) := K7.out.below hb8 (by omega)
        have J8 : Hid (MagI w8 w2.heap.size w3.heap.size A3 L1) := J7.out.below (by omega) hb8
        have X8 : Hid (Blk w8 (w3.heap.size) #[.int .i64 (k : Int), .int .i64 k2] 30) := X7.out.below hb8 (by omega)
        have P8 : Hid (MagI w8 w4.heap.size w5.heap.size (some ad6) L2) := P7.out.below (by omega) hb8
        have C8 : Hid (w8.cell? (ad5.add k) = some (.int .i64 cv)) := (hb8.cell (World.block_lt_of_cell? _ _ C7.out)).trans C7.out
        have Y8 : Hid (w8.cell? (ad6.add g) = some (.slice (some ad7) l1 c6)) := (hb8.cell (World.block_lt_of_cell? _ _ Y7.out)).trans Y7.out
        have Z8 : Hid (w8.cell? (ad7.add (l * 2)) = some (.int .i64 (k : Int))) := (hb8.cell (World.block_lt_of_cell? _ _ Z7.out)).trans Z7.out
        have Z28 : Hid (w8.cell? ⟨(ad7.add (l * 2)).block, (ad7.add (l * 2)).off + 1, none⟩ = some (.int .i64 k2)) := (hb8.cell (World.block_lt_of_cell? _ _ Z27.out)).trans Z27.out
        have N8 : Hid (w8.cell? (ad.add i) = some (.slice (some ad9) l8 c8)) := (hb8.cell (World.block_lt_of_cell? _ _ N7.out)).trans N7.out
        have O8 : Hid (w8.cell? ad9 = some (.int .i64 (k : Int))) := (hb8.cell (World.block_lt_of_cell? _ _ O7.out)).trans O7.out
        have O28 : Hid (w8.cell? ⟨ad9.block, ad9.off + 1, none⟩ = some (.int .i64 k2)) := (hb8.cell (World.block_lt_of_cell? _ _ O27.out)).trans O27.out
        have sz8 : w7.heap.size ≤ w8.heap.size := hb8.size
        clear T7 G7 H7 E7 V7 M7 Q7 K7 J7 X7 P7 C7 Y7 Z7 Z27 N7 O7 O27
        rw [hwd]
        clear hwd
        refine plan_quiet rfl (by rfl) (v := ?_) ?_ ?_; rotate_left; (intro w1 hSw; obtain ⟨hs0, hs1, hs2, hs3, hs4, hs5, hs6, hs7, hs8, hs9, hs10⟩ := hSw; go_simp; try (with_reducible rfl)); (try simp only [Act.put, List.setIfInBounds_toArray, List.set_cons_zero, List.set_cons_succ])
        refine plan_quiet rfl (by rfl) (v := ?_) ?_ ?_; rotate_left; (intro w1 hSw; obtain ⟨hs0, hs1, hs2, hs3, hs4, hs5, hs6, hs7, hs8, hs9, hs10⟩ := hSw; go_simp; try (with_reducible rfl)); (try simp only [Act.put, List.setIfInBounds_toArray, List.set_cons_zero, List.set_cons_succ])
        refine plan_quiet rfl (by rfl) (v := ?_) ?_ ?_; rotate_left; (intro w1 hSw; obtain ⟨hs0, hs1, hs2, hs3, hs4, hs5, hs6, hs7, hs8, hs9, hs10⟩ := hSw; go_simp; try (with_reducible rfl)); (try simp only [Act.put, List.setIfInBounds_toArray, List.set_cons_zero, List.set_cons_succ])
        refine plan_quiet rfl (by rfl) (v := ?_) ?_ ?_; rotate_left; (intro w1 hSw; obtain ⟨hs0, hs1, hs2, hs3, hs4, hs5, hs6, hs7, hs8, hs9, hs10⟩ := hSw; go_simp; try (with_reducible rfl)); (try simp only [Act.put, List.setIfInBounds_toArray, List.set_cons_zero, List.set_cons_succ])
        refine plan_quiet rfl (by rfl) (v := ?_) ?_ ?_; rotate_left; (intro w1 hSw; obtain ⟨hs0, hs1, hs2, hs3, hs4, hs5, hs6, hs7, hs8, hs9, hs10⟩ := hSw; go_simp; try (with_reducible rfl)); (try simp only [Act.put, List.setIfInBounds_toArray, List.set_cons_zero, List.set_cons_succ])
        refine plan_quiet rfl (by rfl) (v := ?_) ?_ ?_; rotate_left; (intro w1 hSw; obtain ⟨hs0, hs1, hs2, hs3, hs4, hs5, hs6, hs7, hs8, hs9, hs10⟩ := hSw; go_simp; try (with_reducible rfl)); (try simp only [Act.put, List.setIfInBounds_toArray, List.set_cons_zero, List.set_cons_succ])
        refine plan_quiet rfl (by rfl) (v := ?_) ?_ ?_; rotate_left; (intro w1 hSw; obtain ⟨hs0, hs1, hs2, hs3, hs4, hs5, hs6, hs7, hs8, hs9, hs10⟩ := hSw; go_simp; try (with_reducible rfl)); (try simp only [Act.put, List.setIfInBounds_toArray, List.set_cons_zero, List.set_cons_succ])
        refine plan_quiet rfl (by rfl) (v := ?_) ?_ ?_; rotate_left; (intro w1 hSw; obtain ⟨hs0, hs1, hs2, hs3, hs4, hs5, hs6, hs7, hs8, hs9, hs10⟩ := hSw; go_simp; try (with_reducible rfl)); (try simp only [Act.put, List.setIfInBounds_toArray, List.set_cons_zero, List.set_cons_succ])
        refine plan_quiet rfl (by rfl) (v := ?_) ?_ ?_; rotate_left; (intro w1 hSw; obtain ⟨hs0, hs1, hs2, hs3, hs4, hs5, hs6, hs7, hs8, hs9, hs10⟩ := hSw; go_simp; try (with_reducible rfl)); (try simp only [Act.put, List.setIfInBounds_toArray, List.set_cons_zero, List.set_cons_succ])
        refine plan_quiet rfl (by rfl) (v := ?_) ?_ ?_; rotate_left; (intro w1 hSw; obtain ⟨hs0, hs1, hs2, hs3, hs4, hs5, hs6, hs7, hs8, hs9, hs10⟩ := hSw; go_simp; try (with_reducible rfl)); (try simp only [Act.put, List.setIfInBounds_toArray, List.set_cons_zero, List.set_cons_succ])
        refine plan_quiet rfl (by rfl) (v := ?_) ?_ ?_; rotate_left; (intro w1 hSw; obtain ⟨hs0, hs1, hs2, hs3, hs4, hs5, hs6, hs7, hs8, hs9, hs10⟩ := hSw; go_simp; try (with_reducible rfl)); (try simp only [Act.put, List.setIfInBounds_toArray, List.set_cons_zero, List.set_cons_succ])
        refine plan_quiet rfl (by rfl) (v := ?_) ?_ ?_; rotate_left; (intro w1 hSw; obtain ⟨hs0, hs1, hs2, hs3, hs4, hs5, hs6, hs7, hs8, hs9, hs10⟩ := hSw; go_simp; try (with_reducible rfl)); (try simp only [Act.put, List.setIfInBounds_toArray, List.set_cons_zero, List.set_cons_succ])
        refine plan_quiet rfl (by rfl) (v := ?_) ?_ ?_; rotate_left; (intro w1 hSw; obtain ⟨hs0, hs1, hs2, hs3, hs4, hs5, hs6, hs7, hs8, hs9, hs10⟩ := hSw; go_simp; try (with_reducible rfl)); (try simp only [Act.put, List.setIfInBounds_toArray, List.set_cons_zero, List.set_cons_succ])
        refine plan_quiet rfl (by rfl) (v := ?_) ?_ ?_; rotate_left; (intro w1 hSw; obtain ⟨hs0, hs1, hs2, hs3, hs4, hs5, hs6, hs7, hs8, hs9, hs10⟩ := hSw; go_simp; try (with_reducible rfl)); (try simp only [Act.put, List.setIfInBounds_toArray, List.set_cons_zero, List.set_cons_succ])
        refine plan_quiet rfl (by rfl) (v := ?_) ?_ ?_; rotate_left; (intro w1 hSw; obtain ⟨hs0, hs1, hs2, hs3, hs4, hs5, hs6, hs7, hs8, hs9, hs10⟩ := hSw; go_simp; try (with_reducible rfl)); (try simp only [Act.put, List.setIfInBounds_toArray, List.set_cons_zero, List.set_cons_succ])
        refine plan_quiet rfl (by rfl) (v := ?_) ?_ ?_; rotate_left; (intro w1 hSw; obtain ⟨hs0, hs1, hs2, hs3, hs4, hs5, hs6, hs7, hs8, hs9, hs10⟩ := hSw; go_simp; try (with_reducible rfl)); (try simp only [Act.put, List.setIfInBounds_toArray, List.set_cons_zero, List.set_cons_succ])
        refine plan_quiet rfl (by rfl) (v := ?_) ?_ ?_; rotate_left; (intro w1 hSw; obtain ⟨hs0, hs1, hs2, hs3, hs4, hs5, hs6, hs7, hs8, hs9, hs10⟩ := hSw; go_simp; try (with_reducible rfl)); (try simp only [Act.put, List.setIfInBounds_toArray, List.set_cons_zero, List.set_cons_succ])
        refine plan_quiet rfl (by rfl) (v := ?_) ?_ ?_; rotate_left; (intro w1 hSw; obtain ⟨hs0, hs1, hs2, hs3, hs4, hs5, hs6, hs7, hs8, hs9, hs10⟩ := hSw; go_simp; try (with_reducible rfl)); (try simp only [Act.put, List.setIfInBounds_toArray, List.set_cons_zero, List.set_cons_succ])
        refine plan_quiet rfl (by rfl) (v := ?_) ?_ ?_; rotate_left; (intro w1 hSw; obtain ⟨hs0, hs1, hs2, hs3, hs4, hs5, hs6, hs7, hs8, hs9, hs10⟩ := hSw; go_simp; try (with_reducible rfl)); (try simp only [Act.put, List.setIfInBounds_toArray, List.set_cons_zero, List.set_cons_succ])
        refine plan_quiet rfl (by rfl) (v := ?_) ?_ ?_; rotate_left; (intro w1 hSw; obtain ⟨hs0, hs1, hs2, hs3, hs4, hs5, hs6, hs7, hs8, hs9, hs10⟩ := hSw; go_simp; try (with_reducible rfl)); (try simp only [Act.put, List.setIfInBounds_toArray, List.set_cons_zero, List.set_cons_succ])
        refine plan_quiet rfl (by rfl) (v := ?_) ?_ ?_; rotate_left; (intro w1 hSw; obtain ⟨hs0, hs1, hs2, hs3, hs4, hs5, hs6, hs7, hs8, hs9, hs10⟩ := hSw; go_simp; try (with_reducible rfl)); (try simp only [Act.put, List.setIfInBounds_toArray, List.set_cons_zero, List.set_cons_succ])
        refine plan_quiet rfl (by rfl) (v := ?_) ?_ ?_; rotate_left; (intro w1 hSw; obtain ⟨hs0, hs1, hs2, hs3, hs4, hs5, hs6, hs7, hs8, hs9, hs10⟩ := hSw; go_simp; try (with_reducible rfl)); (try simp only [Act.put, List.setIfInBounds_toArray, List.set_cons_zero, List.set_cons_succ])
        refine plan_quiet rfl (by rfl) (v := ?_) ?_ ?_; rotate_left; (intro w1 hSw; obtain ⟨hs0, hs1, hs2, hs3, hs4, hs5, hs6, hs7, hs8, hs9, hs10⟩ := hSw; go_simp; try (with_reducible rfl)); (try simp only [Act.put, List.setIfInBounds_toArray, List.set_cons_zero, List.set_cons_succ])
        refine plan_quiet rfl (by rfl) (v := ?_) ?_ ?_; rotate_left; (intro w1 hSw; obtain ⟨hs0, hs1, hs2, hs3, hs4, hs5, hs6, hs7, hs8, hs9, hs10⟩ := hSw; go_simp; try (with_reducible rfl)); (try simp only [Act.put, List.setIfInBounds_toArray, List.set_cons_zero, List.set_cons_succ])
        refine plan_quiet rfl (by rfl) (v := ?_) ?_ ?_; rotate_left; (intro w1 hSw; obtain ⟨hs0, hs1, hs2, hs3, hs4, hs5, hs6, hs7, hs8, hs9, hs10⟩ := hSw; go_simp; try (with_reducible rfl)); (try simp only [Act.put, List.setIfInBounds_toArray, List.set_cons_zero, List.set_cons_succ])
        refine plan_quiet rfl (by rfl) (v := ?_) ?_ ?_; rotate_left; (intro w1 hSw; obtain ⟨hs0, hs1, hs2, hs3, hs4, hs5, hs6, hs7, hs8, hs9, hs10⟩ := hSw; go_simp; try (with_reducible rfl)); (try simp only [Act.put, List.setIfInBounds_toArray, List.set_cons_zero, List.set_cons_succ])
        refine plan_quiet rfl (by rfl) (v := ?_) ?_ ?_; rotate_left; (intro w1 hSw; obtain ⟨hs0, hs1, hs2, hs3, hs4, hs5, hs6, hs7, hs8, hs9, hs10⟩ := hSw; go_simp; try (with_reducible rfl)); (try simp only [Act.put, List.setIfInBounds_toArray, List.set_cons_zero, List.set_cons_succ])
        refine plan_quiet rfl (by rfl) (v := ?_) ?_ ?_; rotate_left; (intro w1 hSw; obtain ⟨hs0, hs1, hs2, hs3, hs4, hs5, hs6, hs7, hs8, hs9, hs10⟩ := hSw; go_simp; try (with_reducible rfl)); (try simp only [Act.put, List.setIfInBounds_toArray, List.set_cons_zero, List.set_cons_succ])
        refine plan_step rfl (fun Kc hK => ?_)
        rw [if_pos (by rfl)]
        go_simp
        refine (implKind_any _ _ _ _ _ ⟨s, ws, cs⟩ (some ad6) nn c4 L2 _ V8.out (by omega) HS.out HM2.out (by omega) P8.out (by omega) HW2.out).mono ?_
        rintro e w9 ⟨u5, rfl, hO, hb9⟩
        rw [HKD2.out] at hO
        obtain ⟨A5, c5, rfl, hIU, -, hc5, hcm5⟩ := hO.form
        obtain ⟨kl, hkl⟩ : ∃ y, (kindL ⟨s, ws, cs⟩ ms).length = y := ⟨_, rfl⟩
        rw [hkl] at hc5 ⊢
        have HKL := Lib.hid hkl
        clear hkl
        have T9 : Hid (Below w0.heap.size w0 w9) := T8.out.trans (hb9.mono (by omega))
        have G9 : Hid (w9.cell? ⟨0, 0, none⟩ = some (.iface ct cu)) := (hb9.cell (p := ⟨0, 0, none⟩) (by show 0 < _; omega)).trans G8.out
        have H9 : Hid (w9.cell? ⟨2, 0, none⟩ = some (.iface ct2 cu2)) := (hb9.cell (p := ⟨2, 0, none⟩) (by show 2 < _; omega)).trans H8.out
        have E9 : Hid (ErrH w9) := (hb9.cell (p := ⟨1, 0, none⟩) (by show 1 < _; omega)).trans E8.out
        have V9 : Hid (FontV w9 w0.heap.size w1.heap.size (.agg #[.string s, .slice B1 ws.length d1, .slice (some ad5) cs.length d2]) ⟨s, ws, cs⟩) := V8.out.below (by omega) hb9
        have M9 : Hid (MagI w9 w0.heap.size w1.heap.size (some ad) ms) := M8.out.below (by omega) hb9
        have Q9 : Hid (IntsI w9 w0.heap.size w1.heap.size (some ad5) cs) := Q8.out.below (by omega) hb9
        have K9 : Hid (Blk w9 (w1.heap.size) #[.string s, .slice B1 ws.length d1, .slice (some ad5) cs.length d2] 25) := K8.out.below hb9 (by omega)
        have J9 : Hid (MagI w9 w2.heap.size w3.heap.size A3 L1) := J8.out.below (by omega) hb9
        have X9 : Hid (Blk w9 (w3.heap.size) #[.int .i64 (k : Int), .int .i64 k2] 30) := X8.out.below hb9 (by omega)
        have P9 : Hid (MagI w9 w4.heap.size w5.heap.size (some ad6) L2) := P8.out.below (by omega) hb9
        have C9 : Hid (w9.cell? (ad5.add k) = some (.int .i64 cv)) := (hb9.cell (World.block_lt_of_cell? _ _ C8.out)).trans C8.out
        have Y9 : Hid (w9.cell? (ad6.add g) = some (.slice (some ad7) l1 c6)) := (hb9.cell (World.block_lt_of_cell? _ _ Y8.out)).trans Y8.out
        have Z9 : Hid (w9.cell? (ad7.add (l * 2)) = some (.int .i64 (k : Int))) := (hb9.cell (World.block_lt_of_cell? _ _ Z8.out)).trans Z8.out
        have Z29 : Hid (w9.cell? ⟨(ad7.add (l * 2)).block, (ad7.add (l * 2)).off + 1, none⟩ = some (.int .i64 k2)) := (hb9.cell (World.block_lt_of_cell? _ _ Z28.out)).trans Z28.out
        have N9 : Hid (w9.cell? (ad.add i) = some (.slice (some ad9) l8 c8)) := (hb9.cell (World.block_lt_of_cell? _ _ N8.out)).trans N8.out
        have O9 : Hid (w9.cell? ad9 = some (.int .i64 (k : Int))) := (hb9.cell (World.block_lt_of_cell? _ _ O8.out)).trans O8.out
        have O29 : Hid (w9.cell? ⟨ad9.block, ad9.off + 1, none⟩ = some (.int .i64 k2)) := (hb9.cell (World.block_lt_of_cell? _ _ O28.out)).trans O28.out
        have sz9 : w8.heap.size ≤ w9.heap.size := hb9.size
        clear T8 G8 H8 E8 V8 M8 Q8 K8 J8 X8 P8 C8 Y8 Z8 Z28 N8 O8 O28
        have U59 : Hid (Ints w9 A5 (kindL ⟨s, ws, cs⟩ ms)) := hIU
        clear hO hIU
        refine hK.out _ _ ⟨cellOfBlk K9.out 0, cellOfBlk K9.out 1, cellOfBlk K9.out 2, cellOfBlk X9.out 0, cellOfBlk X9.out 1, Y9.out, Z9.out, Z29.out, N9.out, O9.out, O29.out⟩ ?_
        clear hK Kc
        refine plan_step rfl (fun Kc hK => ?_)
        rw [if_pos (by rfl)]
        go_simp
        refine (implKind_any _ _ _ _ _ ⟨s, ws, cs⟩ (some ad) nn cc ms _ V9.out (by omega) HS.out HML.out (by omega) M9.out (by omega) HWF.out).mono ?_
        rintro e w10 ⟨u7, rfl, hO, hb10⟩
        obtain ⟨A7, c7, rfl, hIU, -, hc7, hcm7⟩ := hO.form
        rw [HKL.out] at hc7 ⊢
        have T10 : Hid (Below w0.heap.size w0 w10) := T9.out.trans (hb10.mono (by omega))
        have G10 : Hid (w10.cell? ⟨0, 0, none⟩ = some (.iface ct cu)) := (hb10.cell (p := ⟨0, 0, none⟩) (by show 0 < _; omega)).trans G9.out
        have H10 : Hid (w10.cell? ⟨2, 0, none⟩ = some (.iface ct2 cu2)) := (hb10.cell (p := ⟨2, 0, none⟩) (by show 2 < _; omega)).trans H9.out
        have E10 : Hid (ErrH w10) := (hb10.cell (p := ⟨1, 0, none⟩) (by show 1 < _; omega)).trans E9.out
        have V10 : Hid (FontV w10 w0.heap.size w1.heap.size (.agg #[.string s, .slice B1 ws.length d1, .slice (some ad5) cs.length d2]) ⟨s, ws, cs⟩) := V9.out.below (by omega) hb10
        have M10 : Hid (MagI w10 w0.heap.size w1.heap.size (some ad) ms) := M9.out.below (by omega) hb10
        have Q10 : Hid (IntsI w10 w0.heap.size w1.heap.size (some ad5) cs) := Q9.out.below (by omega) hb10
        have K10 : Hid (Blk w10 (w1.heap.size) #[.string s, .slice B1 ws.length d1, .slice (some ad5) cs.length d2] 25) := K9.out.below hb10 (by omega)
        have J10 : Hid (MagI w10 w2.heap.size w3.heap.size A3 L1) := J9.out.below (by omega) hb10
        have X10 : Hid (Blk w10 (w3.heap.size) #[.int .i64 (k : Int), .int .i64 k2] 30) := X9.out.below hb10 (by omega)
        have P10 : Hid (MagI w10 w4.heap.size w5.heap.size (some ad6) L2) := P9.out.below (by omega) hb10
        have C10 : Hid (w10.cell? (ad5.add k) = some (.int .i64 cv)) := (hb10.cell (World.block_lt_of_cell? _ _ C9.out)).trans C9.out
        have Y10 : Hid (w10.cell? (ad6.add g) = some (.slice (some ad7) l1 c6)) := (hb10.cell (World.block_lt_of_cell? _ _ Y9.out)).trans Y9.out
        have Z10 : Hid (w10.cell? (ad7.add (l * 2)) = some (.int .i64 (k : Int))) := (hb10.cell (World.block_lt_of_cell? _ _ Z9.out)).trans Z9.out
        have Z210 : Hid (w10.cell? ⟨(ad7.add (l * 2)).block, (ad7.add (l * 2)).off + 1, none⟩ = some (.int .i64 k2)) := (hb10.cell (World.block_lt_of_cell? _ _ Z29.out)).trans Z29.out
        have N10 : Hid (w10.cell? (ad.add i) = some (.slice (some ad9) l8 c8)) := (hb10.cell (World.block_lt_of_cell? _ _ N9.out)).trans N9.out
        have O10 : Hid (w10.cell? ad9 = some (.int .i64 (k : Int))) := (hb10.cell (World.block_lt_of_cell? _ _ O9.out)).trans O9.out
        have O210 : Hid (w10.cell? ⟨ad9.block, ad9.off + 1, none⟩ = some (.int .i64 k2)) := (hb10.cell (World.block_lt_of_cell? _ _ O29.out)).trans O29.out
        have U510 : Hid (Ints w10 A5 (kindL ⟨s, ws, cs⟩ ms)) := U59.out.below hb10
        have sz10 : w9.heap.size ≤ w10.heap.size := hb10.size
        clear T9 G9 H9 E9 V9 M9 Q9 K9 J9 X9 P9 C9 Y9 Z9 Z29 N9 O9 O29 U59
        have U710 : Hid (Ints w10 A7 (kindL ⟨s, ws, cs⟩ ms)) := hIU
        clear hO hIU
        refine hK.out _ _ ⟨cellOfBlk K10.out 0, cellOfBlk K10.out 1, cellOfBlk K10.out 2, cellOfBlk X10.out 0, cellOfBlk X10.out 1, Y10.out, Z10.out, Z210.out, N10.out, O10.out, O210.out⟩ ?_
        clear hK Kc
        refine plan_step rfl (fun Kc hK => ?_)
        rw [if_pos (by rfl)]
        go_simp
        have hkm : kl ≤ maxLen := by omega
        refine (lawInts_any A5 A7 kl c5 kl c7 _ _ w10 HKL.out HKL.out hkm hkm U510.out U710.out).mono ?_
        rintro e7 w' ⟨dk, rfl, rfl⟩
        rw [decide_eq_true rfl]
        obtain ⟨w11, hwd⟩ : ∃ x, w10.drewN dk = x := ⟨_, rfl⟩
        have hb11 : Below w10.heap.size w10 w11 := by rw [← hwd]; exact below_drewN (Below.refl _ _) dk
        have T11 : Hid (Below w0.heap.size w0 w11) := T10.out.trans (hb11.mono (by omega))
        have G11 : Hid (w11.cell? ⟨0, 0, none⟩ = some (.iface ct cu)) := (hb11.cell (p := ⟨0, 0, none⟩) (by show 0 < _; omega)).trans G10.out
        have H11 : Hid (w11.cell? ⟨2, 0, none⟩ = some (.iface ct2 cu2)) := (hb11.cell (p := ⟨2, 0, none⟩) (by show 2 < _; omega)).trans H10.out
        have E11 : Hid (ErrH w11) := (hb11.cell (p := ⟨1, 0, none⟩) (by show 1 < _; omega)).trans E10.out
        have V11 : Hid (FontV w11 w0.heap.size w1.heap.size (.agg #[.string s, .slice B1 ws.length d1, .slice (some ad5) cs.length d2]) ⟨s, ws, cs⟩) := V10.out.below (by omega) hb11
        have M11 : Hid (MagI w11 w0.heap.size w1.heap.size (some ad) ms) := M10.out.below (by omega) hb11
        have Q11 : Hid (IntsI w11 w0.heap.size w1.heap.size (some ad5) cs) := Q10.out.below (by omega) hb11
        have K11 : Hid (Blk w11 (w1.heap.size) #[.string s, .slice B1 ws.length d1, .slice (some ad5) cs.length d2] 25) := K10.out.below hb11 (by omega)
        have J11 : Hid (MagI w11 w2.heap.size w3.heap.size A3 L1) := J10.out.below (by omega) hb11
        have X11 : Hid (Blk w11 (w3.heap.size) #[.int .i64 (k : Int), .int .i64 k2] 30) := X10.out.below hb11 (by omega)
        have P11 : Hid (MagI w11 w4.heap.size w5.heap.size (some ad6) L2) := P10.out.below (by omega) hb11
        have C11 : Hid (w11.cell? (ad5.add k) = some (.int .i64 cv)) := (hb11.cell (World.block_lt_of_cell? _ _ C10.out)).trans C10.out
        have Y11 : Hid (w11.cell? (ad6.add g) = some (.slice (some ad7) l1 c6)) := (hb11.cell (World.block_lt_of_cell? _ _ Y10.out)).trans Y10.out
        have Z11 : Hid (w11.cell? (ad7.add (l * 2)) = some (.int .i64 (k : Int))) := (hb11.cell (World.block_lt_of_cell? _ _ Z10.out)).trans Z10.out
        have Z211 : Hid (w11.cell? ⟨(ad7.add (l * 2)).block, (ad7.add (l * 2)).off + 1, none⟩ = some (.int .i64 k2)) := (hb11.cell (World.block_lt_of_cell? _ _ Z210.out)).trans Z210.out
        have N11 : Hid (w11.cell? (ad.add i) = some (.slice (some ad9) l8 c8)) := (hb11.cell (World.block_lt_of_cell? _ _ N10.out)).trans N10.out
        have O11 : Hid (w11.cell? ad9 = some (.int .i64 (k : Int))) := (hb11.cell (World.block_lt_of_cell? _ _ O10.out)).trans O10.out
        have O211 : Hid (w11.cell? ⟨ad9.block, ad9.off + 1, none⟩ = some (.int .i64 k2)) := (hb11.cell (World.block_lt_of_cell? _ _ O210.out)).trans O210.out
        have U511 : Hid (Ints w11 A5 (kindL ⟨s, ws, cs⟩ ms)) := U510.out.below hb11
        have U711 : Hid (Ints w11 A7 (kindL ⟨s, ws, cs⟩ ms)) := U710.out.below hb11
        have sz11 : w10.heap.size ≤ w11.heap.size := hb11.size
        clear T10 G10 H10 E10 V10 M10 Q10 K10 J10 X10 P10 C10 Y10 Z10 Z210 N10 O10 O210 U510 U710
        rw [hwd]
        clear hwd
        refine hK.out _ _ ⟨cellOfBlk K11.out 0, cellOfBlk K11.out 1, cellOfBlk K11.out 2, cellOfBlk X11.out 0, cellOfBlk X11.out 1, Y11.out, Z11.out, Z211.out, N11.out, O11.out, O211.out⟩ ?_
        clear hK Kc
        refine plan_quiet rfl (by rfl) (v := ?_) ?_ ?_; rotate_left; (intro w1 hSw; obtain ⟨hs0, hs1, hs2, hs3, hs4, hs5, hs6, hs7, hs8, hs9, hs10⟩ := hSw; go_simp; try (with_reducible rfl)); (try simp only [Act.put, List.setIfInBounds_toArray, List.set_cons_zero, List.set_cons_succ])
        refine plan_quiet rfl (by rfl) (v := ?_) ?_ ?_; rotate_left; (intro w1 hSw; obtain ⟨hs0, hs1, hs2, hs3, hs4, hs5, hs6, hs7, hs8, hs9, hs10⟩ := hSw; go_simp; try (with_reducible rfl)); (try simp only [Act.put, List.setIfInBounds_toArray, List.set_cons_zero, List.set_cons_succ])
        refine plan_end ?_
        go_wp2
        go_ret
        exact ⟨rfl, T11.out⟩
      · have hcmp : (k2 == cv) = false := by simpa using heq
        clear heq
        go_upto_region 13 with fail
        refine wp_region_plan (.take 0 (.take 1 (.take 2 (.take 3 (.take 4 (.take 5 (.take 6 (.take 7 (.take 8 (.take 9 (.take 10 (.take 11 (.take 12 (.take 13 (.take 14 (.take 15 (.take 16 (.take 17 (.take 18 (.take 19 (.take 20 (.take 21 (.take 22 (.take 23 (.take 24 (.take 25 (.take 26 (.take 27 (.take 28 (.take 29 (.take 30 (.take 31 (.take 32 (.take 33 (.take 34 (.take 35 (.take 36 (.take 37 (.take 38 .done))))))))))))))))))))))))))))))))))))))) (fun w' => w'.cell? ⟨w1.heap.size, 0, none⟩ = some (.string s) ∧ w'.cell? ⟨w1.heap.size, 1, none⟩ = some (.slice B1 ws.length d1) ∧ w'.cell? ⟨w1.heap.size, 2, none⟩ = some (.slice (some ad5) cs.length d2) ∧ w'.cell? ⟨w3.heap.size, 0, none⟩ = some (.int .i64 (k : Int)) ∧ w'.cell? ⟨w3.heap.size, 1, none⟩ = some (.int .i64 k2) ∧ w'.cell? (ad5.add k) = some (.int .i64 cv)) (by kernel_rfl) (by kernel_rfl) (by kernel_rfl) (by intro c a d v w h; cases d <;> exact h) ⟨cellOfBlk K6.out 0, cellOfBlk K6.out 1, cellOfBlk K6.out 2, cellOfBlk X6.out 0, cellOfBlk X6.out 1, C6.out⟩ ?_
        obtain ⟨w7, hwd⟩ : ∃ x, w6.drew = x := ⟨_, rfl⟩
        have hb7 : Below w6.heap.size w6 w7 := by rw [← hwd]; exact (Below.refl _ _).drew
        have hsz7 : w7.heap.size = w6.heap.size := by rw [← hwd]; rfl
        have T7 : Hid (Below w0.heap.size w0 w7) := T6.out.trans (hb7.mono (by omega))
        have G7 : Hid (w7.cell? ⟨0, 0, none⟩ = some (.iface ct cu)) := (hb7.cell (p := ⟨0, 0, none⟩) (by show 0 < _; omega)).trans G6.out
        have H7 : Hid (w7.cell? ⟨2, 0, none⟩ = some (.iface ct2 cu2)) := (hb7.cell (p := ⟨2, 0, none⟩) (by show 2 < _; omega)).trans H6.out
        have E7 : Hid (ErrH w7) := (hb7.cell (p := ⟨1, 0, none⟩) (by show 1 < _; omega)).trans E6.out
        have V7 : Hid (FontV w7 w0.heap.size w1.heap.size (.agg #[.string s, .slice B1 ws.length d1, .slice (some ad5) cs.length d2]) ⟨s, ws, cs⟩) := V6.out.below (by omega) hb7
        have M7 : Hid (MagI w7 w0.heap.size w1.heap.size (some ad) ms) := M6.out.below (by omega) hb7
        have Q7 : Hid (IntsI w7 w0.heap.size w1.heap.size (some ad5) cs) := Q6.out.below (by omega) hb7
        have K7 : Hid (Blk w7 (w1.heap.size) #[.string s, .slice B1 ws.length d1, .slice (some ad5) cs.length d2] 25) := K6.out.below hb7 (by omega)
        have J7 : Hid (MagI w7 w2.heap.size w3.heap.size A3 L1) := J6.out.below (by omega) hb7
        have X7 : Hid (Blk w7 (w3.heap.size) #[.int .i64 (k : Int), .int .i64 k2] 30) := X6.out.below hb7 (by omega)
        have P7 : Hid (MagI w7 w4.heap.size w5.heap.size A4 L2) := P6.out.below (by omega) hb7
        have C7 : Hid (w7.cell? (ad5.add k) = some (.int .i64 cv)) := (hb7.cell (World.block_lt_of_cell? _ _ C6.out)).trans C6.out
        have sz7 : w6.heap.size ≤ w7.heap.size := hb7.size
        clear T6 G6 H6 E6 V6 M6 Q6 K6 J6 X6 P6 C6
        rw [hwd]
        clear hwd
        refine plan_quiet rfl (by rfl) (v := ?_) ?_ ?_; rotate_left; (intro w1 hSw; obtain ⟨hs0, hs1, hs2, hs3, hs4, hs5⟩ := hSw; go_simp; try (with_reducible rfl)); (try simp only [Act.put, List.setIfInBounds_toArray, List.set_cons_zero, List.set_cons_succ])
        refine plan_quiet rfl (by rfl) (v := ?_) ?_ ?_; rotate_left; (intro w1 hSw; obtain ⟨hs0, hs1, hs2, hs3, hs4, hs5⟩ := hSw; go_simp; try (with_reducible rfl)); (try simp only [Act.put, List.setIfInBounds_toArray, List.set_cons_zero, List.set_cons_succ])
        refine plan_quiet rfl (by rfl) (v := ?_) ?_ ?_; rotate_left; (intro w1 hSw; obtain ⟨hs0, hs1, hs2, hs3, hs4, hs5⟩ := hSw; go_simp; try (with_reducible rfl)); (try simp only [Act.put, List.setIfInBounds_toArray, List.set_cons_zero, List.set_cons_succ])
        refine plan_quiet rfl (by rfl) (v := ?_) ?_ ?_; rotate_left; (intro w1 hSw; obtain ⟨hs0, hs1, hs2, hs3, hs4, hs5⟩ := hSw; go_simp; try (with_reducible rfl)); (try simp only [Act.put, List.setIfInBounds_toArray, List.set_cons_zero, List.set_cons_succ])
        refine plan_quiet rfl (by rfl) (v := ?_) ?_ ?_; rotate_left; (intro w1 hSw; obtain ⟨hs0, hs1, hs2, hs3, hs4, hs5⟩ := hSw; go_simp; try (with_reducible rfl)); (try simp only [Act.put, List.setIfInBounds_toArray, List.set_cons_zero, List.set_cons_succ])
        refine plan_quiet rfl (by rfl) (v := ?_) ?_ ?_; rotate_left; (intro w1 hSw; obtain ⟨hs0, hs1, hs2, hs3, hs4, hs5⟩ := hSw; go_simp; try (with_reducible rfl)); (try simp only [Act.put, List.setIfInBounds_toArray, List.set_cons_zero, List.set_cons_succ])
        refine plan_quiet rfl (by rfl) (v := ?_) ?_ ?_; rotate_left; (intro w1 hSw; obtain ⟨hs0, hs1, hs2, hs3, hs4, hs5⟩ := hSw; go_simp; try (with_reducible rfl)); (try simp only [Act.put, List.setIfInBounds_toArray, List.set_cons_zero, List.set_cons_succ])
        refine plan_quiet rfl (by rfl) (v := ?_) ?_ ?_; rotate_left; (intro w1 hSw; obtain ⟨hs0, hs1, hs2, hs3, hs4, hs5⟩ := hSw; go_simp; try (with_reducible rfl)); (try simp only [Act.put, List.setIfInBounds_toArray, List.set_cons_zero, List.set_cons_succ])
        refine plan_quiet rfl (by rfl) (v := ?_) ?_ ?_; rotate_left; (intro w1 hSw; obtain ⟨hs0, hs1, hs2, hs3, hs4, hs5⟩ := hSw; go_simp; try (with_reducible rfl)); (try simp only [Act.put, List.setIfInBounds_toArray, List.set_cons_zero, List.set_cons_succ])
        refine plan_quiet rfl (by rfl) (v := ?_) ?_ ?_; rotate_left; (intro w1 hSw; obtain ⟨hs0, hs1, hs2, hs3, hs4, hs5⟩ := hSw; go_simp; try (with_reducible rfl)); (try simp only [Act.put, List.setIfInBounds_toArray, List.set_cons_zero, List.set_cons_succ])
        refine plan_quiet rfl (by rfl) (v := ?_) ?_ ?_; rotate_left; (intro w1 hSw; obtain ⟨hs0, hs1, hs2, hs3, hs4, hs5⟩ := hSw; go_simp; try (with_reducible rfl)); (try simp only [Act.put, List.setIfInBounds_toArray, List.set_cons_zero, List.set_cons_succ])
        refine plan_quiet rfl (by rfl) (v := ?_) ?_ ?_; rotate_left; (intro w1 hSw; obtain ⟨hs0, hs1, hs2, hs3, hs4, hs5⟩ := hSw; go_simp; try (with_reducible rfl)); (try simp only [Act.put, List.setIfInBounds_toArray, List.set_cons_zero, List.set_cons_succ])
        refine plan_quiet rfl (by rfl) (v := ?_) ?_ ?_; rotate_left; (intro w1 hSw; obtain ⟨hs0, hs1, hs2, hs3, hs4, hs5⟩ := hSw; go_simp; try (with_reducible rfl)); (try simp only [Act.put, List.setIfInBounds_toArray, List.set_cons_zero, List.set_cons_succ])
        refine plan_quiet rfl (by rfl) (v := ?_) ?_ ?_; rotate_left; (intro w1 hSw; obtain ⟨hs0, hs1, hs2, hs3, hs4, hs5⟩ := hSw; go_simp; try (with_reducible rfl)); (try simp only [Act.put, List.setIfInBounds_toArray, List.set_cons_zero, List.set_cons_succ])
        refine plan_quiet rfl (by rfl) (v := ?_) ?_ ?_; rotate_left; (intro w1 hSw; obtain ⟨hs0, hs1, hs2, hs3, hs4, hs5⟩ := hSw; go_simp; try (with_reducible rfl)); (try simp only [Act.put, List.setIfInBounds_toArray, List.set_cons_zero, List.set_cons_succ])
        refine plan_quiet rfl (by rfl) (v := ?_) ?_ ?_; rotate_left; (intro w1 hSw; obtain ⟨hs0, hs1, hs2, hs3, hs4, hs5⟩ := hSw; go_simp; try (with_reducible rfl)); (try simp only [Act.put, List.setIfInBounds_toArray, List.set_cons_zero, List.set_cons_succ])
        refine plan_quiet rfl (by rfl) (v := ?_) ?_ ?_; rotate_left; (intro w1 hSw; obtain ⟨hs0, hs1, hs2, hs3, hs4, hs5⟩ := hSw; go_simp; try (with_reducible rfl)); (try simp only [Act.put, List.setIfInBounds_toArray, List.set_cons_zero, List.set_cons_succ])
        refine plan_quiet rfl (by rfl) (v := ?_) ?_ ?_; rotate_left; (intro w1 hSw; obtain ⟨hs0, hs1, hs2, hs3, hs4, hs5⟩ := hSw; go_simp; try (with_reducible rfl)); (try simp only [Act.put, List.setIfInBounds_toArray, List.set_cons_zero, List.set_cons_succ])
        refine plan_quiet rfl (by rfl) (v := ?_) ?_ ?_; rotate_left; (intro w1 hSw; obtain ⟨hs0, hs1, hs2, hs3, hs4, hs5⟩ := hSw; go_simp; try (with_reducible rfl)); (try simp only [Act.put, List.setIfInBounds_toArray, List.set_cons_zero, List.set_cons_succ])
        refine plan_quiet rfl (by rfl) (v := ?_) ?_ ?_; rotate_left; (intro w1 hSw; obtain ⟨hs0, hs1, hs2, hs3, hs4, hs5⟩ := hSw; go_simp; try (with_reducible rfl)); (try simp only [Act.put, List.setIfInBounds_toArray, List.set_cons_zero, List.set_cons_succ])
        refine plan_quiet rfl (by rfl) (v := ?_) ?_ ?_; rotate_left; (intro w1 hSw; obtain ⟨hs0, hs1, hs2, hs3, hs4, hs5⟩ := hSw; go_simp; try (with_reducible rfl)); (try simp only [Act.put, List.setIfInBounds_toArray, List.set_cons_zero, List.set_cons_succ])
        refine plan_quiet rfl (by rfl) (v := ?_) ?_ ?_; rotate_left; (intro w1 hSw; obtain ⟨hs0, hs1, hs2, hs3, hs4, hs5⟩ := hSw; go_simp; try (with_reducible rfl)); (try simp only [Act.put, List.setIfInBounds_toArray, List.set_cons_zero, List.set_cons_succ])
        refine plan_quiet rfl (by rfl) (v := ?_) ?_ ?_; rotate_left; (intro w1 hSw; obtain ⟨hs0, hs1, hs2, hs3, hs4, hs5⟩ := hSw; go_simp; try (with_reducible rfl)); (try simp only [Act.put, List.setIfInBounds_toArray, List.set_cons_zero, List.set_cons_succ])
        refine plan_quiet rfl (by rfl) (v := ?_) ?_ ?_; rotate_left; (intro w1 hSw; obtain ⟨hs0, hs1, hs2, hs3, hs4, hs5⟩ := hSw; go_simp; try (with_reducible rfl)); (try simp only [Act.put, List.setIfInBounds_toArray, List.set_cons_zero, List.set_cons_succ])
        refine plan_quiet rfl (by rfl) (v := ?_) ?_ ?_; rotate_left; (intro w1 hSw; obtain ⟨hs0, hs1, hs2, hs3, hs4, hs5⟩ := hSw; go_simp; try (with_reducible rfl)); (try simp only [Act.put, List.setIfInBounds_toArray, List.set_cons_zero, List.set_cons_succ])
        refine plan_quiet rfl (by rfl) (v := ?_) ?_ ?_; rotate_left; (intro w1 hSw; obtain ⟨hs0, hs1, hs2, hs3, hs4, hs5⟩ := hSw; go_simp; try (with_reducible rfl)); (try simp only [Act.put, List.setIfInBounds_toArray, List.set_cons_zero, List.set_cons_succ])
        refine plan_skip rfl (by rfl) ?_; (try simp only [Act.put, List.setIfInBounds_toArray, List.set_cons_zero, List.set_cons_succ])
        refine plan_skip rfl (by rfl) ?_; (try simp only [Act.put, List.setIfInBounds_toArray, List.set_cons_zero, List.set_cons_succ])
        refine plan_skip rfl (by rfl) ?_; (try simp only [Act.put, List.setIfInBounds_toArray, List.set_cons_zero, List.set_cons_succ])
        refine plan_skip rfl (by rfl) ?_; (try simp only [Act.put, List.setIfInBounds_toArray, List.set_cons_zero, List.set_cons_succ])
        refine plan_quiet rfl (by rfl) (v := ?_) ?_ ?_; rotate_left; (intro w1 hSw; obtain ⟨hs0, hs1, hs2, hs3, hs4, hs5⟩ := hSw; go_simp; try (with_reducible rfl)); (try simp only [Act.put, List.setIfInBounds_toArray, List.set_cons_zero, List.set_cons_succ])
        refine plan_quiet rfl (by rfl) (v := ?_) ?_ ?_; rotate_left; (intro w1 hSw; obtain ⟨hs0, hs1, hs2, hs3, hs4, hs5⟩ := hSw; go_simp; try (with_reducible rfl)); (try simp only [Act.put, List.setIfInBounds_toArray, List.set_cons_zero, List.set_cons_succ])
        refine plan_quiet rfl (by rfl) (v := ?_) ?_ ?_; rotate_left; (intro w1 hSw; obtain ⟨hs0, hs1, hs2, hs3, hs4, hs5⟩ := hSw; go_simp; try (with_reducible rfl)); (try simp only [Act.put, List.setIfInBounds_toArray, List.set_cons_zero, List.set_cons_succ])
        refine plan_quiet rfl (by rfl) (v := ?_) ?_ ?_; rotate_left; (intro w1 hSw; obtain ⟨hs0, hs1, hs2, hs3, hs4, hs5⟩ := hSw; go_simp; try (with_reducible rfl)); (try simp only [Act.put, List.setIfInBounds_toArray, List.set_cons_zero, List.set_cons_succ])
        refine plan_quiet rfl (by rfl) (v := ?_) ?_ ?_; rotate_left; (intro w1 hSw; obtain ⟨hs0, hs1, hs2, hs3, hs4, hs5⟩ := hSw; go_simp; try (with_reducible rfl)); (try simp only [Act.put, List.setIfInBounds_toArray, List.set_cons_zero, List.set_cons_succ])
        refine plan_quiet rfl (by rfl) (v := ?_) ?_ ?_; rotate_left; (intro w1 hSw; obtain ⟨hs0, hs1, hs2, hs3, hs4, hs5⟩ := hSw; go_simp; try (with_reducible rfl)); (try simp only [Act.put, List.setIfInBounds_toArray, List.set_cons_zero, List.set_cons_succ])
        refine plan_quiet rfl (by rfl) (v := ?_) ?_ ?_; rotate_left; (intro w1 hSw; obtain ⟨hs0, hs1, hs2, hs3, hs4, hs5⟩ := hSw; go_simp; try (with_reducible rfl)); (try simp only [Act.put, List.setIfInBounds_toArray, List.set_cons_zero, List.set_cons_succ])
        refine plan_quiet rfl (by rfl) (v := ?_) ?_ ?_; rotate_left; (intro w1 hSw; obtain ⟨hs0, hs1, hs2, hs3, hs4, hs5⟩ := hSw; go_simp; try (with_reducible rfl)); (try simp only [Act.put, List.setIfInBounds_toArray, List.set_cons_zero, List.set_cons_succ])
        refine plan_quiet rfl (by rfl) (v := ?_) ?_ ?_; rotate_left; (intro w1 hSw; obtain ⟨hs0, hs1, hs2, hs3, hs4, hs5⟩ := hSw; go_simp; try (with_reducible rfl)); (try simp only [Act.put, List.setIfInBounds_toArray, List.set_cons_zero, List.set_cons_succ])
        refine plan_end ?_
        obtain ⟨ad6, xs6, A6, c6, hA6, hx6, hcell6, -, -, hI6⟩ := P7.out.at_ (k := g) (by rw [HM2.out]; omega)
        subst hA6
        obtain rfl : qs ++ [((k : Int), k2)] = xs6 := by have h9 := HL2g.out; rw [hx6.out] at h9; injection h9 with h9; exact h9.symm
        obtain ⟨l, hl⟩ : ∃ y, qs.length = y := ⟨_, rfl⟩
        obtain ⟨l1, hl1⟩ : ∃ y, l + 1 = y := ⟨_, rfl⟩
        rw [show (qs ++ [((k : Int), k2)]).length = l1 by rw [List.length_append, hl, ← hl1]; rfl] at hcell6
        obtain ⟨ad7, z7, hA7, hz7, c70, c71⟩ := hI6.at_ (k := l) (by rw [List.length_append, hl]; simp)
        subst hA7
        obtain rfl : ((k : Int), k2) = z7 := by have h9 := hz7.out; rw [← hl, List.getElem?_concat_length] at h9; injection h9
        simp only at c70 c71
        obtain ⟨ad8, xs8, A8, c8, hA8, hx8, hcell8, -, -, hI8⟩ := M7.out.at_ (k := i) (by rw [HML.out]; exact hin)
        injection hA8 with hA8
        subst hA8
        obtain rfl : ((k : Int), k2) :: r = xs8 := by have h9 := HX.out; rw [hx8.out] at h9; injection h9 with h9; exact h9.symm
        obtain ⟨l8, hl8⟩ : ∃ y, (((k : Int), k2) :: r).length = y := ⟨_, rfl⟩
        rw [hl8] at hcell8
        have hl80 : 0 < l8 := by rw [← hl8]; simp
        obtain ⟨ad9, z9, hA9, hz9, c90, c91⟩ := hI8.at_ (k := 0) (by simp)
        subst hA9
        obtain rfl : ((k : Int), k2) = z9 := by have h9 := hz9.out; simpa using h9
        simp only at c90 c91
        rw [show ad9.add (0 * 2) = ad9 by simp [Addr.add]] at c90 c91
        have Y7 : Hid (w7.cell? (ad6.add g) = some (.slice (some ad7) l1 c6)) := hcell6
        have Z7 : Hid (w7.cell? (ad7.add (l * 2)) = some (.int .i64 (k : Int))) := c70
        have Z27 : Hid (w7.cell? ⟨(ad7.add (l * 2)).block, (ad7.add (l * 2)).off + 1, none⟩ = some (.int .i64 k2)) := c71
        have N7 : Hid (w7.cell? (ad.add i) = some (.slice (some ad9) l8 c8)) := hcell8
        have O7 : Hid (w7.cell? ad9 = some (.int .i64 (k : Int))) := c90
        have O27 : Hid (w7.cell? ⟨ad9.block, ad9.off + 1, none⟩ = some (.int .i64 k2)) := c91
        clear hcell6 c70 c71 hcell8 c90 c91 hx6 hz7 hx8 hz9 hI6 hI8
        have e1 : (l1 : Int) - 1 = (l : Int) := by omega
        have e2 : IntKind.i64.wrap (l : Int) = (l : Int) := by rw [IntKind.wrap_i64]; omega
        have hll : l < l1 := by omega
        have hlli : (l : Int) < (l1 : Int) := by omega
        have hl10 : decide ((0 : Int) < (l1 : Int)) = true := by rw [decide_eq_true_eq]; omega
        have hl11 : decide (0 < l1) = true := by rw [decide_eq_true_eq]; omega
        have hl1p : 0 < l1 := by omega
        have hgn : (g : Int) < (nn : Int) := by omega
        have hini : (i : Int) < (nn : Int) := by omega
        have hl8i : (0 : Int) < (l8 : Int) := by omega
        have hy9 := Y7.out
        go_upto_region 16 with fail
        clear hy9
        refine wp_region_plan (.take 0 (.take 1 (.take 2 (.take 3 (.take 4 (.take 5 (.take 6 (.take 7 (.take 8 (.take 9 (.take 10 (.take 11 (.take 12 (.take 13 (.take 14 (.take 15 (.take 16 (.take 17 (.take 18 (.take 19 (.take 20 (.take 21 (.take 22 (.take 23 (.take 24 (.take 25 (.take 27 (.take 28 (.one 26 (.one 29 (.one 30 (.take 31 (.take 32 .done))))))))))))))))))))))))))))))))) (fun w' => w'.cell? ⟨w1.heap.size, 0, none⟩ = some (.string s) ∧ w'.cell? ⟨w1.heap.size, 1, none⟩ = some (.slice B1 ws.length d1) ∧ w'.cell? ⟨w1.heap.size, 2, none⟩ = some (.slice (some ad5) cs.length d2) ∧ w'.cell? ⟨w3.heap.size, 0, none⟩ = some (.int .i64 (k : Int)) ∧ w'.cell? ⟨w3.heap.size, 1, none⟩ = some (.int .i64 k2) ∧ w'.cell? (ad6.add g) = some (.slice (some ad7) l1 c6) ∧ w'.cell? (ad7.add (l * 2)) = some (.int .i64 (k : Int)) ∧ w'.cell? ⟨(ad7.add (l * 2)).block, (ad7.add (l * 2)).off + 1, none⟩ = some (.int .i64 k2) ∧ w'.cell? (ad.add i) = some (.slice (some ad9) l8 c8) ∧ w'.cell? ad9 = some (.int .i64 (k : Int)) ∧ w'.cell? ⟨ad9.block, ad9.off + 1, none⟩ = some (.int .i64 k2)) (by kernel_rfl) (by kernel_rfl) (by kernel_rfl) (by intro c a d v w h; cases d <;> exact h) ⟨cellOfBlk K7.out 0, cellOfBlk K7.out 1, cellOfBlk K7.out 2, cellOfBlk X7.out 0, cellOfBlk X7.out 1, Y7.out, Z7.out, Z27.out, N7.out, O7.out, O27.out⟩ ?_
        obtain ⟨w8, hwd⟩ : ∃ x, w7.drew = x := ⟨_, rfl⟩
        have hb8 : Below w7.heap.size w7 w8 := by rw [← hwd]; exact (Below.refl _ _).drew
        have hsz8 : w8.heap.size = w7.heap.size := by rw [← hwd]; rfl
        have T8 : Hid (Below w0.heap.size w0 w8) := T7.out.trans (hb8.mono (by omega))
        have G8 : Hid (w8.cell? ⟨0, 0, none⟩ = some (.iface ct cu)) := (hb8.cell (p := ⟨0, 0, none⟩) (by show 0 < _; omega)).trans G7.out
        have H8 : Hid (w8.cell? ⟨2, 0, none⟩ = some (.iface ct2 cu2)) := (hb8.cell (p := ⟨2, 0, none⟩) (by show 2 < _; omega)).trans H7.out
        have E8 : Hid (ErrH w8) := (hb8.cell (p := ⟨1, 0, none⟩) (by show 1 < _; omega)).trans E7.out
        have V8 : Hid (FontV w8 w0.heap.size w1.heap.size (.agg #[.string s, .slice B1 ws.length d1, .slice (some ad5) cs.length d2]) ⟨s, ws, cs⟩) := V7.out.below (by omega) hb8
        have M8 : Hid (MagI w8 w0.heap.size w1.heap.size (some ad) ms) := M7.out.below (by omega) hb8
        have Q8 : Hid (IntsI w8 w0.heap.size w1.heap.size (some ad5) cs) := Q7.out.below (by omega) hb8
        have K8 : Hid (Blk w8 (w1.heap.size) #[.string s, .slice B1 ws.length d1, .slice (some ad5) cs.length d2] 25) := K7.out.below hb8 (by omega)
        have J8 : Hid (MagI w8 w2.heap.size w3.heap.size A3 L1) := J7.out.below (by omega) hb8
        have X8 : Hid (Blk w8 (w3.heap.size) #[.int .i64 (k : Int), .int .i64 k2] 30) := X7.out.below hb8 (by omega)
        have P8 : Hid (MagI w8 w4.heap.size w5.heap.size (some ad6) L2) := P7.out.below (by omega) hb8
        have C8 : Hid (w8.cell? (ad5.add k) = some (.int .i64 cv)) := (hb8.cell (World.block_lt_of_cell? _ _ C7.out)).trans C7.out
        have Y8 : Hid (w8.cell? (ad6.add g) = some (.slice (some ad7) l1 c6)) := (hb8.cell (World.block_lt_of_cell? _ _ Y7.out)).trans Y7.out
        have Z8 : Hid (w8.cell? (ad7.add (l * 2)) = some (.int .i64 (k : Int))) := (hb8.cell (World.block_lt_of_cell? _ _ Z7.out)).trans Z7.out
        have Z28 : Hid (w8.cell? ⟨(ad7.add (l * 2)).block, (ad7.add (l * 2)).off + 1, none⟩ = some (.int .i64 k2)) := (hb8.cell (World.block_lt_of_cell? _ _ Z27.out)).trans Z27.out
        have N8 : Hid (w8.cell? (ad.add i) = some (.slice (some ad9) l8 c8)) := (hb8.cell (World.block_lt_of_cell? _ _ N7.out)).trans N7.out
        have O8 : Hid (w8.cell? ad9 = some (.int .i64 (k : Int))) := (hb8.cell (World.block_lt_of_cell? _ _ O7.out)).trans O7.out
        have O28 : Hid (w8.cell? ⟨ad9.block, ad9.off + 1, none⟩ = some (.int .i64 k2)) := (hb8.cell (World.block_lt_of_cell? _ _ O27.out)).trans O27.out
        have sz8 : w7.heap.size ≤ w8.heap.size := hb8.size
        clear T7 G7 H7 E7 V7 M7 Q7 K7 J7 X7 P7 C7 Y7 Z7 Z27 N7 O7 O27
        rw [hwd]
        clear hwd
        refine plan_quiet rfl (by rfl) (v := ?_) ?_ ?_; rotate_left; (intro w1 hSw; obtain ⟨hs0, hs1, hs2, hs3, hs4, hs5, hs6, hs7, hs8, hs9, hs10⟩ := hSw; go_simp; try (with_reducible rfl)); (try simp only [Act.put, List.setIfInBounds_toArray, List.set_cons_zero, List.set_cons_succ])
        refine plan_quiet rfl (by rfl) (v := ?_) ?_ ?_; rotate_left; (intro w1 hSw; obtain ⟨hs0, hs1, hs2, hs3, hs4, hs5, hs6, hs7, hs8, hs9, hs10⟩ := hSw; go_simp; try (with_reducible rfl)); (try simp only [Act.put, List.setIfInBounds_toArray, List.set_cons_zero, List.set_cons_succ])
        refine plan_quiet rfl (by rfl) (v := ?_) ?_ ?_; rotate_left; (intro w1 hSw; obtain ⟨hs0, hs1, hs2, hs3, hs4, hs5, hs6, hs7, hs8, hs9, hs10⟩ := hSw; go_simp; try (with_reducible rfl)); (try simp only [Act.put, List.setIfInBounds_toArray, List.set_cons_zero, List.set_cons_succ])
        refine plan_quiet rfl (by rfl) (v := ?_) ?_ ?_; rotate_left; (intro w1 hSw; obtain ⟨hs0, hs1, hs2, hs3, hs4, hs5, hs6, hs7, hs8, hs9, hs10⟩ := hSw; go_simp; try (with_reducible rfl)); (try simp only [Act.put, List.setIfInBounds_toArray, List.set_cons_zero, List.set_cons_succ])
        refine plan_quiet rfl (by rfl) (v := ?_) ?_ ?_; rotate_left; (intro w1 hSw; obtain ⟨hs0, hs1, hs2, hs3, hs4, hs5, hs6, hs7, hs8, hs9, hs10⟩ := hSw; go_simp; try (with_reducible rfl)); (try simp only [Act.put, List.setIfInBounds_toArray, List.set_cons_zero, List.set_cons_succ])
        refine plan_quiet rfl (by rfl) (v := ?_) ?_ ?_; rotate_left; (intro w1 hSw; obtain ⟨hs0, hs1, hs2, hs3, hs4, hs5, hs6, hs7, hs8, hs9, hs10⟩ := hSw; go_simp; try (with_reducible rfl)); (try simp only [Act.put, List.setIfInBounds_toArray, List.set_cons_zero, List.set_cons_succ])
        refine plan_quiet rfl (by rfl) (v := ?_) ?_ ?_; rotate_left; (intro w1 hSw; obtain ⟨hs0, hs1, hs2, hs3, hs4, hs5, hs6, hs7, hs8, hs9, hs10⟩ := hSw; go_simp; try (with_reducible rfl)); (try simp only [Act.put, List.setIfInBounds_toArray, List.set_cons_zero, List.set_cons_succ])
        refine plan_quiet rfl (by rfl) (v := ?_) ?_ ?_; rotate_left; (intro w1 hSw; obtain ⟨hs0, hs1, hs2, hs3, hs4, hs5, hs6, hs7, hs8, hs9, hs10⟩ := hSw; go_simp; try (with_reducible rfl)); (try simp only [Act.put, List.setIfInBounds_toArray, List.set_cons_zero, List.set_cons_succ])
        refine plan_quiet rfl (by rfl) (v := ?_) ?_ ?_; rotate_left; (intro w1 hSw; obtain ⟨hs0, hs1, hs2, hs3, hs4, hs5, hs6, hs7, hs8, hs9, hs10⟩ := hSw; go_simp; try (with_reducible rfl)); (try simp only [Act.put, List.setIfInBounds_toArray, List.set_cons_zero, List.set_cons_succ])
        refine plan_quiet rfl (by rfl) (v := ?_) ?_ ?_; rotate_left; (intro w1 hSw; obtain ⟨hs0, hs1, hs2, hs3, hs4, hs5, hs6, hs7, hs8, hs9, hs10⟩ := hSw; go_simp; try (with_reducible rfl)); (try simp only [Act.put, List.setIfInBounds_toArray, List.set_cons_zero, List.set_cons_succ])
        refine plan_quiet rfl (by rfl) (v := ?_) ?_ ?_; rotate_left; (intro w1 hSw; obtain ⟨hs0, hs1, hs2, hs3, hs4, hs5, hs6, hs7, hs8, hs9, hs10⟩ := hSw; go_simp; try (with_reducible rfl)); (try simp only [Act.put, List.setIfInBounds_toArray, List.set_cons_zero, List.set_cons_succ])
        refine plan_quiet rfl (by rfl) (v := ?_) ?_ ?_; rotate_left; (intro w1 hSw; obtain ⟨hs0, hs1, hs2, hs3, hs4, hs5, hs6, hs7, hs8, hs9, hs10⟩ := hSw; go_simp; try (with_reducible rfl)); (try simp only [Act.put, List.setIfInBounds_toArray, List.set_cons_zero, List.set_cons_succ])
        refine plan_quiet rfl (by rfl) (v := ?_) ?_ ?_; rotate_left; (intro w1 hSw; obtain ⟨hs0, hs1, hs2, hs3, hs4, hs5, hs6, hs7, hs8, hs9, hs10⟩ := hSw; go_simp; try (with_reducible rfl)); (try simp only [Act.put, List.setIfInBounds_toArray, List.set_cons_zero, List.set_cons_succ])
        refine plan_quiet rfl (by rfl) (v := ?_) ?_ ?_; rotate_left; (intro w1 hSw; obtain ⟨hs0, hs1, hs2, hs3, hs4, hs5, hs6, hs7, hs8, hs9, hs10⟩ := hSw; go_simp; try (with_reducible rfl)); (try simp only [Act.put, List.setIfInBounds_toArray, List.set_cons_zero, List.set_cons_succ])
        refine plan_quiet rfl (by rfl) (v := ?_) ?_ ?_; rotate_left; (intro w1 hSw; obtain ⟨hs0, hs1, hs2, hs3, hs4, hs5, hs6, hs7, hs8, hs9, hs10⟩ := hSw; go_simp; try (with_reducible rfl)); (try simp only [Act.put, List.setIfInBounds_toArray, List.set_cons_zero, List.set_cons_succ])
        refine plan_quiet rfl (by rfl) (v := ?_) ?_ ?_; rotate_left; (intro w1 hSw; obtain ⟨hs0, hs1, hs2, hs3, hs4, hs5, hs6, hs7, hs8, hs9, hs10⟩ := hSw; go_simp; try (with_reducible rfl)); (try simp only [Act.put, List.setIfInBounds_toArray, List.set_cons_zero, List.set_cons_succ])
        refine plan_quiet rfl (by rfl) (v := ?_) ?_ ?_; rotate_left; (intro w1 hSw; obtain ⟨hs0, hs1, hs2, hs3, hs4, hs5, hs6, hs7, hs8, hs9, hs10⟩ := hSw; go_simp; try (with_reducible rfl)); (try simp only [Act.put, List.setIfInBounds_toArray, List.set_cons_zero, List.set_cons_succ])
        refine plan_quiet rfl (by rfl) (v := ?_) ?_ ?_; rotate_left; (intro w1 hSw; obtain ⟨hs0, hs1, hs2, hs3, hs4, hs5, hs6, hs7, hs8, hs9, hs10⟩ := hSw; go_simp; try (with_reducible rfl)); (try simp only [Act.put, List.setIfInBounds_toArray, List.set_cons_zero, List.set_cons_succ])
        refine plan_quiet rfl (by rfl) (v := ?_) ?_ ?_; rotate_left; (intro w1 hSw; obtain ⟨hs0, hs1, hs2, hs3, hs4, hs5, hs6, hs7, hs8, hs9, hs10⟩ := hSw; go_simp; try (with_reducible rfl)); (try simp only [Act.put, List.setIfInBounds_toArray, List.set_cons_zero, List.set_cons_succ])
        refine plan_quiet rfl (by rfl) (v := ?_) ?_ ?_; rotate_left; (intro w1 hSw; obtain ⟨hs0, hs1, hs2, hs3, hs4, hs5, hs6, hs7, hs8, hs9, hs10⟩ := hSw; go_simp; try (with_reducible rfl)); (try simp only [Act.put, List.setIfInBounds_toArray, List.set_cons_zero, List.set_cons_succ])
        refine plan_quiet rfl (by rfl) (v := ?_) ?_ ?_; rotate_left; (intro w1 hSw; obtain ⟨hs0, hs1, hs2, hs3, hs4, hs5, hs6, hs7, hs8, hs9, hs10⟩ := hSw; go_simp; try (with_reducible rfl)); (try simp only [Act.put, List.setIfInBounds_toArray, List.set_cons_zero, List.set_cons_succ])
        refine plan_quiet rfl (by rfl) (v := ?_) ?_ ?_; rotate_left; (intro w1 hSw; obtain ⟨hs0, hs1, hs2, hs3, hs4, hs5, hs6, hs7, hs8, hs9, hs10⟩ := hSw; go_simp; try (with_reducible rfl)); (try simp only [Act.put, List.setIfInBounds_toArray, List.set_cons_zero, List.set_cons_succ])
        refine plan_quiet rfl (by rfl) (v := ?_) ?_ ?_; rotate_left; (intro w1 hSw; obtain ⟨hs0, hs1, hs2, hs3, hs4, hs5, hs6, hs7, hs8, hs9, hs10⟩ := hSw; go_simp; try (with_reducible rfl)); (try simp only [Act.put, List.setIfInBounds_toArray, List.set_cons_zero, List.set_cons_succ])
        refine plan_quiet rfl (by rfl) (v := ?_) ?_ ?_; rotate_left; (intro w1 hSw; obtain ⟨hs0, hs1, hs2, hs3, hs4, hs5, hs6, hs7, hs8, hs9, hs10⟩ := hSw; go_simp; try (with_reducible rfl)); (try simp only [Act.put, List.setIfInBounds_toArray, List.set_cons_zero, List.set_cons_succ])
        refine plan_quiet rfl (by rfl) (v := ?_) ?_ ?_; rotate_left; (intro w1 hSw; obtain ⟨hs0, hs1, hs2, hs3, hs4, hs5, hs6, hs7, hs8, hs9, hs10⟩ := hSw; go_simp; try (with_reducible rfl)); (try simp only [Act.put, List.setIfInBounds_toArray, List.set_cons_zero, List.set_cons_succ])
        refine plan_quiet rfl (by rfl) (v := ?_) ?_ ?_; rotate_left; (intro w1 hSw; obtain ⟨hs0, hs1, hs2, hs3, hs4, hs5, hs6, hs7, hs8, hs9, hs10⟩ := hSw; go_simp; try (with_reducible rfl)); (try simp only [Act.put, List.setIfInBounds_toArray, List.set_cons_zero, List.set_cons_succ])
        refine plan_quiet rfl (by rfl) (v := ?_) ?_ ?_; rotate_left; (intro w1 hSw; obtain ⟨hs0, hs1, hs2, hs3, hs4, hs5, hs6, hs7, hs8, hs9, hs10⟩ := hSw; go_simp; try (with_reducible rfl)); (try simp only [Act.put, List.setIfInBounds_toArray, List.set_cons_zero, List.set_cons_succ])
        refine plan_quiet rfl (by rfl) (v := ?_) ?_ ?_; rotate_left; (intro w1 hSw; obtain ⟨hs0, hs1, hs2, hs3, hs4, hs5, hs6, hs7, hs8, hs9, hs10⟩ := hSw; go_simp; try (with_reducible rfl)); (try simp only [Act.put, List.setIfInBounds_toArray, List.set_cons_zero, List.set_cons_succ])
        refine plan_step rfl (fun Kc hK => ?_)
        rw [if_pos (by rfl)]
        go_simp
        refine (implKind_any _ _ _ _ _ ⟨s, ws, cs⟩ (some ad6) nn c4 L2 _ V8.out (by omega) HS.out HM2.out (by omega) P8.out (by omega) HW2.out).mono ?_
        rintro e w9 ⟨u5, rfl, hO, hb9⟩
        rw [HKD2.out] at hO
        obtain ⟨A5, c5, rfl, hIU, -, hc5, hcm5⟩ := hO.form
        obtain ⟨kl, hkl⟩ : ∃ y, (kindL ⟨s, ws, cs⟩ ms).length = y := ⟨_, rfl⟩
        rw [hkl] at hc5 ⊢
        have HKL := Lib.hid hkl
        clear hkl
        have T9 : Hid (Below w0.heap.size w0 w9) := T8.out.trans (hb9.mono (by omega))
        have G9 : Hid (w9.cell? ⟨0, 0, none⟩ = some (.iface ct cu)) := (hb9.cell (p := ⟨0, 0, none⟩) (by show 0 < _; omega)).trans G8.out
        have H9 : Hid (w9.cell? ⟨2, 0, none⟩ = some (.iface ct2 cu2)) := (hb9.cell (p := ⟨2, 0, none⟩) (by show 2 < _; omega)).trans H8.out
        have E9 : Hid (ErrH w9) := (hb9.cell (p := ⟨1, 0, none⟩) (by show 1 < _; omega)).trans E8.out
        have V9 : Hid (FontV w9 w0.heap.size w1.heap.size (.agg #[.string s, .slice B1 ws.length d1, .slice (some ad5) cs.length d2]) ⟨s, ws, cs⟩) := V8.out.below (by omega) hb9
        have M9 : Hid (MagI w9 w0.heap.size w1.heap.size (some ad) ms) := M8.out.below (by omega) hb9
        have Q9 : Hid (IntsI w9 w0.heap.size w1.heap.size (some ad5) cs) := Q8.out.below (by omega) hb9
        have K9 : Hid (Blk w9 (w1.heap.size) #[.string s, .slice B1 ws.length d1, .slice (some ad5) cs.length d2] 25) := K8.out.below hb9 (by omega)
        have J9 : Hid (MagI w9 w2.heap.size w3.heap.size A3 L1) := J8.out.below (by omega) hb9
        have X9 : Hid (Blk w9 (w3.heap.size) #[.int .i64 (k : Int), .int .i64 k2] 30) := X8.out.below hb9 (by omega)
        have P9 : Hid (MagI w9 w4.heap.size w5.heap.size (some ad6) L2) := P8.out.below (by omega) hb9
        have C9 : Hid (w9.cell? (ad5.add k) = some (.int .i64 cv)) := (hb9.cell (World.block_lt_of_cell? _ _ C8.out)).trans C8.out
        have Y9 : Hid (w9.cell? (ad6.add g) = some (.slice (some ad7) l1 c6)) := (hb9.cell (World.block_lt_of_cell? _ _ Y8.out)).trans Y8.out
        have Z9 : Hid (w9.cell? (ad7.add (l * 2)) = some (.int .i64 (k : Int))) := (hb9.cell (World.block_lt_of_cell? _ _ Z8.out)).trans Z8.out
        have Z29 : Hid (w9.cell? ⟨(ad7.add (l * 2)).block, (ad7.add (l * 2)).off + 1, none⟩ = some (.int .i64 k2)) := (hb9.cell (World.block_lt_of_cell? _ _ Z28.out)).trans Z28.out
        have N9 : Hid (w9.cell? (ad.add i) = some (.slice (some ad9) l8 c8)) := (hb9.cell (World.block_lt_of_cell? _ _ N8.out)).trans N8.out
        have O9 : Hid (w9.cell? ad9 = some (.int .i64 (k : Int))) := (hb9.cell (World.block_lt_of_cell? _ _ O8.out)).trans O8.out
        have O29 : Hid (w9.cell? ⟨ad9.block, ad9.off + 1, none⟩ = some (.int .i64 k2)) := (hb9.cell (World.block_lt_of_cell? _ _ O28.out)).trans O28.out
        have sz9 : w8.heap.size ≤ w9.heap.size := hb9.size
        clear T8 G8 H8 E8 V8 M8 Q8 K8 J8 X8 P8 C8 Y8 Z8 Z28 N8 O8 O28
        have U59 : Hid (Ints w9 A5 (kindL ⟨s, ws, cs⟩ ms)) := hIU
        clear hO hIU
        refine hK.out _ _ ⟨cellOfBlk K9.out 0, cellOfBlk K9.out 1, cellOfBlk K9.out 2, cellOfBlk X9.out 0, cellOfBlk X9.out 1, Y9.out, Z9.out, Z29.out, N9.out, O9.out, O29.out⟩ ?_
        clear hK Kc
        refine plan_step rfl (fun Kc hK => ?_)
        rw [if_pos (by rfl)]
        go_simp
        refine (implKind_any _ _ _ _ _ ⟨s, ws, cs⟩ (some ad) nn cc ms _ V9.out (by omega) HS.out HML.out (by omega) M9.out (by omega) HWF.out).mono ?_
        rintro e w10 ⟨u7, rfl, hO, hb10⟩
        obtain ⟨A7, c7, rfl, hIU, -, hc7, hcm7⟩ := hO.form
        rw [HKL.out] at hc7 ⊢
        have T10 : Hid (Below w0.heap.size w0 w10) := T9.out.trans (hb10.mono (by omega))
        have G10 : Hid (w10.cell? ⟨0, 0, none⟩ = some (.iface ct cu)) := (hb10.cell (p := ⟨0, 0, none⟩) (by show 0 < _; omega)).trans G9.out
        have H10 : Hid (w10.cell? ⟨2, 0, none⟩ = some (.iface ct2 cu2)) := (hb10.cell (p := ⟨2, 0, none⟩) (by show 2 < _; omega)).trans H9.out
        have E10 : Hid (ErrH w10) := (hb10.cell (p := ⟨1, 0, none⟩) (by show 1 < _; omega)).trans E9.out
        have V10 : Hid (FontV w10 w0.heap.size w1.heap.size (.agg #[.string s, .slice B1 ws.length d1, .slice (some ad5) cs.length d2]) ⟨s, ws, cs⟩) := V9.out.below (by omega) hb10
        have M10 : Hid (MagI w10 w0.heap.size w1.heap.size (some ad) ms) := M9.out.below (by omega) hb10
        have Q10 : Hid (IntsI w10 w0.heap.size w1.heap.size (some ad5) cs) := Q9.out.below (by omega) hb10
        have K10 : Hid (Blk w10 (w1.heap.size) #[.string s, .slice B1 ws.length d1, .slice (some ad5) cs.length d2] 25) := K9.out.below hb10 (by omega)
        have J10 : Hid (MagI w10 w2.heap.size w3.heap.size A3 L1) := J9.out.below (by omega) hb10
        have X10 : Hid (Blk w10 (w3.heap.size) #[.int .i64 (k : Int), .int .i64 k2] 30) := X9.out.below hb10 (by omega)
        have P10 : Hid (MagI w10 w4.heap.size w5.heap.size (some ad6) L2) := P9.out.below (by omega) hb10
        have C10 : Hid (w10.cell? (ad5.add k) = some (.int .i64 cv)) := (hb10.cell (World.block_lt_of_cell? _ _ C9.out)).trans C9.out
        have Y10 : Hid (w10.cell? (ad6.add g) = some (.slice (some ad7) l1 c6)) := (hb10.cell (World.block_lt_of_cell? _ _ Y9.out)).trans Y9.out
        have Z10 : Hid (w10.cell? (ad7.add (l * 2)) = some (.int .i64 (k : Int))) := (hb10.cell (World.block_lt_of_cell? _ _ Z9.out)).trans Z9.out
        have Z210 : Hid (w10.cell? ⟨(ad7.add (l * 2)).block, (ad7.add (l * 2)).off + 1, none⟩ = some (.int .i64 k2)) := (hb10.cell (World.block_lt_of_cell? _ _ Z29.out)).trans Z29.out
        have N10 : Hid (w10.cell? (ad.add i) = some (.slice (some ad9) l8 c8)) := (hb10.cell (World.block_lt_of_cell? _ _ N9.out)).trans N9.out
        have O10 : Hid (w10.cell? ad9 = some (.int .i64 (k : Int))) := (hb10.cell (World.block_lt_of_cell? _ _ O9.out)).trans O9.out
        have O210 : Hid (w10.cell? ⟨ad9.block, ad9.off + 1, none⟩ = some (.int .i64 k2)) := (hb10.cell (World.block_lt_of_cell? _ _ O29.out)).trans O29.out
        have U510 : Hid (Ints w10 A5 (kindL ⟨s, ws, cs⟩ ms)) := U59.out.below hb10
        have sz10 : w9.heap.size ≤ w10.heap.size := hb10.size
        clear T9 G9 H9 E9 V9 M9 Q9 K9 J9 X9 P9 C9 Y9 Z9 Z29 N9 O9 O29 U59
        have U710 : Hid (Ints w10 A7 (kindL ⟨s, ws, cs⟩ ms)) := hIU
        clear hO hIU
        refine hK.out _ _ ⟨cellOfBlk K10.out 0, cellOfBlk K10.out 1, cellOfBlk K10.out 2, cellOfBlk X10.out 0, cellOfBlk X10.out 1, Y10.out, Z10.out, Z210.out, N10.out, O10.out, O210.out⟩ ?_
        clear hK Kc
        refine plan_step rfl (fun Kc hK => ?_)
        rw [if_pos (by rfl)]
        go_simp
        have hkm : kl ≤ maxLen := by omega
        refine (lawInts_any A5 A7 kl c5 kl c7 _ _ w10 HKL.out HKL.out hkm hkm U510.out U710.out).mono ?_
        rintro e7 w' ⟨dk, rfl, rfl⟩
        rw [decide_eq_true rfl]
        obtain ⟨w11, hwd⟩ : ∃ x, w10.drewN dk = x := ⟨_, rfl⟩
        have hb11 : Below w10.heap.size w10 w11 := by rw [← hwd]; exact below_drewN (Below.refl _ _) dk
        have T11 : Hid (Below w0.heap.size w0 w11) := T10.out.trans (hb11.mono (by omega))
        have G11 : Hid (w11.cell? ⟨0, 0, none⟩ = some (.iface ct cu)) := (hb11.cell (p := ⟨0, 0, none⟩) (by show 0 < _; omega)).trans G10.out
        have H11 : Hid (w11.cell? ⟨2, 0, none⟩ = some (.iface ct2 cu2)) := (hb11.cell (p := ⟨2, 0, none⟩) (by show 2 < _; omega)).trans H10.out
        have E11 : Hid (ErrH w11) := (hb11.cell (p := ⟨1, 0, none⟩) (by show 1 < _; omega)).trans E10.out
        have V11 : Hid (FontV w11 w0.heap.size w1.heap.size (.agg #[.string s, .slice B1 ws.length d1, .slice (some ad5) cs.length d2]) ⟨s, ws, cs⟩) := V10.out.below (by omega) hb11
        have M11 : Hid (MagI w11 w0.heap.size w1.heap.size (some ad) ms) := M10.out.below (by omega) hb11
        have Q11 : Hid (IntsI w11 w0.heap.size w1.heap.size (some ad5) cs) := Q10.out.below (by omega) hb11
        have K11 : Hid (Blk w11 (w1.heap.size) #[.string s, .slice B1 ws.length d1, .slice (some ad5) cs.length d2] 25) := K10.out.below hb11 (by omega)
        have J11 : Hid (MagI w11 w2.heap.size w3.heap.size A3 L1) := J10.out.below (by omega) hb11
        have X11 : Hid (Blk w11 (w3.heap.size) #[.int .i64 (k : Int), .int .i64 k2] 30) := X10.out.below hb11 (by omega)
        have P11 : Hid (MagI w11 w4.heap.size w5.heap.size (some ad6) L2) := P10.out.below (by omega) hb11
        have C11 : Hid (w11.cell? (ad5.add k) = some (.int .i64 cv)) := (hb11.cell (World.block_lt_of_cell? _ _ C10.out)).trans C10.out
        have Y11 : Hid (w11.cell? (ad6.add g) = some (.slice (some ad7) l1 c6)) := (hb11.cell (World.block_lt_of_cell? _ _ Y10.out)).trans Y10.out
        have Z11 : Hid (w11.cell? (ad7.add (l * 2)) = some (.int .i64 (k : Int))) := (hb11.cell (World.block_lt_of_cell? _ _ Z10.out)).trans Z10.out
        have Z211 : Hid (w11.cell? ⟨(ad7.add (l * 2)).block, (ad7.add (l * 2)).off + 1, none⟩ = some (.int .i64 k2)) := (hb11.cell (World.block_lt_of_cell? _ _ Z210.out)).trans Z210.out
        have N11 : Hid (w11.cell? (ad.add i) = some (.slice (some ad9) l8 c8)) := (hb11.cell (World.block_lt_of_cell? _ _ N10.out)).trans N10.out
        have O11 : Hid (w11.cell? ad9 = some (.int .i64 (k : Int))) := (hb11.cell (World.block_lt_of_cell? _ _ O10.out)).trans O10.out
        have O211 : Hid (w11.cell? ⟨ad9.block, ad9.off + 1, none⟩ = some (.int .i64 k2)) := (hb11.cell (World.block_lt_of_cell? _ _ O210.out)).trans O210.out
        have U511 : Hid (Ints w11 A5 (kindL ⟨s, ws, cs⟩ ms)) := U510.out.below hb11
        have U711 : Hid (Ints w11 A7 (kindL ⟨s, ws, cs⟩ ms)) := U710.out.below hb11
        have sz11 : w10.heap.size ≤ w11.heap.size := hb11.size
        clear T10 G10 H10 E10 V10 M10 Q10 K10 J10 X10 P10 C10 Y10 Z10 Z210 N10 O10 O210 U510 U710
        rw [hwd]
        clear hwd
        refine hK.out _ _ ⟨cellOfBlk K11.out 0, cellOfBlk K11.out 1, cellOfBlk K11.out 2, cellOfBlk X11.out 0, cellOfBlk X11.out 1, Y11.out, Z11.out, Z211.out, N11.out, O11.out, O211.out⟩ ?_
        clear hK Kc
        refine plan_quiet rfl (by rfl) (v := ?_) ?_ ?_; rotate_left; (intro w1 hSw; obtain ⟨hs0, hs1, hs2, hs3, hs4, hs5, hs6, hs7, hs8, hs9, hs10⟩ := hSw; go_simp; try (with_reducible rfl)); (try simp only [Act.put, List.setIfInBounds_toArray, List.set_cons_zero, List.set_cons_succ])
        refine plan_quiet rfl (by rfl) (v := ?_) ?_ ?_; rotate_left; (intro w1 hSw; obtain ⟨hs0, hs1, hs2, hs3, hs4, hs5, hs6, hs7, hs8, hs9, hs10⟩ := hSw; go_simp; try (with_reducible rfl)); (try simp only [Act.put, List.setIfInBounds_toArray, List.set_cons_zero, List.set_cons_succ])
        refine plan_end ?_
        go_wp2
        go_ret
        exact ⟨rfl, T11.out⟩
end Go.Proofs.YtdijlofcgcikjaaDoor
