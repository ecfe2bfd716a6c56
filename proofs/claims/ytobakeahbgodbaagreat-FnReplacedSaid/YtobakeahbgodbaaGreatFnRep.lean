/-
  FnReplaced: its walk. No condition.
-/
import Derived.Test.YtobakeahbgodbaaGreatDrawRp
import Derived.Test.YtobakeahbgodbaaGreatRepW
import Derived.Test.YtobakeahbgodbaaGreatRepP
import Derived.Test.YtobakeahbgodbaaGreatRepS
import Derived.Test.YtobakeahbgodbaaGreatLawKit
import Derived.Deep.CutBlock
namespace Go.Proofs.YtobakeahbgodbaaGreat
open Go.RowKit
set_option linter.unusedVariables false

theorem ints_takeR {w : World} {A : Option Addr} {zs : List Int} {q : Nat} (h : Ints w A zs) : Ints w A (zs.take q) := fun hp => by
  rw [List.length_take] at hp
  obtain ⟨ad, e, hc⟩ := h (by omega)
  refine ⟨ad, e, fun j hj => ?_⟩
  rw [List.length_take] at hj
  rw [hc j (by omega)]
  simp only [List.getD, List.getElem?_take]
  rw [if_pos (by omega)]
theorem ints_dropR {w : World} {A : Option Addr} {zs : List Int} {q c : Nat} (h : Ints w A zs) (hc : zs.length ≤ c) : Ints w (if c = q then A else Option.map (fun x => x.add q) A) (zs.drop q) := fun hp => by
  rw [List.length_drop] at hp
  obtain ⟨ad, e, hcell⟩ := h (by omega)
  subst e
  rw [if_neg (by omega)]
  refine ⟨_, rfl, fun j hj => ?_⟩
  rw [List.length_drop] at hj
  have := hcell (q + j) (by omega)
  rw [show (List.drop q zs).getD j 0 = zs.getD (q + j) 0 from by simp [List.getD], ← this, add_add2]
set_option maxRecDepth 100000 in
set_option maxHeartbeats 12800000 in
theorem fnReplaced_walk (A : Option Addr) (n c : Nat) (bs : List Int) (w : World) (hn : bs.length = n) (hm : n ≤ maxLen) (h : Bytes w A bs) (wf : ∀ z ∈ bs, (Lit.int .u8 z).wf = true) :
    Calls Tryz.prog 3 #[.slice A n c] w fun e w' => e = .returned (.bool true) ∧ Below w.heap.size w w' := by
  have H := Lib.hid h; have Hn := Lib.hid hn; have Hwf := Lib.hid wf
  clear h hn wf
  have hm0 := hm
  unfold maxLen at hm
  by_cases hbig : 1048576 < n
  · go_enter Tryz.func3, Tryz.ntmps3
    go_wp2
    go_ret
    exact ⟨rfl, Below.refl _ _⟩
  go_enter Tryz.func3, Tryz.ntmps3
  go_wp2_with fail
  refine (drawRep_any _ _ _ bs _ Hn.out hm0 H.out Hwf.out).mono ?_
  rintro e w1 ⟨v, ⟨s, ws, cs⟩, X, Y, Z, Ag, k, c1, gl, x, tx, rfl, hF, hs24, hw24, hc24, hgk, hk40, hgsz, hG, hx0, hx1, htx, hb1⟩
  simp only at hs24 hw24 hc24
  have HS : Hid (Small ⟨s, ws, cs⟩) := ⟨by show s.size ≤ _; omega, by show ws.length ≤ _; omega, by show cs.length ≤ _; omega⟩
  have hwx : (Lit.int .i64 x).wf = true := by simp [Lit.wf, IntKind.min, IntKind.max, IntKind.signed, IntKind.bits]; omega
  have HWX := Lib.hid hwx
  obtain ⟨B1, d1, B2, d2, rfl⟩ := fontForm hF
  have z1 := hb1.size
  have F1 := Lib.hid hF; have G1 := Lib.hid hG; have T1 := Lib.hid hb1; have HK := Lib.hid hgk
  clear hF hG hb1 hgk H Hn Hwf hwx hx0 hx1
  go_wp2_with fail
  obtain ⟨w2, hw2, hb2, hz2, hK2⟩ := mxWorld w1 #[.string s, .slice B1 ws.length d1, .slice B2 cs.length d2] 25
  obtain ⟨w3, hw3, hb3, hz3, hK3⟩ := mxWorld w2 #[.int .i64 X, .int .i64 Y, .int .i64 Z] 27
  obtain ⟨b, hb⟩ : ∃ y, w1.heap.size = y := ⟨_, rfl⟩
  rw [hb] at hz2
  rw [hz2] at hK3 hz3
  have F3 := Lib.hid ((F1.out.below (Nat.le_refl _) hb2).below (by omega) hb3); have G3 := Lib.hid ((G1.out.below hb2).below hb3); have T3 := Lib.hid ((T1.out.trans (hb2.mono z1)).trans (hb3.mono (by omega)))
  rw [hb] at F3 hK2 z1
  have K3 := Lib.hid (hK2.below hb3 (by omega)); have N3 := Lib.hid hK3
  have z3 : b + 1 < w3.heap.size := by omega
  rw [hw2, hw3, hb]
  clear F1 G1 T1 hb2 hb3 hK2 hK3 hz2 hz3 hw2 hw3 hb
  refine (implRep_any w.heap.size b w.heap.size _ ⟨s, ws, cs⟩ X Y Z Ag k c1 gl x tx w3 F3.out (by omega) HS.out HK.out (by omega) G3.out HWX.out (by omega)).mono ?_
  rintro e4 w4 ⟨u, rfl, hO, hb4⟩
  have z4 : b + 1 < w4.heap.size := by have := hb4.size; omega
  have F4 := Lib.hid (F3.out.below (by omega) hb4); have K4 := Lib.hid (K3.out.below hb4 (by omega)); have N4 := Lib.hid (N3.out.below hb4 (by omega)); have T4 := Lib.hid (T3.out.trans (hb4.mono (by omega)))
  have G4 := Lib.hid (G3.out.below hb4)
  clear F3 K3 N3 T3 G3 hb4
  cases hr : repA ⟨s, ws, cs⟩ ⟨X, Y, Z⟩ gl x tx with
  | none =>
    rw [hr] at hO
    obtain ⟨A1, c2, rfl, -, -⟩ := hO.form
    have HR := Lib.hid hr
    clear hO hr
    obtain ⟨b0, b1, b2, b3, b4, b5⟩ := (show w4.cell? ⟨b, 0, none⟩ = some (.string s) ∧ w4.cell? ⟨b, 1, none⟩ = some (.slice B1 ws.length d1) ∧ w4.cell? ⟨b, 2, none⟩ = some (.slice B2 cs.length d2) ∧ w4.cell? ⟨(b + 1), 0, none⟩ = some (.int .i64 X) ∧ w4.cell? ⟨(b + 1), 1, none⟩ = some (.int .i64 Y) ∧ w4.cell? ⟨(b + 1), 2, none⟩ = some (.int .i64 Z) from ⟨cellOfBlk K4.out 0, cellOfBlk K4.out 1, cellOfBlk K4.out 2, cellOfBlk N4.out 0, cellOfBlk N4.out 1, cellOfBlk N4.out 2⟩)
    simp only [Option.isSome_none, Option.getD_none, List.length_nil]
    obtain ⟨A9, c9, hv9, hS9, -, hc9, hcm9⟩ := G4.out.form
    injection hv9 with e1 e2 e3
    subst e1; subst e3
    rw [HK.out] at hc9
    have S4 := Lib.hid hS9
    clear hS9 e2
    go_wp2_with fail
    clear b0 b1 b2 b3 b4 b5
    refine (specRep_any w.heap.size b _ ⟨s, ws, cs⟩ X Y Z Ag k c1 gl x tx w4 F4.out (by omega) HS.out HK.out (by omega) hc9 hcm9 S4.out HWX.out (by omega)).mono ?_
    rintro e5 w5 ⟨u2, rfl, hO2, hb5⟩
    rw [HR.out]
    simp only [Option.isSome_none]
    clear hO2 S4
    have z5 : b + 1 < w5.heap.size := by have := hb5.size; omega
    have F5 := Lib.hid (F4.out.below (by omega) hb5); have K5 := Lib.hid (K4.out.below hb5 (by omega)); have N5 := Lib.hid (N4.out.below hb5 (by omega)); have T5 := Lib.hid (T4.out.trans (hb5.mono (by omega)))
    have G5 := Lib.hid (G4.out.below hb5)
    clear F4 K4 N4 T4 G4 hb5
    go_wp2
    go_ret
    exact ⟨rfl, T5.out⟩
  | some cc =>
    obtain ⟨p, K, P, rfl, hp, h40, hnow, hone, htwo, hthree, hgB, hcB, hln, hKc, htk⟩ := rep_ww hr
    rw [hr] at hO
    simp only [Option.isSome_some, Option.getD_some] at hO ⊢
    have hcp := galB_parts hcB
    have hcsz := hcp.2.2.2.2.1
    have hc40 := hcp.2.2.2.2.2.1
    have hgp := (galB_parts hgB).2.2.2.2.1
    obtain ⟨A1, c2, rfl, -, -, hc2, hcm2⟩ := hO.form
    obtain ⟨cn, hcn⟩ : ∃ y, cc.length = y := ⟨_, rfl⟩
    rw [hcn] at hO hc2 hc40 hKc ⊢
    have HCN := Lib.hid hcn; have E4 := Lib.hid hO; have HON := Lib.hid hone; have HTW := Lib.hid htwo; have HNW := Lib.hid hnow; have HTH := Lib.hid hthree; have HGB := Lib.hid hgB; have HCB := Lib.hid hcB; have HLN := Lib.hid hln; have HTK := Lib.hid htk
    have HP := Lib.hid hp; have H40 := Lib.hid h40
    clear hcn hO hone htwo hnow hthree hgB hcB hln htk hcp hr hp h40
    obtain ⟨b0, b1, b2, b3, b4, b5⟩ := (show w4.cell? ⟨b, 0, none⟩ = some (.string s) ∧ w4.cell? ⟨b, 1, none⟩ = some (.slice B1 ws.length d1) ∧ w4.cell? ⟨b, 2, none⟩ = some (.slice B2 cs.length d2) ∧ w4.cell? ⟨(b + 1), 0, none⟩ = some (.int .i64 X) ∧ w4.cell? ⟨(b + 1), 1, none⟩ = some (.int .i64 Y) ∧ w4.cell? ⟨(b + 1), 2, none⟩ = some (.int .i64 Z) from ⟨cellOfBlk K4.out 0, cellOfBlk K4.out 1, cellOfBlk K4.out 2, cellOfBlk N4.out 0, cellOfBlk N4.out 1, cellOfBlk N4.out 2⟩)
    go_wp2_with fail
    clear b0 b1 b2 b3 b4 b5
    refine (implGalOk_any w.heap.size b _ _ ⟨s, ws, cs⟩ X Y Z A1 cn c2 cc w4 F4.out (by omega) HS.out HCN.out (by omega) E4.out).mono ?_
    rintro e5 w5 ⟨rfl, hb5⟩
    rw [HCB.out]
    have z5 : b + 1 < w5.heap.size := by have := hb5.size; omega
    have F5 := Lib.hid (F4.out.below (by omega) hb5); have K5 := Lib.hid (K4.out.below hb5 (by omega)); have N5 := Lib.hid (N4.out.below hb5 (by omega)); have T5 := Lib.hid (T4.out.trans (hb5.mono (by omega)))
    have G5 := Lib.hid (G4.out.below hb5)
    have E5 := Lib.hid (E4.out.below hb5)
    clear F4 K4 N4 T4 G4 E4 hb5
    go_upto_block 0 with fail
    go_cut [] from 13 (fun wx => Hid (FontV wx w.heap.size b (.agg #[.string s, .slice B1 ws.length d1, .slice B2 cs.length d2]) ⟨s, ws, cs⟩) ∧ Hid (Blk wx b #[.string s, .slice B1 ws.length d1, .slice B2 cs.length d2] 25) ∧ Hid (Blk wx (b + 1) #[.int .i64 X, .int .i64 Y, .int .i64 Z] 27) ∧ Hid (Below w.heap.size w wx) ∧ Hid (OwnS wx w.heap.size (.slice Ag k c1) gl) ∧ Hid (OwnS wx w3.heap.size (.slice A1 cn c2) cc) ∧ b + 1 < wx.heap.size)
    case first =>
      go_wp2_with fail
      go_loopw [12, 70] (fun lv iv wr => ∃ i Pi L : Nat, i ≤ k ∧ Pi + L = p ∧ Hid (lnI (p : Int) ((cnts gl).drop i) Pi i = (K, P)) ∧ iv = .int .i64 i ∧ lv = .int .i64 L ∧ Hid (Below w5.heap.size w5 wr)) (fun _ iv _ => k - (intOf iv).toNat)
      case atStart => exact ⟨0, 0, p, Nat.zero_le _, Nat.zero_add _, HLN.out, rfl, rfl, Below.refl _ _⟩
      case round =>
        obtain ⟨i, Pi, L, hi, hPL, HLI, rfl, rfl, hwr⟩ := hrel
        obtain ⟨w6, h6⟩ : ∃ x, x = wr := ⟨_, rfl⟩
        subst h6
        have hb6 := hwr.out
        have W6 := Lib.hid hb6
        clear hwr
        have z6 : b + 1 < w6.heap.size := by have := hb6.size; omega
        have F6 := Lib.hid (F5.out.below (by omega) hb6); have K6 := Lib.hid (K5.out.below hb6 (by omega)); have N6 := Lib.hid (N5.out.below hb6 (by omega)); have T6 := Lib.hid (T5.out.trans (hb6.mono (by omega)))
        have G6 := Lib.hid (G5.out.below hb6)
        have E6 := Lib.hid (E5.out.below hb6)
        clear F5 K5 N5 T5 G5 E5 hb6
        by_cases hik : i < k
        · obtain ⟨ad, l, rfl, hl, hcl⟩ := (owns_rd G6.out).at_ (k := i) (by rw [HK.out]; exact hik)
          have hll := gal_lineG HGB.out (List.mem_of_getElem? hl.out)
          have hlz : l.size ≤ 80080 := by have := szL_mem (List.mem_of_getElem? hl.out); omega
          have hln2 := lnI_at (x := (p : Int)) (ls := cnts gl) (p := Pi) (k := i) (cnts_at hl.out)
          rw [← hll.2.2.2] at hln2
          rw [HLI.out] at hln2
          have HLB := Lib.hid hll.1
          obtain ⟨q, hq⟩ : ∃ y, (wwL ⟨s, ws, cs⟩ l).length = y := ⟨_, rfl⟩
          rw [hq] at hll hln2
          have hq40 : q ≤ 40 := hll.2.2.1
          have HQL := Lib.hid hq; have HLN2 := Lib.hid hln2
          clear hll hln2 hq
          obtain ⟨b0, b1, b2, b3, b4, b5⟩ := (show w6.cell? ⟨b, 0, none⟩ = some (.string s) ∧ w6.cell? ⟨b, 1, none⟩ = some (.slice B1 ws.length d1) ∧ w6.cell? ⟨b, 2, none⟩ = some (.slice B2 cs.length d2) ∧ w6.cell? ⟨(b + 1), 0, none⟩ = some (.int .i64 X) ∧ w6.cell? ⟨(b + 1), 1, none⟩ = some (.int .i64 Y) ∧ w6.cell? ⟨(b + 1), 2, none⟩ = some (.int .i64 Z) from ⟨cellOfBlk K6.out 0, cellOfBlk K6.out 1, cellOfBlk K6.out 2, cellOfBlk N6.out 0, cellOfBlk N6.out 1, cellOfBlk N6.out 2⟩)
          go_wp2_with fail
          clear b0 b1 b2 b3 b4 b5 hcl
          refine (implWords_any w.heap.size b _ ⟨s, ws, cs⟩ l w6 F6.out (by omega) HS.out (by omega)).mono ?_
          rintro e7 w7 ⟨u7, rfl, hO7, hb7⟩
          rw [HLB.out]
          obtain ⟨A7, c7, rfl, -⟩ := hO7.form
          rw [HQL.out]
          clear hO7
          have z7 : b + 1 < w7.heap.size := by have := hb7.size; omega
          have F7 := Lib.hid (F6.out.below (by omega) hb7); have K7 := Lib.hid (K6.out.below hb7 (by omega)); have N7 := Lib.hid (N6.out.below hb7 (by omega)); have T7 := Lib.hid (T6.out.trans (hb7.mono (by omega)))
          have G7 := Lib.hid (G6.out.below hb7)
          have E7 := Lib.hid (E6.out.below hb7)
          have W7 := Lib.hid (W6.out.trans (hb7.mono W6.out.size))
          clear F6 K6 N6 T6 G6 E6 W6 hb7
          by_cases hLq : L < q
          · have hLi : (L : Int) < (q : Int) := by omega
            go_wp2
            go_meet
            case rel => exact ⟨F7.out, K7.out, N7.out, T7.out, G7.out, E7.out, z7⟩
          · have hLi : ¬ (L : Int) < (q : Int) := by omega
            obtain ⟨L1, hL1⟩ : ∃ y, L = q + y := ⟨L - q, by omega⟩
            have e1 : (L : Int) - (q : Int) = (L1 : Int) := by omega
            have e2 : IntKind.i64.wrap (L1 : Int) = (L1 : Int) := by rw [IntKind.wrap_i64]; have := HP.out; have := H40.out; omega
            have hlt : lnI (p : Int) ((cnts gl).drop (i + 1)) (Pi + q) (i + 1) = (K, P) := by
              have h := HLN2.out
              rw [if_neg (by omega)] at h
              exact h.symm
            have hiK := (lnI_inv _ _ _ _ _ hlt).1
            have hicn : i < cn := by omega
            have hici : ¬ (cn : Int) ≤ (i : Int) := by omega
            have HLT := Lib.hid hlt
            obtain ⟨ad2, l2, hA2, hl2, hcl2⟩ := (owns_rd E7.out).at_ (k := i) (by rw [HCN.out]; exact hicn)
            subst hA2
            obtain rfl : l = l2 := by
              have h1 : (cc.take K)[i]? = (gl.take K)[i]? := by rw [HTK.out]
              rw [List.getElem?_take, List.getElem?_take, if_pos (by omega), if_pos (by omega), hl.out, hl2.out] at h1
              injection h1 with h1; exact h1.symm
            have hbe := str_eq l
            have HL1 := Lib.hid hL1
            clear hlt hL1 hiK
            go_wp2
            go_roundw
            case rel => exact ⟨i + 1, Pi + q, L1, by omega, by have := HL1.out; omega, HLT.out, by go_num, rfl, W7.out⟩
            case measure => simp [intOf]; omega
        · have hkk : i = k := by omega
          subst hkk
          go_wp2
          go_meet
          case rel => exact ⟨F6.out, K6.out, N6.out, T6.out, G6.out, E6.out, z6⟩
    case rest =>
      obtain ⟨F20, K20, N20, T20, G20, E20, z20⟩ := hcut
      clear F5 K5 N5 T5 G5 E5
      obtain ⟨w20, h20⟩ : ∃ x, x = wc := ⟨_, rfl⟩
      subst h20
      have hg1 : szL gl ≤ 80080 := hgp
      go_wp2_with fail
      refine wp_region_plan (.take 0 (.take 1 (.one 2 (.one 3 (.take 4 (.take 5 (.take 6 (.take 7 (.take 8 .done))))))))) (fun w' => w'.cell? ⟨b, 0, none⟩ = some (.string s) ∧ w'.cell? ⟨b, 1, none⟩ = some (.slice B1 ws.length d1) ∧ w'.cell? ⟨b, 2, none⟩ = some (.slice B2 cs.length d2) ∧ w'.cell? ⟨(b + 1), 0, none⟩ = some (.int .i64 X) ∧ w'.cell? ⟨(b + 1), 1, none⟩ = some (.int .i64 Y) ∧ w'.cell? ⟨(b + 1), 2, none⟩ = some (.int .i64 Z)) (by kernel_rfl) (by kernel_rfl) (by kernel_rfl) (by intro c a d v w h; cases d <;> exact h) ⟨cellOfBlk K20.out 0, cellOfBlk K20.out 1, cellOfBlk K20.out 2, cellOfBlk N20.out 0, cellOfBlk N20.out 1, cellOfBlk N20.out 2⟩ ?_
      obtain ⟨w21, hwd⟩ : ∃ x, w20.drew = x := ⟨_, rfl⟩
      have F21 : Hid (FontV w21 w.heap.size b (.agg #[.string s, .slice B1 ws.length d1, .slice B2 cs.length d2]) ⟨s, ws, cs⟩) := by show FontV w21 w.heap.size b (.agg #[.string s, .slice B1 ws.length d1, .slice B2 cs.length d2]) ⟨s, ws, cs⟩; rw [← hwd]; exact F20.out
      have K21 : Hid (Blk w21 b #[.string s, .slice B1 ws.length d1, .slice B2 cs.length d2] 25) := by show Blk w21 b #[.string s, .slice B1 ws.length d1, .slice B2 cs.length d2] 25; rw [← hwd]; exact K20.out
      have N21 : Hid (Blk w21 (b + 1) #[.int .i64 X, .int .i64 Y, .int .i64 Z] 27) := by show Blk w21 (b + 1) #[.int .i64 X, .int .i64 Y, .int .i64 Z] 27; rw [← hwd]; exact N20.out
      have T21 : Hid (Below w.heap.size w w21) := by show Below w.heap.size w w21; rw [← hwd]; exact T20.out.drew
      have G21 : Hid (OwnS w21 w.heap.size (.slice Ag k c1) gl) := by show OwnS w21 w.heap.size (.slice Ag k c1) gl; rw [← hwd]; exact G20.out
      have E21 : Hid (OwnS w21 w3.heap.size (.slice A1 cn c2) cc) := by show OwnS w21 w3.heap.size (.slice A1 cn c2) cc; rw [← hwd]; exact E20.out
      have z21 : b + 1 < w21.heap.size := by rw [← hwd]; exact z20
      rw [hwd]
      clear hwd F20 K20 N20 T20 G20 E20
      refine plan_quiet rfl (by rfl) (v := ?_) ?_ ?_; rotate_left; (intro w1 hSw; obtain ⟨h0, h1, h2, h3, h4, h5⟩ := hSw; go_simp; try (with_reducible rfl)); (try simp only [Act.put, List.setIfInBounds_toArray, List.set_cons_zero, List.set_cons_succ])
      refine plan_quiet rfl (by rfl) (v := ?_) ?_ ?_; rotate_left; (intro w1 hSw; obtain ⟨h0, h1, h2, h3, h4, h5⟩ := hSw; go_simp; try (with_reducible rfl)); (try simp only [Act.put, List.setIfInBounds_toArray, List.set_cons_zero, List.set_cons_succ])
      refine plan_step rfl (fun Kc hK => ?_)
      rw [if_pos (by rfl)]
      go_simp
      refine (implGT_own _ _ _ _ gl w21 HK.out (by omega) G21.out).mono ?_
      rintro e w22 ⟨rfl, hbx⟩
      have z22 : b + 1 < w22.heap.size := by have := hbx.size; omega
      have F22 := Lib.hid (F21.out.below (by omega) hbx); have K22 := Lib.hid (K21.out.below hbx (by omega)); have N22 := Lib.hid (N21.out.below hbx (by omega)); have T22 := Lib.hid (T21.out.trans (hbx.mono (by omega)))
      have G22 := Lib.hid (G21.out.below hbx)
      have E22 := Lib.hid (E21.out.below hbx)
      clear F21 K21 N21 T21 G21 E21 hbx
      refine hK.out _ _ ⟨cellOfBlk K22.out 0, cellOfBlk K22.out 1, cellOfBlk K22.out 2, cellOfBlk N22.out 0, cellOfBlk N22.out 1, cellOfBlk N22.out 2⟩ ?_
      clear hK Kc
      have hgts := gtS_size gl
      refine plan_step rfl (fun Kc hK => ?_)
      rw [if_pos (by rfl)]
      go_simp
      refine (implWords_any w.heap.size b _ ⟨s, ws, cs⟩ (gtS gl) w22 F22.out (by omega) HS.out (by omega)).mono ?_
      rintro e w23 ⟨ux, rfl, hOx, hbx⟩
      clear hgts
      rw [HON.out]
      obtain ⟨AU, cU, rfl, hIU, -, hcU, hcmU⟩ := hOx.form
      obtain ⟨mu, hmu⟩ : ∃ y, (wwL ⟨s, ws, cs⟩ (gtS gl)).length = y := ⟨_, rfl⟩
      rw [hmu] at hcU ⊢
      have HLU := Lib.hid hmu
      clear hOx hmu
      have z23 : b + 1 < w23.heap.size := by have := hbx.size; omega
      have F23 := Lib.hid (F22.out.below (by omega) hbx); have K23 := Lib.hid (K22.out.below hbx (by omega)); have N23 := Lib.hid (N22.out.below hbx (by omega)); have T23 := Lib.hid (T22.out.trans (hbx.mono (by omega)))
      have G23 := Lib.hid (G22.out.below hbx)
      have E23 := Lib.hid (E22.out.below hbx)
      clear F22 K22 N22 T22 G22 E22 hbx
      have U23 := Lib.hid hIU
      clear hIU
      refine hK.out _ _ ⟨cellOfBlk K23.out 0, cellOfBlk K23.out 1, cellOfBlk K23.out 2, cellOfBlk N23.out 0, cellOfBlk N23.out 1, cellOfBlk N23.out 2⟩ ?_
      clear hK Kc
      refine plan_quiet rfl (by rfl) (v := ?_) ?_ ?_; rotate_left; (intro w1 hSw; obtain ⟨h0, h1, h2, h3, h4, h5⟩ := hSw; go_simp; try (with_reducible rfl)); (try simp only [Act.put, List.setIfInBounds_toArray, List.set_cons_zero, List.set_cons_succ])
      refine plan_quiet rfl (by rfl) (v := ?_) ?_ ?_; rotate_left; (intro w1 hSw; obtain ⟨h0, h1, h2, h3, h4, h5⟩ := hSw; go_simp; try (with_reducible rfl)); (try simp only [Act.put, List.setIfInBounds_toArray, List.set_cons_zero, List.set_cons_succ])
      refine plan_quiet rfl (by rfl) (v := ?_) ?_ ?_; rotate_left; (intro w1 hSw; obtain ⟨h0, h1, h2, h3, h4, h5⟩ := hSw; go_simp; try (with_reducible rfl)); (try simp only [Act.put, List.setIfInBounds_toArray, List.set_cons_zero, List.set_cons_succ])
      refine plan_quiet rfl (by rfl) (v := ?_) ?_ ?_; rotate_left; (intro w1 hSw; obtain ⟨h0, h1, h2, h3, h4, h5⟩ := hSw; go_simp; try (with_reducible rfl)); (try simp only [Act.put, List.setIfInBounds_toArray, List.set_cons_zero, List.set_cons_succ])
      refine plan_quiet rfl (by rfl) (v := ?_) ?_ ?_; rotate_left; (intro w1 hSw; obtain ⟨h0, h1, h2, h3, h4, h5⟩ := hSw; go_simp; try (with_reducible rfl)); (try simp only [Act.put, List.setIfInBounds_toArray, List.set_cons_zero, List.set_cons_succ])
      refine plan_end ?_
      go_wp2_with fail
      refine wp_region_plan (.take 0 (.take 1 (.one 2 (.one 3 (.take 4 (.take 5 (.take 6 (.take 7 (.take 8 .done))))))))) (fun w' => w'.cell? ⟨b, 0, none⟩ = some (.string s) ∧ w'.cell? ⟨b, 1, none⟩ = some (.slice B1 ws.length d1) ∧ w'.cell? ⟨b, 2, none⟩ = some (.slice B2 cs.length d2) ∧ w'.cell? ⟨(b + 1), 0, none⟩ = some (.int .i64 X) ∧ w'.cell? ⟨(b + 1), 1, none⟩ = some (.int .i64 Y) ∧ w'.cell? ⟨(b + 1), 2, none⟩ = some (.int .i64 Z)) (by kernel_rfl) (by kernel_rfl) (by kernel_rfl) (by intro c a d v w h; cases d <;> exact h) ⟨cellOfBlk K23.out 0, cellOfBlk K23.out 1, cellOfBlk K23.out 2, cellOfBlk N23.out 0, cellOfBlk N23.out 1, cellOfBlk N23.out 2⟩ ?_
      obtain ⟨w24, hwd⟩ : ∃ x, w23.drew = x := ⟨_, rfl⟩
      have F24 : Hid (FontV w24 w.heap.size b (.agg #[.string s, .slice B1 ws.length d1, .slice B2 cs.length d2]) ⟨s, ws, cs⟩) := by show FontV w24 w.heap.size b (.agg #[.string s, .slice B1 ws.length d1, .slice B2 cs.length d2]) ⟨s, ws, cs⟩; rw [← hwd]; exact F23.out
      have K24 : Hid (Blk w24 b #[.string s, .slice B1 ws.length d1, .slice B2 cs.length d2] 25) := by show Blk w24 b #[.string s, .slice B1 ws.length d1, .slice B2 cs.length d2] 25; rw [← hwd]; exact K23.out
      have N24 : Hid (Blk w24 (b + 1) #[.int .i64 X, .int .i64 Y, .int .i64 Z] 27) := by show Blk w24 (b + 1) #[.int .i64 X, .int .i64 Y, .int .i64 Z] 27; rw [← hwd]; exact N23.out
      have T24 : Hid (Below w.heap.size w w24) := by show Below w.heap.size w w24; rw [← hwd]; exact T23.out.drew
      have G24 : Hid (OwnS w24 w.heap.size (.slice Ag k c1) gl) := by show OwnS w24 w.heap.size (.slice Ag k c1) gl; rw [← hwd]; exact G23.out
      have E24 : Hid (OwnS w24 w3.heap.size (.slice A1 cn c2) cc) := by show OwnS w24 w3.heap.size (.slice A1 cn c2) cc; rw [← hwd]; exact E23.out
      have U24 : Hid (Ints w24 AU (wwL ⟨s, ws, cs⟩ (gtS gl))) := by show Ints w24 AU (wwL ⟨s, ws, cs⟩ (gtS gl)); rw [← hwd]; exact U23.out
      have z24 : b + 1 < w24.heap.size := by rw [← hwd]; exact z23
      rw [hwd]
      clear hwd F23 K23 N23 T23 G23 E23 U23
      refine plan_quiet rfl (by rfl) (v := ?_) ?_ ?_; rotate_left; (intro w1 hSw; obtain ⟨h0, h1, h2, h3, h4, h5⟩ := hSw; go_simp; try (with_reducible rfl)); (try simp only [Act.put, List.setIfInBounds_toArray, List.set_cons_zero, List.set_cons_succ])
      refine plan_quiet rfl (by rfl) (v := ?_) ?_ ?_; rotate_left; (intro w1 hSw; obtain ⟨h0, h1, h2, h3, h4, h5⟩ := hSw; go_simp; try (with_reducible rfl)); (try simp only [Act.put, List.setIfInBounds_toArray, List.set_cons_zero, List.set_cons_succ])
      refine plan_step rfl (fun Kc hK => ?_)
      rw [if_pos (by rfl)]
      go_simp
      refine (implGT_own _ _ _ _ cc w24 HCN.out (by omega) E24.out).mono ?_
      rintro e w25 ⟨rfl, hbx⟩
      have z25 : b + 1 < w25.heap.size := by have := hbx.size; omega
      have F25 := Lib.hid (F24.out.below (by omega) hbx); have K25 := Lib.hid (K24.out.below hbx (by omega)); have N25 := Lib.hid (N24.out.below hbx (by omega)); have T25 := Lib.hid (T24.out.trans (hbx.mono (by omega)))
      have G25 := Lib.hid (G24.out.below hbx)
      have E25 := Lib.hid (E24.out.below hbx)
      have U25 := Lib.hid (U24.out.below hbx)
      clear F24 K24 N24 T24 G24 E24 U24 hbx
      refine hK.out _ _ ⟨cellOfBlk K25.out 0, cellOfBlk K25.out 1, cellOfBlk K25.out 2, cellOfBlk N25.out 0, cellOfBlk N25.out 1, cellOfBlk N25.out 2⟩ ?_
      clear hK Kc
      have hgts := gtS_size cc
      refine plan_step rfl (fun Kc hK => ?_)
      rw [if_pos (by rfl)]
      go_simp
      refine (implWords_any w.heap.size b _ ⟨s, ws, cs⟩ (gtS cc) w25 F25.out (by omega) HS.out (by omega)).mono ?_
      rintro e w26 ⟨ux, rfl, hOx, hbx⟩
      clear hgts
      rw [HTW.out]
      obtain ⟨AV, cV, rfl, hIV, -, hcV, hcmV⟩ := hOx.form
      obtain ⟨mv, hmv⟩ : ∃ y, (wwL ⟨s, ws, cs⟩ (gtS cc)).length = y := ⟨_, rfl⟩
      rw [hmv] at hcV ⊢
      have HLV := Lib.hid hmv
      clear hOx hmv
      have z26 : b + 1 < w26.heap.size := by have := hbx.size; omega
      have F26 := Lib.hid (F25.out.below (by omega) hbx); have K26 := Lib.hid (K25.out.below hbx (by omega)); have N26 := Lib.hid (N25.out.below hbx (by omega)); have T26 := Lib.hid (T25.out.trans (hbx.mono (by omega)))
      have G26 := Lib.hid (G25.out.below hbx)
      have E26 := Lib.hid (E25.out.below hbx)
      have U26 := Lib.hid (U25.out.below hbx)
      clear F25 K25 N25 T25 G25 E25 U25 hbx
      have V26 := Lib.hid hIV
      clear hIV
      refine hK.out _ _ ⟨cellOfBlk K26.out 0, cellOfBlk K26.out 1, cellOfBlk K26.out 2, cellOfBlk N26.out 0, cellOfBlk N26.out 1, cellOfBlk N26.out 2⟩ ?_
      clear hK Kc
      refine plan_quiet rfl (by rfl) (v := ?_) ?_ ?_; rotate_left; (intro w1 hSw; obtain ⟨h0, h1, h2, h3, h4, h5⟩ := hSw; go_simp; try (with_reducible rfl)); (try simp only [Act.put, List.setIfInBounds_toArray, List.set_cons_zero, List.set_cons_succ])
      refine plan_quiet rfl (by rfl) (v := ?_) ?_ ?_; rotate_left; (intro w1 hSw; obtain ⟨h0, h1, h2, h3, h4, h5⟩ := hSw; go_simp; try (with_reducible rfl)); (try simp only [Act.put, List.setIfInBounds_toArray, List.set_cons_zero, List.set_cons_succ])
      refine plan_quiet rfl (by rfl) (v := ?_) ?_ ?_; rotate_left; (intro w1 hSw; obtain ⟨h0, h1, h2, h3, h4, h5⟩ := hSw; go_simp; try (with_reducible rfl)); (try simp only [Act.put, List.setIfInBounds_toArray, List.set_cons_zero, List.set_cons_succ])
      refine plan_quiet rfl (by rfl) (v := ?_) ?_ ?_; rotate_left; (intro w1 hSw; obtain ⟨h0, h1, h2, h3, h4, h5⟩ := hSw; go_simp; try (with_reducible rfl)); (try simp only [Act.put, List.setIfInBounds_toArray, List.set_cons_zero, List.set_cons_succ])
      refine plan_quiet rfl (by rfl) (v := ?_) ?_ ?_; rotate_left; (intro w1 hSw; obtain ⟨h0, h1, h2, h3, h4, h5⟩ := hSw; go_simp; try (with_reducible rfl)); (try simp only [Act.put, List.setIfInBounds_toArray, List.set_cons_zero, List.set_cons_succ])
      refine plan_end ?_
      obtain ⟨b0, b1, b2, b3, b4, b5⟩ := (show w26.cell? ⟨b, 0, none⟩ = some (.string s) ∧ w26.cell? ⟨b, 1, none⟩ = some (.slice B1 ws.length d1) ∧ w26.cell? ⟨b, 2, none⟩ = some (.slice B2 cs.length d2) ∧ w26.cell? ⟨(b + 1), 0, none⟩ = some (.int .i64 X) ∧ w26.cell? ⟨(b + 1), 1, none⟩ = some (.int .i64 Y) ∧ w26.cell? ⟨(b + 1), 2, none⟩ = some (.int .i64 Z) from ⟨cellOfBlk K26.out 0, cellOfBlk K26.out 1, cellOfBlk K26.out 2, cellOfBlk N26.out 0, cellOfBlk N26.out 1, cellOfBlk N26.out 2⟩)
      go_wp2_with fail
      clear b0 b1 b2 b3 b4 b5
      obtain ⟨th, hth⟩ : ∃ y, wwB ⟨s, ws, cs⟩ tx = y := ⟨_, rfl⟩
      refine (implWords_any w.heap.size b _ ⟨s, ws, cs⟩ tx w26 F26.out (by omega) HS.out (by omega)).mono ?_
      rintro e w27 ⟨ux, rfl, hOx, hbx⟩
      rw [hth]
      obtain ⟨AM, cM, rfl, hIM, -, hcM, hcmM⟩ := hOx.form
      obtain ⟨mm, hmm⟩ : ∃ y, (wwL ⟨s, ws, cs⟩ tx).length = y := ⟨_, rfl⟩
      rw [hmm] at hcM ⊢
      have HLM := Lib.hid hmm; have HTB := Lib.hid hth
      clear hOx hmm hth
      have z27 : b + 1 < w27.heap.size := by have := hbx.size; omega
      have F27 := Lib.hid (F26.out.below (by omega) hbx); have K27 := Lib.hid (K26.out.below hbx (by omega)); have N27 := Lib.hid (N26.out.below hbx (by omega)); have T27 := Lib.hid (T26.out.trans (hbx.mono (by omega)))
      have G27 := Lib.hid (G26.out.below hbx)
      have E27 := Lib.hid (E26.out.below hbx)
      have U27 := Lib.hid (U26.out.below hbx)
      have V27 := Lib.hid (V26.out.below hbx)
      clear F26 K26 N26 T26 G26 E26 U26 V26 hbx
      have M27 := Lib.hid hIM
      clear hIM
      have hpu : p < mu := by have := HP.out; rw [HLU.out] at this; exact this
      have hmu40 : mu ≤ 40 := by have := H40.out; rw [HLU.out] at this; exact this
      have hmv : mv + 1 = mu + mm := by have h := congrArg List.length HNW.out; rw [HLV.out, List.length_append, List.length_append, List.length_take, List.length_drop, HLU.out, HLM.out] at h; omega
      have hmm40 : mm ≤ 40 := by have := wwL_len ⟨s, ws, cs⟩ tx; rw [HLM.out] at this; exact this
      obtain ⟨mu1, hmu1⟩ : ∃ y, mu = y + 1 := ⟨mu - 1, by omega⟩
      have e1 : (mu : Int) - 1 = (mu1 : Int) := by omega
      have e2 : IntKind.i64.wrap (mu1 : Int) = (mu1 : Int) := by rw [IntKind.wrap_i64]; omega
      have e3 : (mu1 : Int) + (mm : Int) = (mv : Int) := by omega
      have e4 : IntKind.i64.wrap (mv : Int) = (mv : Int) := by rw [IntKind.wrap_i64]; omega
      have e5 : ¬ (p : Int) < 0 := by omega
      have e6 : ¬ (mu : Int) ≤ (p : Int) := by omega
      have HM1 := Lib.hid hmu1; have HMV := Lib.hid hmv
      clear hmu1 hmv
      obtain ⟨au, rfl⟩ : ∃ y, AU = some y := by
        obtain ⟨ad, x, e, -⟩ := U27.out.at_ (k := 0) (by rw [HLU.out]; omega)
        exact ⟨ad, e⟩
      have hpcu : (p : Int) ≤ (cU : Int) := by omega
      have hpcu2 : p ≤ cU := by omega
      have hp0 : (0 : Int) ≤ (p : Int) := by omega
      have hlt : ((wwL ⟨s, ws, cs⟩ (gtS gl)).take p).length = p := by rw [List.length_take, HLU.out]; omega
      go_upto_region 25 with fail
      clear e1 e2 e3 e4 e5 e6
      have hl2 : ((wwL ⟨s, ws, cs⟩ (gtS gl)).take p ++ (wwL ⟨s, ws, cs⟩ tx)).length = p + mm := by rw [List.length_append, hlt, HLM.out]
      go_upto_region 26 with (first
        | (at_builtin; refine wpl_copyof _ rfl (.tmp 149) (.tmp 152) rfl ((wwL ⟨s, ws, cs⟩ (gtS gl)).take p) au p cU rfl rfl hlt (ints_takeR U27.out) (by omega) ?_; intro v1 w28 hO1 hb1; obtain ⟨A1x, c1x, rfl, -⟩ := hO1.form; rw [hlt])
        | (at_builtin; refine wpl_append_any _ rfl (.tmp 153) (.tmp 154) rfl w27.heap.size _ ((wwL ⟨s, ws, cs⟩ (gtS gl)).take p) (wwL ⟨s, ws, cs⟩ tx) AM mm cM (by rw [hlt]; rfl) rfl HLM.out (M27.out.below hb1) hO1 hb1.size (by rw [hlt]; omega) ?_; intro v2 w29 hO2 hg2 hv2; obtain ⟨A2x, c2x, rfl, -⟩ := hO2.form; rw [hl2]))
      have hb3 : Below w27.heap.size w27 w29 := hb1.trans ((Below.refl w27.heap.size w28).grown hg2 hb1.size (fun q hq => (World.ownsRow.lt hO1 q hq).1))
      have HB3 := Lib.hid hb3
      have hB2 : w27.heap.size ≤ w29.heap.size := hb3.size
      have U29 := Lib.hid (U27.out.below hb3)
      clear hb1 hg2 hv2 hO1 hb3
      have HO3 : Hid (Own w29 w27.heap.size (.slice A2x (p + mm) c2x) ((wwL ⟨s, ws, cs⟩ (gtS gl)).take p ++ (wwL ⟨s, ws, cs⟩ tx))) := by show Own _ _ _ _; rw [← hl2]; exact hO2
      clear hO2
      obtain ⟨p1, hp1⟩ : ∃ y, p + 1 = y := ⟨_, rfl⟩
      have e1 : (p : Int) + 1 = (p1 : Int) := by omega
      have e2 : IntKind.i64.wrap (p1 : Int) = (p1 : Int) := by rw [IntKind.wrap_i64]; omega
      have hp1u : p1 ≤ mu := by omega
      have hp1i : (p1 : Int) ≤ (mu : Int) := by omega
      have hp1c : p1 ≤ cU := by omega
      have hp1ci : (p1 : Int) ≤ (cU : Int) := by omega
      have muc : (mu : Int) ≤ (cU : Int) := by omega
      have hp10 : (0 : Int) ≤ (p1 : Int) := by omega
      have HP1 := Lib.hid hp1
      clear hp1
      obtain ⟨AN, hAN⟩ : ∃ AN, (if cU = p1 then some au else Option.map (fun x => x.add p1) (some au)) = AN := ⟨_, rfl⟩
      have HD : Hid (Ints w29 AN ((wwL ⟨s, ws, cs⟩ (gtS gl)).drop p1)) := by show Ints _ _ _; rw [← hAN]; exact ints_dropR U29.out (by rw [HLU.out]; omega)
      simp only [Option.map_some] at hAN
      have hld : ((wwL ⟨s, ws, cs⟩ (gtS gl)).drop p1).length = mu - p1 := by rw [List.length_drop, HLU.out]
      have HNE : Hid (wwL ⟨s, ws, cs⟩ (gtS cc) = ((wwL ⟨s, ws, cs⟩ (gtS gl)).take p ++ (wwL ⟨s, ws, cs⟩ tx)) ++ (wwL ⟨s, ws, cs⟩ (gtS gl)).drop p1) := by show _ = _; rw [← HP1.out]; exact HNW.out
      have hal : ((wwL ⟨s, ws, cs⟩ (gtS gl)).take p ++ (wwL ⟨s, ws, cs⟩ tx)).length + (mu - p1) ≤ 2097152 := by rw [hl2]; omega
      have hmv40 : mv ≤ 80 := by have := HMV.out; omega
      have hmvm : mv ≤ maxLen := by unfold maxLen; omega
      go_wp2_with (at_builtin; refine wpl_append_any _ rfl (.tmp 157) (.tmp 161) rfl w27.heap.size (.slice A2x (p + mm) c2x) ((wwL ⟨s, ws, cs⟩ (gtS gl)).take p ++ (wwL ⟨s, ws, cs⟩ tx)) ((wwL ⟨s, ws, cs⟩ (gtS gl)).drop p1) AN (mu - p1) (cU - p1) rfl rfl hld HD.out HO3.out hB2 hal ?_; intro v3 w30 hO4 hg4 hv4; rw [← HNE.out] at hO4; obtain ⟨A4, c4, rfl, hI4, -, hc4, hcm4⟩ := hO4.form; rw [HLV.out])
      have hb5 : Below w27.heap.size w27 w30 := HB3.out.trans ((Below.refl w27.heap.size w29).grown hg4 hB2 (fun q hq => (World.ownsRow.lt HO3.out q hq).1))
      have hV := V27.out.below hb5
      have T30 := Lib.hid (T27.out.trans (hb5.mono (by omega)))
      clear hb5 hg4 hv4 hO4 hAN e1 e2
      refine (lawInts_any AV A4 mv cV mv c4 _ _ w30 HLV.out HLV.out hmvm hmvm hV hI4).mono ?_
      rintro e8 w31 ⟨dq, rfl, rfl⟩
      rw [decide_eq_true rfl]
      have T31 := Lib.hid (below_drewN T30.out dq)
      clear hV hI4 HO3 HD
      cases th
      · obtain rfl : mm = 0 := by
          have h := HTH.out
          rw [HTB.out] at h
          rcases h with h | h
          · cases h
          · have := HLM.out; rw [h] at this; simpa using this.symm
        go_wp2
        go_ret
        exact ⟨rfl, T31.out⟩
      · go_wp2
        go_ret
        exact ⟨rfl, T31.out⟩
end Go.Proofs.YtobakeahbgodbaaGreat
