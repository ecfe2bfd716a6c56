/-
  FnBest: its walk. No condition.
-/
import Derived.Test.YtddkedinkgnboaaDrawX
import Derived.Test.YtddkedinkgnboaaBest
import Derived.Test.YtddkedinkgnboaaBestM
import Derived.Test.YtddkedinkgnboaaAtJ
import Derived.Test.YtddkedinkgnboaaIdxI
import Derived.Test.YtddkedinkgnboaaPkC
import Derived.Outline
namespace Go.Proofs.Ytddkedinkgnboaa
open Go.RowKit
set_option linter.unusedVariables false

theorem atAny (A : Option Addr) (n c : Nat) (bs : List Int) (j : Nat) (w : World) (hj : j ≤ 1000) (hn : bs.length = n) (hm : n ≤ 1048576) (h : Bytes w A bs) (wf : ∀ z ∈ bs, (Lit.int .u8 z).wf = true) :
    Calls Try.prog 29 #[.slice A n c, .int .i64 j] w fun e w' => ∃ x : Nat, e = .returned (.int .i64 x) ∧ x < 256 ∧ w = w' := by
  have Hn := Lib.hid hn; have Hwf := Lib.hid wf; clear hn wf
  by_cases hp : j < n
  · obtain ⟨ad, rfl, hc⟩ := h (by rw [Hn.out]; omega)
    have hc0 := hc j (by rw [Hn.out]; exact hp)
    obtain ⟨b0, b1⟩ := u8_bd (Hwf.out (bs.getD j 0) (by
      have hl : j < bs.length := by rw [Hn.out]; exact hp
      simp only [List.getD, List.getElem?_eq_getElem hl, Option.getD_some]; exact List.getElem_mem hl))
    obtain ⟨b, hb⟩ := Int.eq_ofNat_of_zero_le b0
    rw [hb] at hc0 b1
    clear hc b0 hb h
    go_enter Try.func29, Try.ntmps29
    go_wp2
    go_ret
    exact ⟨b, rfl, by omega, rfl⟩
  · have e1 : IntKind.i64.wrap ((j : Int) * 37) = (j : Int) * 37 := by rw [IntKind.wrap_i64]; omega
    have e2 : IntKind.i64.wrap ((n : Int) * 11) = (n : Int) * 11 := by rw [IntKind.wrap_i64]; omega
    have e3 : IntKind.i64.wrap ((j : Int) * 37 + (n : Int) * 11) = (j : Int) * 37 + (n : Int) * 11 := by rw [IntKind.wrap_i64]; omega
    obtain ⟨r, hr⟩ : ∃ r : Nat, (j * 37 + n * 11) % 256 = r := ⟨_, rfl⟩
    have HR : Hid (((j : Int) * 37 + (n : Int) * 11).tmod 256 = (r : Int)) := by
      show _ = _
      rw [← hr, Int.tmod_eq_emod_of_nonneg (by omega)]; omega
    have hr2 : r < 256 := by omega
    clear hr
    go_enter Try.func29, Try.ntmps29
    go_wp2
    go_ret
    exact ⟨(j * 37 + n * 11) % 256, ret_int (by omega), Nat.mod_lt _ (by omega), rfl⟩

theorem bst_none {m : Msr} {zs : List Int} (h : bstA m zs = none) : cntA m zs < 1 := by
  unfold bstA at h
  unfold cntA
  cases ho : okW m zs
  · simp
  · obtain ⟨-, -, h40⟩ := textB_parts (okW_parts ho).2
    rw [ho] at h
    simp only [Bool.true_and, decide_eq_true_eq] at h
    split at h
    · cases h
    · rename_i hd
      have := lst_way ho h40 (Nat.zero_le zs.length)
      simp only [if_true]
      omega
theorem bst_some {m : Msr} {zs ls : List Int} (h : bstA m zs = some ls) :
    0 < cntA m zs ∧ cntA m zs ≤ 1099511627776 ∧ 0 ≤ idxA m zs ls ∧ 0 ≤ bstC m zs ∧ costA m zs ls = bstC m zs ∧ ls.length ≤ 40 ∧
      ∀ i L, 0 ≤ i → i < cntA m zs → AtR m zs i L → atB m zs i = true ∧ L.length ≤ 40 ∧ bstC m zs ≤ costA m zs L ∧ (costA m zs L = bstC m zs → idxA m zs ls ≤ i) := by
  unfold bstA at h
  cases ho : okW m zs
  · rw [ho] at h; cases h
  rw [ho] at h
  simp only [Bool.true_and, decide_eq_true_eq] at h
  split at h
  · rename_i hd
    injection h with h
    obtain ⟨-, -, h40⟩ := textB_parts (okW_parts ho).2
    have h1 := bstF_brk ho (zs.length + 1) 0 (by omega) (Nat.zero_le _) hd
    have h2 := idxF_bound h40 _ 0 (Nat.zero_le _) h1.1
    have h3 := wayF_range (m := m) h40 (Nat.zero_le zs.length)
    have h4 := (lst_bound ho _ 0 rfl (Nat.zero_le _)).1
    have h5 := brkF_len _ 0 (Nat.zero_le _) h1.1
    have eC : cntA m zs = wayF m zs 0 := by unfold cntA; rw [ho]; rfl
    have eB : bstC m zs = lstF m zs 0 := by unfold bstC; rw [ho, decide_eq_true hd]; rfl
    rw [h] at h1 h2 h5
    have eI : idxA m zs ls = idxF m zs 0 ls := by unfold idxA isBrk; rw [ho, h1.1]; rfl
    have eK : costA m zs ls = costF m zs 0 ls := by unfold costA isBrk; rw [ho, h1.1]; rfl
    rw [eC, eB, eI, eK]
    refine ⟨by omega, h3.2, h2.1, h4.1, h1.2, by omega, fun i L hi0 hi1 hL => ?_⟩
    have ha : atB m zs i = true := by unfold atB; rw [ho, decide_eq_true hi0, decide_eq_true hi1]; rfl
    unfold AtR at hL
    rw [ha] at hL
    simp only [if_true] at hL
    have h6 := brkF_len L 0 (Nat.zero_le _) hL.1
    have eL : costA m zs L = costF m zs 0 L := by unfold costA isBrk; rw [ho, hL.1]; rfl
    rw [eL]
    refine ⟨ha, by omega, cost_least ho L 0 (Nat.zero_le _) hL.1, fun he => ?_⟩
    have h7 := bst_first ho h40 (zs.length + 1) L 0 (by omega) (Nat.zero_le _) hd hL.1 he
    rw [h] at h7
    rw [← hL.2]; exact h7
  · cases h

set_option maxRecDepth 100000 in
set_option maxHeartbeats 6400000 in
theorem fnBest_walk (A : Option Addr) (n c : Nat) (bs : List Int) (w : World) (hn : bs.length = n) (hm : n ≤ maxLen) (h : Bytes w A bs) (wf : ∀ z ∈ bs, (Lit.int .u8 z).wf = true) :
    Calls Try.prog 6 #[.slice A n c] w fun e w' => e = .returned (.bool true) ∧ Below w.heap.size w w' := by
  have H := Lib.hid h; have Hn := Lib.hid hn; have Hwf := Lib.hid wf
  have HB0 : Hid (∀ w', Below w.heap.size w w' → Bytes w' A bs) := fun w' hb hp => by
    obtain ⟨ad, e, hc⟩ := h hp
    exact ⟨ad, e, fun j hj => (hb.cell (World.block_lt_of_cell? _ _ (hc j hj))).trans (hc j hj)⟩
  clear h hn wf
  have hm0 := hm
  unfold maxLen at hm
  by_cases hbig : 1048576 < n
  · go_enter Try.func6, Try.ntmps6
    go_wp2
    go_ret
    exact ⟨rfl, Below.refl _ _⟩
  have hs : n ≤ 1048576 := by omega
  go_enter Try.func6, Try.ntmps6
  go_wp2_with fail
  refine (drawBest_any _ _ _ bs _ Hn.out hm0 H.out Hwf.out).mono ?_
  rintro e w1 ⟨W, t, k, Aw, m, c1, zs, rfl, hl, hm1, hmc, hcm, hO1, hb1⟩
  have I1 := Lib.hid (IntsB.of (own_intsA hO1)); have Hl := Lib.hid hl; have T1 := Lib.hid hb1
  have z1 := hb1.size
  have Hmc := Lib.hid hmc; have Hcm := Lib.hid hcm
  clear hO1 hl hb1 hcm
  obtain ⟨wa, hwa⟩ : ∃ wa, w1.alloc (.cells #[.int .i64 W, .int .i64 t, .int .i64 k] 24) = wa := ⟨_, rfl⟩
  have hb2 : Below w1.heap.size w1 wa := by rw [← hwa]; exact below_new _ _
  have Pa : Hid (wa.cell? ⟨w1.heap.size, 0, none⟩ = some (.int .i64 W) ∧ wa.cell? ⟨w1.heap.size, 1, none⟩ = some (.int .i64 t) ∧ wa.cell? ⟨w1.heap.size, 2, none⟩ = some (.int .i64 k)) := by show _ ∧ _; rw [← hwa]; exact lay3 w1 _ _ _ _
  have za : w1.heap.size < wa.heap.size := by rw [← hwa]; simp
  have Ia := Lib.hid (I1.out.keep (Nat.le_refl _) hb2); have Ta := Lib.hid (T1.out.trans (hb2.mono z1))
  clear hb2 I1 T1
  obtain ⟨p0, p1, p2⟩ := Pa.out
  obtain ⟨C, hC⟩ : ∃ C, cntA ⟨W, t, k⟩ zs = C := ⟨_, rfl⟩
  have HC := Lib.hid hC
  cases hg : bstA ⟨W, t, k⟩ zs with
  | none =>
    have HG := Lib.hid hg
    have hlt1 := bst_none hg
    rw [hC] at hlt1
    have hc1 : decide (C < 1) = true := decide_eq_true hlt1
    clear hg hC hlt1
    go_wp2_with (first
      | (go_at_call 27; clear hwa; refine (implBest_any W t k Aw m c1 zs wa Hl.out Hmc.out Hcm.out Ia.out.ints).mono ?_; rintro e wb ⟨v, rfl, hO, hb⟩; rw [HG.out]; have Pb := Lib.hid (hold3 hb za Pa.out); have Ib := Lib.hid (Ia.out.keep (by omega) hb); have Tb := Lib.hid (Ta.out.trans (hb.mono (B' := w.heap.size) (by omega))); have zb : w1.heap.size < wb.heap.size := (Nat.lt_of_lt_of_le za hb.size); clear hO hb p0 p1 p2; obtain ⟨p0, p1, p2⟩ := Pb.out)
      | (go_at_call 15; refine (implCntB_any W t k Aw m c1 zs wb Hl.out Hmc.out Hcm.out Ib.out.ints).mono ?_; rintro e wc ⟨rfl, hb⟩; rw [HC.out]; have Pc := Lib.hid (hold3 hb zb Pb.out); have Ic := Lib.hid (Ib.out.keep (by omega) hb); have Tc := Lib.hid (Tb.out.trans (hb.mono (B' := w.heap.size) (by omega))); have zc : w1.heap.size < wc.heap.size := (Nat.lt_of_lt_of_le zb hb.size); clear hb p0 p1 p2; obtain ⟨p0, p1, p2⟩ := Pc.out)
      | (go_at_call 22; refine (specCntB_any W t k Aw m c1 zs wc Hl.out Hmc.out Hcm.out Ic.out.ints).mono ?_; rintro e wd ⟨rfl, hb⟩; rw [HC.out]; have Td := Lib.hid (Tc.out.trans (hb.mono (B' := w.heap.size) (by omega))); clear hb p0 p1 p2))
    go_ret
    exact ⟨rfl, Td.out⟩
  | some ls =>
    obtain ⟨b1, b2, b3, b4, b5, b6, b7⟩ := bst_some hg
    have HG := Lib.hid hg
    rw [hC] at b1 b2 b7
    obtain ⟨X, hX⟩ : ∃ X, bstC ⟨W, t, k⟩ zs = X := ⟨_, rfl⟩
    obtain ⟨K, hK⟩ : ∃ X, idxA ⟨W, t, k⟩ zs ls = X := ⟨_, rfl⟩
    rw [hX] at b4 b5 b7
    rw [hK] at b3 b7
    have HX := Lib.hid hX; have HK := Lib.hid hK; have HKo := Lib.hid b5; have H7 := Lib.hid b7
    have HQ : Hid (ls.length ≤ maxLen) := by show _ ≤ _; unfold maxLen; omega
    have d1 : decide (K < 0) = false := decide_eq_false (by omega)
    have d2 : decide (X < 0) = false := decide_eq_false (by omega)
    have hxx : (X != X) = false := by simp
    clear hg hC hX hK b5 b6 b7
    go_wp2_with (first
      | (go_at_call 27; clear hwa; refine (implBest_any W t k Aw m c1 zs wa Hl.out Hmc.out Hcm.out Ia.out.ints).mono ?_; rintro e wb ⟨v, rfl, hO, hb⟩; rw [HX.out]; rw [HG.out] at hO ⊢; obtain ⟨A9, c9, rfl, hI9, _⟩ := hO.form; have Pb := Lib.hid (hold3 hb za Pa.out); have Ib := Lib.hid (Ia.out.keep (by omega) hb); have Lb := Lib.hid hI9; have Tb := Lib.hid (Ta.out.trans (hb.mono (B' := w.heap.size) (by omega))); have zb : w1.heap.size < wb.heap.size := (Nat.lt_of_lt_of_le za hb.size); clear hO hI9 hb p0 p1 p2; obtain ⟨p0, p1, p2⟩ := Pb.out)
      | (go_at_call 15; refine (implCntB_any W t k Aw m c1 zs wb Hl.out Hmc.out Hcm.out Ib.out.ints).mono ?_; rintro e wc ⟨rfl, hb⟩; rw [HC.out]; have Pc := Lib.hid (hold3 hb zb Pb.out); have Ic := Lib.hid (Ib.out.keep (by omega) hb); have Lc := Lib.hid (Lb.out.below hb); have Tc := Lib.hid (Tb.out.trans (hb.mono (B' := w.heap.size) (by omega))); have zc : w1.heap.size < wc.heap.size := (Nat.lt_of_lt_of_le zb hb.size); clear hb p0 p1 p2; obtain ⟨p0, p1, p2⟩ := Pc.out)
      | (go_at_call 20; refine (implIndex_any W t k Aw m c1 zs _ _ _ ls wc Hl.out Hmc.out Hcm.out Ic.out.ints rfl HQ.out Lc.out).mono ?_; rintro e wd ⟨he, hb⟩; rw [HK.out] at he; subst he; have Pd := Lib.hid (hold3 hb zc Pc.out); have Id := Lib.hid (Ic.out.keep (by omega) hb); have Ld := Lib.hid (Lc.out.below hb); have Td := Lib.hid (Tc.out.trans (hb.mono (B' := w.heap.size) (by omega))); have zd : w1.heap.size < wd.heap.size := (Nat.lt_of_lt_of_le zc hb.size); clear hb p0 p1 p2; obtain ⟨p0, p1, p2⟩ := Pd.out)
      | (go_at_call 28; refine (implCostOf_any W t k Aw m c1 zs _ _ _ ls wd Hl.out Hmc.out Hcm.out Id.out.ints rfl HQ.out Ld.out).mono ?_; rintro e wf ⟨he, hb⟩; rw [HKo.out] at he; subst he; have Pf := Lib.hid (hold3 hb zd Pd.out); have If := Lib.hid (Id.out.keep (by omega) hb); have Tf := Lib.hid (Td.out.trans (hb.mono (B' := w.heap.size) (by omega))); have zf : w1.heap.size < wf.heap.size := (Nat.lt_of_lt_of_le zd hb.size); clear hb p0 p1 p2))
    clear Pa Pb Pc Pd Ia Ib Ic Id Lb Lc Ld Ta Tb Tc Td
    clear za zb zc zd d1 d2 hxx
    go_loopw [10] (fun i wr => ∃ j : Nat, j ≤ 8 ∧ i = .int .i64 j ∧ Below wf.heap.size wf wr) (fun i _ => 8 - (intOf i).toNat)
    case atStart => exact ⟨0, Nat.zero_le _, by go_num, Below.refl _ _⟩
    case round =>
      obtain ⟨j, hj, rfl, hb⟩ := hrel
      have Pr := Lib.hid (hold3 hb zf Pf.out)
      have Ir := Lib.hid (If.out.keep (by omega) hb)
      have Br := Lib.hid hb
      have Tr := Lib.hid (Tf.out.trans (hb.mono (B' := w.heap.size) (by omega)))
      have zr : wf.heap.size ≤ wr.heap.size := hb.size
      have Yr := Lib.hid (HB0.out wr Tr.out)
      clear hb
      obtain ⟨p0, p1, p2⟩ := Pr.out
      by_cases h8 : j < 8
      · have g8 : decide ((j : Int) < 8) = true := decide_eq_true (by omega)
        by_cases hjC : (j : Int) < C
        · have gC : decide ((j : Int) < C) = true := decide_eq_true hjC
          by_cases hC8 : 8 < C
          · have gC8 : decide (8 < C) = true := decide_eq_true hC8
            go_wp2_with (go_at_call 29; refine (atAny A n c bs j wr (by omega) Hn.out hs Yr.out Hwf.out).mono ?_; rintro e wr' ⟨x, rfl, hx, rfl⟩; have q1 : 0 ≤ (x : Int) * C := Int.mul_nonneg (by omega) (by omega); have q2 : (x : Int) * C ≤ 255 * 1099511627776 := Int.mul_le_mul (by omega) (by omega) (by omega) (by omega))
            obtain ⟨I, hI⟩ : ∃ I, ((x : Int) * C / 256 + (j : Int)) % C = I := ⟨_, rfl⟩
            have hI0 : 0 ≤ I := by rw [← hI]; exact Int.emod_nonneg _ (by omega)
            have hI1 : I < C := by rw [← hI]; exact Int.emod_lt_of_pos _ b1
            rw [hI]
            clear hI q1 q2
            obtain ⟨L, hL, hL2⟩ := atR_ex ⟨W, t, k⟩ zs I; obtain ⟨a1, a2, a3, a4⟩ := H7.out I L hI0 hI1 hL; have HA := Lib.hid hL; have HAt := Lib.hid a1; have HLq : Hid (L.length ≤ maxLen) := (by show _ ≤ _; unfold maxLen; omega); obtain ⟨Y, hY⟩ : ∃ Y, costA ⟨W, t, k⟩ zs L = Y := ⟨_, rfl⟩; rw [hY] at a3 a4; have HY := Lib.hid hY; have g1 : decide (Y < X) = false := decide_eq_false (by omega); have HE : Hid ((Y == X) = true → decide (I < K) = false) := fun he => decide_eq_false (by have := a4 (beq_iff_eq.1 he); omega); clear hL hL2 a1 a2 a3 a4 hY
            cases hye : (Y == X)
            · go_wp2_with (first
                | (go_at_call 18; refine (implAt_any W t k Aw m c1 zs _ L wr Hl.out Hmc.out Hcm.out Ir.out.ints (by omega) HA.out).mono ?_; rintro e ws ⟨v5, rfl, hO5, hb5⟩; rw [HAt.out]; obtain ⟨A5, c5, rfl, hI5, _⟩ := hO5.form; have Ps := Lib.hid (hold3 hb5 (by omega) Pr.out); have Is := Lib.hid (Ir.out.keep (by omega) hb5); have Ls := Lib.hid hI5; have Bs := Lib.hid (Br.out.trans (hb5.mono (B' := wf.heap.size) zr)); clear hO5 hI5 p0 p1 p2; have zs5 : wf.heap.size ≤ ws.heap.size := (Nat.le_trans zr hb5.size); clear hb5; obtain ⟨p0, p1, p2⟩ := Ps.out)
                | (go_at_call 28; refine (implCostOf_any W t k Aw m c1 zs _ _ _ L ws Hl.out Hmc.out Hcm.out Is.out.ints rfl HLq.out Ls.out).mono ?_; rintro e wu ⟨he, hb6⟩; rw [HY.out] at he; subst he; have Bu := Lib.hid (Bs.out.trans (hb6.mono (B' := wf.heap.size) zs5)); clear hb6 p0 p1 p2))
              go_roundw
              case rel => exact ⟨j + 1, by omega, by go_num, Bu.out⟩
              case measure => simp [intOf]; omega
            · have hki := HE.out hye
              go_wp2_with (first
                | (go_at_call 18; refine (implAt_any W t k Aw m c1 zs _ L wr Hl.out Hmc.out Hcm.out Ir.out.ints (by omega) HA.out).mono ?_; rintro e ws ⟨v5, rfl, hO5, hb5⟩; rw [HAt.out]; obtain ⟨A5, c5, rfl, hI5, _⟩ := hO5.form; have Ps := Lib.hid (hold3 hb5 (by omega) Pr.out); have Is := Lib.hid (Ir.out.keep (by omega) hb5); have Ls := Lib.hid hI5; have Bs := Lib.hid (Br.out.trans (hb5.mono (B' := wf.heap.size) zr)); clear hO5 hI5 p0 p1 p2; have zs5 : wf.heap.size ≤ ws.heap.size := (Nat.le_trans zr hb5.size); clear hb5; obtain ⟨p0, p1, p2⟩ := Ps.out)
                | (go_at_call 28; refine (implCostOf_any W t k Aw m c1 zs _ _ _ L ws Hl.out Hmc.out Hcm.out Is.out.ints rfl HLq.out Ls.out).mono ?_; rintro e wu ⟨he, hb6⟩; rw [HY.out] at he; subst he; have Bu := Lib.hid (Bs.out.trans (hb6.mono (B' := wf.heap.size) zs5)); clear hb6 p0 p1 p2))
              go_roundw
              case rel => exact ⟨j + 1, by omega, by go_num, Bu.out⟩
              case measure => simp [intOf]; omega
          · have gC8 : decide (8 < C) = false := decide_eq_false hC8
            obtain ⟨L, hL, hL2⟩ := atR_ex ⟨W, t, k⟩ zs (j : Int); obtain ⟨a1, a2, a3, a4⟩ := H7.out (j : Int) L (by omega) hjC hL; have HA := Lib.hid hL; have HAt := Lib.hid a1; have HLq : Hid (L.length ≤ maxLen) := (by show _ ≤ _; unfold maxLen; omega); obtain ⟨Y, hY⟩ : ∃ Y, costA ⟨W, t, k⟩ zs L = Y := ⟨_, rfl⟩; rw [hY] at a3 a4; have HY := Lib.hid hY; have g1 : decide (Y < X) = false := decide_eq_false (by omega); have HE : Hid ((Y == X) = true → decide ((j : Int) < K) = false) := fun he => decide_eq_false (by have := a4 (beq_iff_eq.1 he); omega); clear hL hL2 a1 a2 a3 a4 hY
            cases hye : (Y == X)
            · go_wp2_with (first
                | (go_at_call 18; refine (implAt_any W t k Aw m c1 zs _ L wr Hl.out Hmc.out Hcm.out Ir.out.ints (by omega) HA.out).mono ?_; rintro e ws ⟨v5, rfl, hO5, hb5⟩; rw [HAt.out]; obtain ⟨A5, c5, rfl, hI5, _⟩ := hO5.form; have Ps := Lib.hid (hold3 hb5 (by omega) Pr.out); have Is := Lib.hid (Ir.out.keep (by omega) hb5); have Ls := Lib.hid hI5; have Bs := Lib.hid (Br.out.trans (hb5.mono (B' := wf.heap.size) zr)); clear hO5 hI5 p0 p1 p2; have zs5 : wf.heap.size ≤ ws.heap.size := (Nat.le_trans zr hb5.size); clear hb5; obtain ⟨p0, p1, p2⟩ := Ps.out)
                | (go_at_call 28; refine (implCostOf_any W t k Aw m c1 zs _ _ _ L ws Hl.out Hmc.out Hcm.out Is.out.ints rfl HLq.out Ls.out).mono ?_; rintro e wu ⟨he, hb6⟩; rw [HY.out] at he; subst he; have Bu := Lib.hid (Bs.out.trans (hb6.mono (B' := wf.heap.size) zs5)); clear hb6 p0 p1 p2))
              go_roundw
              case rel => exact ⟨j + 1, by omega, by go_num, Bu.out⟩
              case measure => simp [intOf]; omega
            · have hki := HE.out hye
              go_wp2_with (first
                | (go_at_call 18; refine (implAt_any W t k Aw m c1 zs _ L wr Hl.out Hmc.out Hcm.out Ir.out.ints (by omega) HA.out).mono ?_; rintro e ws ⟨v5, rfl, hO5, hb5⟩; rw [HAt.out]; obtain ⟨A5, c5, rfl, hI5, _⟩ := hO5.form; have Ps := Lib.hid (hold3 hb5 (by omega) Pr.out); have Is := Lib.hid (Ir.out.keep (by omega) hb5); have Ls := Lib.hid hI5; have Bs := Lib.hid (Br.out.trans (hb5.mono (B' := wf.heap.size) zr)); clear hO5 hI5 p0 p1 p2; have zs5 : wf.heap.size ≤ ws.heap.size := (Nat.le_trans zr hb5.size); clear hb5; obtain ⟨p0, p1, p2⟩ := Ps.out)
                | (go_at_call 28; refine (implCostOf_any W t k Aw m c1 zs _ _ _ L ws Hl.out Hmc.out Hcm.out Is.out.ints rfl HLq.out Ls.out).mono ?_; rintro e wu ⟨he, hb6⟩; rw [HY.out] at he; subst he; have Bu := Lib.hid (Bs.out.trans (hb6.mono (B' := wf.heap.size) zs5)); clear hb6 p0 p1 p2))
              go_roundw
              case rel => exact ⟨j + 1, by omega, by go_num, Bu.out⟩
              case measure => simp [intOf]; omega
        · have gC : decide ((j : Int) < C) = false := decide_eq_false hjC
          go_wp2
          go_ret
          exact ⟨rfl, Tr.out⟩
      · obtain rfl : j = 8 := by omega
        go_wp2
        go_ret
        exact ⟨rfl, Tr.out⟩
end Go.Proofs.Ytddkedinkgnboaa
