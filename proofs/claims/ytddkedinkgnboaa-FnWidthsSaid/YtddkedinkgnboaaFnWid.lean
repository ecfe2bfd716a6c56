/-
  FnWidths: its walk. No condition.
-/
import Derived.Test.YtddkedinkgnboaaDrawA
import Derived.Test.YtddkedinkgnboaaPkC
import Derived.Test.YtddkedinkgnboaaFnIdx
import Derived.Outline
namespace Go.Proofs.Ytddkedinkgnboaa
open Go.RowKit
set_option linter.unusedVariables false

theorem wdsF_grow (t k : Int) (zs : List Int) (j d : Nat) : ∃ r, wdsF t k zs (j + d) = wdsF t k zs j ++ r := by
  induction d with
  | zero => exact ⟨[], by simp⟩
  | succ d ih =>
    obtain ⟨r, hr⟩ := ih
    by_cases h : 0 < wayF ⟨((j + d : Nat) : Int) + 1, t, k⟩ zs 0
    · exact ⟨r ++ [((j + d : Nat) : Int) + 1], by rw [show j + (d + 1) = (j + d) + 1 by omega, wdsF_yes h, hr, List.append_assoc]⟩
    · exact ⟨r, by rw [show j + (d + 1) = (j + d) + 1 by omega, wdsF_no h, hr]⟩
theorem wdsF_at {t k : Int} {zs : List Int} {j M : Nat} (hj : j < M) (h : 0 < wayF ⟨(j : Int) + 1, t, k⟩ zs 0) : (wdsF t k zs M)[(wdsF t k zs j).length]? = some ((j : Int) + 1) := by
  obtain ⟨r, hr⟩ := wdsF_grow t k zs (j + 1) (M - (j + 1))
  rw [show j + 1 + (M - (j + 1)) = M by omega, wdsF_yes h] at hr
  rw [hr, List.append_assoc, List.getElem?_append_right (Nat.le_refl _)]
  simp
theorem totalQ_any {A : Option Addr} {n c q : Nat} {zs : List Int} {s : Int} {w : World} (hn : zs.length = n) (h : Ints w A zs) (hz : ∀ x ∈ zs, 0 ≤ x ∧ x ≤ 2000) (hm : n ≤ 1000) (hs : sumL zs = s) :
    Calls Try.prog 21 #[.slice A n c] (w.drewN q) fun e w'' => e = .returned (.int .i64 s) ∧ ∃ m, w'' = w.drewN m := by
  have h' : Ints (w.drewN q) A zs := h
  refine (totalG_any A n c zs _ hn h' hz hm).mono ?_
  rintro e w' ⟨rfl, rfl⟩
  exact ⟨by rw [hs], q, rfl⟩
/-- where the whole text fits in one line there is a breaking -/
theorem way_one {m : Msr} {zs : List Int} (h1 : 1 ≤ zs.length) (h40 : zs.length ≤ 40) (hf : ((zs.length : Int) - 1) * m.t + sumL zs ≤ m.w) : 0 < wayF m zs 0 := by
  have hs : seg zs 0 zs.length = zs := by unfold seg; simp
  have hb : ((zs.length - 0 - 1 : Nat) : Int) = (zs.length : Int) - 1 := by omega
  have hw : widF (sumL zs) (zs.length - 0 - 1) m.t ≤ m.w := by unfold widF; rw [hb]; omega
  have hl : lineW m zs 0 zs.length = true := by
    unfold lineW kindW
    rw [hs]
    unfold kindF
    cases hfu : fullF m (sumL zs) (zs.length - 0 - 1)
    · rw [if_neg (by simp), if_pos hw]; simp
    · rw [if_pos (by rw [decide_eq_true hw]; rfl)]; simp
  have h2 := bef_way (m := m) h40 (show 0 < zs.length by omega) (Nat.le_refl _) hl
  have h3 := (befF_range (m := m) (i := 0) h40 (Nat.zero_le _) (show zs.length ≤ zs.length + 1 by omega)).1
  rw [wayF_end] at h2
  omega

set_option maxRecDepth 100000 in
set_option maxHeartbeats 6400000 in
theorem fnWidths_walk (A : Option Addr) (n c : Nat) (bs : List Int) (w : World) (hn : bs.length = n) (hm : n ≤ maxLen) (h : Bytes w A bs) (wf : ∀ z ∈ bs, (Lit.int .u8 z).wf = true) :
    Calls Try.prog 7 #[.slice A n c] w fun e w' => e = .returned (.bool true) ∧ Below w.heap.size w w' := by
  have H := Lib.hid h; have Hn := Lib.hid hn; have Hwf := Lib.hid wf
  clear h hn wf
  have hm0 := hm
  unfold maxLen at hm
  by_cases hbig : 1048576 < n
  · go_enter Try.func7, Try.ntmps7
    go_wp2
    go_ret
    exact ⟨rfl, Below.refl _ _⟩
  go_enter Try.func7, Try.ntmps7
  go_wp2_with fail
  refine (drawWid_any _ _ _ bs _ Hn.out hm0 H.out Hwf.out).mono ?_
  rintro e w1 ⟨W, t, k, Aw, m, c1, zs, i, rfl, hl, hm1, hmc, hcm, hi0, hi9, hO1, hb1⟩
  have I1 := Lib.hid (IntsB.of (own_intsA hO1)); have Hl := Lib.hid hl; have T1 := Lib.hid hb1
  have z1 := hb1.size
  have Hmc := Lib.hid hmc; have Hcm := Lib.hid hcm
  have hm2 : m ≤ maxLen := by unfold maxLen; omega
  clear hO1 hl hb1 hcm
  obtain ⟨wa, hwa⟩ : ∃ wa, w1.alloc (.cells #[.int .i64 W, .int .i64 t, .int .i64 k] 24) = wa := ⟨_, rfl⟩
  have hb2 : Below w1.heap.size w1 wa := by rw [← hwa]; exact below_new _ _
  have Pa : Hid (wa.cell? ⟨w1.heap.size, 0, none⟩ = some (.int .i64 W) ∧ wa.cell? ⟨w1.heap.size, 1, none⟩ = some (.int .i64 t) ∧ wa.cell? ⟨w1.heap.size, 2, none⟩ = some (.int .i64 k)) := by show _ ∧ _; rw [← hwa]; exact lay3 w1 _ _ _ _
  have za : w1.heap.size < wa.heap.size := by rw [← hwa]; simp
  have Ia := Lib.hid (I1.out.keep (Nat.le_refl _) hb2); have Ta := Lib.hid (T1.out.trans (hb2.mono z1))
  clear hb2 I1 T1
  obtain ⟨p0, p1, p2⟩ := Pa.out
  cases hms : msrB ⟨W, t, k⟩
  · have hB : wdsB ⟨W, t, k⟩ zs i = false := by unfold wdsB okW; rw [hms]; rfl
    have HM := Lib.hid hms
    clear hms
    have HW : Hid (wdsA ⟨W, t, k⟩ zs i = []) := by show _ = _; unfold wdsA; rw [hB]; rfl
    clear hB
    go_wp2_with (first
        | (go_at_call 31; clear hwa; refine (implWdsFor_any W t k Aw m c1 zs i wa Hl.out Hmc.out Hcm.out Ia.out.ints).mono ?_; rintro e wb ⟨v, rfl, hO, hb⟩; rw [HW.out] at hO; obtain ⟨AL, cL, rfl, hI, _⟩ := hO.form; have Lb := Lib.hid hI; clear hO hI; have Pb := Lib.hid (hold3 hb za Pa.out); have Ib := Lib.hid (Ia.out.keep (by omega) hb); have Tb := Lib.hid (Ta.out.trans (hb.mono (B' := w.heap.size) (by omega))); have zb : w1.heap.size < wb.heap.size := (Nat.lt_of_lt_of_le za hb.size); clear hb p0 p1 p2; obtain ⟨p0, p1, p2⟩ := Pb.out)
        | (go_at_call 16; refine (specMeasureOk_any W t k wb).mono ?_; rintro e wd ⟨he, hb⟩; rw [HM.out] at he; subst he; have Pd := Lib.hid (hold3 hb zb Pb.out); have Id := Lib.hid (Ib.out.keep (by omega) hb); have Td := Lib.hid (Tb.out.trans (hb.mono (B' := w.heap.size) (by omega))); have zd : w1.heap.size < wd.heap.size := (Nat.lt_of_lt_of_le zb hb.size); clear hb p0 p1 p2; obtain ⟨p0, p1, p2⟩ := Pd.out))
    go_ret
    exact ⟨rfl, Td.out⟩
  have HM := Lib.hid hms
  cases htx : textB zs
  · have hB : wdsB ⟨W, t, k⟩ zs i = false := by unfold wdsB okW; rw [hms, htx]; rfl
    have HX := Lib.hid htx
    clear hms htx
    have HW : Hid (wdsA ⟨W, t, k⟩ zs i = []) := by show _ = _; unfold wdsA; rw [hB]; rfl
    clear hB
    go_wp2_with (first
        | (go_at_call 31; clear hwa; refine (implWdsFor_any W t k Aw m c1 zs i wa Hl.out Hmc.out Hcm.out Ia.out.ints).mono ?_; rintro e wb ⟨v, rfl, hO, hb⟩; rw [HW.out] at hO; obtain ⟨AL, cL, rfl, hI, _⟩ := hO.form; have Lb := Lib.hid hI; clear hO hI; have Pb := Lib.hid (hold3 hb za Pa.out); have Ib := Lib.hid (Ia.out.keep (by omega) hb); have Tb := Lib.hid (Ta.out.trans (hb.mono (B' := w.heap.size) (by omega))); have zb : w1.heap.size < wb.heap.size := (Nat.lt_of_lt_of_le za hb.size); clear hb p0 p1 p2; obtain ⟨p0, p1, p2⟩ := Pb.out)
        | (go_at_call 16; refine (specMeasureOk_any W t k wb).mono ?_; rintro e wd ⟨he, hb⟩; rw [HM.out] at he; subst he; have Pd := Lib.hid (hold3 hb zb Pb.out); have Id := Lib.hid (Ib.out.keep (by omega) hb); have Td := Lib.hid (Tb.out.trans (hb.mono (B' := w.heap.size) (by omega))); have zd : w1.heap.size < wd.heap.size := (Nat.lt_of_lt_of_le zb hb.size); clear hb p0 p1 p2; obtain ⟨p0, p1, p2⟩ := Pd.out)
        | (go_at_call 17; refine (specTextOk_any _ m c1 zs wd Hl.out hm2 Id.out.ints).mono ?_; rintro e wd' ⟨he, rfl⟩; rw [HX.out] at he; subst he))
    go_ret
    exact ⟨rfl, Td.out⟩
  have HX := Lib.hid htx
  by_cases hi1 : i < 0
  · have hB : wdsB ⟨W, t, k⟩ zs i = false := by unfold wdsB inB; rw [decide_eq_false (show ¬ (0 ≤ i ∧ i ≤ 300) by omega)]; simp
    have d1 : decide (i < 0) = true := decide_eq_true hi1
    clear hms htx
    have HW : Hid (wdsA ⟨W, t, k⟩ zs i = []) := by show _ = _; unfold wdsA; rw [hB]; rfl
    clear hB
    go_wp2_with (first
        | (go_at_call 31; clear hwa; refine (implWdsFor_any W t k Aw m c1 zs i wa Hl.out Hmc.out Hcm.out Ia.out.ints).mono ?_; rintro e wb ⟨v, rfl, hO, hb⟩; rw [HW.out] at hO; obtain ⟨AL, cL, rfl, hI, _⟩ := hO.form; have Lb := Lib.hid hI; clear hO hI; have Pb := Lib.hid (hold3 hb za Pa.out); have Ib := Lib.hid (Ia.out.keep (by omega) hb); have Tb := Lib.hid (Ta.out.trans (hb.mono (B' := w.heap.size) (by omega))); have zb : w1.heap.size < wb.heap.size := (Nat.lt_of_lt_of_le za hb.size); clear hb p0 p1 p2; obtain ⟨p0, p1, p2⟩ := Pb.out)
        | (go_at_call 16; refine (specMeasureOk_any W t k wb).mono ?_; rintro e wd ⟨he, hb⟩; rw [HM.out] at he; subst he; have Pd := Lib.hid (hold3 hb zb Pb.out); have Id := Lib.hid (Ib.out.keep (by omega) hb); have Td := Lib.hid (Tb.out.trans (hb.mono (B' := w.heap.size) (by omega))); have zd : w1.heap.size < wd.heap.size := (Nat.lt_of_lt_of_le zb hb.size); clear hb p0 p1 p2; obtain ⟨p0, p1, p2⟩ := Pd.out)
        | (go_at_call 17; refine (specTextOk_any _ m c1 zs wd Hl.out hm2 Id.out.ints).mono ?_; rintro e wd' ⟨he, rfl⟩; rw [HX.out] at he; subst he))
    go_ret
    exact ⟨rfl, Td.out⟩
  have d1 : decide (i < 0) = false := decide_eq_false hi1
  by_cases hi2 : 300 < i
  · have hB : wdsB ⟨W, t, k⟩ zs i = false := by unfold wdsB inB; rw [decide_eq_false (show ¬ (0 ≤ i ∧ i ≤ 300) by omega)]; simp
    have d2 : decide (300 < i) = true := decide_eq_true hi2
    clear hms htx
    have HW : Hid (wdsA ⟨W, t, k⟩ zs i = []) := by show _ = _; unfold wdsA; rw [hB]; rfl
    clear hB
    go_wp2_with (first
        | (go_at_call 31; clear hwa; refine (implWdsFor_any W t k Aw m c1 zs i wa Hl.out Hmc.out Hcm.out Ia.out.ints).mono ?_; rintro e wb ⟨v, rfl, hO, hb⟩; rw [HW.out] at hO; obtain ⟨AL, cL, rfl, hI, _⟩ := hO.form; have Lb := Lib.hid hI; clear hO hI; have Pb := Lib.hid (hold3 hb za Pa.out); have Ib := Lib.hid (Ia.out.keep (by omega) hb); have Tb := Lib.hid (Ta.out.trans (hb.mono (B' := w.heap.size) (by omega))); have zb : w1.heap.size < wb.heap.size := (Nat.lt_of_lt_of_le za hb.size); clear hb p0 p1 p2; obtain ⟨p0, p1, p2⟩ := Pb.out)
        | (go_at_call 16; refine (specMeasureOk_any W t k wb).mono ?_; rintro e wd ⟨he, hb⟩; rw [HM.out] at he; subst he; have Pd := Lib.hid (hold3 hb zb Pb.out); have Id := Lib.hid (Ib.out.keep (by omega) hb); have Td := Lib.hid (Tb.out.trans (hb.mono (B' := w.heap.size) (by omega))); have zd : w1.heap.size < wd.heap.size := (Nat.lt_of_lt_of_le zb hb.size); clear hb p0 p1 p2; obtain ⟨p0, p1, p2⟩ := Pd.out)
        | (go_at_call 17; refine (specTextOk_any _ m c1 zs wd Hl.out hm2 Id.out.ints).mono ?_; rintro e wd' ⟨he, rfl⟩; rw [HX.out] at he; subst he))
    go_ret
    exact ⟨rfl, Td.out⟩
  have d2 : decide (300 < i) = false := decide_eq_false hi2
  obtain ⟨M, rfl⟩ : ∃ M : Nat, i = (M : Int) := ⟨i.toNat, by omega⟩
  have HW : Hid (wdsA ⟨W, t, k⟩ zs M = wdsF t k zs M) := by
    show _ = _
    unfold wdsA
    rw [if_pos (by unfold wdsB okW inB; rw [hms, htx, decide_eq_true (show 0 ≤ (M : Int) ∧ (M : Int) ≤ 300 by omega)]; rfl)]
    rfl
  obtain ⟨hz, h1, h40⟩ := textB_parts htx
  have ht := (msrB_iff.1 hms).2.2
  obtain ⟨sm, hsm⟩ : ∃ s, sumL zs = s := ⟨_, rfl⟩
  have HS := Lib.hid hsm
  have HZ : Hid (∀ x ∈ zs, 0 ≤ x ∧ x ≤ 2000) := fun x hx => by have := hz x hx; omega
  have hs2 := sumL_small HZ.out zs.length
  rw [List.take_length, hsm] at hs2
  have hq0 : 0 ≤ ((m : Int) - 1) * t := Int.mul_nonneg (by have := Hl.out; omega) (by have := ht.1; exact Int.le_trans (by omega) this)
  have hq1 : ((m : Int) - 1) * t ≤ 40 * 100 := Int.mul_le_mul (by omega) (by have h2 := ht.2.1; have h3 := ht.2.2; exact Int.le_trans h2 h3) (by have := ht.1; exact Int.le_trans (by omega) this) (by omega)
  obtain ⟨Q, hQ⟩ : ∃ Q, ((m : Int) - 1) * t = Q := ⟨_, rfl⟩
  rw [hQ] at hq0 hq1
  obtain ⟨O, hO⟩ : ∃ O, Q + sm = O := ⟨_, rfl⟩
  have hl1 := Hl.out
  have v1 : IntKind.i64.wrap ((m : Int) - 1) = (m : Int) - 1 := by rw [IntKind.wrap_i64]; omega
  have v2 : IntKind.i64.wrap (((m : Int) - 1) * t) = Q := by rw [hQ, IntKind.wrap_i64]; omega
  have v3 : IntKind.i64.wrap (Q + sm) = O := by rw [hO, IntKind.wrap_i64]; omega
  have HO : Hid (∀ V : Int, O ≤ V → 0 < wayF ⟨V, t, k⟩ zs 0) := fun V hV => way_one h1 h40 (by show ((zs.length : Int) - 1) * t + sumL zs ≤ V; rw [hl1, hQ, hsm]; omega)
  have HC : Hid (∀ j : Nat, j < M → cntA ⟨(j : Int) + 1, t, k⟩ zs = wayF ⟨(j : Int) + 1, t, k⟩ zs 0 ∧ 0 ≤ wayF ⟨(j : Int) + 1, t, k⟩ zs 0 ∧ wayF ⟨(j : Int) + 1, t, k⟩ zs 0 ≤ 1099511627776) := fun j hj => by
    refine ⟨?_, wayF_range h40 (Nat.zero_le _)⟩
    unfold cntA okW
    rw [msrB_other hms (by omega) (by omega), htx]
    rfl
  obtain ⟨nL, hnL⟩ : ∃ q, (wdsF t k zs M).length = q := ⟨_, rfl⟩
  have hnL2 : nL ≤ M := by rw [← hnL]; exact wdsF_len t k zs M
  have NL := Lib.hid hnL
  have hM3 : M ≤ 300 := by omega
  clear hms htx hz h1 h40 ht hs2 hQ hO hl1 hnL hsm hi2
  go_wp2_with (first
      | (go_at_call 31; clear hwa; refine (implWdsFor_any W t k Aw m c1 zs _ wa Hl.out Hmc.out Hcm.out Ia.out.ints).mono ?_; rintro e wb ⟨v, rfl, hO, hb⟩; rw [HW.out] at hO; obtain ⟨AL, cL, rfl, hI, _⟩ := hO.form; have Lb := Lib.hid hI; clear hO hI; have Pb := Lib.hid (hold3 hb za Pa.out); have Ib := Lib.hid (Ia.out.keep (by omega) hb); have Tb := Lib.hid (Ta.out.trans (hb.mono (B' := w.heap.size) (by omega))); have zb : w1.heap.size < wb.heap.size := (Nat.lt_of_lt_of_le za hb.size); clear hb p0 p1 p2; obtain ⟨p0, p1, p2⟩ := Pb.out)
      | (go_at_call 16; refine (specMeasureOk_any W t k wb).mono ?_; rintro e wd ⟨he, hb⟩; rw [HM.out] at he; subst he; have Pd := Lib.hid (hold3 hb zb Pb.out); have Id := Lib.hid (Ib.out.keep (by omega) hb); have Td := Lib.hid (Tb.out.trans (hb.mono (B' := w.heap.size) (by omega))); have zd : w1.heap.size < wd.heap.size := (Nat.lt_of_lt_of_le zb hb.size); have Ld := Lib.hid (Lb.out.below hb); clear hb p0 p1 p2; obtain ⟨p0, p1, p2⟩ := Pd.out)
      | (go_at_call 17; refine (specTextOk_any _ m c1 zs wd Hl.out hm2 Id.out.ints).mono ?_; rintro e wd' ⟨he, rfl⟩; rw [HX.out] at he; subst he))
  go_quiet ((go_at_call 21; exact totalQ_any Hl.out Id.out.ints HZ.out (by omega) HS.out))
  go_wp2
  rw [NL.out]
  go_loopw [8, 9] (fun kv iv wr => ∃ j : Nat, j ≤ M ∧ kv = .int .i64 ((wdsF t k zs j).length : Int) ∧ iv = .int .i64 ((j : Int) + 1) ∧ Below wd.heap.size wd wr) (fun kv iv _ => M + 1 - (intOf iv).toNat)
  case atStart => exact ⟨0, Nat.zero_le _, rfl, rfl, below_drewN (Below.refl _ _) _⟩
  case round =>
    obtain ⟨j, hj, rfl, rfl, hbr⟩ := hrel
    have Pr := Lib.hid (hold3 hbr zd Pd.out)
    have Ir := Lib.hid (Id.out.keep (by omega) hbr)
    have Lr := Lib.hid (Ld.out.below hbr)
    have Br := Lib.hid hbr
    have zr : wd.heap.size ≤ wr.heap.size := hbr.size
    have zr1 : w1.heap.size < wr.heap.size := Nat.lt_of_lt_of_le zd zr
    have Tr := Lib.hid (Td.out.trans (hbr.mono (B' := w.heap.size) (by omega)))
    clear hbr p0 p1 p2
    obtain ⟨p0, p1, p2⟩ := Pr.out
    have hql := wdsF_len t k zs j
    obtain ⟨q, hq⟩ : ∃ q, (wdsF t k zs j).length = q := ⟨_, rfl⟩
    have HQ := Lib.hid hq
    rw [hq] at hql ⊢
    clear hq
    by_cases hlt : j < M
    · obtain ⟨c1', c2, c3⟩ := HC.out j hlt
      have HC1 := Lib.hid c1'
      obtain ⟨Y, hY⟩ : ∃ Y, wayF ⟨(j : Int) + 1, t, k⟩ zs 0 = Y := ⟨_, rfl⟩
      have HY := Lib.hid hY
      rw [hY] at c2 c3 HC1
      have e0 : decide ((j : Int) + 1 ≤ M) = true := decide_eq_true (by omega)
      have e9 : IntKind.i64.wrap ((j : Int) + 1 + 1) = (j : Int) + 1 + 1 := by rw [IntKind.wrap_i64]; omega
      clear c1' hY
      by_cases hpos : 0 < Y
      · have e1 : decide (Y < 1) = false := decide_eq_false (by omega)
        have HN := wdsF_at hlt (show 0 < wayF ⟨(j : Int) + 1, t, k⟩ zs 0 by rw [HY.out]; exact hpos)
        have HT : Hid ((wdsF t k zs (j + 1)).length = q + 1) := by
          show _ = _
          rw [wdsF_yes (by rw [HY.out]; exact hpos), List.length_append, HQ.out]; rfl
        rw [HQ.out] at HN
        have hqn : q < nL := by rw [← NL.out]; exact (List.getElem?_eq_some_iff.1 HN).1
        obtain ⟨ad, u, rfl, hu, hc⟩ := Lr.out.at_ (k := q) (by rw [NL.out]; exact hqn)
        obtain rfl : u = (j : Int) + 1 := by have := hu.out; rw [HN] at this; injection this with this; exact this.symm
        have HCell := Lib.hid hc
        have e2 : (((j : Int) + 1) != ((j : Int) + 1)) = false := by simp
        have e3 : (((j : Int) + 1) == ((j : Int) + 1)) = true := by simp
        clear HN hc
        go_wp2_with (go_at_call 15; refine (implCntB_any _ t k Aw m c1 zs wr Hl.out Hmc.out Hcm.out Ir.out.ints).mono ?_; rintro e ws ⟨rfl, hb⟩; rw [HC1.out]; have hbs : Below wd.heap.size wr ws := hb.mono zr; have hc2 : ws.cell? (ad.add q) = some (.int .i64 ((j : Int) + 1)) := ((hb.cell (World.block_lt_of_cell? _ _ HCell.out)).trans HCell.out); clear hb p0 p1 p2)
        go_roundw
        case rel => exact ⟨j + 1, by omega, by rw [HT.out]; go_num, by go_num, Br.out.trans hbs⟩
        case measure => simp [intOf]; omega
      · obtain rfl : Y = 0 := by omega
        have e2 : decide (O ≤ (j : Int) + 1) = false := decide_eq_false (fun h => by have := HO.out _ h; rw [HY.out] at this; omega)
        have HT : Hid ((wdsF t k zs (j + 1)).length = q) := by
          show _ = _
          rw [wdsF_no (by rw [HY.out]; exact hpos), HQ.out]
        go_wp2_with (go_at_call 15; refine (implCntB_any _ t k Aw m c1 zs wr Hl.out Hmc.out Hcm.out Ir.out.ints).mono ?_; rintro e ws ⟨rfl, hb⟩; rw [HC1.out]; have hbs : Below wd.heap.size wr ws := hb.mono zr; clear hb p0 p1 p2)
        go_roundw
        case rel => exact ⟨j + 1, by omega, by rw [HT.out], by go_num, Br.out.trans hbs⟩
        case measure => simp [intOf]; omega
    · obtain rfl : j = M := by omega
      have e0 : decide ((j : Int) + 1 ≤ j) = false := decide_eq_false (by omega)
      obtain rfl : q = nL := by rw [← HQ.out, NL.out]
      go_wp2
      go_ret
      exact ⟨ret_bool (by simp), Tr.out⟩
end Go.Proofs.Ytddkedinkgnboaa
