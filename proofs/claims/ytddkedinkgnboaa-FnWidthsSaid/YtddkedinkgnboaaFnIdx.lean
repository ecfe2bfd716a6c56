/-
  FnIndexed and FnAscending: their walks. No condition.
-/
import Derived.Test.YtddkedinkgnboaaDrawA
import Derived.Test.YtddkedinkgnboaaAtJ
import Derived.Test.YtddkedinkgnboaaIdxI
import Derived.Test.YtddkedinkgnboaaPkC
import Derived.Outline
namespace Go.Proofs.Ytddkedinkgnboaa
open Go.RowKit
set_option linter.unusedVariables false

theorem sumL_small {zs : List Int} (hz : ∀ x ∈ zs, 0 ≤ x ∧ x ≤ 2000) (k : Nat) : 0 ≤ sumL (zs.take k) ∧ sumL (zs.take k) ≤ 2000 * (k : Int) := by
  induction k with
  | zero => simp [sumL]
  | succ k ih =>
    cases h : zs[k]? with
    | none =>
      have hk : zs.length ≤ k := List.getElem?_eq_none_iff.1 h
      rw [List.take_of_length_le (by omega)] at ih ⊢
      omega
    | some x =>
      rw [sumL_at h]
      have := hz x (mem_at h)
      omega
theorem totalG_any (A : Option Addr) (n c : Nat) (zs : List Int) (w : World) (hn : zs.length = n) (h : Ints w A zs) (hz : ∀ x ∈ zs, 0 ≤ x ∧ x ≤ 2000) (hm : n ≤ 1000) :
    Calls Try.prog 21 #[.slice A n c] w fun e w' => e = .returned (.int .i64 (sumL zs)) ∧ w = w' := by
  have HL := Lib.hid (sumL_small hz)
  have HZ := Lib.hid hz
  have Hn := Lib.hid hn
  clear hz hn
  go_enter Try.func21, Try.ntmps21
  go_wp2
  go_loop [3, 8] (fun s i => ∃ k : Nat, k ≤ n ∧ i = .int .i64 k ∧ s = .int .i64 (sumL (zs.take k))) (fun _ i => n - (intOf i).toNat)
  case atStart => exact ⟨0, Nat.zero_le _, rfl, rfl⟩
  case round =>
    obtain ⟨k, hk, rfl, rfl⟩ := hrel
    by_cases hlt : k < n
    · obtain ⟨ad, x, rfl, hx, hc⟩ := h.at_ (k := k) (by rw [Hn.out]; exact hlt)
      have HS := Lib.hid (sumL_at hx.out)
      have hb1 := HL.out k
      have hx2 := HZ.out x (mem_at hx.out)
      obtain ⟨sm, hsm⟩ : ∃ s, sumL (zs.take k) = s := ⟨_, rfl⟩
      rw [hsm] at HS hb1 ⊢
      clear hsm
      go_wp2
      go_round
      case rel => exact ⟨k + 1, by omega, by go_num, by rw [HS.out]⟩
      case measure => simp [intOf]; omega
    · have hkn : k = n := by omega
      subst hkn
      rw [take_all Hn.out]
      go_wp2
      go_ret
      exact ⟨rfl, rfl⟩
theorem brkF_sum {m : Msr} {zs : List Int} : ∀ (ls : List Int) (p : Nat), p ≤ zs.length → brkF m zs p ls = true → sumL ls = (zs.length : Int) - p ∧ ∀ x ∈ ls, 1 ≤ x ∧ x ≤ zs.length
  | [], p, hp, hb => by
    have : p = zs.length := by simpa [brkF] using hb
    subst this
    exact ⟨by simp [sumL], by simp⟩
  | x :: r, p, hp, hb => by
    rw [brkF, Bool.and_eq_true, Bool.and_eq_true] at hb
    have hx := inB_true hb.1
    obtain ⟨h1, h2⟩ := brkF_sum r (p + x.toNat) (by omega) hb.2.2
    refine ⟨by rw [sumL, h1]; omega, fun y hy => ?_⟩
    rcases List.mem_cons.1 hy with rfl | hy
    · omega
    · exact h2 y hy

set_option maxRecDepth 100000 in
set_option maxHeartbeats 6400000 in
theorem fnIndexed_walk (A : Option Addr) (n c : Nat) (bs : List Int) (w : World) (hn : bs.length = n) (hm : n ≤ maxLen) (h : Bytes w A bs) (wf : ∀ z ∈ bs, (Lit.int .u8 z).wf = true) :
    Calls Try.prog 3 #[.slice A n c] w fun e w' => e = .returned (.bool true) ∧ Below w.heap.size w w' := by
  have H := Lib.hid h; have Hn := Lib.hid hn; have Hwf := Lib.hid wf
  clear h hn wf
  have hm0 := hm
  unfold maxLen at hm
  by_cases hbig : 1048576 < n
  · go_enter Try.func3, Try.ntmps3
    go_wp2
    go_ret
    exact ⟨rfl, Below.refl _ _⟩
  go_enter Try.func3, Try.ntmps3
  go_wp2_with fail
  refine (drawAt_any _ _ _ bs _ Hn.out hm0 H.out Hwf.out).mono ?_
  rintro e w1 ⟨W, t, k, Aw, m, c1, zs, i, rfl, hl, hm1, hmc, hcm, hi0, hi9, hO1, hb1⟩
  have I1 := Lib.hid (IntsB.of (own_intsA hO1)); have Hl := Lib.hid hl; have T1 := Lib.hid hb1
  have z1 := hb1.size
  have Hmc := Lib.hid hmc; have Hcm := Lib.hid hcm
  have hm2 : m ≤ maxLen := by unfold maxLen; omega
  clear hO1 hl hb1 hcm
  obtain ⟨wa, hwa⟩ : ∃ wa, w1.alloc (.cells #[.int .i64 W, .int .i64 t, .int .i64 k] 24) = wa := ⟨_, rfl⟩
  have hb2 : Below w1.heap.size w1 wa := by rw [← hwa]; exact below_new _ _
  have Pa : Hid (wa.cell? ⟨w1.heap.size, 0, none⟩ = some (.int .i64 W) ∧ wa.cell? ⟨w1.heap.size, 1, none⟩ = some (.int .i64 t) ∧ wa.cell? ⟨w1.heap.size, 2, none⟩ = some (.int .i64 k)) := by show _ ∧ _; rw [← hwa]; exact lay3 w1 _ _ _ _
  have za : w1.heap.size < wa.heap.size := by rw [← hwa]; simp
  have Ia := Lib.hid (I1.out.keep (Nat.le_refl _) hb2); have Ta := Lib.hid (T1.out.trans (hb2.mono z1))
  clear hb2 I1 T1
  obtain ⟨p0, p1, p2⟩ := Pa.out
  obtain ⟨C, hC⟩ : ∃ C, cntA ⟨W, t, k⟩ zs = C := ⟨_, rfl⟩
  have HC := Lib.hid hC
  cases ho : okW ⟨W, t, k⟩ zs
  · have hC1 : C = -1 := by rw [← hC]; unfold cntA; rw [ho]; rfl
    subst hC1
    cases hms : msrB ⟨W, t, k⟩
    · have HM := Lib.hid hms
      clear hC ho hms
      go_wp2_with (first
          | (go_at_call 15; clear hwa; refine (implCntB_any W t k Aw m c1 zs wa Hl.out Hmc.out Hcm.out Ia.out.ints).mono ?_; rintro e wb ⟨rfl, hb⟩; rw [HC.out]; have Pb := Lib.hid (hold3 hb za Pa.out); have Ib := Lib.hid (Ia.out.keep (by omega) hb); have Tb := Lib.hid (Ta.out.trans (hb.mono (B' := w.heap.size) (by omega))); have zb : w1.heap.size < wb.heap.size := (Nat.lt_of_lt_of_le za hb.size); clear hb p0 p1 p2; obtain ⟨p0, p1, p2⟩ := Pb.out)
          | (go_at_call 16; refine (specMeasureOk_any W t k wb).mono ?_; rintro e wd ⟨he, hb⟩; rw [HM.out] at he; subst he; have Pd := Lib.hid (hold3 hb zb Pb.out); have Id := Lib.hid (Ib.out.keep (by omega) hb); have Td := Lib.hid (Tb.out.trans (hb.mono (B' := w.heap.size) (by omega))); have zd : w1.heap.size < wd.heap.size := (Nat.lt_of_lt_of_le zb hb.size); clear hb p0 p1 p2; obtain ⟨p0, p1, p2⟩ := Pd.out))
      go_ret
      exact ⟨rfl, Td.out⟩
    · have htx : textB zs = false := by unfold okW at ho; rw [hms] at ho; simpa using ho
      have HM := Lib.hid hms; have HX := Lib.hid htx
      clear hC ho hms htx
      go_wp2_with (first
          | (go_at_call 15; clear hwa; refine (implCntB_any W t k Aw m c1 zs wa Hl.out Hmc.out Hcm.out Ia.out.ints).mono ?_; rintro e wb ⟨rfl, hb⟩; rw [HC.out]; have Pb := Lib.hid (hold3 hb za Pa.out); have Ib := Lib.hid (Ia.out.keep (by omega) hb); have Tb := Lib.hid (Ta.out.trans (hb.mono (B' := w.heap.size) (by omega))); have zb : w1.heap.size < wb.heap.size := (Nat.lt_of_lt_of_le za hb.size); clear hb p0 p1 p2; obtain ⟨p0, p1, p2⟩ := Pb.out)
          | (go_at_call 16; refine (specMeasureOk_any W t k wb).mono ?_; rintro e wd ⟨he, hb⟩; rw [HM.out] at he; subst he; have Pd := Lib.hid (hold3 hb zb Pb.out); have Id := Lib.hid (Ib.out.keep (by omega) hb); have Td := Lib.hid (Tb.out.trans (hb.mono (B' := w.heap.size) (by omega))); have zd : w1.heap.size < wd.heap.size := (Nat.lt_of_lt_of_le zb hb.size); clear hb p0 p1 p2; obtain ⟨p0, p1, p2⟩ := Pd.out)
          | (go_at_call 17; refine (specTextOk_any _ m c1 zs wd Hl.out hm2 Id.out.ints).mono ?_; rintro e wd' ⟨he, rfl⟩; rw [HX.out] at he; subst he))
      go_ret
      exact ⟨rfl, Td.out⟩
  have HM := Lib.hid (okW_parts ho).1; have HX := Lib.hid (okW_parts ho).2
  obtain ⟨-, -, h40⟩ := textB_parts HX.out
  have hwr := wayF_range (m := ⟨W, t, k⟩) h40 (Nat.zero_le zs.length)
  rw [show wayF ⟨W, t, k⟩ zs 0 = C by rw [← hC]; unfold cntA; rw [ho]; rfl] at hwr
  have hAB : atB ⟨W, t, k⟩ zs i = (decide (0 ≤ i) && decide (i < C)) := by unfold atB; rw [ho, ← hC]; unfold cntA; rw [ho]; rfl
  obtain ⟨L, hL, hL2⟩ := atR_ex ⟨W, t, k⟩ zs i
  have HL := Lib.hid hL
  by_cases hin : 0 ≤ i ∧ i < C
  · have hB : atB ⟨W, t, k⟩ zs i = true := by rw [hAB, decide_eq_true hin.1, decide_eq_true hin.2]; rfl
    have hL3 := hL
    unfold AtR at hL3
    rw [hB] at hL3
    simp only [if_true] at hL3
    have hbk : isBrk ⟨W, t, k⟩ zs L = true := by unfold isBrk; rw [ho, hL3.1]; rfl
    have HBk := Lib.hid hbk
    have HIx : Hid (idxA ⟨W, t, k⟩ zs L = i) := by show _ = _; unfold idxA; rw [hbk]; exact hL3.2
    have hsm := brkF_sum L 0 (Nat.zero_le _) hL3.1
    have hln := brkF_len L 0 (Nat.zero_le _) hL3.1
    have HS : Hid (sumL L = (m : Int)) := by show _ = _; rw [hsm.1, Hl.out]; omega
    have HZ : Hid (∀ x ∈ L, 0 ≤ x ∧ x ≤ 2000) := fun x hx => by have := hsm.2 x hx; omega
    have HB := Lib.hid hB
    have hl40 : L.length ≤ 40 := by omega
    have HQ : Hid (L.length ≤ maxLen) := by show _ ≤ _; unfold maxLen; omega
    have d1 : decide (i < 0) = false := decide_eq_false (by omega)
    have d2 : decide (C ≤ i) = false := decide_eq_false (by omega)
    have hii : (i == i) = true := by simp
    clear hC ho hL hL2 hL3 hAB hB hsm hln hbk h40 hwr
    go_wp2_with (first
        | (go_at_call 15; clear hwa; refine (implCntB_any W t k Aw m c1 zs wa Hl.out Hmc.out Hcm.out Ia.out.ints).mono ?_; rintro e wb ⟨rfl, hb⟩; rw [HC.out]; have Pb := Lib.hid (hold3 hb za Pa.out); have Ib := Lib.hid (Ia.out.keep (by omega) hb); have Tb := Lib.hid (Ta.out.trans (hb.mono (B' := w.heap.size) (by omega))); have zb : w1.heap.size < wb.heap.size := (Nat.lt_of_lt_of_le za hb.size); clear hb p0 p1 p2; obtain ⟨p0, p1, p2⟩ := Pb.out)
        | (go_at_call 16; refine (specMeasureOk_any W t k wb).mono ?_; rintro e wd ⟨he, hb⟩; rw [HM.out] at he; subst he; have Pd := Lib.hid (hold3 hb zb Pb.out); have Id := Lib.hid (Ib.out.keep (by omega) hb); have Td := Lib.hid (Tb.out.trans (hb.mono (B' := w.heap.size) (by omega))); have zd : w1.heap.size < wd.heap.size := (Nat.lt_of_lt_of_le zb hb.size); clear hb p0 p1 p2; obtain ⟨p0, p1, p2⟩ := Pd.out)
        | (go_at_call 17; refine (specTextOk_any _ m c1 zs wd Hl.out hm2 Id.out.ints).mono ?_; rintro e wd' ⟨he, rfl⟩; rw [HX.out] at he; subst he)
        | (go_at_call 18; refine (implAt_any W t k Aw m c1 zs i L wd Hl.out Hmc.out Hcm.out Id.out.ints (by omega) HL.out).mono ?_; rintro e we ⟨v, rfl, hO, hb⟩; rw [HB.out]; obtain ⟨AL, cL, rfl, hI, _⟩ := hO.form; have Le := Lib.hid hI; clear hO hI; have Pe := Lib.hid (hold3 hb zd Pd.out); have Ie := Lib.hid (Id.out.keep (by omega) hb); have Te := Lib.hid (Td.out.trans (hb.mono (B' := w.heap.size) (by omega))); have ze : w1.heap.size < we.heap.size := (Nat.lt_of_lt_of_le zd hb.size); clear hb p0 p1 p2; obtain ⟨p0, p1, p2⟩ := Pe.out)
        | (go_at_call 19; refine (implIsBreaking_any W t k Aw m c1 zs _ _ _ L we Hl.out Hmc.out Hcm.out Ie.out.ints rfl HQ.out Le.out).mono ?_; rintro e wf ⟨he, hb⟩; rw [HBk.out] at he; subst he; have Pf := Lib.hid (hold3 hb ze Pe.out); have If := Lib.hid (Ie.out.keep (by omega) hb); have Tf := Lib.hid (Te.out.trans (hb.mono (B' := w.heap.size) (by omega))); have zf : w1.heap.size < wf.heap.size := (Nat.lt_of_lt_of_le ze hb.size); have Lf := Lib.hid (Le.out.below hb); clear hb p0 p1 p2; obtain ⟨p0, p1, p2⟩ := Pf.out)
        | (go_at_call 20; refine (implIndex_any W t k Aw m c1 zs _ _ _ L wf Hl.out Hmc.out Hcm.out If.out.ints rfl HQ.out Lf.out).mono ?_; rintro e wh ⟨he, hb⟩; rw [HIx.out] at he; subst he; have Ph := Lib.hid (hold3 hb zf Pf.out); have Ih := Lib.hid (If.out.keep (by omega) hb); have Th := Lib.hid (Tf.out.trans (hb.mono (B' := w.heap.size) (by omega))); have zh : w1.heap.size < wh.heap.size := (Nat.lt_of_lt_of_le zf hb.size); have Lh := Lib.hid (Lf.out.below hb); clear hb p0 p1 p2; obtain ⟨p0, p1, p2⟩ := Ph.out)
        | (go_at_call 21; refine (totalG_any _ _ _ L wh rfl Lh.out HZ.out (by omega)).mono ?_; rintro e wh' ⟨he, rfl⟩; rw [HS.out] at he; subst he))
    go_ret
    exact ⟨ret_bool (by simp), Th.out⟩
  · have hB : atB ⟨W, t, k⟩ zs i = false := by rw [hAB, Bool.and_eq_false_iff]; simp only [decide_eq_false_iff_not]; omega
    have hE : L = [] := by have := hL; unfold AtR at this; rw [hB] at this; simpa using this
    subst hE
    have HB := Lib.hid hB
    have hC0 : decide (0 ≤ C) = true := decide_eq_true (by omega)
    have Hin := Lib.hid hin
    clear hC ho hL hL2 hAB hB h40 hin
    by_cases hneg : i < 0
    · have d1 : decide (i < 0) = true := decide_eq_true hneg
      go_wp2_with (first
          | (go_at_call 15; clear hwa; refine (implCntB_any W t k Aw m c1 zs wa Hl.out Hmc.out Hcm.out Ia.out.ints).mono ?_; rintro e wb ⟨rfl, hb⟩; rw [HC.out]; have Pb := Lib.hid (hold3 hb za Pa.out); have Ib := Lib.hid (Ia.out.keep (by omega) hb); have Tb := Lib.hid (Ta.out.trans (hb.mono (B' := w.heap.size) (by omega))); have zb : w1.heap.size < wb.heap.size := (Nat.lt_of_lt_of_le za hb.size); clear hb p0 p1 p2; obtain ⟨p0, p1, p2⟩ := Pb.out)
          | (go_at_call 16; refine (specMeasureOk_any W t k wb).mono ?_; rintro e wd ⟨he, hb⟩; rw [HM.out] at he; subst he; have Pd := Lib.hid (hold3 hb zb Pb.out); have Id := Lib.hid (Ib.out.keep (by omega) hb); have Td := Lib.hid (Tb.out.trans (hb.mono (B' := w.heap.size) (by omega))); have zd : w1.heap.size < wd.heap.size := (Nat.lt_of_lt_of_le zb hb.size); clear hb p0 p1 p2; obtain ⟨p0, p1, p2⟩ := Pd.out)
          | (go_at_call 17; refine (specTextOk_any _ m c1 zs wd Hl.out hm2 Id.out.ints).mono ?_; rintro e wd' ⟨he, rfl⟩; rw [HX.out] at he; subst he)
          | (go_at_call 18; refine (implAt_any W t k Aw m c1 zs i [] wd Hl.out Hmc.out Hcm.out Id.out.ints (by omega) HL.out).mono ?_; rintro e we ⟨v, rfl, hO, hb⟩; rw [HB.out]; obtain ⟨AL, cL, rfl, hI, _⟩ := hO.form; have Le := Lib.hid hI; clear hO hI; have Pe := Lib.hid (hold3 hb zd Pd.out); have Ie := Lib.hid (Id.out.keep (by omega) hb); have Te := Lib.hid (Td.out.trans (hb.mono (B' := w.heap.size) (by omega))); have ze : w1.heap.size < we.heap.size := (Nat.lt_of_lt_of_le zd hb.size); clear hb p0 p1 p2; obtain ⟨p0, p1, p2⟩ := Pe.out))
      go_ret
      exact ⟨rfl, Te.out⟩
    · have d1 : decide (i < 0) = false := decide_eq_false hneg
      have d2 : decide (C ≤ i) = true := decide_eq_true (by have := Hin.out; omega)
      go_wp2_with (first
          | (go_at_call 15; clear hwa; refine (implCntB_any W t k Aw m c1 zs wa Hl.out Hmc.out Hcm.out Ia.out.ints).mono ?_; rintro e wb ⟨rfl, hb⟩; rw [HC.out]; have Pb := Lib.hid (hold3 hb za Pa.out); have Ib := Lib.hid (Ia.out.keep (by omega) hb); have Tb := Lib.hid (Ta.out.trans (hb.mono (B' := w.heap.size) (by omega))); have zb : w1.heap.size < wb.heap.size := (Nat.lt_of_lt_of_le za hb.size); clear hb p0 p1 p2; obtain ⟨p0, p1, p2⟩ := Pb.out)
          | (go_at_call 16; refine (specMeasureOk_any W t k wb).mono ?_; rintro e wd ⟨he, hb⟩; rw [HM.out] at he; subst he; have Pd := Lib.hid (hold3 hb zb Pb.out); have Id := Lib.hid (Ib.out.keep (by omega) hb); have Td := Lib.hid (Tb.out.trans (hb.mono (B' := w.heap.size) (by omega))); have zd : w1.heap.size < wd.heap.size := (Nat.lt_of_lt_of_le zb hb.size); clear hb p0 p1 p2; obtain ⟨p0, p1, p2⟩ := Pd.out)
          | (go_at_call 17; refine (specTextOk_any _ m c1 zs wd Hl.out hm2 Id.out.ints).mono ?_; rintro e wd' ⟨he, rfl⟩; rw [HX.out] at he; subst he)
          | (go_at_call 18; refine (implAt_any W t k Aw m c1 zs i [] wd Hl.out Hmc.out Hcm.out Id.out.ints (by omega) HL.out).mono ?_; rintro e we ⟨v, rfl, hO, hb⟩; rw [HB.out]; obtain ⟨AL, cL, rfl, hI, _⟩ := hO.form; have Le := Lib.hid hI; clear hO hI; have Pe := Lib.hid (hold3 hb zd Pd.out); have Ie := Lib.hid (Id.out.keep (by omega) hb); have Te := Lib.hid (Td.out.trans (hb.mono (B' := w.heap.size) (by omega))); have ze : w1.heap.size < we.heap.size := (Nat.lt_of_lt_of_le zd hb.size); clear hb p0 p1 p2; obtain ⟨p0, p1, p2⟩ := Pe.out))
      go_ret
      exact ⟨rfl, Te.out⟩
end Go.Proofs.Ytddkedinkgnboaa
