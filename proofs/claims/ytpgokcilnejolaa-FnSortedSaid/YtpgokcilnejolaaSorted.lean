/-
  FnSorted: the draw of its bar and its walk. No condition.
-/
import Derived.Test.YtpgokcilnejolaaOrdered
import Derived.Test.YtpgokcilnejolaaLawKit
namespace Go.Proofs.Ytpgokcilnejolaa
open Go.RowKit
set_option linter.unusedVariables false

set_option maxRecDepth 100000 in
set_option maxHeartbeats 3200000 in
theorem drawSorts_any (A : Option Addr) (n c : Nat) (bs : List Int) (w : World) (hn : bs.length = n) (hm : n ≤ maxLen) (h : Bytes w A bs) (wf : ∀ z ∈ bs, (Lit.int .u8 z).wf = true) :
    Calls Try.prog 50 #[.slice A n c] w fun e w' => ∃ (A' : Option Addr) (n' c' : Nat) (zs : List Int), e = .returned (.slice A' n' c') ∧ Own w' w.heap.size (.slice A' n' c') zs ∧ zs.length = n' ∧ n' ≤ 42 ∧ n' ≤ c' ∧ c' ≤ maxLen ∧ Below w.heap.size w w' := by
  have H := Lib.hid h; have Hn := Lib.hid hn; have Hwf := Lib.hid wf
  clear h hn wf
  go_enter Try.func50, Try.ntmps50
  go_wp2_with fail
  refine (l01New_any _ _ _ bs _ Hn.out hm H.out Hwf.out).mono ?_
  rintro e w1 ⟨rfl, hc1, hb1, hs1⟩
  have HB1 := Lib.hid hb1; have HS1 := Lib.hid hs1; have HC1 := Lib.hid hc1
  have hsz1 : w.heap.size < w1.heap.size := by omega
  clear hc1 hb1 hs1
  go_wp2_with fail
  refine (l1Any_any _ _ HC1.out).mono ?_
  rintro e w2 ⟨v, zs, rfl, hO2, hz, hc2⟩
  obtain ⟨A2, n2, c2, rfl, hn2, hO2', hnc2, hcm2⟩ := own_form3 hO2
  have hn42 : n2 ≤ 42 := by omega
  have HN2 := Lib.hid hn2; have HO2 := Lib.hid hO2'; have HC2 := Lib.hid hc2
  clear hO2 hO2' hn2 hz hc2
  by_cases hpos : 1 < n2
  · have t1 : decide (1 < (n2 : Int)) = true := by rw [decide_eq_true_eq]; omega
    go_wp2_with fail
    refine (once_cm w2 _ _ _ (CM.of HC2.out.1)).mono ?_
    rintro e w3 ⟨b, rfl, hc3, -⟩
    have HO3 := Lib.hid (HO2.out.grown_lt hc3.2 (fun k hk => by injection hk with hk; omega))
    have HC3 : Hid (CM w1 w3 w.heap.size) := ⟨hc3.1, HC2.out.2.trans hc3.2⟩
    have hsz3 : w1.heap.size ≤ w3.heap.size := HC3.out.2.size
    clear hc3 HC2 HO2
    cases b
    · go_wp2
      go_ret
      exact ⟨_, _, _, zs, rfl, own_base HO3.out (by omega), HN2.out, hn42, hnc2, hcm2, cm_below HB1.out HS1.out HC3.out⟩
    · go_wp2_with fail
      have hn21 : (n2 : Int) - 1 = ((n2 - 1 : Nat) : Int) := by omega
      refine (below_cm w3 _ _ _ (by omega) (CM.of HC3.out.1)).mono ?_
      rintro e w4 ⟨j, rfl, hj, hc4, -⟩
      clear hn21
      have hj1 : j + 1 < n2 := by omega
      have HO4 := Lib.hid (HO3.out.grown_lt hc4.2 (fun k hk => by injection hk with hk; omega))
      have HC4 : Hid (CM w1 w4 w.heap.size) := ⟨hc4.1, HC3.out.2.trans hc4.2⟩
      have hsz4 : w1.heap.size ≤ w4.heap.size := HC4.out.2.size
      clear hc4 HC3 HO3
      obtain ⟨gb, m, cc, hv, hm2, hgb, _, _, _, hrow⟩ := own_form2 HO4.out (by rw [HN2.out]; omega)
      injection hv with e1 e2 e3
      subst e1; subst e2; subst e3
      clear hrow hm2
      obtain ⟨⟨y, hd⟩, hf, hst⟩ := own_store HO4.out HN2.out (show j < n2 by omega)
      obtain ⟨⟨y', hd'⟩, _, _⟩ := own_store HO4.out HN2.out (show j + 1 < n2 by omega)
      have HS4 := Lib.hid (hst y')
      clear hst
      have hj2 : (j : Int) < (n2 : Int) := by omega
      have hl2 : (zs.set j y').length = n2 := by rw [List.length_set]; exact HN2.out
      obtain ⟨⟨y2, hd2⟩, hf2, hst2⟩ := own_store HS4.out hl2 (show j + 1 < n2 by omega)
      have HS5 := Lib.hid (hst2 y)
      have HL5 : Hid (((zs.set j y').set (j + 1) y).length = n2) := by show _ = _; rw [List.length_set]; exact hl2
      have HC5 : Hid (CM w1 ((w4.setCell ⟨gb, j, none⟩ (.int .i64 y')).setCell ⟨gb, j + 1, none⟩ (.int .i64 y)) w.heap.size) :=
        ⟨(HC4.out.1.set_other (by show w.heap.size < gb; omega) _).set_other (by show w.heap.size < gb; omega) _, (HC4.out.2.set_new (by show w1.heap.size ≤ gb; omega) _).set_new (by show w1.heap.size ≤ gb; omega) _⟩
      clear hst2 hl2
      go_wp2
      go_ret
      exact ⟨_, _, _, _, rfl, own_base HS5.out (by omega), HL5.out, hn42, hnc2, hcm2, cm_below HB1.out HS1.out HC5.out⟩
  · have t1 : decide (1 < (n2 : Int)) = false := by rw [decide_eq_false_iff_not]; omega
    go_wp2
    go_ret
    exact ⟨_, _, _, zs, rfl, own_base HO2.out (by omega), HN2.out, hn42, hnc2, hcm2, cm_below HB1.out HS1.out HC2.out⟩

theorem drawOrder_any (A : Option Addr) (n c : Nat) (bs : List Int) (w : World) (hn : bs.length = n) (hm : n ≤ maxLen) (h : Bytes w A bs) (wf : ∀ z ∈ bs, (Lit.int .u8 z).wf = true) :
    Calls Try.prog 18 #[.slice A n c] w fun e w' => ∃ (A' : Option Addr) (n' c' : Nat) (zs : List Int), e = .returned (.slice A' n' c') ∧ Own w' w.heap.size (.slice A' n' c') zs ∧ zs.length = n' ∧ n' ≤ 42 ∧ n' ≤ c' ∧ c' ≤ maxLen ∧ Below w.heap.size w w' := by
  have Hn := Lib.hid hn; have H := Lib.hid h; have Hwf := Lib.hid wf
  clear hn h wf
  go_enter Try.func18, Try.ntmps18
  go_wp2_with fail
  refine (drawSorts_any _ _ _ bs _ Hn.out hm H.out Hwf.out).mono ?_
  rintro e w1 ⟨A1, n1, c1, zs, rfl, hO1, hn1, rest⟩
  have HN1 := Lib.hid hn1; have HR := Lib.hid rest
  clear hn1 rest
  go_wp2
  go_ret
  exact ⟨_, _, _, zs, rfl, hO1, HN1.out, HR.out⟩

theorem cnt_none {zs : List Int} {k : Nat} {x : Int} (h : cntOf (zs.take k) x = 0) : (zs.take k).contains x = false := by
  unfold cntOf at h
  rw [List.count_eq_zero] at h
  rw [← Bool.not_eq_true, List.contains_iff_mem]
  exact h

set_option maxRecDepth 100000 in
set_option maxHeartbeats 3200000 in
theorem fnSorted_walk (A : Option Addr) (n c : Nat) (bs : List Int) (w : World) (hn : bs.length = n) (hm : n ≤ maxLen) (h : Bytes w A bs) (wf : ∀ z ∈ bs, (Lit.int .u8 z).wf = true) :
    Calls Try.prog 3 #[.slice A n c] w fun e w' => e = .returned (.bool true) ∧ Below w.heap.size w w' := by
  have H := Lib.hid h; have Hn := Lib.hid hn; have Hwf := Lib.hid wf
  clear h hn wf
  have hm0 := hm
  unfold maxLen at hm
  by_cases hbig : 1048576 < n
  · go_enter Try.func3, Try.ntmps3
    go_wp2
    go_ret
    exact ⟨rfl, Below.refl _ _⟩
  go_enter Try.func3, Try.ntmps3
  go_wp2_with fail
  refine (drawOrder_any _ _ _ bs _ Hn.out hm0 H.out Hwf.out).mono ?_
  rintro e w1 ⟨A1, n1, c1, zs, rfl, hO1, hn1, hn42, hnc1, hcm1, hb1⟩
  have HI := Lib.hid (own_ints hO1); have HN := Lib.hid hn1; have HB := Lib.hid hb1
  have hm1 : n1 ≤ maxLen := by unfold maxLen; omega
  unfold maxLen at hcm1
  clear hO1 hn1 hb1
  go_wp2
  go_loop [15] (fun i => ∃ k : Nat, k ≤ n1 ∧ i = .int .i64 k ∧ distTo zs k = true) (fun i => n1 - (intOf i).toNat)
  case atStart => exact ⟨0, Nat.zero_le _, rfl, rfl⟩
  case round =>
    obtain ⟨k, hk, rfl, hd⟩ := hrel
    have HD := Lib.hid hd
    clear hd
    by_cases hlt : k < n1
    · obtain ⟨ad, x, rfl, hx, hc⟩ := HI.out.at_ (k := k) (by rw [HN.out]; exact hlt)
      have HLT : Hid ((zs.take k).length = k) := by show _ = _; rw [List.length_take, HN.out]; omega
      have hkm : k ≤ maxLen := by unfold maxLen; omega
      have hkc : k ≤ c1 := by omega
      obtain ⟨q, hq⟩ : ∃ q, cntOf (zs.take k) x = q := ⟨_, rfl⟩
      have HQ := Lib.hid hq
      clear hq
      by_cases hq0 : q = 0
      · have HDN := Lib.hid (distTo_succ hx.out HD.out (cnt_none (by rw [HQ.out]; exact hq0)))
        subst hq0
        go_wp2_with (go_at_call 19; refine (lawCount_any _ _ _ (zs.take k) x _ HLT.out hkm (ints_take HI.out)).mono ?_; rintro e w' ⟨rfl, rfl⟩; rw [HQ.out])
        go_round
        case rel => exact ⟨k + 1, by omega, by go_num, HDN.out⟩
        case measure => simp [intOf]; omega
      · have t1 : decide (0 < (q : Int)) = true := by rw [decide_eq_true_eq]; omega
        have t2 : decide (0 < q) = true := by rw [decide_eq_true_eq]; omega
        go_wp2_with (go_at_call 19; refine (lawCount_any _ _ _ (zs.take k) x _ HLT.out hkm (ints_take HI.out)).mono ?_; rintro e w' ⟨rfl, rfl⟩; rw [HQ.out])
        go_ret
        exact ⟨rfl, HB.out⟩
    · obtain rfl : k = n1 := by omega
      have hdist : distB zs = true := by have := HD.out; rwa [distTo_full HN.out] at this
      cases hbar : isBar zs
      · go_wp2_with (first
          | (go_at_call 20; refine (specIsBar_any _ _ _ zs _ HN.out hm1 HI.out).mono ?_; rintro e w' ⟨rfl, rfl⟩; rw [hbar])
          | (go_at_call 21; refine (implIsBar_any _ _ _ zs _ HN.out hm1 HI.out).mono ?_; rintro e w' ⟨rfl, rfl⟩; rw [hbar]))
        go_ret
        exact ⟨rfl, HB.out⟩
      · have hsets : setsB zs = true := by unfold setsB; rw [hdist, hbar]; rfl
        have hdi := (distB_iff zs).1 hdist
        have hpo := ord_perm (bar_set hbar) hdi
        rw [HN.out] at hpo
        have HE := Lib.hid (srt_perm hpo)
        have HS1 := Lib.hid (sorts_ord hbar hdi)
        rw [HN.out] at HS1
        have HS2 := Lib.hid (sorts_asc hbar hdi)
        have HOL : Hid ((ordAt zs k).length = k) := by show _ = _; rw [hpo.length_eq, HN.out]
        have HSL : Hid ((srt zs).length = k) := by show _ = _; rw [srt_len, HN.out]
        have HSL1 : Hid ((srt (ordAt zs k)).length = k) := by show _ = _; rw [HE.out]; exact HSL.out
        have hk20 : k ≤ 1048576 := by omega
        clear hpo hdi hdist
        go_wp2_with (go_at_call 20; refine (specIsBar_any _ _ _ zs _ HN.out hm1 HI.out).mono ?_; rintro e w' ⟨rfl, rfl⟩; rw [hbar])
        refine (implOrder_yes _ _ _ zs _ HN.out HI.out hsets).mono ?_
        rintro e w2 ⟨v2, rfl, hO2, hb2⟩
        obtain ⟨A2, n2, c2, rfl, hn2, hO2', hnc2, hcm2⟩ := own_form3 hO2
        obtain rfl : n2 = k := by rw [← hn2]; exact HOL.out
        have HI2 := Lib.hid (own_ints hO2'); have HB2 := Lib.hid hb2
        have HIz := Lib.hid (HI.out.below hb2)
        clear hO2 hO2' hn2 hb2 hnc2 hcm2
        go_wp2_with fail
        refine (ordered_any _ _ _ (ordAt zs n2) _ HOL.out hk20 HI2.out).mono ?_
        rintro e w3 ⟨A3, c3, rfl, hO3, hb3⟩
        have HI3 := Lib.hid (own_ints hO3); have HB3 := Lib.hid (HB2.out.trans (hb3.mono HB2.out.size))
        have HIz3 := Lib.hid (HIz.out.below hb3); have HI23 := Lib.hid (HI2.out.below hb3)
        clear hO3 hb3
        go_wp2_with fail
        refine (ordered_any _ _ _ zs _ HN.out hk20 HIz3.out).mono ?_
        rintro e w4 ⟨A4, c4, rfl, hO4, hb4⟩
        have HI4 := Lib.hid (own_ints hO4); have HB4 := Lib.hid (HB3.out.trans (hb4.mono HB3.out.size))
        have HIz4 := Lib.hid (HIz3.out.below hb4); have HI24 := Lib.hid (HI23.out.below hb4); have HI34 := Lib.hid (HI3.out.below hb4)
        clear hO4 hb4
        have HEQ : Hid (decide (srt (ordAt zs n2) = srt zs) = true) := by show _ = _; rw [HE.out]; exact decide_eq_true rfl
        go_wp2_with fail
        refine (lawInts_any _ _ _ _ _ _ (srt (ordAt zs n2)) (srt zs) _ HSL1.out HSL.out hm1 hm1 HI34.out HI4.out).mono ?_
        rintro e w5 ⟨k5, rfl, rfl⟩
        rw [HEQ.out]
        go_wp2_with fail
        refine (implSortsAll_any _ _ _ (ordAt zs n2) _ HOL.out hm1 (HI24.out.drewN k5)).mono ?_
        rintro e w' ⟨rfl, rfl⟩
        rw [HS1.out]
        go_wp2_with fail
        refine (ordered_any _ _ _ zs _ HN.out hk20 (HIz4.out.drewN k5)).mono ?_
        rintro e w6 ⟨A6, c6, rfl, hO6, hb6⟩
        have HI6 := Lib.hid (own_ints hO6); have HB6 := Lib.hid ((below_drewN HB4.out k5).trans (hb6.mono HB4.out.size))
        clear hO6 hb6
        go_wp2_with fail
        refine (implSortsAll_any _ _ _ (srt zs) _ HSL.out hm1 HI6.out).mono ?_
        rintro e w' ⟨rfl, rfl⟩
        rw [HS2.out]
        go_wp2
        go_ret
        exact ⟨rfl, HB.out.trans (HB6.out.mono HB.out.size)⟩
end Go.Proofs.Ytpgokcilnejolaa
