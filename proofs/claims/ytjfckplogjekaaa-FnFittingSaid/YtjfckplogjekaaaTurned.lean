/-
  FnTurned: its walk. No condition.
-/
import Derived.Test.YtjfckplogjekaaaDrawQ
import Derived.Test.YtjfckplogjekaaaSpreadI
import Derived.Test.YtjfckplogjekaaaLawKit
import Derived.Outline
import Derived.Deep.QuietTactic
import Derived.BigQuiet
namespace Go.Proofs.Ytjfckplogjekaaa
open Go.RowKit
set_option linter.unusedVariables false

theorem own_ints1 {w : World} {B n c : Nat} {A : Option Addr} {zs : List Int} (h : Own w B (.slice A n c) zs) : Ints w A zs := by
  obtain ⟨A', c', hv, hI, _⟩ := h.form
  injection hv with h1 h2 h3
  subst h1
  exact hI
theorem cntOf_bands (zs : List Int) : cntOf zs 0 = bandsN zs := by
  unfold cntOf
  induction zs with
  | nil => rfl
  | cons x xs ih =>
    rw [List.count_cons, ih, bandsN]
    by_cases h : x = 0
    · subst h; simp; omega
    · rw [if_neg h, if_neg (by simpa using h)]; omega
theorem sumL_rev (zs : List Int) : sumL zs.reverse = sumL zs := by
  induction zs with
  | nil => rfl
  | cons x xs ih => rw [List.reverse_cons, sumL_append, ih]; simp only [sumL]; omega
theorem bandsN_rev (zs : List Int) : bandsN zs.reverse = bandsN zs := by
  induction zs with
  | nil => rfl
  | cons x xs ih => rw [List.reverse_cons, bandsN_append, ih]; simp only [bandsN]; omega
theorem lineB_rev (zs : List Int) : lineB zs.reverse = lineB zs := by
  unfold lineB itemsB
  rw [List.all_reverse, List.length_reverse]
theorem goodB_rev (m : Msr) (zs : List Int) : goodB m zs.reverse = goodB m zs := by
  unfold goodB fitsB fitL widL
  rw [lineB_rev, sumL_rev, bandsN_rev]
theorem turn_same (m : Msr) (zs : List Int) : wid1 m zs.reverse = wid1 m zs ∧ wid2 m zs.reverse = wid2 m zs ∧ okB m zs.reverse = okB m zs ∧ rise1 m zs.reverse = rise1 m zs ∧ rest1 m zs.reverse = rest1 m zs := by
  unfold wid1 wid2 okB rise1 rest1 widL riseL restL
  rw [goodB_rev, lineB_rev, sumL_rev, bandsN_rev]
  simp
theorem drop_rev {zs : List Int} {j : Nat} {x : Int} (h : zs[j]? = some x) : (zs.drop (j + 1)).reverse ++ [x] = (zs.drop j).reverse := by
  have hj := lt_at h
  have : zs.drop j = zs[j] :: zs.drop (j + 1) := List.drop_eq_getElem_cons hj
  rw [this, List.reverse_cons]
  have hx : zs[j] = x := (List.getElem?_eq_some_iff.1 h).2
  rw [hx]
/-- what the last test of FnTurned asks -/
theorem turn_end {m : Msr} {zs : List Int} (h : okB m zs = true) : wid2 m zs - wid1 m zs = bandsN zs * (m.k - m.t) ∧ goodB m zs = decide (wid1 m zs ≤ m.w) ∧ 0 ≤ wid1 m zs ∧ wid1 m zs ≤ 1000000 ∧ 0 ≤ wid2 m zs ∧ wid2 m zs ≤ 1000000 ∧ 0 ≤ m.k - m.t ∧ m.k - m.t ≤ 100 ∧ bandsN zs ≤ 120 ∧ -1000 ≤ m.t ∧ m.t ≤ 1000 ∧ -1000 ≤ m.k ∧ m.k ≤ 1000 := by
  have h0 := h
  unfold okB at h
  rw [Bool.and_eq_true] at h
  obtain ⟨h1, h2⟩ := h
  have hM := msrB_iff.1 h1
  have hs := lineB_sum h2
  have m1 := mul_small (B := bandsN zs) (e := m.t) (by omega) (by omega) (by omega) (by omega)
  have m2 := mul_small (B := bandsN zs) (e := m.k) (by omega) (by omega) (by omega) (by omega)
  have e1 : wid1 m zs = sumL zs + bandsN zs * m.t := by unfold wid1; rw [h0]; rfl
  have e2 : wid2 m zs = sumL zs + bandsN zs * m.k := by unfold wid2; rw [h0]; rfl
  have hg : goodB m zs = decide (wid1 m zs ≤ m.w) := by unfold goodB fitsB fitL; rw [h1, h2, e1]; rfl
  refine ⟨by rw [e1, e2, Int.mul_sub]; omega, hg, ?_⟩
  rw [e1, e2]
  omega
theorem good_no_ok {m : Msr} {zs : List Int} (h : okB m zs = false) : goodB m zs = false := by
  cases hg : goodB m zs
  · rfl
  · obtain ⟨h1, h2, _⟩ := goodB_parts hg
    unfold okB at h; rw [h1, h2] at h; cases h

theorem count_quiet {A : Option Addr} {n c k : Nat} {zs : List Int} {w : World} (hn : zs.length = n) (hm : n ≤ maxLen) (h : Ints w A zs) :
    Calls Try.prog 27 #[.slice A n c, .int .i64 0] (w.drewN k) fun e w'' => e = .returned (.int .i64 (bandsN zs : Int)) ∧ ∃ m, w'' = w.drewN m := by
  have h' : Ints (w.drewN k) A zs := h
  refine (lawCount_any A n c zs 0 _ hn hm h').mono ?_
  rintro e w' ⟨rfl, rfl⟩
  exact ⟨by rw [cntOf_bands], k, rfl⟩

set_option maxRecDepth 100000 in
set_option maxHeartbeats 6400000 in
theorem fnTurned_walk (A : Option Addr) (n c : Nat) (bs : List Int) (w : World) (hn : bs.length = n) (hm : n ≤ maxLen) (h : Bytes w A bs) (wf : ∀ z ∈ bs, (Lit.int .u8 z).wf = true) :
    Calls Try.prog 6 #[.slice A n c] w fun e w' => e = .returned (.bool true) ∧ Below w.heap.size w w' := by
  have H := Lib.hid h; have Hn := Lib.hid hn; have Hwf := Lib.hid wf
  clear h hn wf
  have hm0 := hm
  unfold maxLen at hm
  by_cases hbig : 1048576 < n
  · go_enter Try.func6, Try.ntmps6
    go_wp2
    go_ret
    exact ⟨rfl, Below.refl _ _⟩
  go_enter Try.func6, Try.ntmps6
  go_wp2_with fail
  refine (drawWidths_any _ _ _ bs _ Hn.out hm0 H.out Hwf.out).mono ?_
  rintro e w1 ⟨W, t, k, gb, m, c1, zs, rfl, hl, hm1, hmc, hcm, hO1, hb1⟩
  have I1 := Lib.hid (IntsB.of (own_ints1 hO1)); have Hl := Lib.hid hl; have T1 := Lib.hid hb1
  have z1 := hb1.size
  clear hO1 hl hb1 hcm
  obtain ⟨w2, hw2⟩ : ∃ w2, w1.alloc (.cells #[.int .i64 W, .int .i64 t, .int .i64 k] 24) = w2 := ⟨_, rfl⟩
  have hb2 : Below w1.heap.size w1 w2 := by rw [← hw2]; exact below_new _ _
  have P2 : Hid (w2.cell? ⟨w1.heap.size, 0, none⟩ = some (.int .i64 W) ∧ w2.cell? ⟨w1.heap.size, 1, none⟩ = some (.int .i64 t) ∧ w2.cell? ⟨w1.heap.size, 2, none⟩ = some (.int .i64 k)) := by show _ ∧ _; rw [← hw2]; exact lay3 w1 _ _ _ _
  have z2 : w1.heap.size < w2.heap.size := by rw [← hw2]; simp
  have I2 := Lib.hid (I1.out.keep (Nat.le_refl _) hb2); have T2 := Lib.hid (T1.out.trans (hb2.mono z1))
  clear hb2 I1 T1
  go_wp2_with fail
  clear hw2
  go_loopw [5, 6] (fun v i wr => ∃ j : Nat, j ≤ m ∧ i = .int .i64 ((j : Int) - 1) ∧ Own wr w2.heap.size v (zs.drop j).reverse ∧ Below w2.heap.size w2 wr) (fun _ i _ => (intOf i + 1).toNat)
  case atStart => exact ⟨m, Nat.le_refl _, rfl, by rw [List.drop_of_length_le (by rw [Hl.out]; exact Nat.le_refl _)]; exact World.ownsRow_lit w2 #[] 0 (Nat.le_refl _) (Nat.zero_le _) rfl, below_new _ _⟩
  case round =>
    obtain ⟨j, hj, rfl, hown, hb⟩ := hrel
    have HO := Lib.hid hown; have HB := Lib.hid hb
    have hsz := hb.size
    clear hown hb
    have HLen : Hid ((zs.drop j).reverse.length ≤ 1048576) := by show _ ≤ _; rw [List.length_reverse, List.length_drop, Hl.out]; omega
    by_cases hj0 : 0 < j
    · obtain ⟨i, rfl⟩ : ∃ i, j = i + 1 := ⟨j - 1, by omega⟩
      have hi : i < m := by omega
      obtain ⟨ad, x, hade, hx, hc⟩ := (I2.out.keep (by omega) HB.out).ints.at_ (k := i) (by rw [Hl.out]; exact hi)
      injection hade with hade
      subst hade
      have hij : ((i + 1 : Nat) : Int) - 1 = (i : Int) := by omega
      rw [hij]
      have HX := Lib.hid (drop_rev hx.out)
      clear hij
      rw [add_zero_at] at hc
      go_wp2_with (at_builtin; refine wpl_push wr rfl (.tmp 35) (.tmp 40) rfl w2.heap.size _ _ x rfl rfl HO.out hsz HLen.out ?_; intro v5 w5 hO5 hb5)
      rw [HX.out] at hO5
      have O5 := Lib.hid hO5; have B5 := Lib.hid (HB.out.trans hb5)
      clear hO5 hb5
      go_roundw
      case rel => exact ⟨i, by omega, rfl, O5.out, B5.out⟩
      case measure => simp [intOf]
    · obtain rfl : j = 0 := by omega
      rw [List.drop_zero] at HO
      obtain ⟨S1, S2, S3, S4, S5⟩ := turn_same ⟨W, t, k⟩ zs
      have hS1 := Lib.hid S1; have hS2 := Lib.hid S2; have hS3 := Lib.hid S3; have hS4 := Lib.hid S4; have hS5 := Lib.hid S5; have hS6 := Lib.hid (goodB_rev ⟨W, t, k⟩ zs)
      clear S1 S2 S3 S4 S5 HLen
      obtain ⟨A5, c5, hv5, _⟩ := HO.out.form
      rw [List.length_reverse, Hl.out] at hv5
      have Hv5 := Lib.hid hv5
      -- TAIL
      subst hv5
      have hm2 : m ≤ maxLen := by unfold maxLen; omega
      have Hr : Hid (zs.reverse.length = m) := by show _ = _; rw [List.length_reverse]; exact Hl.out
      have Pa := Lib.hid (hold3 HB.out z2 P2.out)
      have Ia := Lib.hid (I2.out.keep (by omega) HB.out)
      have Oa := Lib.hid (IntsB.of (own_ints1 HO.out))
      have Ta := Lib.hid (T2.out.trans (HB.out.mono (B' := w.heap.size) (by omega)))
      have za : w1.heap.size < wr.heap.size := by omega
      clear HO HB T2 P2 I2 hsz z2 Hv5
      obtain ⟨p0, p1, p2⟩ := Pa.out
      go_wp2_with fail
      have hq := implWidths_any W t k _ m c1 zs _ Hl.out hm2 Ia.out.ints
      refine hq.mono ?_
      clear hq p0 p1 p2
      rintro e wb ⟨rfl, hb⟩
      have Pb := Lib.hid (hold3 hb za Pa.out)
      have Ib := Lib.hid (Ia.out.keep (by omega) hb)
      have Ob := Lib.hid (Oa.out.keep (by first | exact Nat.le_refl _ | omega) hb)
      have Tb := Lib.hid (Ta.out.trans (hb.mono (B' := w.heap.size) (by omega)))
      have zb : w1.heap.size < wb.heap.size := Nat.lt_of_lt_of_le za hb.size
      have yb : wr.heap.size ≤ wb.heap.size := hb.size
      clear hb Pa Ia Oa Ta
      obtain ⟨p0, p1, p2⟩ := Pb.out
      go_wp2_with fail
      have hq := implWidths_any W t k _ m c5 zs.reverse _ Hr.out hm2 Ob.out.ints
      rw [hS1.out, hS2.out, hS3.out] at hq
      refine hq.mono ?_
      clear hq p0 p1 p2
      rintro e wc ⟨rfl, hb⟩
      have Pc := Lib.hid (hold3 hb zb Pb.out)
      have Ic := Lib.hid (Ib.out.keep (by omega) hb)
      have Oc := Lib.hid (Ob.out.keep (by first | exact Nat.le_refl _ | omega) hb)
      have Tc := Lib.hid (Tb.out.trans (hb.mono (B' := w.heap.size) (by omega)))
      have zc : w1.heap.size < wc.heap.size := Nat.lt_of_lt_of_le zb hb.size
      have yc : wr.heap.size ≤ wc.heap.size := Nat.le_trans yb hb.size
      clear hb Pb Ib Ob Tb
      have f1 : (wid1 ⟨W, t, k⟩ zs != wid1 ⟨W, t, k⟩ zs) = false := by simp
      have f2 : (wid2 ⟨W, t, k⟩ zs != wid2 ⟨W, t, k⟩ zs) = false := by simp
      have f3 : (okB ⟨W, t, k⟩ zs != okB ⟨W, t, k⟩ zs) = false := by simp
      cases hms : msrB ⟨W, t, k⟩
      · have hok : okB ⟨W, t, k⟩ zs = false := by unfold okB; rw [hms]; rfl
        have hg := good_no_ok hok
        rw [hok]
        obtain ⟨p0, p1, p2⟩ := Pc.out
        go_wp2_with fail
        refine (specMeasureOk_any W t k _).mono ?_
        clear p0 p1 p2
        rintro e wd ⟨he, hb⟩
        rw [hms] at he; subst he
        have Pd := Lib.hid (hold3 hb zc Pc.out)
        have Id := Lib.hid (Ic.out.keep (by omega) hb)
        have Od := Lib.hid (Oc.out.keep (by first | exact Nat.le_refl _ | omega) hb)
        have Td := Lib.hid (Tc.out.trans (hb.mono (B' := w.heap.size) (by omega)))
        have zd : w1.heap.size < wd.heap.size := Nat.lt_of_lt_of_le zc hb.size
        have yd : wr.heap.size ≤ wd.heap.size := Nat.le_trans yc hb.size
        clear hb Pc Ic Oc Tc
        obtain ⟨p0, p1, p2⟩ := Pd.out
        go_wp2_with fail
        have hq := implSpread_any W t k _ m c1 zs _ Hl.out hm2 Id.out.ints
        rw [hg] at hq
        refine hq.mono ?_
        clear hq p0 p1 p2
        rintro e we ⟨rfl, hb⟩
        have Pe := Lib.hid (hold3 hb zd Pd.out)
        have Ie := Lib.hid (Id.out.keep (by omega) hb)
        have Oe := Lib.hid (Od.out.keep (by first | exact Nat.le_refl _ | omega) hb)
        have Te := Lib.hid (Td.out.trans (hb.mono (B' := w.heap.size) (by omega)))
        have ze : w1.heap.size < we.heap.size := Nat.lt_of_lt_of_le zd hb.size
        have ye : wr.heap.size ≤ we.heap.size := Nat.le_trans yd hb.size
        clear hb Pd Id Od Td
        obtain ⟨p0, p1, p2⟩ := Pe.out
        go_wp2_with fail
        have hq := implSpread_any W t k _ m c5 zs.reverse _ Hr.out hm2 Oe.out.ints
        rw [hS4.out, hS5.out, hS6.out, hg] at hq
        refine hq.mono ?_
        clear hq p0 p1 p2
        rintro e wf ⟨rfl, hb⟩
        have Pf := Lib.hid (hold3 hb ze Pe.out)
        have If := Lib.hid (Ie.out.keep (by omega) hb)
        have Of := Lib.hid (Oe.out.keep (by first | exact Nat.le_refl _ | omega) hb)
        have Tf := Lib.hid (Te.out.trans (hb.mono (B' := w.heap.size) (by omega)))
        have zf : w1.heap.size < wf.heap.size := Nat.lt_of_lt_of_le ze hb.size
        have yf : wr.heap.size ≤ wf.heap.size := Nat.le_trans ye hb.size
        clear hb Pe Ie Oe Te
        obtain ⟨p0, p1, p2⟩ := Pf.out
        go_wp2_with fail
        go_quiet (fail)
        go_wp2
        go_ret
        exact ⟨rfl, below_drewN Tf.out _⟩
      cases hli : lineB zs
      · have hok : okB ⟨W, t, k⟩ zs = false := by unfold okB; rw [hms, hli]; rfl
        have hg := good_no_ok hok
        rw [hok]
        obtain ⟨p0, p1, p2⟩ := Pc.out
        go_wp2_with fail
        refine (specMeasureOk_any W t k _).mono ?_
        clear p0 p1 p2
        rintro e wd ⟨he, hb⟩
        rw [hms] at he; subst he
        have Pd := Lib.hid (hold3 hb zc Pc.out)
        have Id := Lib.hid (Ic.out.keep (by omega) hb)
        have Od := Lib.hid (Oc.out.keep (by first | exact Nat.le_refl _ | omega) hb)
        have Td := Lib.hid (Tc.out.trans (hb.mono (B' := w.heap.size) (by omega)))
        have zd : w1.heap.size < wd.heap.size := Nat.lt_of_lt_of_le zc hb.size
        have yd : wr.heap.size ≤ wd.heap.size := Nat.le_trans yc hb.size
        clear hb Pc Ic Oc Tc
        go_wp2_with fail
        refine (specLineOk_any _ m c1 zs _ Hl.out hm2 Id.out.ints).mono ?_
        rintro e wd2 ⟨he, rfl⟩
        rw [hli] at he; subst he
        obtain ⟨p0, p1, p2⟩ := Pd.out
        go_wp2_with fail
        have hq := implSpread_any W t k _ m c1 zs _ Hl.out hm2 Id.out.ints
        rw [hg] at hq
        refine hq.mono ?_
        clear hq p0 p1 p2
        rintro e we ⟨rfl, hb⟩
        have Pe := Lib.hid (hold3 hb zd Pd.out)
        have Ie := Lib.hid (Id.out.keep (by omega) hb)
        have Oe := Lib.hid (Od.out.keep (by first | exact Nat.le_refl _ | omega) hb)
        have Te := Lib.hid (Td.out.trans (hb.mono (B' := w.heap.size) (by omega)))
        have ze : w1.heap.size < we.heap.size := Nat.lt_of_lt_of_le zd hb.size
        have ye : wr.heap.size ≤ we.heap.size := Nat.le_trans yd hb.size
        clear hb Pd Id Od Td
        obtain ⟨p0, p1, p2⟩ := Pe.out
        go_wp2_with fail
        have hq := implSpread_any W t k _ m c5 zs.reverse _ Hr.out hm2 Oe.out.ints
        rw [hS4.out, hS5.out, hS6.out, hg] at hq
        refine hq.mono ?_
        clear hq p0 p1 p2
        rintro e wf ⟨rfl, hb⟩
        have Pf := Lib.hid (hold3 hb ze Pe.out)
        have If := Lib.hid (Ie.out.keep (by omega) hb)
        have Of := Lib.hid (Oe.out.keep (by first | exact Nat.le_refl _ | omega) hb)
        have Tf := Lib.hid (Te.out.trans (hb.mono (B' := w.heap.size) (by omega)))
        have zf : w1.heap.size < wf.heap.size := Nat.lt_of_lt_of_le ze hb.size
        have yf : wr.heap.size ≤ wf.heap.size := Nat.le_trans ye hb.size
        clear hb Pe Ie Oe Te
        obtain ⟨p0, p1, p2⟩ := Pf.out
        go_wp2_with fail
        go_quiet (fail)
        go_wp2
        go_ret
        exact ⟨rfl, below_drewN Tf.out _⟩
      have hok : okB ⟨W, t, k⟩ zs = true := by unfold okB; rw [hms, hli]; rfl
      obtain ⟨q1, q2, q3, q4, q5, q6, q7, q8, q9, q10, q11, q12, q13⟩ := turn_end hok
      have x1 : Hid (IntKind.i64.wrap (wid2 ⟨W, t, k⟩ zs - wid1 ⟨W, t, k⟩ zs) = (bandsN zs : Int) * (k - t)) := by show _ = _; rw [IntKind.wrap_i64, ← q1]; omega
      have x2 : Hid (IntKind.i64.wrap (k - t) = k - t) := by show _ = _; rw [IntKind.wrap_i64]; simp only at q7 q8; omega
      have x3 : Hid (IntKind.i64.wrap ((bandsN zs : Int) * (k - t)) = (bandsN zs : Int) * (k - t)) := by show _ = _; rw [IntKind.wrap_i64, ← q1]; omega
      clear q1 q3 q4 q5 q6 q7 q8 q9 q10 q11 q12 q13
      cases hg : goodB ⟨W, t, k⟩ zs
      · have hd : decide (wid1 ⟨W, t, k⟩ zs ≤ W) = false := by rw [← hg]; exact q2.symm
        clear q2
        rw [hok]
        obtain ⟨p0, p1, p2⟩ := Pc.out
        go_wp2_with fail
        refine (specMeasureOk_any W t k _).mono ?_
        clear p0 p1 p2
        rintro e wd ⟨he, hb⟩
        rw [hms] at he; subst he
        have Pd := Lib.hid (hold3 hb zc Pc.out)
        have Id := Lib.hid (Ic.out.keep (by omega) hb)
        have Od := Lib.hid (Oc.out.keep (by first | exact Nat.le_refl _ | omega) hb)
        have Td := Lib.hid (Tc.out.trans (hb.mono (B' := w.heap.size) (by omega)))
        have zd : w1.heap.size < wd.heap.size := Nat.lt_of_lt_of_le zc hb.size
        have yd : wr.heap.size ≤ wd.heap.size := Nat.le_trans yc hb.size
        clear hb Pc Ic Oc Tc
        go_wp2_with fail
        refine (specLineOk_any _ m c1 zs _ Hl.out hm2 Id.out.ints).mono ?_
        rintro e wd2 ⟨he, rfl⟩
        rw [hli] at he; subst he
        obtain ⟨p0, p1, p2⟩ := Pd.out
        go_wp2_with fail
        have hq := implSpread_any W t k _ m c1 zs _ Hl.out hm2 Id.out.ints
        rw [hg] at hq
        refine hq.mono ?_
        clear hq p0 p1 p2
        rintro e we ⟨rfl, hb⟩
        have Pe := Lib.hid (hold3 hb zd Pd.out)
        have Ie := Lib.hid (Id.out.keep (by omega) hb)
        have Oe := Lib.hid (Od.out.keep (by first | exact Nat.le_refl _ | omega) hb)
        have Te := Lib.hid (Td.out.trans (hb.mono (B' := w.heap.size) (by omega)))
        have ze : w1.heap.size < we.heap.size := Nat.lt_of_lt_of_le zd hb.size
        have ye : wr.heap.size ≤ we.heap.size := Nat.le_trans yd hb.size
        clear hb Pd Id Od Td
        obtain ⟨p0, p1, p2⟩ := Pe.out
        go_wp2_with fail
        have hq := implSpread_any W t k _ m c5 zs.reverse _ Hr.out hm2 Oe.out.ints
        rw [hS4.out, hS5.out, hS6.out, hg] at hq
        refine hq.mono ?_
        clear hq p0 p1 p2
        rintro e wf ⟨rfl, hb⟩
        have Pf := Lib.hid (hold3 hb ze Pe.out)
        have If := Lib.hid (Ie.out.keep (by omega) hb)
        have Of := Lib.hid (Oe.out.keep (by first | exact Nat.le_refl _ | omega) hb)
        have Tf := Lib.hid (Te.out.trans (hb.mono (B' := w.heap.size) (by omega)))
        have zf : w1.heap.size < wf.heap.size := Nat.lt_of_lt_of_le ze hb.size
        have yf : wr.heap.size ≤ wf.heap.size := Nat.le_trans ye hb.size
        clear hb Pe Ie Oe Te
        obtain ⟨p0, p1, p2⟩ := Pf.out
        go_wp2_with fail
        have v1 := x1.out; have v2 := x2.out; have v3 := x3.out
        go_quiet ((go_at_call 27; exact count_quiet Hl.out hm2 If.out.ints))
        go_wp2
        go_ret
        exact ⟨rfl, below_drewN Tf.out _⟩
      · have hd : decide (wid1 ⟨W, t, k⟩ zs ≤ W) = true := by rw [← hg]; exact q2.symm
        clear q2
        rw [hok]
        obtain ⟨p0, p1, p2⟩ := Pc.out
        go_wp2_with fail
        refine (specMeasureOk_any W t k _).mono ?_
        clear p0 p1 p2
        rintro e wd ⟨he, hb⟩
        rw [hms] at he; subst he
        have Pd := Lib.hid (hold3 hb zc Pc.out)
        have Id := Lib.hid (Ic.out.keep (by omega) hb)
        have Od := Lib.hid (Oc.out.keep (by first | exact Nat.le_refl _ | omega) hb)
        have Td := Lib.hid (Tc.out.trans (hb.mono (B' := w.heap.size) (by omega)))
        have zd : w1.heap.size < wd.heap.size := Nat.lt_of_lt_of_le zc hb.size
        have yd : wr.heap.size ≤ wd.heap.size := Nat.le_trans yc hb.size
        clear hb Pc Ic Oc Tc
        go_wp2_with fail
        refine (specLineOk_any _ m c1 zs _ Hl.out hm2 Id.out.ints).mono ?_
        rintro e wd2 ⟨he, rfl⟩
        rw [hli] at he; subst he
        obtain ⟨p0, p1, p2⟩ := Pd.out
        go_wp2_with fail
        have hq := implSpread_any W t k _ m c1 zs _ Hl.out hm2 Id.out.ints
        rw [hg] at hq
        refine hq.mono ?_
        clear hq p0 p1 p2
        rintro e we ⟨rfl, hb⟩
        have Pe := Lib.hid (hold3 hb zd Pd.out)
        have Ie := Lib.hid (Id.out.keep (by omega) hb)
        have Oe := Lib.hid (Od.out.keep (by first | exact Nat.le_refl _ | omega) hb)
        have Te := Lib.hid (Td.out.trans (hb.mono (B' := w.heap.size) (by omega)))
        have ze : w1.heap.size < we.heap.size := Nat.lt_of_lt_of_le zd hb.size
        have ye : wr.heap.size ≤ we.heap.size := Nat.le_trans yd hb.size
        clear hb Pd Id Od Td
        obtain ⟨p0, p1, p2⟩ := Pe.out
        go_wp2_with fail
        have hq := implSpread_any W t k _ m c5 zs.reverse _ Hr.out hm2 Oe.out.ints
        rw [hS4.out, hS5.out, hS6.out, hg] at hq
        refine hq.mono ?_
        clear hq p0 p1 p2
        rintro e wf ⟨rfl, hb⟩
        have Pf := Lib.hid (hold3 hb ze Pe.out)
        have If := Lib.hid (Ie.out.keep (by omega) hb)
        have Of := Lib.hid (Oe.out.keep (by first | exact Nat.le_refl _ | omega) hb)
        have Tf := Lib.hid (Te.out.trans (hb.mono (B' := w.heap.size) (by omega)))
        have zf : w1.heap.size < wf.heap.size := Nat.lt_of_lt_of_le ze hb.size
        have yf : wr.heap.size ≤ wf.heap.size := Nat.le_trans ye hb.size
        clear hb Pe Ie Oe Te
        obtain ⟨p0, p1, p2⟩ := Pf.out
        go_wp2_with fail
        have v1 := x1.out; have v2 := x2.out; have v3 := x3.out
        go_quiet ((go_at_call 27; exact count_quiet Hl.out hm2 If.out.ints))
        go_wp2
        go_ret
        exact ⟨rfl, below_drewN Tf.out _⟩
end Go.Proofs.Ytjfckplogjekaaa
