/-
  FnFitting: its walk. No condition.
-/
import Derived.Test.YtjfckplogjekaaaDrawF
import Derived.Test.YtjfckplogjekaaaFitN
import Derived.Test.YtjfckplogjekaaaLater
namespace Go.Proofs.Ytjfckplogjekaaa
open Go.RowKit
set_option linter.unusedVariables false

theorem cntF_le (m : Msr) (zs ys : List Int) : cntF m zs ys ≤ ys.length := by
  unfold cntF
  have := List.findIdx_le_length (xs := List.range ys.length) (p := fun k => !fitsB m (zs ++ ys.take (k + 1)))
  rwa [List.length_range] at this
theorem cntF_fits {m : Msr} {zs ys : List Int} (hg : goodB m zs = true) : goodB m (zs ++ ys.take (cntF m zs ys)) = true := by
  have hm := (goodB_parts hg).1
  have hf : fitsB m zs = true := by unfold goodB at hg; rw [hm] at hg; simpa using hg
  obtain ⟨F, hF⟩ : ∃ F, cntF m zs ys = F := ⟨_, rfl⟩
  rw [hF]
  rcases F with _ | F
  · rw [List.take_zero, List.append_nil]; exact hg
  · unfold goodB; rw [hm]
    have h1 : F < (List.range ys.length).findIdx (fun k => !fitsB m (zs ++ ys.take (k + 1))) := by
      have : cntF m zs ys = (List.range ys.length).findIdx (fun k => !fitsB m (zs ++ ys.take (k + 1))) := rfl
      omega
    have h2 := List.not_of_lt_findIdx h1
    simp at h2
    rw [h2]; rfl
theorem cntF_more {m : Msr} {zs ys : List Int} (h : cntF m zs ys < ys.length) : goodB m (zs ++ ys.take (cntF m zs ys + 1)) = false := by
  have h1 : (List.range ys.length).findIdx (fun k => !fitsB m (zs ++ ys.take (k + 1))) < (List.range ys.length).length := by rw [List.length_range]; exact h
  have h2 := List.findIdx_getElem (w := h1)
  simp at h2
  have h3 : fitsB m (zs ++ ys.take (cntF m zs ys + 1)) = false := h2
  unfold goodB; rw [h3]; simp
theorem spread_later {W t k : Int} {A : Option Addr} {n c g : Nat} {zs : List Int} {b : Bool} {w0 : World} (hn : zs.length = n) (hm : n ≤ maxLen) (hI : IntsB w0 g A zs) (hg : g ≤ w0.heap.size) (h : goodB ⟨W, t, k⟩ zs = b) (x : Later w0) :
    Calls Try.prog 20 #[.agg #[.int .i64 W, .int .i64 t, .int .i64 k], .slice A n c] x.at_ fun e w' => e = .returned (.tuple #[.int .i64 (rise1 ⟨W, t, k⟩ zs), .int .i64 (rest1 ⟨W, t, k⟩ zs), .bool b]) ∧ ∃ y : Later w0, w' = y.at_ := by
  refine (implSpread_any W t k A n c zs _ hn hm (hI.keep hg x.bel).ints).mono ?_
  rintro e w3 ⟨rfl, hb⟩
  exact ⟨by rw [h], ⟨_, x.bel.trans (hb.mono x.bel.size)⟩, rfl⟩
theorem take_join {zs ys : List Int} {m F : Nat} (h : zs.length = m) : (zs ++ ys).take (m + F) = zs ++ ys.take F := by
  subst h; rw [List.take_append, List.take_of_length_le (by omega)]; simp

set_option maxRecDepth 100000 in
set_option maxHeartbeats 1600000 in
theorem fnFitting_walk (A : Option Addr) (n c : Nat) (bs : List Int) (w : World) (hn : bs.length = n) (hm : n ≤ maxLen) (h : Bytes w A bs) (wf : ∀ z ∈ bs, (Lit.int .u8 z).wf = true) :
    Calls Try.prog 8 #[.slice A n c] w fun e w' => e = .returned (.bool true) ∧ Below w.heap.size w w' := by
  have H := Lib.hid h; have Hn := Lib.hid hn; have Hwf := Lib.hid wf
  clear h hn wf
  have hm0 := hm
  unfold maxLen at hm
  by_cases hbig : 1048576 < n
  · go_enter Try.func8, Try.ntmps8
    go_wp2
    go_ret
    exact ⟨rfl, Below.refl _ _⟩
  go_enter Try.func8, Try.ntmps8
  go_wp2_with fail
  refine (drawCount_any _ _ _ bs _ Hn.out hm0 H.out Hwf.out).mono ?_
  rintro e w1 ⟨W, t, k, gb, m, c1, zs, gd, md, cd, ys, rfl, hl, hm1, hmc, hcm, hO1, hl2, hm12, hmc2, hcm2, hO2, hb1⟩
  have I1 := Lib.hid (IntsB.of (own_ints1 hO1)); have J1 := Lib.hid (IntsB.of (own_ints1 hO2)); have Hl := Lib.hid hl; have Hl2 := Lib.hid hl2; have T1 := Lib.hid hb1
  have z1 := hb1.size
  have hm2 : m ≤ maxLen := by unfold maxLen; omega
  have hmd2 : md ≤ maxLen := by unfold maxLen; omega
  have Hcm2 := Lib.hid hcm2
  clear hO1 hO2 hl hl2 hb1 hcm hcm2
  obtain ⟨wa, hwa⟩ : ∃ wa, w1.alloc (.cells #[.int .i64 W, .int .i64 t, .int .i64 k] 24) = wa := ⟨_, rfl⟩
  have hb2 : Below w1.heap.size w1 wa := by rw [← hwa]; exact below_new _ _
  have Pa : Hid (wa.cell? ⟨w1.heap.size, 0, none⟩ = some (.int .i64 W) ∧ wa.cell? ⟨w1.heap.size, 1, none⟩ = some (.int .i64 t) ∧ wa.cell? ⟨w1.heap.size, 2, none⟩ = some (.int .i64 k)) := by show _ ∧ _; rw [← hwa]; exact lay3 w1 _ _ _ _
  have za : w1.heap.size < wa.heap.size := by rw [← hwa]; simp
  have Ia := Lib.hid (I1.out.keep (Nat.le_refl _) hb2); have Ja := Lib.hid (J1.out.keep (Nat.le_refl _) hb2); have Ta := Lib.hid (T1.out.trans (hb2.mono z1))
  clear hb2 I1 J1 T1
  obtain ⟨p0, p1, p2⟩ := Pa.out
  cases hg : goodB ⟨W, t, k⟩ zs
  · have hR : cfI ⟨W, t, k⟩ zs ys = -1 := by unfold cfI cfB; rw [hg]; rfl
    go_wp2_with fail
    clear hwa
    have hq := implFitN_any W t k _ m c1 zs _ md cd ys _ Hl.out (by omega) Ia.out.ints Hl2.out (by omega) hmc2 Hcm2.out Ja.out.ints
    rw [hR] at hq
    refine hq.mono ?_
    clear hq p0 p1 p2 hR
    rintro e wb ⟨rfl, hb⟩
    have Pb := Lib.hid (hold3 hb za Pa.out)
    have Ib := Lib.hid (Ia.out.keep (by omega) hb)
    have Jb := Lib.hid (Ja.out.keep (by first | exact Nat.le_refl _ | omega) hb)
    have Tb := Lib.hid (Ta.out.trans (hb.mono (B' := w.heap.size) (by omega)))
    have zb : w1.heap.size < wb.heap.size := Nat.lt_of_lt_of_le za hb.size
    have yb := hb.size
    clear hb Pa Ia Ta Ja
    obtain ⟨p0, p1, p2⟩ := Pb.out
    go_wp2_with fail
    have hq := specSpread_any W t k _ m c1 zs _ Hl.out hm2 Ib.out.ints
    rw [hg] at hq
    refine hq.mono ?_
    clear hq p0 p1 p2
    rintro e wc ⟨rfl, hb⟩
    have Pc := Lib.hid (hold3 hb zb Pb.out)
    have Ic := Lib.hid (Ib.out.keep (by omega) hb)
    have Jc := Lib.hid (Jb.out.keep (by first | exact Nat.le_refl _ | omega) hb)
    have Tc := Lib.hid (Tb.out.trans (hb.mono (B' := w.heap.size) (by omega)))
    have zc : w1.heap.size < wc.heap.size := Nat.lt_of_lt_of_le zb hb.size
    have yc := hb.size
    clear hb Pb Ib Tb Jb
    go_wp2
    go_ret
    exact ⟨rfl, Tc.out⟩
  cases hli : lineB ys
  · have hR : cfI ⟨W, t, k⟩ zs ys = -1 := by unfold cfI cfB; rw [hg, hli]; rfl
    go_wp2_with fail
    clear hwa
    have hq := implFitN_any W t k _ m c1 zs _ md cd ys _ Hl.out (by omega) Ia.out.ints Hl2.out (by omega) hmc2 Hcm2.out Ja.out.ints
    rw [hR] at hq
    refine hq.mono ?_
    clear hq p0 p1 p2 hR
    rintro e wb ⟨rfl, hb⟩
    have Pb := Lib.hid (hold3 hb za Pa.out)
    have Ib := Lib.hid (Ia.out.keep (by omega) hb)
    have Jb := Lib.hid (Ja.out.keep (by first | exact Nat.le_refl _ | omega) hb)
    have Tb := Lib.hid (Ta.out.trans (hb.mono (B' := w.heap.size) (by omega)))
    have zb : w1.heap.size < wb.heap.size := Nat.lt_of_lt_of_le za hb.size
    have yb := hb.size
    clear hb Pa Ia Ta Ja
    obtain ⟨p0, p1, p2⟩ := Pb.out
    go_wp2_with fail
    have hq := specSpread_any W t k _ m c1 zs _ Hl.out hm2 Ib.out.ints
    rw [hg] at hq
    refine hq.mono ?_
    clear hq p0 p1 p2
    rintro e wc ⟨rfl, hb⟩
    have Pc := Lib.hid (hold3 hb zb Pb.out)
    have Ic := Lib.hid (Ib.out.keep (by omega) hb)
    have Jc := Lib.hid (Jb.out.keep (by first | exact Nat.le_refl _ | omega) hb)
    have Tc := Lib.hid (Tb.out.trans (hb.mono (B' := w.heap.size) (by omega)))
    have zc : w1.heap.size < wc.heap.size := Nat.lt_of_lt_of_le zb hb.size
    have yc := hb.size
    clear hb Pb Ib Tb Jb
    go_wp2_with fail
    refine (specLineOk_any _ md cd ys _ Hl2.out hmd2 Jc.out.ints).mono ?_
    rintro e wd ⟨he, rfl⟩
    rw [hli] at he; subst he
    go_wp2
    go_ret
    exact ⟨rfl, Tc.out⟩
  have hR : cfI ⟨W, t, k⟩ zs ys = (cntF ⟨W, t, k⟩ zs ys : Int) := by unfold cfI cfB; rw [hg, hli]; rfl
  have q1 := cntF_le ⟨W, t, k⟩ zs ys
  have q2 := cntF_fits (ys := ys) hg
  have q3 : Hid (cntF ⟨W, t, k⟩ zs ys < ys.length → goodB ⟨W, t, k⟩ (zs ++ ys.take (cntF ⟨W, t, k⟩ zs ys + 1)) = false) := cntF_more
  rw [Hl2.out] at q1 q3
  obtain ⟨F, hF⟩ : ∃ F, cntF ⟨W, t, k⟩ zs ys = F := ⟨_, rfl⟩
  rw [hF] at hR q1 q2 q3
  have Q2 := Lib.hid q2
  clear hF q2
  go_wp2_with fail
  clear hwa
  have hq := implFitN_any W t k _ m c1 zs _ md cd ys _ Hl.out (by omega) Ia.out.ints Hl2.out (by omega) hmc2 Hcm2.out Ja.out.ints
  rw [hR] at hq
  refine hq.mono ?_
  clear hq p0 p1 p2 hR
  rintro e wb ⟨rfl, hb⟩
  have Pb := Lib.hid (hold3 hb za Pa.out)
  have Ib := Lib.hid (Ia.out.keep (by omega) hb)
  have Jb := Lib.hid (Ja.out.keep (by first | exact Nat.le_refl _ | omega) hb)
  have Tb := Lib.hid (Ta.out.trans (hb.mono (B' := w.heap.size) (by omega)))
  have zb : w1.heap.size < wb.heap.size := Nat.lt_of_lt_of_le za hb.size
  have yb := hb.size
  clear hb Pa Ia Ta Ja
  obtain ⟨p0, p1, p2⟩ := Pb.out
  go_wp2_with fail
  have hq := specSpread_any W t k _ m c1 zs _ Hl.out hm2 Ib.out.ints
  rw [hg] at hq
  refine hq.mono ?_
  clear hq p0 p1 p2
  rintro e wc ⟨rfl, hb⟩
  have Pc := Lib.hid (hold3 hb zb Pb.out)
  have Ic := Lib.hid (Ib.out.keep (by omega) hb)
  have Jc := Lib.hid (Jb.out.keep (by first | exact Nat.le_refl _ | omega) hb)
  have Tc := Lib.hid (Tb.out.trans (hb.mono (B' := w.heap.size) (by omega)))
  have zc : w1.heap.size < wc.heap.size := Nat.lt_of_lt_of_le zb hb.size
  have yc := hb.size
  clear hb Pb Ib Tb Jb
  go_wp2_with fail
  refine (specLineOk_any _ md cd ys _ Hl2.out hmd2 Jc.out.ints).mono ?_
  rintro e wd ⟨he, rfl⟩
  rw [hli] at he; subst he
  have d1 : decide ((F : Int) < 0) = false := decide_eq_false (by omega)
  have d2 : decide ((md : Int) < (F : Int)) = false := decide_eq_false (by omega)
  have hba : Below wc.heap.size wc (wc.alloc (.cells #[] 3)) := below_new _ _
  have OA : Hid (Own (wc.alloc (.cells #[] 3)) wc.heap.size (.slice (some ⟨wc.heap.size, 0, none⟩) 0 0) []) := World.ownsRow_lit wc #[] 0 (Nat.le_refl _) (Nat.zero_le _) rfl
  have IA := Lib.hid (Ic.out.keep (by omega) hba).ints
  have BA := Lib.hid hba
  have zA := hba.size
  clear hba
  go_wp2_with (first | (at_builtin; refine wpl_append_any _ rfl (.tmp 54) (.tmp 55) rfl wc.heap.size _ [] zs _ m c1 rfl rfl Hl.out IA.out OA.out zA (by simp; omega) ?_; intro v4 w4 hO4 hg4 _; rw [List.nil_append] at hO4; have O4 := Lib.hid hO4; have B4 := Lib.hid (BA.out.trans ((Below.refl wc.heap.size _).grown hg4 zA (fun g hg => (World.ownsRow.lt OA.out g hg).1))); have z4 := B4.out.size; have J4 := Lib.hid (Jc.out.keep (by omega) B4.out).ints; clear hO4 hg4) | (at_builtin; refine wpl_append_any _ rfl (.tmp 56) (.tmp 57) rfl wc.heap.size _ zs ys _ md cd rfl rfl Hl2.out J4.out O4.out z4 (by rw [Hl.out]; omega) ?_; intro v6 w6 hO6 hg6 _; have O6 := Lib.hid hO6; have hb := B4.out.trans ((Below.refl wc.heap.size _).grown hg6 z4 (fun g hg => (World.ownsRow.lt O4.out g hg).1)); clear hO6 hg6))
  have Pd := Lib.hid (hold3 hb zc Pc.out)
  have Td := Lib.hid (Tc.out.trans (hb.mono (B' := w.heap.size) (by omega)))
  have zd : w1.heap.size < w6.heap.size := Nat.lt_of_lt_of_le zc hb.size
  have yd := hb.size
  clear hb Pc Tc Ic Jc B4 J4 IA OA BA d1 d2 zA z4
  obtain ⟨A6, c6, hv6, _, _, hc6, hc6m⟩ := O6.out.form
  rw [List.length_append, Hl.out, Hl2.out] at hv6 hc6
  subst hv6
  have K6 := Lib.hid (IntsB.of (own_ints1 O6.out))
  unfold maxLen at hc6m
  obtain ⟨s, hs⟩ : ∃ s, m + F = s := ⟨_, rfl⟩
  have v1 : IntKind.i64.wrap ((m : Int) + (F : Int)) = (s : Int) := by rw [IntKind.wrap_i64]; omega
  have Hs : Hid (((zs ++ ys).take s).length = s) := by show _ = _; rw [List.length_take, List.length_append, Hl.out, Hl2.out]; omega
  have HL : Hid (goodB ⟨W, t, k⟩ ((zs ++ ys).take s) = true) := by show _ = _; rw [← hs, take_join Hl.out]; exact Q2.out
  have HM : Hid (F < md → goodB ⟨W, t, k⟩ ((zs ++ ys).take (s + 1)) = false) := fun h => by rw [← hs, Nat.add_assoc, take_join Hl.out]; exact q3.out h
  have hs2 : s ≤ 244 := by omega
  have hsc : s ≤ c6 := by omega
  have hmax : s ≤ maxLen := by unfold maxLen; omega
  have hmax2 : s + 1 ≤ maxLen := by unfold maxLen; omega
  have hsF : F < md → s + 1 ≤ m + md := by omega
  have HsF := Lib.hid hsF; have Heq := Lib.hid hs
  clear hs hsF Q2 q3
  rcases A6 with _ | ad
  · obtain ⟨hv, hnil⟩ | ⟨g, cap, cur, hv, _⟩ := O6.out.2
    case inr => cases hv
    injection hv with _ hv2 hv3
    obtain rfl : m = 0 := by omega
    obtain rfl : md = 0 := by omega
    obtain rfl : F = 0 := by omega
    obtain rfl : s = 0 := by have := Heq.out; omega
    subst hv3
    skip
    have c0 : ∀ x : Later w6, x.at_.cell? ⟨w1.heap.size, 0, none⟩ = some (.int .i64 W) := fun x => (hold3 x.bel zd Pd.out).1
    have cc1 : ∀ x : Later w6, x.at_.cell? ⟨w1.heap.size, 1, none⟩ = some (.int .i64 t) := fun x => (hold3 x.bel zd Pd.out).2.1
    have cc2 : ∀ x : Later w6, x.at_.cell? ⟨w1.heap.size, 2, none⟩ = some (.int .i64 k) := fun x => (hold3 x.bel zd Pd.out).2.2
    go_wp2_with fail
    refine wp_region_class (C := fun w' => ∃ x : Later w6, w' = x.at_) (by kernel_rfl) (by kernel_rfl) ⟨⟨_, Below.drew (Below.refl _ w6)⟩, rfl⟩ ?_
    repeat (go_big_quiet_step ((go_at_call 20; refine spread_later Hs.out hmax (intsB_pre K6.out) (Nat.le_refl _) HL.out _)))
    refine wpQuiet_nil ?_
    rintro w7 ⟨⟨w7, hb⟩, rfl⟩
    clear c0 cc1 cc2
    have P7 := Lib.hid (hold3 hb zd Pd.out)
    have K7 := Lib.hid (K6.out.keep (Nat.le_refl _) hb)
    have T7 := Lib.hid (Td.out.trans (hb.mono (B' := w.heap.size) (by omega)))
    have z7 : w1.heap.size < w7.heap.size := Nat.lt_of_lt_of_le zd hb.size
    have y7 := hb.size
    clear hb
    go_wp2
    go_ret
    exact ⟨rfl, T7.out⟩
  have c0 : ∀ x : Later w6, x.at_.cell? ⟨w1.heap.size, 0, none⟩ = some (.int .i64 W) := fun x => (hold3 x.bel zd Pd.out).1
  have cc1 : ∀ x : Later w6, x.at_.cell? ⟨w1.heap.size, 1, none⟩ = some (.int .i64 t) := fun x => (hold3 x.bel zd Pd.out).2.1
  have cc2 : ∀ x : Later w6, x.at_.cell? ⟨w1.heap.size, 2, none⟩ = some (.int .i64 k) := fun x => (hold3 x.bel zd Pd.out).2.2
  go_wp2_with fail
  refine wp_region_class (C := fun w' => ∃ x : Later w6, w' = x.at_) (by kernel_rfl) (by kernel_rfl) ⟨⟨_, Below.drew (Below.refl _ w6)⟩, rfl⟩ ?_
  repeat (go_big_quiet_step ((go_at_call 20; refine spread_later Hs.out hmax (intsB_pre K6.out) (Nat.le_refl _) HL.out _)))
  refine wpQuiet_nil ?_
  rintro w7 ⟨⟨w7, hb⟩, rfl⟩
  clear c0 cc1 cc2
  have P7 := Lib.hid (hold3 hb zd Pd.out)
  have K7 := Lib.hid (K6.out.keep (Nat.le_refl _) hb)
  have T7 := Lib.hid (Td.out.trans (hb.mono (B' := w.heap.size) (by omega)))
  have z7 : w1.heap.size < w7.heap.size := Nat.lt_of_lt_of_le zd hb.size
  have y7 := hb.size
  clear hb
  by_cases hF : F = md
  · have f1 : ((F : Int) == (md : Int)) = true := by simp; omega
    have f2 : decide ((F : Int) = (md : Int)) = true := decide_eq_true (by omega)
    clear hF
    go_wp2
    go_ret
    exact ⟨rfl, T7.out⟩
  have f1 : ((F : Int) == (md : Int)) = false := by simp; omega
  have f2 : decide ((F : Int) = (md : Int)) = false := decide_eq_false (by omega)
  have hlt : F < md := by omega
  have HM2 := Lib.hid (HM.out hlt); have hs3 := HsF.out hlt
  have Hs2 : Hid (((zs ++ ys).take (s + 1)).length = s + 1) := by show _ = _; rw [List.length_take, List.length_append, Hl.out, Hl2.out]; omega
  obtain ⟨s1, hs1⟩ : ∃ s1, s + 1 = s1 := ⟨_, rfl⟩
  have v2 : IntKind.i64.wrap ((s : Int) + 1) = (s1 : Int) := by rw [IntKind.wrap_i64]; omega
  rw [hs1] at HM2 Hs2 hmax2
  have hsc1 : s1 ≤ c6 := by omega
  clear hs1 hF hlt
  have c0 : ∀ x : Later w7, x.at_.cell? ⟨w1.heap.size, 0, none⟩ = some (.int .i64 W) := fun x => (hold3 x.bel z7 P7.out).1
  have cc1 : ∀ x : Later w7, x.at_.cell? ⟨w1.heap.size, 1, none⟩ = some (.int .i64 t) := fun x => (hold3 x.bel z7 P7.out).2.1
  have cc2 : ∀ x : Later w7, x.at_.cell? ⟨w1.heap.size, 2, none⟩ = some (.int .i64 k) := fun x => (hold3 x.bel z7 P7.out).2.2
  go_wp2_with fail
  refine wp_region_class (C := fun w' => ∃ x : Later w7, w' = x.at_) (by kernel_rfl) (by kernel_rfl) ⟨⟨_, Below.drew (Below.refl _ w7)⟩, rfl⟩ ?_
  repeat (go_big_quiet_step ((go_at_call 20; refine spread_later Hs2.out hmax2 (intsB_pre K7.out) (by omega) HM2.out _)))
  refine wpQuiet_nil ?_
  rintro w8 ⟨⟨w8, hb⟩, rfl⟩
  clear c0 cc1 cc2
  have T8 := Lib.hid (T7.out.trans (hb.mono (B' := w.heap.size) (by omega)))
  clear hb
  go_wp2
  go_ret
  exact ⟨rfl, T8.out⟩
end Go.Proofs.Ytjfckplogjekaaa
