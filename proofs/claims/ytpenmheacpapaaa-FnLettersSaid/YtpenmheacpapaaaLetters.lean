/-
  FnLetters: its walk. No condition.
-/
import Derived.Test.YtpenmheacpapaaaDrawX
import Derived.Test.YtpenmheacpapaaaBrkI
import Derived.Test.YtpenmheacpapaaaSpreadI
import Derived.Test.YtpenmheacpapaaaFullI
namespace Go.Proofs.Ytpenmheacpapaaa
open Go.RowKit
set_option linter.unusedVariables false

/-- words as letters with a band between neighbors -/
def letW (ys : List Int) : List Int := (ys.flatMap (fun y => [0, y])).tail
theorem letW_snoc {xs : List Int} {x : Int} (h : 0 < xs.length) : letW (xs ++ [x]) = letW xs ++ [0] ++ [x] := by
  unfold letW
  rw [List.flatMap_append]
  cases xs with
  | nil => simp at h
  | cons y r => simp
theorem letW_one (x : Int) : letW [x] = [x] := rfl
theorem letW_sum (ys : List Int) : sumL (letW ys) = sumL ys := by
  have h : ∀ ys : List Int, sumL (ys.flatMap (fun y => [0, y])) = sumL ys := fun ys => by
    induction ys with
    | nil => rfl
    | cons y r ih => simp only [List.flatMap_cons, List.cons_append, List.nil_append, sumL, ih]; omega
  cases ys with
  | nil => rfl
  | cons y r => have := h (y :: r); unfold letW; simp only [List.flatMap_cons, List.cons_append, List.nil_append, List.tail_cons, sumL] at *; omega
theorem letW_bands {ys : List Int} (hy : ∀ x ∈ ys, 1 ≤ x ∧ x ≤ 2000) : bandsN (letW ys) = ys.length - 1 := by
  have h : ∀ ys : List Int, (∀ x ∈ ys, 1 ≤ x ∧ x ≤ 2000) → bandsN (ys.flatMap (fun y => [0, y])) = ys.length := fun ys => by
    induction ys with
    | nil => intro _; rfl
    | cons y r ih =>
      intro hy
      have h1 := hy y List.mem_cons_self
      have h2 := ih (fun x hx => hy x (List.mem_cons_of_mem _ hx))
      simp only [List.flatMap_cons, List.cons_append, List.nil_append, bandsN, h2, List.length_cons, if_pos]
      rw [if_neg (by omega)]; omega
  cases ys with
  | nil => rfl
  | cons y r =>
    have h1 := h (y :: r) hy
    unfold letW
    simp only [List.flatMap_cons, List.cons_append, List.nil_append, List.tail_cons, bandsN, if_pos, List.length_cons] at *
    omega
theorem letW_len (ys : List Int) : (letW ys).length ≤ 2 * ys.length := by
  have h : ∀ ys : List Int, (ys.flatMap (fun y => [0, y])).length = 2 * ys.length := fun ys => by
    induction ys with
    | nil => rfl
    | cons y r ih => simp only [List.flatMap_cons, List.length_append, ih, List.length_cons, List.length_nil]; omega
  unfold letW
  rw [List.length_tail, h]; omega

set_option maxRecDepth 100000 in
set_option maxHeartbeats 1600000 in
theorem fnLetters_walk (A : Option Addr) (n c : Nat) (bs : List Int) (w : World) (hn : bs.length = n) (hm : n ≤ maxLen) (h : Bytes w A bs) (wf : ∀ z ∈ bs, (Lit.int .u8 z).wf = true) :
    Calls Try.prog 7 #[.slice A n c] w fun e w' => e = .returned (.bool true) ∧ Below w.heap.size w w' := by
  have H := Lib.hid h; have Hn := Lib.hid hn; have Hwf := Lib.hid wf
  clear h hn wf
  have hm0 := hm
  unfold maxLen at hm
  by_cases hbig : 1048576 < n
  · go_enter Try.func7, Try.ntmps7
    go_wp2
    go_ret
    exact ⟨rfl, Below.refl _ _⟩
  go_enter Try.func7, Try.ntmps7
  go_wp2_with fail
  refine (drawKind_any _ _ _ bs _ Hn.out hm0 H.out Hwf.out).mono ?_
  rintro e w1 ⟨W, t, k, Aw, m, c1, zs, a, b, rfl, hl, hm1, hmc, hcm, hO1, hb1⟩
  have I1 := Lib.hid (IntsB.of (own_intsA hO1)); have Hl := Lib.hid hl; have T1 := Lib.hid hb1
  have z1 := hb1.size
  have hm2 : m ≤ maxLen := by unfold maxLen; omega
  have Hmc := Lib.hid hmc; have Hcm := Lib.hid hcm
  clear hO1 hl hb1 hcm
  obtain ⟨wa, hwa⟩ : ∃ wa, w1.alloc (.cells #[.int .i64 W, .int .i64 t, .int .i64 k] 24) = wa := ⟨_, rfl⟩
  have hb2 : Below w1.heap.size w1 wa := by rw [← hwa]; exact below_new _ _
  have Pa : Hid (wa.cell? ⟨w1.heap.size, 0, none⟩ = some (.int .i64 W) ∧ wa.cell? ⟨w1.heap.size, 1, none⟩ = some (.int .i64 t) ∧ wa.cell? ⟨w1.heap.size, 2, none⟩ = some (.int .i64 k)) := by show _ ∧ _; rw [← hwa]; exact lay3 w1 _ _ _ _
  have za : w1.heap.size < wa.heap.size := by rw [← hwa]; simp
  have Ia := Lib.hid (I1.out.keep (Nat.le_refl _) hb2); have Ta := Lib.hid (T1.out.trans (hb2.mono z1))
  clear hb2 I1 T1
  obtain ⟨p0, p1, p2⟩ := Pa.out
  go_wp2_with fail
  clear hwa
  obtain ⟨K, hK⟩ : ∃ K, kindA ⟨W, t, k⟩ zs a b = K := ⟨_, rfl⟩
  have hq := implLineKind_any W t k Aw m c1 zs a b wa Hl.out Hmc.out Hcm.out Ia.out.ints
  rw [hK] at hq
  refine hq.mono ?_
  have HK := Lib.hid hK
  clear hq p0 p1 p2 hK
  rintro e wb ⟨rfl, hb⟩
  have Pb := Lib.hid (hold3 hb za Pa.out); have Ib := Lib.hid (Ia.out.keep (by omega) hb); have Tb := Lib.hid (Ta.out.trans (hb.mono (B' := w.heap.size) (by omega)))
  have zb : w1.heap.size < wb.heap.size := Nat.lt_of_lt_of_le za hb.size
  clear hb Pa Ia Ta
  obtain ⟨p0, p1, p2⟩ := Pb.out
  have CM1 : Hid (∀ b, msrB ⟨W, t, k⟩ = b → Calls Try.prog 22 #[.agg #[.int .i64 W, .int .i64 t, .int .i64 k]] wb fun e w' => e = .returned (.bool b) ∧ Below wb.heap.size wb w') := fun b hb => by rw [← hb]; exact specMeasureOk_any W t k wb
  cases hms : msrB ⟨W, t, k⟩
  · obtain rfl : K = -1 := by rw [← HK.out]; unfold kindA; rw [if_neg (by unfold okW; rw [hms]; simp)]
    go_wp2_with fail
    refine (CM1.out _ hms).mono ?_
    clear p0 p1 p2 CM1
    rintro e wc ⟨rfl, hb⟩
    have Pc := Lib.hid (hold3 hb zb Pb.out); have Ic := Lib.hid (Ib.out.keep (by omega) hb); have Tc := Lib.hid (Tb.out.trans (hb.mono (B' := w.heap.size) (by omega)))
    have zc : w1.heap.size < wc.heap.size := Nat.lt_of_lt_of_le zb hb.size
    clear hb Pb Ib Tb
    go_wp2
    go_ret
    exact ⟨rfl, Tc.out⟩

  go_wp2_with fail
  refine (CM1.out _ hms).mono ?_
  clear p0 p1 p2 CM1
  rintro e wc ⟨rfl, hb⟩
  have Pc := Lib.hid (hold3 hb zb Pb.out); have Ic := Lib.hid (Ib.out.keep (by omega) hb); have Tc := Lib.hid (Tb.out.trans (hb.mono (B' := w.heap.size) (by omega)))
  have zc : w1.heap.size < wc.heap.size := Nat.lt_of_lt_of_le zb hb.size
  clear hb Pb Ib Tb
  cases htx : textB zs
  · obtain rfl : K = -1 := by rw [← HK.out]; unfold kindA; rw [if_neg (by unfold okW; rw [htx]; simp)]
    go_wp2_with fail
    refine (specTextOk_any _ m c1 zs _ Hl.out hm2 Ic.out.ints).mono ?_
    rintro e wc' ⟨he, rfl⟩
    rw [htx] at he; subst he
    go_wp2
    go_ret
    exact ⟨rfl, Tc.out⟩

  have HM := Lib.hid hms; have HT := Lib.hid htx
  have ho : okW ⟨W, t, k⟩ zs = true := by unfold okW; rw [hms, htx]; rfl
  by_cases hx : a < 0
  · obtain rfl : K = -1 := by rw [← HK.out]; unfold kindA; rw [if_neg (by omega)]
    go_wp2_with fail
    refine (specTextOk_any _ m c1 zs _ Hl.out hm2 Ic.out.ints).mono ?_
    rintro e wc' ⟨he, rfl⟩
    rw [htx] at he; subst he
    go_wp2
    go_ret
    exact ⟨rfl, Tc.out⟩

  have hx0 := hx
  clear hx
  by_cases hx : (m : Int) < b
  · obtain rfl : K = -1 := by rw [← HK.out]; unfold kindA; rw [if_neg (by rw [Hl.out]; omega)]
    go_wp2_with fail
    refine (specTextOk_any _ m c1 zs _ Hl.out hm2 Ic.out.ints).mono ?_
    rintro e wc' ⟨he, rfl⟩
    rw [htx] at he; subst he
    go_wp2
    go_ret
    exact ⟨rfl, Tc.out⟩

  have hx1 := hx
  clear hx
  by_cases hx : b ≤ a
  · obtain rfl : K = -1 := by rw [← HK.out]; unfold kindA; rw [if_neg (by omega)]
    go_wp2_with fail
    refine (specTextOk_any _ m c1 zs _ Hl.out hm2 Ic.out.ints).mono ?_
    rintro e wc' ⟨he, rfl⟩
    rw [htx] at he; subst he
    go_wp2
    go_ret
    exact ⟨rfl, Tc.out⟩

  have hx2 := hx
  clear hx
  obtain ⟨x, rfl⟩ : ∃ x : Nat, a = (x : Int) := ⟨a.toNat, by omega⟩
  obtain ⟨y, rfl⟩ : ∃ y : Nat, b = (y : Int) := ⟨b.toNat, by omega⟩
  have hxy : x < y := by omega
  have hyn : y ≤ m := by omega
  obtain ⟨hz, hl1, hl2⟩ := textB_parts htx
  rw [Hl.out] at hl1 hl2
  obtain ⟨ad, rfl⟩ := ints_some Ic.out.ints (by rw [Hl.out]; exact hl1)
  have HKW : Hid (K = kindF ⟨W, t, k⟩ (sumL (seg zs x y)) (y - x - 1)) := by show _ = _; rw [← HK.out]; unfold kindA; rw [if_pos ⟨ho, by omega, by rw [Hl.out]; omega, by omega⟩]; rfl
  obtain ⟨ys, hys⟩ : ∃ ys, seg zs x y = ys := ⟨_, rfl⟩
  have Hy := Lib.hid (fun v hv => hz v (seg_mem (zs := zs) (a := x) (b := y) hv))
  have hyl : ys.length = y - x := by rw [← hys]; exact seg_len (by rw [Hl.out]; exact hyn)
  obtain ⟨M, hM⟩ : ∃ M, y - x = M := ⟨_, rfl⟩
  have hM1 : 1 ≤ M := by omega
  have hM2 : M ≤ 40 := by omega
  rw [hM] at hyl
  rw [hys] at Hy HKW
  rw [hM] at HKW
  have Hyl := Lib.hid hyl
  have J0 : ∀ (v : World), Ints v (some ad) zs → Ints v (some (ad.add x)) ys := fun v h => by rw [← hys]; exact ints_seg h (by rw [Hl.out]; exact hyn)
  have JJ := Lib.hid J0
  have HB := Lib.hid (letW_bands (ys := ys) Hy.out)
  have HS := Lib.hid (letW_sum ys)
  have hca : ¬ c1 = x := by omega
  have har : x ≤ y := by omega
  have hrc : y ≤ c1 := by omega
  have hMy : y - x = M := hM
  have hMi : (y : Int) - (x : Int) = (M : Int) := by omega
  have HLw : Hid (∀ j, (letW (ys.take j)).length ≤ 80) := fun j => by have := letW_len (ys.take j); rw [List.length_take, Hyl.out] at this; omega
  have g1 : decide ((x : Int) < 0) = false := decide_eq_false (by omega)
  have g2 : decide ((m : Int) < (y : Int)) = false := decide_eq_false (by omega)
  have g3 : decide ((y : Int) ≤ (x : Int)) = false := decide_eq_false (by omega)
  have g4 : decide (m < y) = false := decide_eq_false (by omega)
  have g5 : decide (y ≤ x) = false := decide_eq_false (by omega)
  clear hms htx ho hz hl1 hl2 hys hyl hM J0 hx0 hx1 hx2
  go_wp2_with fail
  refine (specTextOk_any _ m c1 zs _ Hl.out hm2 Ic.out.ints).mono ?_
  rintro e wc' ⟨he, rfl⟩
  rw [HT.out] at he; subst he
  obtain ⟨wd, hwd⟩ : ∃ wd, wc.alloc (.cells #[] 3) = wd := ⟨_, rfl⟩
  have hbd : Below wc.heap.size wc wd := by rw [← hwd]; exact below_new _ _
  have OD : Hid (Own wd wc.heap.size (.slice (some ⟨wc.heap.size, 0, none⟩) 0 0) []) := by show Own _ _ _ _; rw [← hwd]; exact World.ownsRow_lit wc #[] 0 (Nat.le_refl _) (Nat.zero_le _) rfl
  have BD := Lib.hid hbd
  clear hbd
  go_wp2_with fail
  clear hwd hca har hrc hMy hMi g1 g2 g3 g4 g5
  go_loopw [8, 60] (fun v i wr => ∃ (j gr m' c' : Nat), j ≤ M ∧ i = .int .i64 j ∧ v = .slice (some ⟨gr, 0, none⟩) m' c' ∧ Hid ((letW (ys.take j)).length = m') ∧ m' ≤ 80 ∧ (0 < j → 0 < m') ∧ Hid (Own wr wc.heap.size (.slice (some ⟨gr, 0, none⟩) m' c') (letW (ys.take j))) ∧ Hid (Below wc.heap.size wc wr)) (fun _ i _ => M - (intOf i).toNat)
  case atStart => exact ⟨0, wc.heap.size, 0, 0, Nat.zero_le _, rfl, rfl, rfl, Nat.zero_le _, fun h => absurd h (by omega), OD.out, BD.out⟩
  case round =>
    clear OD BD
    obtain ⟨j, gr, m', c', hj, rfl, rfl, Hm', hm80, hjm, HO, HBe⟩ := hrel
    have Ir := Lib.hid (JJ.out _ ((Ic.out.keep (by omega) HBe.out).ints))
    have Pr := Lib.hid (hold3 HBe.out zc Pc.out)
    have Tr := Lib.hid (Tc.out.trans (HBe.out.mono (B' := w.heap.size) (by omega)))
    have zr := HBe.out.size
    by_cases hlt : j < M
    · obtain ⟨ad2, q, hade, hq, hcq⟩ := Ir.out.at_ (k := j) (by rw [Hyl.out]; exact hlt)
      injection hade with hade; subst hade
      have HT1 := Lib.hid (take_at hq.out)
      have HTl : Hid ((ys.take j).length = j) := by show _ = _; rw [List.length_take, Hyl.out]; omega
      by_cases hj0 : j = 0
      · have HW : Hid (letW (ys.take (j + 1)) = letW (ys.take j) ++ [q]) := by show _ = _; rw [HT1.out, hj0]; rfl
        have hd1 : decide ((0 : Int) < (j : Int)) = false := decide_eq_false (by omega)
        have hd2 : decide (0 < j) = false := decide_eq_false (by omega)
        clear hj0
        go_wp2_with (at_builtin; refine wpl_push wr rfl (.tmp 70) (.tmp 72) rfl wc.heap.size _ _ q rfl rfl HO.out zr (by rw [Hm'.out]; omega) ?_; intro v2 w6 hO6 hb6; obtain ⟨g6, m6, c6, rfl, hm6, hg6, hmc6, hcm6, hO6', hr6⟩ := own_form2 hO6 (by simp); have O6 : Hid (Own w6 wc.heap.size (.slice (some ⟨g6, 0, none⟩) m6 c6) (letW (ys.take (j + 1)))) := (by show Own _ _ _ _; rw [HW.out]; exact hO6'); have B6 := Lib.hid (HBe.out.trans hb6); have Hm6 : Hid ((letW (ys.take (j + 1))).length = m6) := (by show _ = _; rw [HW.out]; exact hm6); have Hp6 : Hid (0 < m6) := (by show _ < _; rw [← hm6]; simp); clear hb6 hO6 hO6' hr6 hm6 hcm6 hmc6 hg6)
        have h80 := HLw.out (j + 1)
        rw [Hm6.out] at h80
        go_roundw
        case rel => exact ⟨j + 1, g6, m6, c6, by omega, by go_num, rfl, Hm6, h80, fun _ => Hp6.out, O6, B6⟩
        case measure => simp [intOf]; omega
      · have hj1 : 0 < j := by omega
        have HW : Hid (letW (ys.take (j + 1)) = letW (ys.take j) ++ [0] ++ [q]) := by show _ = _; rw [HT1.out]; exact letW_snoc (by rw [HTl.out]; exact hj1)
        clear hj0
        go_wp2_with (first
          | (at_builtin; refine wpl_push wr rfl (.tmp 67) (.tmp 68) rfl wc.heap.size _ _ 0 rfl rfl HO.out zr (by rw [Hm'.out]; omega) ?_; intro v2 w5 hO5 hb5; obtain ⟨g5, m5, c5, rfl, hm5, hg5, hmc5, hcm5, hO5', hr5⟩ := own_form2 hO5 (by simp); have O5 := Lib.hid hO5'; have B5 := Lib.hid (HBe.out.trans hb5); have z5 : wc.heap.size ≤ w5.heap.size := B5.out.size; have I5 := Lib.hid (JJ.out _ ((Ic.out.keep (by omega) B5.out).ints)); have hl5 : m5 ≤ 100 := (by rw [← hm5, List.length_append, Hm'.out]; simp; omega); have Hm5 := Lib.hid hm5; clear hb5 hO5 hO5' hr5 hm5 hcm5 hmc5 hg5 HO)
          | (at_builtin; refine wpl_push w5 rfl (.tmp 70) (.tmp 72) rfl wc.heap.size _ _ q rfl rfl O5.out z5 (by rw [Hm5.out]; omega) ?_; intro v2 w6 hO6 hb6; obtain ⟨g6, m6, c6, rfl, hm6, hg6, hmc6, hcm6, hO6', hr6⟩ := own_form2 hO6 (by simp); have O6 : Hid (Own w6 wc.heap.size (.slice (some ⟨g6, 0, none⟩) m6 c6) (letW (ys.take (j + 1)))) := (by show Own _ _ _ _; rw [HW.out]; exact hO6'); have B6 := Lib.hid (B5.out.trans hb6); have Hm6 : Hid ((letW (ys.take (j + 1))).length = m6) := (by show _ = _; rw [HW.out]; exact hm6); have Hp6 : Hid (0 < m6) := (by show _ < _; rw [← hm6]; simp); clear hb6 hO6 hO6' hr6 hm6 hcm6 hmc6 hg6))
        have h80 := HLw.out (j + 1)
        rw [Hm6.out] at h80
        go_roundw
        case rel => exact ⟨j + 1, g6, m6, c6, by omega, by go_num, rfl, Hm6, h80, fun _ => Hp6.out, O6, B6⟩
        case measure => simp [intOf]; omega
    · obtain rfl : j = M := by omega
      rw [take_all Hyl.out] at Hm' HO
      have Xr := Lib.hid (IntsB.of (own_intsA HO.out))
      have hm8 : m' ≤ maxLen := by unfold maxLen; omega
      clear hlt hjm HBe JJ HLw
      cases hli : lineB (letW ys)
      · go_wp2_with fail
        refine (specLineOk_any _ m' c' (letW ys) _ Hm'.out hm8 Xr.out.ints).mono ?_
        rintro e wr' ⟨he, rfl⟩
        rw [hli] at he; subst he
        go_wp2
        go_ret
        exact ⟨rfl, Tr.out⟩
      have HLi := Lib.hid hli
      have HG := Lib.hid (good_is (m := ⟨W, t, k⟩) HM.out hli)
      have HF := Lib.hid (full_is (m := ⟨W, t, k⟩) HM.out hli)
      rw [HS.out, HB.out, Hyl.out] at HG HF
      clear hli
      go_wp2_with fail
      refine (specLineOk_any _ m' c' (letW ys) _ Hm'.out hm8 Xr.out.ints).mono ?_
      rintro e wr' ⟨he, rfl⟩
      rw [HLi.out] at he; subst he
      obtain ⟨p0, p1, p2⟩ := Pr.out
      go_wp2_with fail
      clear p0 p1 p2
      have hq := implSpread_any W t k _ m' c' (letW ys) wr Hm'.out hm8 Xr.out.ints
      obtain ⟨G, hG⟩ : ∃ G, goodB ⟨W, t, k⟩ (letW ys) = G := ⟨_, rfl⟩
      obtain ⟨r1, hr1⟩ : ∃ r, rise1 ⟨W, t, k⟩ (letW ys) = r := ⟨_, rfl⟩
      obtain ⟨r2, hr2⟩ : ∃ r, rest1 ⟨W, t, k⟩ (letW ys) = r := ⟨_, rfl⟩
      rw [hG, hr1, hr2] at hq
      rw [hG] at HG
      have HGG := Lib.hid hG
      refine hq.mono ?_
      clear hq hG hr1 hr2
      rintro e ws ⟨rfl, hb⟩
      have Ps := Lib.hid (hold3 hb (by omega) Pr.out); have Ts := Lib.hid (Tr.out.trans (hb.mono (B' := w.heap.size) (by omega))); have Xs := Lib.hid (Xr.out.keep (Nat.le_refl _) hb)
      have zs2 := hb.size
      clear hb Pr Tr Ir
      have HFc : Hid (∀ f, fullB ⟨W, t, k⟩ (letW ys) = f → Calls Try.prog 40 #[.agg #[.int .i64 W, .int .i64 t, .int .i64 k], .slice (some ⟨gr, 0, none⟩) m' c'] ws fun e w' => e = .returned (.bool f) ∧ Below ws.heap.size ws w') := fun f hf => by rw [← hf]; exact implIsFull_any W t k _ m' c' (letW ys) ws Hm'.out hm8 Xs.out.ints
      obtain ⟨p0, p1, p2⟩ := Ps.out
      cases hff : (decide (widF (sumL ys) (j - 1) t ≤ W) && fullF ⟨W, t, k⟩ (sumL ys) (j - 1))
      · cases hgg : decide (widF (sumL ys) (j - 1) t ≤ W)
        · obtain rfl : K = 0 := by rw [HKW.out]; exact kindF_no hgg
          obtain rfl : G = false := by rw [HG.out]; exact hgg
          have HF2 : Hid (fullB ⟨W, t, k⟩ (letW ys) = false) := by show _ = _; rw [HF.out]; exact hff
          clear hff hgg
          go_wp2_with fail
          refine (HFc.out _ HF2.out).mono ?_
          rintro e wt ⟨rfl, hb⟩
          have Tt := Lib.hid (Ts.out.trans (hb.mono (B' := w.heap.size) (by omega)))
          clear hb p0 p1 p2
          go_wp2
          go_ret
          exact ⟨rfl, Tt.out⟩
        · obtain rfl : K = 1 := by rw [HKW.out]; exact kindF_fits hff hgg
          obtain rfl : G = true := by rw [HG.out]; exact hgg
          have HF2 : Hid (fullB ⟨W, t, k⟩ (letW ys) = false) := by show _ = _; rw [HF.out]; exact hff
          clear hff hgg
          go_wp2_with fail
          refine (HFc.out _ HF2.out).mono ?_
          rintro e wt ⟨rfl, hb⟩
          have Tt := Lib.hid (Ts.out.trans (hb.mono (B' := w.heap.size) (by omega)))
          clear hb p0 p1 p2
          go_wp2
          go_ret
          exact ⟨rfl, Tt.out⟩
      · obtain rfl : K = 2 := by rw [HKW.out]; exact kindF_full hff
        obtain rfl : G = true := by rw [HG.out]; rw [Bool.and_eq_true] at hff; exact hff.1
        have HF2 : Hid (fullB ⟨W, t, k⟩ (letW ys) = true) := by show _ = _; rw [HF.out]; exact hff
        clear hff
        go_wp2_with fail
        refine (HFc.out _ HF2.out).mono ?_
        rintro e wt ⟨rfl, hb⟩
        have Tt := Lib.hid (Ts.out.trans (hb.mono (B' := w.heap.size) (by omega)))
        clear hb p0 p1 p2
        go_wp2
        go_ret
        exact ⟨rfl, Tt.out⟩
end Go.Proofs.Ytpenmheacpapaaa
