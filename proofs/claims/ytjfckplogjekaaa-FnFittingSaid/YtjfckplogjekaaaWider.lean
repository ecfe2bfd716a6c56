/-
  FnWider: its walk. No condition.
-/
import Derived.Test.YtjfckplogjekaaaDrawQ
import Derived.Test.YtjfckplogjekaaaSpreadI
import Derived.Test.YtjfckplogjekaaaTurned
import Derived.Test.YtjfckplogjekaaaTotal
import Derived.Outline
import Derived.Deep.QuietTactic
import Derived.BigQuiet
import Derived.Deep.RegionHeld3
namespace Go.Proofs.Ytjfckplogjekaaa
open Go.RowKit
set_option linter.unusedVariables false

theorem wider_ms {W t k : Int} {B : Nat} (h : msrB ⟨W, t, k⟩ = true) : msrB ⟨W + B, t, k⟩ = decide (W + B ≤ 2000) := by
  have h1 := msrB_iff.1 h
  simp only at h1
  by_cases h2 : W + B ≤ 2000
  · rw [decide_eq_true h2]
    exact msrB_iff.2 ⟨by simp only; omega, h2, h1.2.2.1, h1.2.2.2.1, h1.2.2.2.2⟩
  · rw [decide_eq_false h2]
    cases hm : msrB ⟨W + B, t, k⟩
    · rfl
    · have := msrB_iff.1 hm
      simp only at this
      omega
theorem wider_good {W t k : Int} {zs : List Int} (hg : goodB ⟨W, t, k⟩ zs = true) (hb : 0 < bandsN zs) (h2 : W + bandsN zs ≤ 2000) :
    goodB ⟨W + bandsN zs, t, k⟩ zs = true ∧ (riseL ⟨W, t, k⟩ zs = k - t → riseL ⟨W + bandsN zs, t, k⟩ zs = riseL ⟨W, t, k⟩ zs ∧ restL ⟨W + bandsN zs, t, k⟩ zs = restL ⟨W, t, k⟩ zs + bandsN zs) ∧
    (riseL ⟨W, t, k⟩ zs ≠ k - t → riseL ⟨W + bandsN zs, t, k⟩ zs = riseL ⟨W, t, k⟩ zs + 1 ∧ restL ⟨W + bandsN zs, t, k⟩ zs = restL ⟨W, t, k⟩ zs) := by
  obtain ⟨g1, g2, g3⟩ := goodB_parts hg
  obtain ⟨r1, r2, r3, r4, r5⟩ := rise_spec hg
  have hm' : msrB ⟨W + bandsN zs, t, k⟩ = true := by rw [wider_ms g1, decide_eq_true h2]
  have hf : widF (sumL zs) (bandsN zs) t ≤ W + bandsN zs := by unfold widL at g3; simp only at g3; omega
  have hgood : goodB ⟨W + bandsN zs, t, k⟩ zs = true := by unfold goodB fitsB fitL widL; simp only; rw [hm', g2, decide_eq_true hf]; rfl
  have hrest : restL ⟨W, t, k⟩ zs = W - widF (sumL zs) (bandsN zs) (t + riseL ⟨W, t, k⟩ zs) := rfl
  have hrest' : restL ⟨W + bandsN zs, t, k⟩ zs = W + bandsN zs - widF (sumL zs) (bandsN zs) (t + riseL ⟨W + bandsN zs, t, k⟩ zs) := rfl
  have hone : widF (sumL zs) (bandsN zs) (t + (riseL ⟨W, t, k⟩ zs + 1)) = widF (sumL zs) (bandsN zs) (t + riseL ⟨W, t, k⟩ zs) + bandsN zs := by
    unfold widF
    rw [← Int.add_assoc t, Int.mul_add, Int.mul_one]; omega
  simp only at r2 r5
  refine ⟨hgood, fun he => ?_, fun hne => ?_⟩
  · have hr : riseL ⟨W + bandsN zs, t, k⟩ zs = riseL ⟨W, t, k⟩ zs :=
      riseF_is (m := ⟨W + bandsN zs, t, k⟩) hm' hf r1 r2 (by simp only; omega) (fun h => by omega) (fun _ h => by simp only at h; omega)
    exact ⟨hr, by rw [hrest', hr]; omega⟩
  · have hr : riseL ⟨W + bandsN zs, t, k⟩ zs = riseL ⟨W, t, k⟩ zs + 1 :=
      riseF_is (m := ⟨W + bandsN zs, t, k⟩) hm' hf (by omega) (by simp only; omega) (by simp only; rw [hone]; omega) (fun h => by omega) (fun _ _ => by have := r5 hb (by omega); simp only; rw [hone]; omega)
    exact ⟨hr, by rw [hrest', hr, hone]; omega⟩

/-- a world behind w0 in which only new blocks differ -/
structure Later (w0 : World) where
  at_ : World
  bel : Below w0.heap.size w0 at_
instance (w0 : World) : Nonempty (Later w0) := ⟨⟨w0, Below.refl _ _⟩⟩
/-- a region that draws its order, at any class of worlds -/
theorem wp_region_class {id : Nat} {Q : Exit → Act → World → Prop} {a : Act} {w : World} {l : List Oper} {C : World → Prop} (hm : Try.prog.follows .mixedOrders = true) (hB : Region.lexB .any l.toArray = true) (hC : C w.drew)
    (h : wpQuiet Try.prog l.toArray C (fun a' => ∀ w', C w' → Q .normal a' w') l a) : (Code.region id l.toArray true).wp Try.prog Q a w :=
  wp_region_quiet (C := C) hm hB hC (by simpa using h)

theorem msk_later {W t k : Int} {b : Bool} {w0 : World} (h : msrB ⟨W, t, k⟩ = b) (x : Later w0) :
    Calls Try.prog 24 #[.agg #[.int .i64 W, .int .i64 t, .int .i64 k]] x.at_ fun e w' => e = .returned (.bool b) ∧ ∃ y : Later w0, w' = y.at_ := by
  refine (specMeasureOk_any W t k _).mono ?_
  rintro e w3 ⟨rfl, hb⟩
  exact ⟨by rw [h], ⟨_, x.bel.trans (hb.mono x.bel.size)⟩, rfl⟩
theorem lok_later {A : Option Addr} {n c g : Nat} {zs : List Int} {b : Bool} {w0 : World} (hn : zs.length = n) (hm : n ≤ maxLen) (hI : IntsB w0 g A zs) (hg : g ≤ w0.heap.size) (h : lineB zs = b) (x : Later w0) :
    Calls Try.prog 25 #[.slice A n c] x.at_ fun e w' => e = .returned (.bool b) ∧ ∃ y : Later w0, w' = y.at_ := by
  refine (specLineOk_any A n c zs _ hn hm (hI.keep hg x.bel).ints).mono ?_
  rintro e w3 ⟨rfl, rfl⟩
  exact ⟨by rw [h], x, rfl⟩

set_option maxRecDepth 100000 in
set_option maxHeartbeats 1600000 in
theorem fnWider_walk (A : Option Addr) (n c : Nat) (bs : List Int) (w : World) (hn : bs.length = n) (hm : n ≤ maxLen) (h : Bytes w A bs) (wf : ∀ z ∈ bs, (Lit.int .u8 z).wf = true) :
    Calls Try.prog 5 #[.slice A n c] w fun e w' => e = .returned (.bool true) ∧ Below w.heap.size w w' := by
  have H := Lib.hid h; have Hn := Lib.hid hn; have Hwf := Lib.hid wf
  clear h hn wf
  have hm0 := hm
  unfold maxLen at hm
  by_cases hbig : 1048576 < n
  · go_enter Try.func5, Try.ntmps5
    go_wp2
    go_ret
    exact ⟨rfl, Below.refl _ _⟩
  go_enter Try.func5, Try.ntmps5
  go_wp2_with fail
  refine (drawSpread_any _ _ _ bs _ Hn.out hm0 H.out Hwf.out).mono ?_
  rintro e w1 ⟨W, t, k, gb, m, c1, zs, rfl, hl, hm1, hmc, hcm, hO1, hb1⟩
  have I1 := Lib.hid (IntsB.of (own_ints1 hO1)); have Hl := Lib.hid hl; have T1 := Lib.hid hb1
  have z1 := hb1.size
  have hm2 : m ≤ maxLen := by unfold maxLen; omega
  clear hO1 hl hb1 hcm
  obtain ⟨wa, hwa⟩ : ∃ wa, w1.alloc (.cells #[.int .i64 W, .int .i64 t, .int .i64 k] 24) = wa := ⟨_, rfl⟩
  have hb2 : Below w1.heap.size w1 wa := by rw [← hwa]; exact below_new _ _
  have Pa : Hid (wa.cell? ⟨w1.heap.size, 0, none⟩ = some (.int .i64 W) ∧ wa.cell? ⟨w1.heap.size, 1, none⟩ = some (.int .i64 t) ∧ wa.cell? ⟨w1.heap.size, 2, none⟩ = some (.int .i64 k)) := by show _ ∧ _; rw [← hwa]; exact lay3 w1 _ _ _ _
  have za : w1.heap.size < wa.heap.size := by rw [← hwa]; simp
  have Ia := Lib.hid (I1.out.keep (Nat.le_refl _) hb2); have Ta := Lib.hid (T1.out.trans (hb2.mono z1))
  clear hb2 I1 T1
  obtain ⟨p0, p1, p2⟩ := Pa.out
  go_wp2_with fail
  clear hwa
  refine (implSpread_any W t k _ m c1 zs _ Hl.out hm2 Ia.out.ints).mono ?_
  clear p0 p1 p2
  rintro e wb ⟨rfl, hb⟩
  have Pb := Lib.hid (hold3 hb za Pa.out)
  have Ib := Lib.hid (Ia.out.keep (by omega) hb)
  have Tb := Lib.hid (Ta.out.trans (hb.mono (B' := w.heap.size) (by omega)))
  have zb : w1.heap.size < wb.heap.size := Nat.lt_of_lt_of_le za hb.size
  clear hb Pa Ia Ta
  go_wp2_with fail
  refine (lawCount_any _ m c1 zs 0 _ Hl.out hm2 Ib.out.ints).mono ?_
  rintro e wb2 ⟨rfl, rfl⟩
  rw [cntOf_bands]
  have hB1 : bandsN zs ≤ 122 := Nat.le_trans (bandsN_le zs) (by rw [Hl.out]; exact hm1)
  obtain ⟨p0, p1, p2⟩ := Pb.out
  cases hg : goodB ⟨W, t, k⟩ zs
  · cases hms : msrB ⟨W, t, k⟩
    · skip
      go_wp2_with fail
      refine wp_region_class (C := fun w' => ∃ x : Later wb, w' = x.at_) (by kernel_rfl) (by kernel_rfl) ⟨⟨_, Below.drew (Below.refl _ wb)⟩, rfl⟩ ?_
      repeat (go_big_quiet_step (fail))
      refine wpQuiet_step (fun K hK => ?_)
      rw [if_pos (by first | rfl | kernel_rfl)]
      refine ⟨.agg #[.int .i64 W, .int .i64 t, .int .i64 k], fun w2 hw2 => ?_, ?_⟩
      · obtain ⟨⟨w2, hw2⟩, rfl⟩ := hw2; obtain ⟨q0, q1, q2⟩ := hold3 hw2 zb Pb.out
        unfold Oper.quietAt
        go_simp
        done
      go_simp
      refine hK _ ?_
      clear hK K
      repeat (go_big_quiet_step ((go_at_call 24; refine msk_later hms _)))
      refine wpQuiet_nil ?_
      rintro w4 ⟨⟨w4, hw4⟩, rfl⟩
      have Tc := Lib.hid (Tb.out.trans (hw4.mono (B' := w.heap.size) (by omega)))
      clear hw4
      go_wp2
      go_ret
      exact ⟨rfl, Tc.out⟩
    cases hli : lineB zs
    · skip
      go_wp2_with fail
      refine wp_region_class (C := fun w' => ∃ x : Later wb, w' = x.at_) (by kernel_rfl) (by kernel_rfl) ⟨⟨_, Below.drew (Below.refl _ wb)⟩, rfl⟩ ?_
      repeat (go_big_quiet_step (fail))
      refine wpQuiet_step (fun K hK => ?_)
      rw [if_pos (by first | rfl | kernel_rfl)]
      refine ⟨.agg #[.int .i64 W, .int .i64 t, .int .i64 k], fun w2 hw2 => ?_, ?_⟩
      · obtain ⟨⟨w2, hw2⟩, rfl⟩ := hw2; obtain ⟨q0, q1, q2⟩ := hold3 hw2 zb Pb.out
        unfold Oper.quietAt
        go_simp
        done
      go_simp
      refine hK _ ?_
      clear hK K
      repeat (go_big_quiet_step ((first | (go_at_call 24; refine msk_later hms _) | (go_at_call 25; refine lok_later Hl.out hm2 Ib.out (by omega) hli _))))
      refine wpQuiet_nil ?_
      rintro w4 ⟨⟨w4, hw4⟩, rfl⟩
      have Tc := Lib.hid (Tb.out.trans (hw4.mono (B' := w.heap.size) (by omega)))
      clear hw4
      go_wp2
      go_ret
      exact ⟨rfl, Tc.out⟩
    obtain ⟨s0, s1, s2⟩ := lineB_sum hli
    have q1 := msrB_iff.1 hms
    simp only at q1
    have q2 : ¬ sumL zs + (bandsN zs : Int) * t ≤ W := fun h => by
      unfold goodB fitsB fitL widL widF at hg
      simp only at hg
      rw [hms, hli, decide_eq_true h] at hg
      cases hg
    have q3 := mul_small (B := bandsN zs) (e := t) (by omega) (by omega) (by omega) (by omega)
    have v1 : IntKind.i64.wrap ((bandsN zs : Int) * t) = (bandsN zs : Int) * t := by rw [IntKind.wrap_i64]; omega
    have v2 : IntKind.i64.wrap (sumL zs + (bandsN zs : Int) * t) = sumL zs + (bandsN zs : Int) * t := by rw [IntKind.wrap_i64]; omega
    have v3 : decide (W < sumL zs + (bandsN zs : Int) * t) = true := decide_eq_true (by omega)
    clear q1 q2 q3 s0 s1 s2
    go_wp2_with fail
    first
      | go_region_held3 (fun w' => w'.cell? ⟨w1.heap.size, 0, none⟩ = some (.int .i64 W) ∧ w'.cell? ⟨w1.heap.size, 1, none⟩ = some (.int .i64 t) ∧ w'.cell? ⟨w1.heap.size, 2, none⟩ = some (.int .i64 k)) (first | go_keep | exact Pb.out | exact Pc.out) (first
          | (go_at_call 24; refine (specMeasureOk_any W t k _).mono ?_; rintro e wc ⟨he, hb⟩; rw [hms] at he; subst he; have hc : Below wb.heap.size wb wc := undrew hb; have Pc := Lib.hid (hold3 hc zb Pb.out); have Tc := Lib.hid (Tb.out.trans (hc.mono (B' := w.heap.size) (by omega))); have Ic := Lib.hid (Ib.out.keep (by omega) hc); have zc := hc.size; clear hb hc; obtain ⟨p0, p1, p2⟩ := Pc.out)
          | (go_at_call 25; refine (specLineOk_any _ m c1 zs _ Hl.out hm2 Ic.out.ints).mono ?_; rintro e wd ⟨he, rfl⟩; rw [hli] at he; subst he)
          | (go_at_call 26; refine (lawTotal_any _ m c1 zs _ Hl.out Ic.out.ints hli).mono ?_; rintro e wd ⟨rfl, rfl⟩))
      | fail "the region"
    all_goals
      go_wp2
      go_ret
      exact ⟨rfl, Tc.out⟩
  obtain ⟨hms, hli, hfi⟩ := goodB_parts hg
  obtain ⟨e1, e2⟩ := spr_is hg
  by_cases hB : bandsN zs = 0
  · rw [hB]
    go_wp2_with fail
    go_quiet (fail)
    go_wp2
    go_ret
    exact ⟨rfl, below_drewN Tb.out _⟩
  have q1 := msrB_iff.1 hms
  simp only at q1
  obtain ⟨r1, r2, r3, r4, r5⟩ := rise_spec hg
  simp only at r2
  have hB2 : (bandsN zs : Int) ≠ 0 := by omega
  have M := Lib.hid (wider_ms (B := bandsN zs) hms)
  have G := Lib.hid (wider_good (W := W) (t := t) (k := k) (zs := zs) hg (by omega))
  have hE : Hid (rise1 ⟨W, t, k⟩ zs = riseL ⟨W, t, k⟩ zs ∧ rest1 ⟨W, t, k⟩ zs = restL ⟨W, t, k⟩ zs) := ⟨e1, e2⟩
  rw [hE.out.1, hE.out.2]
  have r6 : restL ⟨W, t, k⟩ zs ≤ 2000 := by
    have : restL ⟨W, t, k⟩ zs = W - (sumL zs + (bandsN zs : Int) * (t + riseL ⟨W, t, k⟩ zs)) := rfl
    obtain ⟨s0, s1, s2⟩ := lineB_sum hli
    have := Int.mul_nonneg (a := (bandsN zs : Int)) (b := t + riseL ⟨W, t, k⟩ zs) (by omega) (by omega)
    omega
  clear e1 e2 hE r4 r5 hfi
  obtain ⟨B, hBz⟩ : ∃ B, bandsN zs = B := ⟨_, rfl⟩
  rw [hBz] at hB1 hB2 M G ⊢
  obtain ⟨r, hr⟩ : ∃ r, riseL ⟨W, t, k⟩ zs = r := ⟨_, rfl⟩
  obtain ⟨q, hq⟩ : ∃ q, restL ⟨W, t, k⟩ zs = q := ⟨_, rfl⟩
  rw [hr] at r1 r2 G ⊢
  rw [hq] at r3 r6 G ⊢
  have HB := Lib.hid hBz; have HG := Lib.hid hg; have HMS := Lib.hid hms; have HLI := Lib.hid hli
  clear hBz hr hq hB hg hms hli
  obtain ⟨wc, hwc⟩ : ∃ wc, wb.alloc (.cells #[.int .i64 (W + B), .int .i64 t, .int .i64 k] 24) = wc := ⟨_, rfl⟩
  have hb : Below wb.heap.size wb wc := by rw [← hwc]; exact below_new _ _
  have Nc : Hid (wc.cell? ⟨wb.heap.size, 0, none⟩ = some (.int .i64 (W + B)) ∧ wc.cell? ⟨wb.heap.size, 1, none⟩ = some (.int .i64 t) ∧ wc.cell? ⟨wb.heap.size, 2, none⟩ = some (.int .i64 k)) := by show _ ∧ _; rw [← hwc]; exact lay3 wb _ _ _ _
  have yc : wb.heap.size < wc.heap.size := by rw [← hwc]; simp
  have uc : Hid (w1.heap.size < wb.heap.size) := zb
  have Pc := Lib.hid (hold3 hb zb Pb.out)
  have Ic := Lib.hid (Ib.out.keep (by omega) hb)
  have Tc := Lib.hid (Tb.out.trans (hb.mono (B' := w.heap.size) (by omega)))
  have zc : w1.heap.size < wc.heap.size := Nat.lt_of_lt_of_le zb hb.size
  clear hb Pb Ib Tb
  obtain ⟨n0, n1, n2⟩ := Nc.out
  go_wp2_with fail
  clear hwc p0 p1 p2
  have hq := implMeasureOk_any (W + B) t k wc
  refine hq.mono ?_
  clear hq
  rintro e wd ⟨he, hb⟩
  rw [M.out] at he
  have Nd := Lib.hid (hold3 hb yc Nc.out)
  have yd : wb.heap.size < wd.heap.size := Nat.lt_of_lt_of_le yc hb.size
  have Pd := Lib.hid (hold3 hb zc Pc.out)
  have Id := Lib.hid (Ic.out.keep (by omega) hb)
  have Td := Lib.hid (Tc.out.trans (hb.mono (B' := w.heap.size) (by omega)))
  have zd : w1.heap.size < wd.heap.size := Nat.lt_of_lt_of_le zc hb.size
  clear hb Pc Ic Tc
  clear n0 n1 n2 Nc
  by_cases hw : W + (B : Int) ≤ 2000
  case neg =>
    rw [decide_eq_false hw] at he; subst he
    obtain ⟨p0, p1, p2⟩ := Pd.out
    go_wp2
    go_ret
    exact ⟨rfl, Td.out⟩
  rw [decide_eq_true hw] at he; subst he
  obtain ⟨g1, g2, g3⟩ := G.out hw
  have G1 := Lib.hid g1; have G2 := Lib.hid g2; have G3 := Lib.hid g3
  clear g1 g2 g3 G M
  obtain ⟨n0, n1, n2⟩ := Nd.out
  go_wp2_with fail
  have hq := implSpread_any (W + B) t k _ m c1 zs _ Hl.out hm2 Id.out.ints
  rw [(spr_is G1.out).1, (spr_is G1.out).2, G1.out] at hq
  clear n0 n1 n2
  by_cases he : r = k - t
  · obtain ⟨x1, x2⟩ := G2.out he
    rw [x1, x2] at hq
    refine hq.mono ?_
    clear hq x1 x2 G1 G2 G3
    rintro e we ⟨rfl, hb⟩
    have Pe := Lib.hid (hold3 hb zd Pd.out)
    have Ie := Lib.hid (Id.out.keep (by omega) hb)
    have Te := Lib.hid (Td.out.trans (hb.mono (B' := w.heap.size) (by omega)))
    have ze : w1.heap.size < we.heap.size := Nat.lt_of_lt_of_le zd hb.size
    clear hb Pd Id Td
    obtain ⟨p0, p1, p2⟩ := Pe.out
    have hd : (r == k - t) = true := by simpa using he
    have hd2 : decide (r = k - t) = true := decide_eq_true he
    clear he
    go_wp2
    go_ret
    exact ⟨rfl, Te.out⟩
  · obtain ⟨x1, x2⟩ := G3.out he
    rw [x1, x2] at hq
    refine hq.mono ?_
    clear hq x1 x2 G1 G2 G3
    rintro e we ⟨rfl, hb⟩
    have Pe := Lib.hid (hold3 hb zd Pd.out)
    have Ie := Lib.hid (Id.out.keep (by omega) hb)
    have Te := Lib.hid (Td.out.trans (hb.mono (B' := w.heap.size) (by omega)))
    have ze : w1.heap.size < we.heap.size := Nat.lt_of_lt_of_le zd hb.size
    clear hb Pd Id Td
    obtain ⟨p0, p1, p2⟩ := Pe.out
    have hd : (r == k - t) = false := by simpa using he
    have hd2 : decide (r = k - t) = false := decide_eq_false he
    clear he
    go_wp2
    go_ret
    exact ⟨rfl, Te.out⟩
end Go.Proofs.Ytjfckplogjekaaa
