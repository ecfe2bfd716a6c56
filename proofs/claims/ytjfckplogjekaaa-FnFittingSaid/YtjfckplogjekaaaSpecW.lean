/-
  WidthsOf, SpreadLine, IsFull of the model by contract. Condition: lengths within the reach of a slice.
-/
import Derived.Test.YtjfckplogjekaaaSpecL
namespace Go.Proofs.Ytjfckplogjekaaa
open Go.RowKit
set_option linter.unusedVariables false

set_option maxHeartbeats 1600000 in
theorem specWidths_any (W t k : Int) (A : Option Addr) (n c : Nat) (zs : List Int) (w : World) (hn : zs.length = n) (hm : n ≤ maxLen) (h : Ints w A zs) :
    Calls Try.prog 45 #[.agg #[.int .i64 W, .int .i64 t, .int .i64 k], .slice A n c] w fun e w' => e = .returned (.tuple #[.int .i64 (wid1 ⟨W, t, k⟩ zs), .int .i64 (wid2 ⟨W, t, k⟩ zs), .bool (okB ⟨W, t, k⟩ zs)]) ∧ Below w.heap.size w w' := by
  have Hn := Lib.hid hn
  obtain ⟨w0, hw0, hb0, hz0, P⟩ := msWorld w W t k
  have T0 := Lib.hid hb0; have P0 := Lib.hid P; have Z0 := Lib.hid hz0
  have I0 := Lib.hid (h.below hb0)
  clear hb0 hz0 P hn h
  obtain ⟨p0, p1, p2⟩ := P0.out
  cases hms : msrB ⟨W, t, k⟩
  · obtain ⟨r1, r2, r3⟩ := wid_no (zs := zs) (Or.inl hms)
    rw [r1, r2, r3]
    go_enter Try.func45, Try.ntmps45
    go_wp2_with fail
    clear hw0
    have hz := Z0.out
    refine (specMeasureOk_any W t k _).mono ?_
    rintro e w1 ⟨he, hb1⟩
    rw [hms] at he; subst he
    have T1 := Lib.hid (T0.out.trans (hb1.mono (B' := w.heap.size) (by omega)))
    have P1 := Lib.hid (hold3 hb1 (by omega) P0.out)
    have I1 := Lib.hid (I0.out.below hb1)
    have z1 := hb1.size
    clear hb1 p0 p1 p2
    obtain ⟨p0, p1, p2⟩ := P1.out
    go_wp2
    go_ret3
    exact ⟨rfl, T1.out⟩
  cases hli : lineB zs
  · obtain ⟨r1, r2, r3⟩ := wid_no (m := ⟨W, t, k⟩) (Or.inr hli)
    rw [r1, r2, r3]
    go_enter Try.func45, Try.ntmps45
    go_wp2_with fail
    clear hw0
    have hz := Z0.out
    refine (specMeasureOk_any W t k _).mono ?_
    rintro e w1 ⟨he, hb1⟩
    rw [hms] at he; subst he
    have T1 := Lib.hid (T0.out.trans (hb1.mono (B' := w.heap.size) (by omega)))
    have P1 := Lib.hid (hold3 hb1 (by omega) P0.out)
    have I1 := Lib.hid (I0.out.below hb1)
    have z1 := hb1.size
    clear hb1 p0 p1 p2
    obtain ⟨p0, p1, p2⟩ := P1.out
    go_wp2_with fail
    refine (specLineOk_any A n c zs _ Hn.out hm I1.out).mono ?_
    rintro e w2 ⟨he, rfl⟩
    rw [hli] at he; subst he
    go_wp2
    go_ret3
    exact ⟨rfl, T1.out⟩
  obtain ⟨r1, r2, r3⟩ := wid_is (m := ⟨W, t, k⟩) hms hli
  have R1 := Lib.hid r1; have R2 := Lib.hid r2; have R3 := Lib.hid r3
  have hM := msrB_iff.1 hms
  simp only at hM
  obtain ⟨s0, s1, s2⟩ := lineB_sum hli
  have HL := Lib.hid hli
  have hm1 := mul_small (B := bandsN zs) (e := t) (by omega) (by omega) (by omega) (by omega)
  have hm2 := mul_small (B := bandsN zs) (e := k) (by omega) (by omega) (by omega) (by omega)
  clear r1 r2 r3
  go_enter Try.func45, Try.ntmps45
  go_wp2_with fail
  clear hw0
  have hz := Z0.out
  refine (specMeasureOk_any W t k _).mono ?_
  rintro e w1 ⟨he, hb1⟩
  rw [hms] at he; subst he
  have T1 := Lib.hid (T0.out.trans (hb1.mono (B' := w.heap.size) (by omega)))
  have P1 := Lib.hid (hold3 hb1 (by omega) P0.out)
  have I1 := Lib.hid (I0.out.below hb1)
  have z1 := hb1.size
  clear hb1 p0 p1 p2
  obtain ⟨p0, p1, p2⟩ := P1.out
  go_wp2_with fail
  refine (specLineOk_any A n c zs _ Hn.out hm I1.out).mono ?_
  rintro e w2 ⟨he, rfl⟩
  rw [hli] at he; subst he
  go_wp2_with fail
  refine (l3Sum_yes A n c zs _ Hn.out I1.out HL.out).mono ?_
  rintro e w2 ⟨rfl, rfl⟩
  go_wp2
  go_quiet (fail)
  go_wp2
  go_ret3
  exact ⟨by rw [R1.out, R2.out, R3.out]; rfl, below_drewN T1.out _⟩

set_option maxHeartbeats 1600000 in
theorem specSpread_any (W t k : Int) (A : Option Addr) (n c : Nat) (zs : List Int) (w : World) (hn : zs.length = n) (hm : n ≤ maxLen) (h : Ints w A zs) :
    Calls Try.prog 29 #[.agg #[.int .i64 W, .int .i64 t, .int .i64 k], .slice A n c] w fun e w' => e = .returned (.tuple #[.int .i64 (rise1 ⟨W, t, k⟩ zs), .int .i64 (rest1 ⟨W, t, k⟩ zs), .bool (goodB ⟨W, t, k⟩ zs)]) ∧ Below w.heap.size w w' := by
  have Hn := Lib.hid hn
  obtain ⟨w0, hw0, hb0, hz0, P⟩ := msWorld w W t k
  have T0 := Lib.hid hb0; have P0 := Lib.hid P; have Z0 := Lib.hid hz0
  have I0 := Lib.hid (h.below hb0)
  clear hb0 hz0 P hn h
  obtain ⟨p0, p1, p2⟩ := P0.out
  cases hms : msrB ⟨W, t, k⟩
  · have hg := good_no (zs := zs) hms
    obtain ⟨r1, r2⟩ := spr_no hg
    rw [r1, r2, hg]
    clear hg r1 r2
    go_enter Try.func29, Try.ntmps29
    go_wp2_with fail
    clear hw0
    have hz := Z0.out
    refine (specMeasureOk_any W t k _).mono ?_
    rintro e w1 ⟨he, hb1⟩
    rw [hms] at he; subst he
    have T1 := Lib.hid (T0.out.trans (hb1.mono (B' := w.heap.size) (by omega)))
    have P1 := Lib.hid (hold3 hb1 (by omega) P0.out)
    have I1 := Lib.hid (I0.out.below hb1)
    have z1 := hb1.size
    clear hb1 p0 p1 p2
    obtain ⟨p0, p1, p2⟩ := P1.out
    go_wp2
    go_ret3
    exact ⟨rfl, T1.out⟩
  have HM := Lib.hid hms
  cases hfi : fitsB ⟨W, t, k⟩ zs
  · have hg : goodB ⟨W, t, k⟩ zs = false := by unfold goodB; rw [hfi]; simp
    obtain ⟨r1, r2⟩ := spr_no hg
    rw [r1, r2, hg]
    clear hg r1 r2
    go_enter Try.func29, Try.ntmps29
    go_wp2_with fail
    clear hw0
    have hz := Z0.out
    refine (specMeasureOk_any W t k _).mono ?_
    rintro e w1 ⟨he, hb1⟩
    rw [hms] at he; subst he
    have T1 := Lib.hid (T0.out.trans (hb1.mono (B' := w.heap.size) (by omega)))
    have P1 := Lib.hid (hold3 hb1 (by omega) P0.out)
    have I1 := Lib.hid (I0.out.below hb1)
    have z1 := hb1.size
    clear hb1 p0 p1 p2
    obtain ⟨p0, p1, p2⟩ := P1.out
    go_wp2_with fail
    refine (l3Fits_any W t k A n c zs _ HM.out Hn.out hm I1.out).mono ?_
    rintro e w2 ⟨he, hb2⟩
    rw [hfi] at he; subst he
    have T2 := Lib.hid (T1.out.trans (hb2.mono (B' := w.heap.size) (by omega)))
    have P2 := Lib.hid (hold3 hb2 (by omega) P1.out)
    have I2 := Lib.hid (I1.out.below hb2)
    have z2 := hb2.size
    clear hb2 p0 p1 p2
    obtain ⟨p0, p1, p2⟩ := P2.out
    go_wp2
    go_ret3
    exact ⟨rfl, T2.out⟩
  have hg : goodB ⟨W, t, k⟩ zs = true := by unfold goodB; rw [hfi, hms]; rfl
  obtain ⟨r1, r2⟩ := spr_is hg
  rw [r1, r2, hg]
  have HG := Lib.hid hg
  clear hg r1 r2
  go_enter Try.func29, Try.ntmps29
  go_wp2_with fail
  clear hw0
  have hz := Z0.out
  refine (specMeasureOk_any W t k _).mono ?_
  rintro e w1 ⟨he, hb1⟩
  rw [hms] at he; subst he
  have T1 := Lib.hid (T0.out.trans (hb1.mono (B' := w.heap.size) (by omega)))
  have P1 := Lib.hid (hold3 hb1 (by omega) P0.out)
  have I1 := Lib.hid (I0.out.below hb1)
  have z1 := hb1.size
  clear hb1 p0 p1 p2
  obtain ⟨p0, p1, p2⟩ := P1.out
  go_wp2_with fail
  refine (l3Fits_any W t k A n c zs _ HM.out Hn.out hm I1.out).mono ?_
  rintro e w2 ⟨he, hb2⟩
  rw [hfi] at he; subst he
  have T2 := Lib.hid (T1.out.trans (hb2.mono (B' := w.heap.size) (by omega)))
  have P2 := Lib.hid (hold3 hb2 (by omega) P1.out)
  have I2 := Lib.hid (I1.out.below hb2)
  have z2 := hb2.size
  clear hb2 p0 p1 p2
  obtain ⟨p0, p1, p2⟩ := P2.out
  go_wp2_with fail
  refine (l3Spread_any W t k A n c zs _ HG.out Hn.out I2.out).mono ?_
  rintro e w3 ⟨rfl, hb3⟩
  have T3 := Lib.hid (T2.out.trans (hb3.mono (B' := w.heap.size) (by omega)))
  clear hb3
  go_wp2
  go_ret3
  exact ⟨rfl, T3.out⟩

set_option maxHeartbeats 1600000 in
theorem specIsFull_any (W t k : Int) (A : Option Addr) (n c : Nat) (zs : List Int) (w : World) (hn : zs.length = n) (hm : n ≤ maxLen) (h : Ints w A zs) :
    Calls Try.prog 46 #[.agg #[.int .i64 W, .int .i64 t, .int .i64 k], .slice A n c] w fun e w' => e = .returned (.bool (fullB ⟨W, t, k⟩ zs)) ∧ Below w.heap.size w w' := by
  have Hn := Lib.hid hn
  obtain ⟨w0, hw0, hb0, hz0, P⟩ := msWorld w W t k
  have T0 := Lib.hid hb0; have P0 := Lib.hid P; have Z0 := Lib.hid hz0
  have I0 := Lib.hid (h.below hb0)
  clear hb0 hz0 P hn h
  obtain ⟨p0, p1, p2⟩ := P0.out
  cases hg : goodB ⟨W, t, k⟩ zs
  · have HR : Hid (fullB ⟨W, t, k⟩ zs = false) := by show _ = _; unfold fullB; rw [hg]; rfl
    obtain ⟨r1, r2⟩ := spr_no hg
    go_enter Try.func46, Try.ntmps46
    go_wp2_with fail
    clear hw0
    have hz := Z0.out
    refine (specSpread_any W t k A n c zs _ Hn.out hm I0.out).mono ?_
    rintro e w1 ⟨he, hb1⟩
    rw [r1, r2, hg] at he; subst he
    have T1 := Lib.hid (T0.out.trans (hb1.mono (B' := w.heap.size) (by omega)))
    have I1 := Lib.hid (I0.out.below hb1)
    clear hb1
    go_wp2_with fail
    refine (l3Sum_any A n c zs _ Hn.out hm I1.out).mono ?_
    rintro e w2 ⟨s, b, rfl, -, rfl⟩
    go_wp2
    go_ret
    exact ⟨ret_bool HR.out.symm, T1.out⟩
  obtain ⟨r1, r2⟩ := spr_is hg
  obtain ⟨hms, hli, _⟩ := goodB_parts hg
  have HL := Lib.hid hli
  obtain ⟨r, hr⟩ : ∃ r, restL ⟨W, t, k⟩ zs = r := ⟨_, rfl⟩
  have HR : Hid (fullB ⟨W, t, k⟩ zs = (r == 0 || decide (r < (bandsN zs : Int)))) := by show _ = _; unfold fullB fullL fullF; unfold restL at hr; rw [hg, hr]; rfl
  rw [hr] at r2
  have R1 := Lib.hid r1; have R2 := Lib.hid r2; have HG := Lib.hid hg
  clear r1 r2 hr hms hli
  cases hr0 : (r == 0)
  · go_enter Try.func46, Try.ntmps46
    go_wp2_with fail
    clear hw0
    have hz := Z0.out
    refine (specSpread_any W t k A n c zs _ Hn.out hm I0.out).mono ?_
    rintro e w1 ⟨he, hb1⟩
    rw [R1.out, R2.out, HG.out] at he; subst he
    have T1 := Lib.hid (T0.out.trans (hb1.mono (B' := w.heap.size) (by omega)))
    have I1 := Lib.hid (I0.out.below hb1)
    clear hb1
    go_wp2_with fail
    refine (l3Sum_yes A n c zs _ Hn.out I1.out HL.out).mono ?_
    rintro e w2 ⟨rfl, rfl⟩
    go_wp2
    go_ret
    exact ⟨ret_bool (by rw [HR.out, hr0]; rfl), T1.out⟩
  · go_enter Try.func46, Try.ntmps46
    go_wp2_with fail
    clear hw0
    have hz := Z0.out
    refine (specSpread_any W t k A n c zs _ Hn.out hm I0.out).mono ?_
    rintro e w1 ⟨he, hb1⟩
    rw [R1.out, R2.out, HG.out] at he; subst he
    have T1 := Lib.hid (T0.out.trans (hb1.mono (B' := w.heap.size) (by omega)))
    have I1 := Lib.hid (I0.out.below hb1)
    clear hb1
    go_wp2_with fail
    refine (l3Sum_yes A n c zs _ Hn.out I1.out HL.out).mono ?_
    rintro e w2 ⟨rfl, rfl⟩
    go_wp2
    go_ret
    exact ⟨ret_bool (by rw [HR.out, hr0]; rfl), T1.out⟩
end Go.Proofs.Ytjfckplogjekaaa
