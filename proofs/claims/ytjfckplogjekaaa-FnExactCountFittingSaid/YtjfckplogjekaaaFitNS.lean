/-
  CountFitting of the model by contract. Conditions: lengths of at most 2^20, which are at most the capacity.
-/
import Derived.Test.YtjfckplogjekaaaFitN
namespace Go.Proofs.Ytjfckplogjekaaa
open Go.RowKit
set_option linter.unusedVariables false

theorem undrewB {B : Nat} {w w1 : World} (h : Below B w.drew w1) : Below B w w1 := ((Below.refl B w).drew).trans h

set_option maxRecDepth 100000 in
set_option maxHeartbeats 3200000 in
theorem specFitN_any (W t k : Int) (A : Option Addr) (n c : Nat) (zs : List Int) (A2 : Option Addr) (n2 c2 : Nat) (ys : List Int) (w : World) (hn : zs.length = n) (hm : n ≤ 1048576) (h : Ints w A zs) (hn2 : ys.length = n2) (hm2 : n2 ≤ 1048576) (hc2 : n2 ≤ c2) (hc2m : c2 ≤ maxLen) (h2 : Ints w A2 ys) :
    Calls Try.prog 51 #[.agg #[.int .i64 W, .int .i64 t, .int .i64 k], .slice A n c, .slice A2 n2 c2] w fun e w' => e = .returned (.int .i64 (cfI ⟨W, t, k⟩ zs ys)) ∧ Below w.heap.size w w' := by
  have Hn := Lib.hid hn; have Hn2 := Lib.hid hn2
  obtain ⟨w0, hw0, hb0, hz0, P⟩ := msWorld w W t k
  have T0 := Lib.hid hb0; have P0 := Lib.hid P; have Z0 := Lib.hid hz0
  have I0 := Lib.hid ((IntsB.of h).keep (Nat.le_refl _) hb0)
  have J0 := Lib.hid ((IntsB.of h2).keep (Nat.le_refl _) hb0)
  have hm0 : n ≤ maxLen := by unfold maxLen; omega
  have hm20 : n2 ≤ maxLen := by unfold maxLen; omega
  have hzz := Z0.out
  unfold maxLen at hc2m
  clear hb0 hz0 P hn hn2 h h2
  obtain ⟨p0, p1, p2⟩ := P0.out
  cases hms : msrB ⟨W, t, k⟩
  · have HR : Hid (cfI ⟨W, t, k⟩ zs ys = -1) := by show _ = _; unfold cfI cfB; rw [good_no hms]; rfl
    go_enter Try.func51, Try.ntmps51
    go_wp2_with fail
    clear hw0
    refine (specMeasureOk_any W t k _).mono ?_
    rintro e' w1 ⟨he', hb1⟩
    rw [hms] at he'; subst he'
    have T1 := Lib.hid (T0.out.trans (hb1.mono (by omega)))
    clear hb1
    go_wp2
    go_ret
    exact ⟨ret_int HR.out.symm, T1.out⟩
  have HM := Lib.hid hms
  cases hfi : fitsB ⟨W, t, k⟩ zs
  · have HR : Hid (cfI ⟨W, t, k⟩ zs ys = -1) := by show _ = _; unfold cfI cfB goodB; rw [hfi, Bool.and_false]; rfl
    go_enter Try.func51, Try.ntmps51
    go_wp2_with fail
    clear hw0
    refine (specMeasureOk_any W t k _).mono ?_
    rintro e' w1 ⟨he', hb1⟩
    rw [hms] at he'; subst he'
    have T1 := Lib.hid (T0.out.trans (hb1.mono (by omega))); have P1 := hold3 hb1 (by omega) P0.out; have I1 := Lib.hid (I0.out.keep (by omega) hb1)
    have z1 := hb1.size
    clear hb1 p0 p1 p2
    obtain ⟨p0, p1, p2⟩ := P1
    go_wp2_with fail
    refine (l3Fits_any W t k A n c zs _ HM.out Hn.out hm0 I1.out.ints).mono ?_
    rintro e' w2 ⟨he', hb2⟩
    rw [hfi] at he'; subst he'
    have T2 := Lib.hid (T1.out.trans (hb2.mono (by omega)))
    clear hb2
    go_wp2
    go_ret
    exact ⟨ret_int HR.out.symm, T2.out⟩
  have hg : goodB ⟨W, t, k⟩ zs = true := by unfold goodB; rw [hfi, hms]; rfl
  have hn120 : n ≤ 120 := by rw [← Hn.out]; exact (lineB_parts (goodB_parts hg).2.1).2
  cases hl : lineB ys
  · have HR : Hid (cfI ⟨W, t, k⟩ zs ys = -1) := by show _ = _; unfold cfI cfB; rw [hg, hl]; rfl
    go_enter Try.func51, Try.ntmps51
    go_wp2_with fail
    clear hw0
    refine (specMeasureOk_any W t k _).mono ?_
    rintro e' w1 ⟨he', hb1⟩
    rw [hms] at he'; subst he'
    have T1 := Lib.hid (T0.out.trans (hb1.mono (by omega))); have P1 := hold3 hb1 (by omega) P0.out; have I1 := Lib.hid (I0.out.keep (by omega) hb1); have J1 := Lib.hid (J0.out.keep (by omega) hb1)
    have z1 := hb1.size
    clear hb1 p0 p1 p2
    obtain ⟨p0, p1, p2⟩ := P1
    go_wp2_with fail
    refine (l3Fits_any W t k A n c zs _ HM.out Hn.out hm0 I1.out.ints).mono ?_
    rintro e' w2 ⟨he', hb2⟩
    rw [hfi] at he'; subst he'
    have T2 := Lib.hid (T1.out.trans (hb2.mono (by omega))); have J2 := Lib.hid (J1.out.keep (by omega) hb2)
    clear hb2
    go_wp2_with fail
    refine (specLineOk_any A2 n2 c2 ys _ Hn2.out hm20 J2.out.ints).mono ?_
    rintro e' w3 ⟨he', rfl⟩
    rw [hl] at he'; subst he'
    go_wp2
    go_ret
    exact ⟨ret_int HR.out.symm, T2.out⟩
  have HR : Hid (cfI ⟨W, t, k⟩ zs ys = cntF ⟨W, t, k⟩ zs ys) := by show _ = _; unfold cfI cfB; rw [hg, hl]; rfl
  have hn2120 : n2 ≤ 120 := by rw [← Hn2.out]; exact (lineB_parts hl).2
  clear hg
  go_enter Try.func51, Try.ntmps51
  go_wp2_with fail
  clear hw0
  refine (specMeasureOk_any W t k _).mono ?_
  rintro e' w1 ⟨he', hb1⟩
  rw [hms] at he'; subst he'
  have T1 := Lib.hid (T0.out.trans (hb1.mono (by omega))); have P1 := Lib.hid (hold3 hb1 (by omega) P0.out); have I1 := Lib.hid (I0.out.keep (by omega) hb1); have J1 := Lib.hid (J0.out.keep (by omega) hb1)
  have z1 := hb1.size
  clear hb1 p0 p1 p2 hms
  obtain ⟨p0, p1, p2⟩ := P1.out
  go_wp2_with fail
  refine (l3Fits_any W t k A n c zs _ HM.out Hn.out hm0 I1.out.ints).mono ?_
  rintro e' w2 ⟨he', hb2⟩
  rw [hfi] at he'; subst he'
  have T2 := Lib.hid (T1.out.trans (hb2.mono (by omega))); have P2 := Lib.hid (hold3 hb2 (by omega) P1.out); have I2 := Lib.hid (I1.out.keep (by omega) hb2); have J2 := Lib.hid (J1.out.keep (by omega) hb2)
  have z2 := hb2.size
  clear hb2 p0 p1 p2 hfi
  go_wp2_with fail
  refine (specLineOk_any A2 n2 c2 ys _ Hn2.out hm20 J2.out.ints).mono ?_
  rintro e' w3 ⟨he', rfl⟩
  rw [hl] at he'; subst he'
  clear hl
  go_wp2
  go_loopw [7] (fun i wr => ∃ q : Nat, q ≤ n2 ∧ i = .int .i64 q ∧ (∀ i, i < q → fitsB ⟨W, t, k⟩ (zs ++ ys.take (i + 1)) = true) ∧ Below w2.heap.size w2 wr) (fun i _ => n2 - (intOf i).toNat)
  case atStart => exact ⟨0, Nat.zero_le _, rfl, fun i hi => absurd hi (by omega), Below.refl _ _⟩
  case round =>
    obtain ⟨q, hq, rfl, hall, hb⟩ := hrel
    have HA := Lib.hid hall; have HB := Lib.hid hb
    have hsz := hb.size
    clear hall hb
    have Ir := Lib.hid (I2.out.keep (by omega) HB.out); have Jr := Lib.hid (J2.out.keep (by omega) HB.out); have Pr := Lib.hid (hold3 HB.out (by omega) P2.out)
    obtain ⟨p0, p1, p2⟩ := Pr.out
    by_cases hlt : q < n2
    · obtain ⟨ad2, rfl, _⟩ := Jr.out.ints (by rw [Hn2.out]; omega)
      have hqc : (q : Int) + 1 ≤ (c2 : Int) := by omega
      have hq0 : (0 : Int) ≤ (q : Int) + 1 := by omega
      have hlt' : (q : Int) < (n2 : Int) := by omega
      have e1 : IntKind.i64.wrap ((q : Int) + 1) = (q : Int) + 1 := by rw [IntKind.wrap_i64]; omega
      have hL2 : (ys.take (q + 1)).length = q + 1 := by rw [List.length_take, Hn2.out]; omega
      have HL2 := Lib.hid hL2
      have hbn := below_new wr (.cells #[] 3)
      have HO4 : Hid (Own (wr.alloc (.cells #[] 3)).drew wr.heap.size (.slice (some ⟨wr.heap.size, 0, none⟩) 0 0) []) := World.ownsRow_lit wr #[] 0 (Nat.le_refl _) (Nat.zero_le _) rfl
      have HI4 : Hid (Ints (wr.alloc (.cells #[] 3)).drew A zs) := Ints.drew ((Ir.out.keep (by omega) hbn).ints)
      have HJ4 := Lib.hid (intsB_pre (k := q + 1) (Jr.out.keep (B := wr.heap.size) (by omega) hbn))
      have HLN : Hid ((zs ++ ys.take (q + 1)).length = n + (q + 1)) := by show _ = _; rw [List.length_append, Hn.out, hL2]
      obtain ⟨fb, hfb⟩ : ∃ b, fitsB ⟨W, t, k⟩ (zs ++ ys.take (q + 1)) = b := ⟨_, rfl⟩
      have HFB := Lib.hid hfb
      have HB4 := Lib.hid hbn
      clear hL2 hfb hbn
      go_wp2_with fail
      first
        | go_region_held3 (fun w' => w'.cell? ⟨w.heap.size, 0, none⟩ = some (.int .i64 W) ∧ w'.cell? ⟨w.heap.size, 1, none⟩ = some (.int .i64 t) ∧ w'.cell? ⟨w.heap.size, 2, none⟩ = some (.int .i64 k)) (first | go_keep | exact P5.out | exact P6.out | exact P7.out | exact hold3 (below_new _ _) (by omega) Pr.out)
          (first
            | (refine step_app_any (by rfl) (.tmp 28) (.tmp 29) rfl wr.heap.size (.slice (some ⟨wr.heap.size, 0, none⟩) 0 0) [] zs A n c (by simp [Act.eval]) (by simp [Act.eval]) Hn.out HI4.out HO4.out (by simp) (by simp; omega) ?_; intro v5 w5 hO5 hg5; rw [List.nil_append] at hO5; obtain ⟨A5, c5, hv5, _⟩ := hO5.form; rw [Hn.out] at hv5; subst hv5; have hx5 : Below wr.heap.size (wr.alloc (.cells #[] 3)) w5 := undrewB ((Below.refl wr.heap.size (wr.alloc (.cells #[] 3)).drew).grown hg5 (by simp) (fun g hg => by injection hg with hg; subst hg; exact Nat.le_refl _)); have hc5 : Below wr.heap.size wr w5 := HB4.out.trans hx5; have P5 := Lib.hid (hold3 hc5 (by omega) Pr.out); have B5 := Lib.hid (HB.out.trans (hc5.mono (B' := w2.heap.size) (by omega))); have J5 := Lib.hid (HJ4.out.keep (by omega) hx5); have O5 := Lib.hid hO5; have z5 := hc5.size; clear hg5 hx5 hc5 hO5)
            | (refine step_app_any (by rfl) (.tmp 30) (.tmp 34) rfl wr.heap.size (.slice A5 n c5) zs (ys.take (q + 1)) (some ad2) (q + 1) c2 (by simp [Act.eval]) (by simp [Act.eval]) HL2.out J5.out.ints O5.out z5 (by rw [Hn.out]; omega) ?_; intro v6 w6 hO6 hg6; obtain ⟨A6, c6, hv6, hI6, _⟩ := hO6.form; rw [HLN.out] at hv6; subst hv6; have hc6 : Below wr.heap.size w5 w6 := (Below.refl wr.heap.size w5).grown hg6 z5 (fun g hg => (World.ownsRow.lt O5.out g hg).1); have P6 := Lib.hid (hold3 hc6 (by omega) P5.out); have B6 := Lib.hid (B5.out.trans (hc6.mono (B' := w2.heap.size) (by omega))); have I6 := Lib.hid hI6; have z6 := hc6.size; clear hg6 hc6 hO6 hI6)
            | (go_at_call 62; refine (l3Fits_any W t k A6 (n + (q + 1)) c6 (zs ++ ys.take (q + 1)) _ HM.out HLN.out (by unfold maxLen; omega) I6.out).mono ?_; rintro e' w7 ⟨he', hb7⟩; rw [HFB.out] at he'; subst he'; have P7 := Lib.hid (hold3 hb7 (by omega) P6.out); have B7 := Lib.hid (B6.out.trans (hb7.mono (B' := w2.heap.size) (by omega))); clear hb7))
        | fail "the region"
      cases fb
      · have HS := Lib.hid (cntF_stop (by rw [Hn2.out]; exact hlt) HFB.out HA.out)
        go_wp2
        go_ret
        exact ⟨ret_int (by rw [HR.out, HS.out]), T2.out.trans (B7.out.mono (by omega))⟩
      · have HA2 : Hid (∀ i, i < q + 1 → fitsB ⟨W, t, k⟩ (zs ++ ys.take (i + 1)) = true) := fun i hi => by
          by_cases he : i = q
          · subst he; exact HFB.out
          · exact HA.out i (by omega)
        go_wp2
        go_roundw
        case rel => exact ⟨q + 1, by omega, by go_num, HA2.out, B7.out⟩
        case measure => simp [intOf]; omega
    · have hqn : q = n2 := by omega
      subst hqn
      have HS := Lib.hid (cntF_all (m := ⟨W, t, k⟩) (zs := zs) (ys := ys) (fun i hi => HA.out i (by rw [← Hn2.out]; exact hi)))
      have hd : decide ((q : Int) < (q : Int)) = false := by simp
      go_wp2_with fail
      go_quiet (fail)
      go_wp2
      go_ret
      exact ⟨ret_int (by rw [HR.out, HS.out, Hn2.out]), T2.out.trans (below_drewN (HB.out.mono (by omega)) _)⟩
end Go.Proofs.Ytjfckplogjekaaa
