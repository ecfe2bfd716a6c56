/-
  Contracts and plain mathematics (FullI, BandI, PlaceI, Lett, Txt), each with its conditions in its own statement.
-/
import Derived.Test.YtimhnkpccbcohaaGreatDoorZPkF
import Derived.Test.YtimhnkpccbcohaaGreatDoorZPkA
import Derived.Test.YtimhnkpccbcohaaGreatDoorZPkD
import Derived.Test.YtimhnkpccbcohaaGreatDoorZPkB
import Derived.Laws.BytesArg
namespace Go.Proofs.YtimhnkpccbcohaaGreatDoor
open Go.RowKit
set_option linter.unusedVariables false
theorem full_no {m : Msr} {zs : List Int} (h : msrB m = false) : fullB m zs = false := by unfold fullB; rw [good_no h]; rfl
theorem full_line {m : Msr} {zs : List Int} (h : lineB zs = false) : fullB m zs = false := by unfold fullB; rw [good_line h]; rfl
theorem full_is {m : Msr} {zs : List Int} (h : msrB m = true) (h2 : lineB zs = true) : fullB m zs = (decide (widF (sumL zs) (bandsN zs) m.t ≤ m.w) && fullF m (sumL zs) (bandsN zs)) := by
  unfold fullB; rw [good_is h h2]; rfl

set_option maxRecDepth 100000 in
set_option maxHeartbeats 1600000 in
theorem implIsFull_any (W t k : Int) (A : Option Addr) (n c : Nat) (zs : List Int) (w : World) (hn : zs.length = n) (hm : n ≤ maxLen) (h : Ints w A zs) :
    Calls Tryz.prog 122 #[.agg #[.int .i64 W, .int .i64 t, .int .i64 k], .slice A n c] w fun e w' => e = .returned (.bool (fullB ⟨W, t, k⟩ zs)) ∧ Below w.heap.size w w' := by
  have Hn := Lib.hid hn
  obtain ⟨w0, hw0, hb0, hz0, P⟩ := msWorld w W t k
  have T0 := Lib.hid hb0; have P0 := Lib.hid P; have Z0 := Lib.hid hz0
  have I0 := Lib.hid (h.below hb0)
  clear hb0 hz0 P hn h
  obtain ⟨p0, p1, p2⟩ := P0.out
  cases hms : msrB ⟨W, t, k⟩
  · have HR := Lib.hid (full_no (zs := zs) hms)
    go_enter Tryz.func122, Tryz.ntmps122
    go_wp2_with fail
    clear hw0
    have hz := Z0.out
    first
      | go_region_with ((first
          | (go_at_call 111; refine (implMeasureOk_any W t k _).mono ?_; rintro e w1 ⟨he, hb1⟩; rw [hms] at he; subst he; have hc1 : Below w0.heap.size w0 w1 := undrew hb1; have P1 := Lib.hid (hold3 hc1 (by omega) P0.out); have T1 := Lib.hid (T0.out.trans (hc1.mono (B' := w.heap.size) (by omega))); clear hb1 hc1; obtain ⟨p0, p1, p2⟩ := P1.out)))
      | fail "the region"
    all_goals
      go_wp2
      go_ret
      exact ⟨ret_bool HR.out.symm, T1.out⟩
  cases hli : lineB zs
  · have HR := Lib.hid (full_line (m := ⟨W, t, k⟩) hli)
    go_enter Tryz.func122, Tryz.ntmps122
    go_wp2_with fail
    clear hw0
    have hz := Z0.out
    first
      | go_region_with ((first
          | (go_at_call 111; refine (implMeasureOk_any W t k _).mono ?_; rintro e w1 ⟨he, hb1⟩; rw [hms] at he; subst he; have hc1 : Below w0.heap.size w0 w1 := undrew hb1; have P1 := Lib.hid (hold3 hc1 (by omega) P0.out); have T1 := Lib.hid (T0.out.trans (hc1.mono (B' := w.heap.size) (by omega))); have I1 := Lib.hid (I0.out.below hc1); clear hb1 hc1; obtain ⟨p0, p1, p2⟩ := P1.out)
          | (go_at_call 112; refine (implLineOk_any A n c zs _ Hn.out hm I1.out).mono ?_; rintro e w2 ⟨he, rfl⟩; rw [hli] at he; subst he)))
      | fail "the region"
    all_goals
      go_wp2
      go_ret
      exact ⟨ret_bool HR.out.symm, T1.out⟩
  have HR := Lib.hid (full_is (m := ⟨W, t, k⟩) hms hli)
  have HL := Lib.hid hli; have HM := Lib.hid hms
  obtain ⟨s0, s1, s2⟩ := lineB_sum hli
  go_enter Tryz.func122, Tryz.ntmps122
  go_wp2_with fail
  clear hw0
  have hz := Z0.out
  first
    | go_region_held3 (fun w' => w'.cell? ⟨w.heap.size, 0, none⟩ = some (.int .i64 W) ∧ w'.cell? ⟨w.heap.size, 1, none⟩ = some (.int .i64 t) ∧ w'.cell? ⟨w.heap.size, 2, none⟩ = some (.int .i64 k)) (first | go_keep | exact P1.out | exact P3.out | exact P4.out) (first
        | (go_at_call 111; refine (implMeasureOk_any W t k _).mono ?_; rintro e w1 ⟨he, hb1⟩; rw [HM.out] at he; subst he; have hc1 : Below w0.heap.size w0 w1 := undrew hb1; have P1 := Lib.hid (hold3 hc1 (by omega) P0.out); have T1 := Lib.hid (T0.out.trans (hc1.mono (B' := w.heap.size) (by omega))); have I1 := Lib.hid (I0.out.below hc1); have z1 := hc1.size; clear hb1 hc1; obtain ⟨p0, p1, p2⟩ := P1.out)
        | (go_at_call 112; refine (implLineOk_any A n c zs _ Hn.out hm I1.out).mono ?_; rintro e w2 ⟨he, rfl⟩; rw [HL.out] at he; subst he)
        | (go_at_call 113; refine (loadOf_any A n c zs _ Hn.out I1.out HL.out).mono ?_; rintro e w3 ⟨rfl, hb3⟩; have P3 := Lib.hid (hold3 hb3 (by omega) P1.out); have T3 := Lib.hid (T1.out.trans (hb3.mono (B' := w.heap.size) (by omega))); have z3 := hb3.size; clear hb3; obtain ⟨p0, p1, p2⟩ := P3.out)
        | (go_at_call 136; refine (ldFull_any (sumL zs) (bandsN zs) W t k _ s0 (by omega) s2 HM.out).mono ?_; rintro e w4 ⟨rfl, hb4⟩; have P4 := Lib.hid (hold3 hb4 (by omega) P3.out); have T4 := Lib.hid (T3.out.trans (hb4.mono (B' := w.heap.size) (by omega))); clear hb4))
    | fail "the region"
  all_goals
    go_wp2
    go_ret
    exact ⟨ret_bool HR.out.symm, T4.out⟩
end Go.Proofs.YtimhnkpccbcohaaGreatDoor

namespace Go.Proofs.YtimhnkpccbcohaaGreatDoor
open Go.RowKit
set_option linter.unusedVariables false

def moreF (m : Msr) (L : Int) (B : Nat) : Int := if fullF m L B then restF m L B else 0
theorem mswWorld (w : World) (L B W t k : Int) : ∃ w0, (w.alloc (.cells #[.int .i64 W, .int .i64 t, .int .i64 k] 34)).alloc (.cells #[.int .i64 L, .int .i64 B] 155) = w0 ∧ Below w.heap.size w w0 ∧ w0.heap.size = w.heap.size + 2 ∧
    (w0.cell? ⟨w.heap.size, 0, none⟩ = some (.int .i64 W) ∧ w0.cell? ⟨w.heap.size, 1, none⟩ = some (.int .i64 t) ∧ w0.cell? ⟨w.heap.size, 2, none⟩ = some (.int .i64 k)) ∧
    (w0.cell? ⟨w.heap.size + 1, 0, none⟩ = some (.int .i64 L) ∧ w0.cell? ⟨w.heap.size + 1, 1, none⟩ = some (.int .i64 B)) := by
  refine ⟨_, rfl, (below_new _ _).trans ((below_new _ _).mono (by simp)), by simp, ?_, ?_⟩
  · exact hold3 (below_new _ _) (by simp) (lay3 w (.int .i64 W) (.int .i64 t) (.int .i64 k) 34)
  · have := lay2 (w.alloc (.cells #[.int .i64 W, .int .i64 t, .int .i64 k] 34)) (.int .i64 L) (.int .i64 B) 155
    rw [World.size_alloc] at this
    exact this
theorem own_base0 {w : World} {B B' : Nat} {v : Value} {zs : List Int} (h : Own w B v zs) (hB : B' ≤ B) : Own w B' v zs := by
  refine ⟨h.1, ?_⟩
  rcases h.2 with hn | ⟨g, cap, cur, hv, hg, rest⟩
  · exact .inl hn
  · exact .inr ⟨g, cap, cur, hv, by omega, rest⟩
theorem half_at (zs : List Int) {n k : Nat} (hn : zs.length = n) (hk : k < n) (u v : Value) : ((half zs n k).set k u).set k v = (half zs n k).set k v := by
  rw [List.set_set]

set_option maxRecDepth 100000 in
set_option maxHeartbeats 3200000 in
theorem bandWidths_any (L : Int) (B : Nat) (W t k : Int) (w : World) (h0 : 0 ≤ L) (h1 : L ≤ 1000000) (h3 : B ≤ 120) (hm : msrB ⟨W, t, k⟩ = true) (hf : widF L B t ≤ W) :
    Calls Tryz.prog 123 #[.agg #[.int .i64 W, .int .i64 t, .int .i64 k], .agg #[.int .i64 L, .int .i64 B]] w fun e w' => ∃ g, e = .returned (.slice (some ⟨g, 0, none⟩) B B) ∧ w.heap.size ≤ g ∧ Own w' w.heap.size (.slice (some ⟨g, 0, none⟩) B B) (bandL (t + riseF ⟨W, t, k⟩ L B) (moreF ⟨W, t, k⟩ L B) B) ∧ Below w.heap.size w w' := by
  have hM := msrB_iff.1 hm
  simp only at hM
  obtain ⟨r0, r1, r2, _, _⟩ := riseF_spec hm hf
  simp only at r1
  have HM := Lib.hid hm
  obtain ⟨w0, hw0, hb0, hz0, P, X⟩ := mswWorld w L B W t k
  have T0 := Lib.hid hb0; have X0 := Lib.hid X; have P0 := Lib.hid P; have Z0 := Lib.hid hz0
  have hd : decide (widF L B t ≤ W) = true := decide_eq_true hf
  have C0 := ldFull_any L B W t k w0 h0 h1 h3 hm
  rw [hd, Bool.true_and] at C0
  have CF := Lib.hid C0
  have CR := Lib.hid (fun wx => ldRest_any L B W t k wx h0 h1 h3 hm)
  have CS := Lib.hid (fun wx => ldRise_any L B W t k wx h0 h1 h3 hm)
  obtain ⟨rs, hrs⟩ : ∃ r, riseF ⟨W, t, k⟩ L B = r := ⟨_, rfl⟩
  obtain ⟨re, hre⟩ : ∃ r, restF ⟨W, t, k⟩ L B = r := ⟨_, rfl⟩
  obtain ⟨e, he⟩ : ∃ r, moreF ⟨W, t, k⟩ L B = r := ⟨_, rfl⟩
  have HE : Hid (e = if fullF ⟨W, t, k⟩ L B then re else 0) := by show _ = _; rw [← he, ← hre]; rfl
  rw [he]
  rw [hrs] at r0 r1 CS ⊢
  rw [hre] at r2 CR
  clear hb0 hz0 P X hm hf hd C0 hrs hre he
  have hzz := Z0.out
  obtain ⟨p0, p1, p2⟩ := P0.out
  obtain ⟨q0, q1⟩ := X0.out
  cases hfu : fullF ⟨W, t, k⟩ L B
  all_goals
    rw [hfu] at CF HE
    go_enter Tryz.func123, Tryz.ntmps123
    go_wp2_with fail
    clear hw0
    refine CF.out.mono ?_
    rintro e' w1 ⟨rfl, hb1⟩
    have T1 := Lib.hid (T0.out.trans (hb1.mono (by omega))); have P1 := Lib.hid (hold3 hb1 (by omega) P0.out); have X1 := Lib.hid (hold2 hb1 (by omega) X0.out)
    have z1 := hb1.size
    clear hb1 p0 p1 p2 q0 q1
    obtain ⟨p0, p1, p2⟩ := P1.out
    obtain ⟨q0, q1⟩ := X1.out
    obtain ⟨w2, hw2⟩ : ∃ w2, w2 = w1 := ⟨_, rfl⟩
    have tok : True := trivial
    first
      | (go_wp2_with fail
         refine (CR.out _).mono ?_
         rintro e' w2 ⟨rfl, hb2⟩
         clear hw2
         have T2 := Lib.hid (T1.out.trans (hb2.mono (by omega))); have P2 := Lib.hid (hold3 hb2 (by omega) P1.out); have X2 := Lib.hid (hold2 hb2 (by omega) X1.out)
         have z2 := hb2.size
         clear hb2 p0 p1 p2 q0 q1
         obtain ⟨p0, p1, p2⟩ := P2.out
         obtain ⟨q0, q1⟩ := X2.out
         go_wp2_with (at_make; refine wpl_make_int _ rfl (.tmp 15) rfl B _ rfl rfl (by omega) ?_; intro w3 hown3 hb3))
      | (subst hw2
         have T2 := Lib.hid T1.out; have P2 := Lib.hid P1.out; have X2 := Lib.hid X1.out
         have z2 : w2.heap.size ≤ w2.heap.size := Nat.le_refl _
         go_wp2_with (at_make; refine wpl_make_int _ rfl (.tmp 15) rfl B _ rfl rfl (by omega) ?_; intro w3 hown3 hb3))
    have HR3 := Lib.hid hown3; have HB3 := Lib.hid hb3
    have z3 := hb3.size
    clear hown3 hb3 p0 p1 p2 q0 q1
    go_loopw [19] (fun i wr => ∃ j : Nat, j ≤ B ∧ i = .int .i64 j ∧ wr.ownsRow w2.heap.size 3 1 (.slice (some ⟨w2.heap.size, 0, none⟩) B B) B (half (bandL (t + rs) e B) B j) ∧ Below w2.heap.size w2 wr) (fun i _ => B - (intOf i).toNat)
    case atStart => exact ⟨0, Nat.zero_le _, rfl, by have := HR3.out; simpa [half] using this, HB3.out⟩
    case round =>
      obtain ⟨j, hj, rfl, hown, hb⟩ := hrel
      have hsz := hb.size
      have HO := Lib.hid hown; have HB := Lib.hid hb
      clear hown hb
      by_cases hlt : j < B
      · have Pr := Lib.hid (hold3 HB.out (by omega) P2.out); have Xr := Lib.hid (hold2 HB.out (by omega) X2.out)
        obtain ⟨p0, p1, p2⟩ := Pr.out
        obtain ⟨q0, q1⟩ := Xr.out
        obtain ⟨v0, hv0⟩ := half_cell (bandL (t + rs) e B) B j (bandL_len _ _ _) hlt
        have HV := Lib.hid hv0
        have HW := Lib.hid (half_set (bandL_len (t + rs) e B) (bandL_get (t + rs) e hlt))
        clear hv0
        have e1 : IntKind.i64.wrap (t + rs) = t + rs := by rw [IntKind.wrap_i64]; omega
        have hj0 : (0 : Int) ≤ (j : Int) := by omega
        have hj1 : (j : Int) < (B : Int) := by omega
        have hg2 : w2.heap.size < wr.heap.size := (World.ownsRow.lt HO.out w2.heap.size rfl).2
        go_wp2_with fail
        first
          | go_region_held3 (fun w' => (w'.cell? ⟨w.heap.size, 0, none⟩ = some (.int .i64 W) ∧ w'.cell? ⟨w.heap.size, 1, none⟩ = some (.int .i64 t) ∧ w'.cell? ⟨w.heap.size, 2, none⟩ = some (.int .i64 k)) ∧ (w'.cell? ⟨w.heap.size + 1, 0, none⟩ = some (.int .i64 L) ∧ w'.cell? ⟨w.heap.size + 1, 1, none⟩ = some (.int .i64 B))) (first | go_keep | exact ⟨P5.out, X5.out⟩ | exact ⟨hold3 ((Below.refl w2.heap.size w5).setCell (p := ⟨w2.heap.size, j, none⟩) (Nat.le_refl _) _) (by omega) P5.out, hold2 ((Below.refl w2.heap.size w5).setCell (p := ⟨w2.heap.size, j, none⟩) (Nat.le_refl _) _) (by omega) X5.out⟩)
            (first
              | (go_at_call 138; refine (CS.out _).mono ?_; rintro e' w5 ⟨rfl, hb5⟩; have hc5 : Below wr.heap.size wr w5 := undrew hb5; have P5 := Lib.hid (hold3 hc5 (by omega) Pr.out); have X5 := Lib.hid (hold2 hc5 (by omega) Xr.out); have O5 := Lib.hid (row_below HO.out (fun g hg => by injection hg with hg; subst hg; exact hg2) hc5); have d5 := (O5.out.cellAt j (by omega)).trans HV.out; have f5 := O5.out.frozenAt j; have B5 := Lib.hid (HB.out.trans (hc5.mono (B' := w2.heap.size) (by omega))); have z5 := hc5.size; clear hb5 hc5))
          | fail "the region"
        have S6 := Lib.hid (O5.out.stored j (.int .i64 (t + rs))).1
        have B6 := Lib.hid (B5.out.setCell (p := ⟨w2.heap.size, j, none⟩) (Nat.le_refl _) (.int .i64 (t + rs)))
        have d6 := (S6.out.cellAt j (by omega)).trans (show ((half (bandL (t + rs) e B) B j).set j (.int .i64 (t + rs)))[j]? = some (.int .i64 (t + rs)) by
          rw [List.getElem?_set_self]
          have := HV.out
          exact (List.getElem?_eq_some_iff.1 this).1)
        have f6 := S6.out.frozenAt j
        clear p0 p1 p2 q0 q1
        by_cases hje : (j : Int) < e
        · first
            | (exfalso
               have hx := HE.out
               simp only [if_false, Bool.false_eq_true] at hx
               omega)
            | (have hje2 : (j : Int) < re := by
                 have hx := HE.out
                 simp only [if_true] at hx
                 omega
               have HX : Hid (bandW (t + rs) e j = t + rs + 1) := by show _ = _; unfold bandW; rw [if_pos hje]
               have S7 := Lib.hid (S6.out.stored j (.int .i64 (t + rs + 1))).1
               have B7 := Lib.hid (B6.out.setCell (p := ⟨w2.heap.size, j, none⟩) (Nat.le_refl _) (.int .i64 (t + rs + 1)))
               have HW2 : Hid ((half (bandL (t + rs) e B) B j).set j (.int .i64 (t + rs + 1)) = half (bandL (t + rs) e B) B (j + 1)) := by
                 show _ = _
                 have := HW.out
                 rw [HX.out] at this
                 exact this
               rw [half_at _ (bandL_len _ _ _) hlt, HW2.out] at S7
               clear hje
               go_wp2
               go_roundw
               case rel => exact ⟨j + 1, by omega, by go_num, S7.out, B7.out⟩
               case measure => simp [intOf]; omega)
        · have HX : Hid (bandW (t + rs) e j = t + rs) := by show _ = _; unfold bandW; rw [if_neg hje, Int.add_zero]
          have HW2 : Hid ((half (bandL (t + rs) e B) B j).set j (.int .i64 (t + rs)) = half (bandL (t + rs) e B) B (j + 1)) := by
            show _ = _
            have := HW.out
            rw [HX.out] at this
            exact this
          rw [HW2.out] at S6
          have hd0 : decide ((j : Int) < 0) = false := decide_eq_false (by omega)
          have hje2 : e = re → decide ((j : Int) < re) = false := fun h => decide_eq_false (by omega)
          first
            | (have hx := HE.out
               simp only [if_true] at hx
               have hje3 := hje2 hx
               clear hje hx hje2
               go_wp2
               go_roundw
               case rel => exact ⟨j + 1, by omega, by go_num, S6.out, B6.out⟩
               case measure => simp [intOf]; omega)
            | (clear hje hje2
               go_wp2
               go_roundw
               case rel => exact ⟨j + 1, by omega, by go_num, S6.out, B6.out⟩
               case measure => simp [intOf]; omega)
      · have hjn : j = B := by omega
        subst hjn
        go_wp2
        go_ret
        refine ⟨_, rfl, by omega, ?_, T2.out.trans (HB.out.mono (by omega))⟩
        have := HO.out
        rw [half_full (bandL_len _ _ _)] at this
        refine ⟨by simp [bandL_len], .inr ?_⟩
        rcases this.2 with ⟨h, _⟩ | ⟨g, cap, cur, hv, hg, rest⟩
        · cases h
        · exact ⟨g, cap, cur, by rw [bandL_len]; exact hv, by omega, by rw [bandL_len]; exact rest⟩
end Go.Proofs.YtimhnkpccbcohaaGreatDoor

namespace Go.Proofs.YtimhnkpccbcohaaGreatDoor
open Go.RowKit
set_option linter.unusedVariables false

set_option maxRecDepth 100000 in
set_option maxHeartbeats 3200000 in
theorem implPlaces_any (W t k : Int) (A : Option Addr) (n c : Nat) (zs : List Int) (w : World) (hn : zs.length = n) (hm : n ≤ maxLen) (h : Ints w A zs) :
    Calls Tryz.prog 93 #[.agg #[.int .i64 W, .int .i64 t, .int .i64 k], .slice A n c] w fun e w' => ∃ v, e = .returned v ∧ Own w' w.heap.size v (placesL ⟨W, t, k⟩ zs) ∧ Below w.heap.size w w' := by
  have Hn := Lib.hid hn
  obtain ⟨w0, hw0, hb0, hz0, P⟩ := msWorld w W t k
  have T0 := Lib.hid hb0; have P0 := Lib.hid P; have Z0 := Lib.hid hz0
  have I0 := Lib.hid ((IntsB.of h).keep (Nat.le_refl _) hb0)
  have hzz := Z0.out
  clear hb0 hz0 P hn h
  obtain ⟨p0, p1, p2⟩ := P0.out
  cases hg : goodB ⟨W, t, k⟩ zs
  · have HR : Hid (placesL ⟨W, t, k⟩ zs = []) := by show _ = _; unfold placesL; rw [hg]; rfl
    go_enter Tryz.func93, Tryz.ntmps93
    go_wp2_with fail
    clear hw0
    refine (isFitting_any W t k A n c zs _ Hn.out hm I0.out.ints).mono ?_
    rintro e' w1 ⟨he', hb1⟩
    rw [hg] at he'; subst he'
    have T1 := Lib.hid (T0.out.trans (hb1.mono (by omega)))
    clear hb1
    go_wp2
    go_ret
    exact ⟨_, rfl, by rw [HR.out]; exact ⟨rfl, .inl ⟨rfl, rfl⟩⟩, T1.out⟩
  obtain ⟨hms, hli, hfi⟩ := goodB_parts hg
  obtain ⟨hz, hlen⟩ := lineB_parts hli
  have hm1 : n ≤ 120 := by rw [← Hn.out]; exact hlen
  obtain ⟨ht0, ht1⟩ := riseThin hg
  simp only at ht0 ht1
  obtain ⟨a, ha⟩ : ∃ a, t + riseL ⟨W, t, k⟩ zs = a := ⟨_, rfl⟩
  obtain ⟨e, he⟩ : ∃ e, moreL ⟨W, t, k⟩ zs = e := ⟨_, rfl⟩
  rw [ha] at ht0 ht1
  have Ha : Hid (t + riseF ⟨W, t, k⟩ (sumL zs) (bandsN zs) = a) := ha
  have He : Hid (moreF ⟨W, t, k⟩ (sumL zs) (bandsN zs) = e) := he
  have HR : Hid (placesL ⟨W, t, k⟩ zs = leftL a e zs n) := by show _ = _; unfold placesL; rw [hg, if_pos rfl, Hn.out, ← ha, ← he]
  have HLW := Lib.hid (fun j => leftW_bound (e := e) ht0 ht1 hz j)
  have HWW := Lib.hid (fun j => wideW_bound (e := e) ht0 ht1 hz j)
  have HL := Lib.hid hli; have HM := Lib.hid hms; have HF : Hid (widF (sumL zs) (bandsN zs) t ≤ W) := hfi
  obtain ⟨s0, s1, s2⟩ := lineB_sum hli
  clear hms hli hfi hz hlen ha he
  go_enter Tryz.func93, Tryz.ntmps93
  go_wp2_with fail
  clear hw0
  refine (isFitting_any W t k A n c zs _ Hn.out hm I0.out.ints).mono ?_
  rintro e' w1 ⟨he', hb1⟩
  rw [hg] at he'; subst he'
  have T1 := Lib.hid (T0.out.trans (hb1.mono (by omega))); have P1 := Lib.hid (hold3 hb1 (by omega) P0.out); have I1 := Lib.hid (I0.out.keep (by omega) hb1)
  have z1 := hb1.size
  clear hb1 p0 p1 p2 hg
  obtain ⟨p0, p1, p2⟩ := P1.out
  go_wp2_with fail
  first
    | go_region_held3 (fun w' => w'.cell? ⟨w.heap.size, 0, none⟩ = some (.int .i64 W) ∧ w'.cell? ⟨w.heap.size, 1, none⟩ = some (.int .i64 t) ∧ w'.cell? ⟨w.heap.size, 2, none⟩ = some (.int .i64 k)) (first | go_keep | exact P2.out | exact P3.out)
      (first
        | (go_at_call 113; refine (loadOf_any A n c zs w1.drew Hn.out (I1.out.keep (Nat.le_refl _) (below_drewN (Below.refl w.heap.size w1) 1)).ints HL.out).mono ?_; rintro e' w2 ⟨rfl, hb2⟩; have hc2 : Below w1.heap.size w1 w2 := undrew hb2; have P2 := Lib.hid (hold3 hc2 (by omega) P1.out); have T2 := Lib.hid (T1.out.trans (hc2.mono (B' := w.heap.size) (by omega))); have z2 := hc2.size; have I2 := Lib.hid (I1.out.keep (by omega) hc2); clear hb2 hc2)
        | (go_at_call 123; refine (bandWidths_any (sumL zs) (bandsN zs) W t k _ s0 (by omega) s2 HM.out HF.out).mono ?_; rintro e' w3 ⟨g, rfl, hg3, hO3, hb3⟩; have P3 := Lib.hid (hold3 hb3 (by omega) P2.out); have T3 := Lib.hid (T2.out.trans (hb3.mono (B' := w.heap.size) (by omega))); have z3 := hb3.size; have O3 := Lib.hid hO3; have I3 := Lib.hid (I2.out.keep (by omega) hb3); clear hb3 hO3))
    | fail "the region"
  have hg4 : g < w3.heap.size := (World.ownsRow.lt O3.out g rfl).2
  have HC3 : Hid (∀ j x, (bandL a e (bandsN zs))[j]? = some x → w3.cell? ⟨g, j, none⟩ = some (.int .i64 x)) := fun j x hx => by
    have h1 := World.ownsRow.cells O3.out (g := g) rfl j (.int .i64 x) (by
      rw [Ha.out, He.out, List.getElem?_map, hx]; rfl)
    rwa [add_zero_at] at h1
  go_wp2_with (at_make; refine wpl_make_int _ rfl (.tmp 19) rfl n _ rfl rfl (by omega) ?_; intro w4 hown4 hb4)
  have R4 := Lib.hid hown4; have B4 := Lib.hid hb4
  have z4 := hb4.size
  clear hown4 hb4 p0 p1 p2
  go_loopw [5, 7, 23] (fun u p i wr => ∃ j b r : Nat, ∃ A5 c5, j ≤ n ∧ i = .int .i64 j ∧ p = .int .i64 (leftW a e zs j) ∧ u = .slice A5 r c5 ∧ r ≤ c5 ∧ c5 ≤ 120 ∧ bandsN (zs.take j) = b ∧ b + r = bandsN zs ∧ (0 < r → A5 = some ⟨g, b, none⟩) ∧ wr.ownsRow w3.heap.size 3 1 (.slice (some ⟨w3.heap.size, 0, none⟩) n n) n (half (leftL a e zs n) n j) ∧ Below w3.heap.size w3 wr) (fun _ _ i _ => n - (intOf i).toNat)
  case atStart => exact ⟨0, 0, bandsN zs, _, _, Nat.zero_le _, rfl, rfl, rfl, Nat.le_refl _, s2, rfl, by omega, fun _ => rfl, by have := R4.out; simpa [half] using this, B4.out⟩
  case round =>
    obtain ⟨j, b, r, A5, c5, hj, rfl, rfl, rfl, hrc, hc5, hbn, hbr, hA5, hown, hb⟩ := hrel
    have hsz := hb.size
    have HO := Lib.hid hown; have HB := Lib.hid hb; have Hbn := Lib.hid hbn; have HA := Lib.hid hA5
    clear hown hb hbn hA5
    by_cases hlt : j < n
    · obtain ⟨ad, x, rfl, hx, hc⟩ := (I3.out.keep (by omega) HB.out).ints.at_ (k := j) (by rw [Hn.out]; exact hlt)
      have hl1 := HLW.out j
      have hw1 := HWW.out j
      obtain ⟨lf, hlf⟩ : ∃ x, leftW a e zs j = x := ⟨_, rfl⟩
      have Hlf := Lib.hid hlf
      have HS2 := Lib.hid (leftW_succ a e zs j)
      rw [hlf] at hl1 HS2 ⊢
      obtain ⟨v0, hv0⟩ := half_cell (leftL a e zs n) n j (leftL_len _ _ _ _) hlt
      have hd := (HO.out.cellAt j (by omega)).trans hv0
      have hf := HO.out.frozenAt j
      have hgl : (leftL a e zs n)[j]? = some lf := by simp [leftL, hlt, hlf]
      have S6 := Lib.hid (HO.out.stored j (.int .i64 lf)).1
      rw [half_set (leftL_len a e zs n) hgl] at S6
      have B6 := Lib.hid (HB.out.setCell (p := ⟨w3.heap.size, j, none⟩) (Nat.le_refl _) (.int .i64 lf))
      have hN := bandsN_at hx.out
      rw [Hbn.out] at hN
      clear hlf hv0 hgl
      by_cases h0 : x = 0
      · subst h0
        rw [if_pos rfl] at hN
        have hle := bandsN_take zs (j + 1)
        have hrp : 0 < r := by omega
        obtain ⟨r', rfl⟩ : ∃ r', r = r' + 1 := ⟨r - 1, by omega⟩
        obtain rfl := HA.out hrp
        have HW : Hid (wideW a e zs j = bandW a e b) := by show _ = _; rw [wideW_band hx.out, Hbn.out]
        rw [HW.out] at hw1 HS2
        obtain ⟨bw, hbw⟩ : ∃ x, bandW a e b = x := ⟨_, rfl⟩
        have hcb : w3.cell? ⟨g, b, none⟩ = some (.int .i64 bw) := HC3.out b bw (by rw [bandL_get a e (show b < bandsN zs by omega), hbw])
        have hcb2 : (wr.setCell ⟨w3.heap.size, j, none⟩ (.int .i64 lf)).cell? ⟨g, b, none⟩ = some (.int .i64 bw) := (B6.out.cell (p := ⟨g, b, none⟩) (by exact hg4)).trans hcb
        have hcb3 : (wr.setCell ⟨w3.heap.size, j, none⟩ (.int .i64 lf)).cell? ((⟨g, b, none⟩ : Addr).add 0) = some (.int .i64 bw) := hcb2
        rw [hbw] at hw1 HS2
        have HN := Lib.hid hN
        clear hN hle hcb hbw
        go_wp2
        go_roundw
        case rel => exact ⟨j + 1, b + 1, r', _, _, by omega, by go_num, by rw [HS2.out], rfl, by omega, by omega, HN.out, by omega, fun h => by rw [if_neg (by omega)], S6.out, B6.out⟩
        case measure => simp [intOf]; omega
      · rw [if_neg h0, Nat.add_zero] at hN
        have HW : Hid (wideW a e zs j = x) := wideW_item hx.out h0
        rw [HW.out] at hw1 HS2
        have h0' : (x == 0) = false := by simpa using h0
        have HN := Lib.hid hN
        clear h0 hN
        go_wp2
        go_roundw
        case rel => exact ⟨j + 1, b, r, _, _, by omega, by go_num, by rw [HS2.out], rfl, hrc, hc5, HN.out, hbr, HA.out, S6.out, B6.out⟩
        case measure => simp [intOf]; omega
    · have hjn : j = n := by omega
      subst hjn
      go_wp2
      go_ret
      refine ⟨_, rfl, ?_, T3.out.trans (HB.out.mono (by omega))⟩
      rw [HR.out]
      have := HO.out
      rw [half_full (leftL_len _ _ _ _)] at this
      refine own_base0 ⟨by simp [leftL_len], .inr ?_⟩ (show w.heap.size ≤ w3.heap.size by omega)
      rcases this.2 with ⟨h, _⟩ | ⟨g, cap, cur, hv, hg, rest⟩
      · cases h
      · exact ⟨g, cap, cur, by rw [leftL_len]; exact hv, by omega, by rw [leftL_len]; exact rest⟩
end Go.Proofs.YtimhnkpccbcohaaGreatDoor

namespace Go.Proofs.YtimhnkpccbcohaaGreatDoor
open Go.RowKit
set_option linter.unusedVariables false

theorem u8Info : (Tryz.prog.info? 5).map (fun i => (i.zero, i.size, i.bytes)) = some (some (.int .u8 0), 1, 1) := by kernel_rfl
/-- the value v is a row of the call's own from block B on that holds the bytes zs -/
def OwnU (w : World) (B : Nat) (v : Value) (zs : List Int) : Prop := w.ownsRow B 5 1 v zs.length (zs.map (Value.int .u8))
theorem OwnU.below {w w' : World} {B : Nat} {v : Value} {zs : List Int} (h : OwnU w B v zs) (hb : Below w.heap.size w w') : OwnU w' B v zs := row_keep h hb
section
variable {ops : Array Oper} {rest : List Oper} {o : Oper} {a : Act} {Q : Exit → Act → World → Prop}
end

set_option maxRecDepth 100000 in
theorem strOf_own {w : World} {B n c : Nat} {o : Option Addr} {zs : List Int} (h : OwnU w B (.slice o n c) zs) (hn : zs.length = n) :
    (convert 146 9 (.slice o n c)).run Tryz.prog w = .ok (.string (strOfNums zs)) w := by
  subst hn
  rcases h.2 with ⟨hv, hn⟩ | ⟨g, cap, cur, hv, hg, hh, rest⟩
  · have hz : zs = [] := List.eq_nil_of_length_eq_zero hn
    injection hv with e1 e2 e3
    subst hz
    subst e1
    exact run_convert_bytes_nil (P := Tryz.prog) w 146 5 Tryz.underlying146 Tryz.underlying5 _ _ 9 Tryz.underlying9
  · injection hv with e1 e2 e3
    subst e1
    refine run_convert_bytes_arg (P := Tryz.prog) w 146 5 Tryz.underlying146 Tryz.underlying5 g 0 _ _ zs rfl ?_ 9 Tryz.underlying9
    intro i hi
    rw [Nat.zero_add]
    refine (h.cellAt i (by omega)).trans ?_
    rw [List.getElem?_map, List.getElem?_eq_getElem hi]
    simp [List.getD, hi]

end Go.Proofs.YtimhnkpccbcohaaGreatDoor

namespace Go.Proofs.YtimhnkpccbcohaaGreatDoor
open Go.RowKit
set_option linter.unusedVariables false

def chrM (f : Fnt) (x : Mat) : Int := if x.1 < 0 then 32 else (byt f.s x.1.toNat : Int)
def txtN (f : Fnt) (xs : List Mat) : List Int := xs.map (chrM f)
def txt (f : Fnt) (xs : List Mat) : ByteArray := strOfNums (txtN f xs)
theorem txtN_len (f : Fnt) (xs : List Mat) : (txtN f xs).length = xs.length := by simp [txtN]
theorem txtN_succ {f : Fnt} {xs : List Mat} {k : Nat} {x : Mat} (h : xs[k]? = some x) : txtN f (xs.take (k + 1)) = txtN f (xs.take k) ++ [chrM f x] := by
  rw [mtake_at h]; simp [txtN]
theorem txt_size (f : Fnt) (xs : List Mat) : (txt f xs).size = xs.length := by unfold txt; rw [strOfNums_size, txtN_len]
theorem nums_letter (l : List Int) {s : ByteArray} {m : Nat} (hm : m < s.size) : strOfNums l ++ s.extract m (m + 1) = strOfNums (l ++ [(byt s m : Int)]) := by
  rw [byt_eq hm]
  apply ByteArray.ext
  rw [ByteArray.data_append, ByteArray.data_extract]
  apply Array.toList_inj.1
  rw [Array.toList_append, strOfNums_data, strOfNums_data, List.map_append]
  congr 1
  apply List.ext_getElem
  · simp; omega
  · intro i h1 h2
    simp at h2
    subst h2
    simp
    rfl
theorem nums_blank (l : List Int) : strOfNums l ++ ⟨#[32]⟩ = strOfNums (l ++ [32]) := by
  apply ByteArray.ext
  rw [ByteArray.data_append]
  apply Array.toList_inj.1
  rw [Array.toList_append, strOfNums_data, strOfNums_data, List.map_append]
  congr 1
/-- every item of the line has a letter -/
def hasLet (f : Fnt) (x : Mat) : Prop := x.1 < 0 ∨ x.1.toNat < f.s.size

set_option maxRecDepth 100000 in
set_option maxHeartbeats 1600000 in
theorem l5Text_any (lo hi lo2 hi2 : Nat) (v : Value) (f : Fnt) (A : Option Addr) (n c : Nat) (xs : List Mat) (w : World) (h : FontV w lo hi v f) (hhi : hi ≤ w.heap.size) (hn : xs.length = n) (hm : n ≤ 1048576) (hM : MatsI w lo2 hi2 A xs) (hhi2 : hi2 ≤ w.heap.size) (hset : ∀ x ∈ xs, hasLet f x) (hss : f.s.size ≤ 1048576) :
    Calls Tryz.prog 54 #[v, .slice A n c] w fun e w' => e = .returned (.string (txt f xs)) ∧ Below w.heap.size w w' := by
  obtain ⟨B, d, B2, d2, rfl, hI1, hI2, hc1, hc2, hd1, hd2, -⟩ := h
  obtain ⟨p, hp⟩ : ∃ p, f.ws.length = p := ⟨_, rfl⟩
  obtain ⟨q, hq⟩ : ∃ p, f.cs.length = p := ⟨_, rfl⟩
  obtain ⟨s, hs⟩ : ∃ s, f.s = s := ⟨_, rfl⟩
  rw [hs] at hss
  rw [hp, hq, hs]
  have Hs := Lib.hid hs; have Hn := Lib.hid hn; have HSet := Lib.hid hset
  obtain ⟨w0, hw0, hb0, hz0, K0⟩ := mxWorld w #[.string s, .slice B p d, .slice B2 q d2] 32
  have M0 := Lib.hid (hM.below hhi2 hb0); have T0 := Lib.hid hb0; have K0 := Lib.hid K0
  have z0 : w.heap.size < w0.heap.size := by omega
  clear hI1 hI2 hc1 hc2 hd1 hd2 hp hq hs hn hM hset hb0 hz0
  go_enter Tryz.func54, Tryz.ntmps54
  go_wp2
  clear hw0
  go_loopw [5, 10] (fun u i wr => ∃ j : Nat, j ≤ n ∧ i = .int .i64 j ∧ u = .string (txt f (xs.take j)) ∧ Below w0.heap.size w0 wr) (fun _ i _ => n - (intOf i).toNat)
  case atStart => exact ⟨0, Nat.zero_le _, rfl, rfl, Below.refl _ _⟩
  case round =>
    obtain ⟨j, hj, rfl, rfl, hb⟩ := hrel
    have HB := Lib.hid hb
    have zr := hb.size
    clear hb
    by_cases hlt : j < n
    · obtain ⟨ad, x, rfl, hx, c1, c2⟩ := (M0.out.below (by omega) HB.out).at_ (k := j) (by rw [Hn.out]; exact hlt)
      have HX := Lib.hid (HSet.out x (List.mem_of_getElem? hx.out))
      have HS := txtN_succ (f := f) hx.out
      have hts : (txt f (xs.take j)).size ≤ 1048576 := by rw [txt_size, List.length_take]; omega
      obtain ⟨wm, hwm⟩ : ∃ y, wr.alloc (.cells #[.int .i64 x.1, .int .i64 x.2] 64) = y := ⟨_, rfl⟩
      have bm : Below wr.heap.size wr wm := by rw [← hwm]; exact (Below.refl _ _).alloc (Nat.le_refl _) _
      have bk : Blk wm wr.heap.size #[.int .i64 x.1, .int .i64 x.2] 64 := by rw [← hwm]; exact Blk.new _ _ _
      have HBm := Lib.hid (HB.out.trans (bm.mono zr)); have zm := bm.size
      obtain ⟨a, b⟩ := x
      simp only at *
      have m0 : wm.cell? ⟨wr.heap.size, 0, none⟩ = some (.int .i64 a) := cellOfBlk bk 0
      have m1 : wm.cell? ⟨wr.heap.size, 1, none⟩ = some (.int .i64 b) := cellOfBlk bk 1
      clear bk
      by_cases hneg : a < 0
      · have g1 : decide (a < 0) = true := decide_eq_true hneg
        have HI : Hid (txt f (xs.take (j + 1)) = txt f (xs.take j) ++ ⟨#[32]⟩) := by
          show _ = _
          unfold txt
          rw [HS, nums_blank]
          unfold chrM; rw [if_pos hneg]
        clear bm HX HS
        go_wp2
        go_roundw
        case rel => exact ⟨j + 1, by omega, by go_num, by rw [HI.out], HBm.out⟩
        case measure => simp [intOf]; omega
      · have g1 : decide (a < 0) = false := decide_eq_false hneg
        obtain ⟨kk, rfl⟩ : ∃ kk : Nat, a = (kk : Int) := ⟨a.toNat, by omega⟩
        have hks : kk < s.size := by
          rcases HX.out with h | h
          · exact absurd h hneg
          · have := Hs.out; simp only [Int.toNat_natCast] at h; rw [this] at h; exact h
        have HI : Hid (txt f (xs.take (j + 1)) = txt f (xs.take j) ++ s.extract kk (kk + 1)) := by
          show _ = _
          unfold txt
          rw [HS, nums_letter _ hks]
          unfold chrM; rw [if_neg hneg, Int.toNat_natCast, Hs.out]
        have Km := Lib.hid (K0.out.below HBm.out (by omega))
        have q1 : wm.cell? ⟨w.heap.size, 0, none⟩ = some (.string s) := cellOfBlk Km.out 0
        clear bm HX HS
        go_wp2
        go_roundw
        case rel => exact ⟨j + 1, by omega, by go_num, by rw [HI.out], HBm.out⟩
        case measure => simp [intOf]; omega
    · have hjn : j = n := by omega
      subst hjn
      have HA : Hid (xs.take j = xs) := mtake_all Hn.out
      go_wp2
      go_ret
      exact ⟨by rw [HA.out]; rfl, T0.out.trans (HB.out.mono (by omega))⟩

section
variable {ops : Array Oper} {rest : List Oper} {o : Oper} {a : Act} {Q : Exit → Act → World → Prop}
/-- make([]byte, n) -/
theorem wpl_make_u8 (w : World) (hg : o.guard = none) (l : Operand) (hop : o.op = Op.makeSlice 146 l l) (n : Nat) (L : Int) (hl : a.eval l = .int .i64 L) (hL : L = (n : Int)) (hn : n ≤ 2097152)
    (hK : ∀ w', w'.ownsRow w.heap.size 5 1 (.slice (some ⟨w.heap.size, 0, none⟩) n n) n (List.replicate n (.int .u8 0)) → Below w.heap.size w w' → wpList Tryz.prog ops Q rest (a.put o.dst (.slice (some ⟨w.heap.size, 0, none⟩) n n)) w') :
    wpList Tryz.prog ops Q (o :: rest) a w := by
  obtain ⟨i0, hi, hz0, hz1, hz2⟩ := info_parts u8Info
  refine wpList_make_full w hg l l 146 hop w.heap.size 5 i0 (.int .u8 0) 1 Tryz.underlying146 hi hz0 hz1 .i64 .i64 L L n hl hl hL hL (by rw [hz2]; omega) (by unfold maxLen; omega) (Nat.le_refl _) ?_
  intro w' h1 h2
  have e : (madeCells (Value.int .u8 0).cells (n * 1)).toList = List.replicate n (.int .u8 0) := by
    apply List.ext_getElem
    · simp [madeCells, Value.cells]
    · intro i h1 h2
      simp [madeCells, Value.cells, Nat.mod_one]
  rw [e] at h1
  exact hK w' h1 ((Below.refl _ _).grown h2 (Nat.le_refl _) (fun k hk => by cases hk))
end
def halfU (zs : List Int) (n k : Nat) : List Value := (zs.take k).map (Value.int .u8) ++ List.replicate (n - k) (.int .u8 0)
theorem halfU_set {zs : List Int} {n k : Nat} {x : Int} (hn : zs.length = n) (hx : zs[k]? = some x) : (halfU zs n k).set k (.int .u8 x) = halfU zs n (k + 1) := by
  have hk := lt_at hx
  unfold halfU
  rw [take_at hx, List.set_append, if_neg (by simp; omega)]
  have : n - k = (n - (k + 1)) + 1 := by omega
  rw [this, List.replicate_succ]
  simp [Nat.min_eq_left (Nat.le_of_lt hk)]
theorem halfU_full {zs : List Int} {n : Nat} (hn : zs.length = n) : halfU zs n n = zs.map (Value.int .u8) := by
  simp [halfU, take_all hn]
theorem halfU_cell (zs : List Int) (n k : Nat) (hn : zs.length = n) (hk : k < n) : ∃ v, (halfU zs n k)[k]? = some v := by
  refine ⟨.int .u8 0, ?_⟩
  unfold halfU
  rw [List.getElem?_append_right (by simp; omega)]
  rw [List.length_map, List.length_take, Nat.min_eq_left (by omega), Nat.sub_self, List.getElem?_replicate, if_pos (by omega)]
set_option maxRecDepth 100000 in
set_option maxHeartbeats 1600000 in
theorem lineText_any (lo hi lo2 hi2 : Nat) (v : Value) (f : Fnt) (A : Option Addr) (n c : Nat) (xs : List Mat) (w : World) (h : FontV w lo hi v f) (hhi : hi ≤ w.heap.size) (hn : xs.length = n) (hm : n ≤ 1048576) (hM : MatsI w lo2 hi2 A xs) (hhi2 : hi2 ≤ w.heap.size) (hset : ∀ x ∈ xs, bandM x = true ∨ (0 ≤ x.1 ∧ x.1.toNat < f.s.size)) :
    Calls Tryz.prog 92 #[v, .slice A n c] w fun e w' => e = .returned (.string (txt f xs)) ∧ Below w.heap.size w w' := by
  obtain ⟨B, d, B2, d2, rfl, hI1, hI2, hc1, hc2, hd1, hd2, hss⟩ := h
  obtain ⟨p, hp⟩ : ∃ p, f.ws.length = p := ⟨_, rfl⟩
  obtain ⟨q, hq⟩ : ∃ p, f.cs.length = p := ⟨_, rfl⟩
  obtain ⟨s, hs⟩ : ∃ s, f.s = s := ⟨_, rfl⟩
  rw [hp, hq, hs]
  have Hs := Lib.hid hs; have Hn := Lib.hid hn; have HSet := Lib.hid hset
  have HZ : Hid ((txtN f xs).length = n) := by show _ = _; rw [txtN_len, hn]
  obtain ⟨w0, hw0, hb0, hz0, K0⟩ := mxWorld w #[.string s, .slice B p d, .slice B2 q d2] 32
  have M0 := Lib.hid (hM.below hhi2 hb0); have T0 := Lib.hid hb0; have K0 := Lib.hid K0
  have z0 : w.heap.size < w0.heap.size := by omega
  clear hI1 hI2 hc1 hc2 hd1 hd2 hss hp hq hs hn hM hset hb0 hz0
  go_enter Tryz.func92, Tryz.ntmps92
  go_wp2_with (at_make; refine wpl_make_u8 w0 rfl (.tmp 9) rfl n _ rfl rfl (by omega) ?_; intro w1 hO1 hb1; have O1 := Lib.hid hO1; have B1 := Lib.hid hb1; clear hO1 hb1 hw0)
  go_loopw [13] (fun i wr => ∃ j : Nat, j ≤ n ∧ i = .int .i64 j ∧ wr.ownsRow w0.heap.size 5 1 (.slice (some ⟨w0.heap.size, 0, none⟩) n n) n (halfU (txtN f xs) n j) ∧ Below w0.heap.size w0 wr) (fun i _ => n - (intOf i).toNat)
  case atStart => exact ⟨0, Nat.zero_le _, rfl, by have := O1.out; rwa [show halfU (txtN f xs) n 0 = List.replicate n (.int .u8 0) by simp [halfU]], B1.out⟩
  case round =>
    obtain ⟨j, hj, rfl, hown, hb⟩ := hrel
    have HO := Lib.hid hown; have HB := Lib.hid hb
    have zr := hb.size
    clear hown hb
    by_cases hlt : j < n
    · obtain ⟨ad, x, rfl, hx, c1, c2⟩ := (M0.out.below (by omega) HB.out).at_ (k := j) (by rw [Hn.out]; exact hlt)
      have HX := Lib.hid (HSet.out x (List.mem_of_getElem? hx.out))
      have HI : Hid ((txtN f xs)[j]? = some (chrM f x)) := by show _ = _; unfold txtN; rw [List.getElem?_map, hx.out]; rfl
      obtain ⟨a, b⟩ := x
      simp only at c1 c2
      obtain ⟨wm, hwm⟩ : ∃ y, wr.alloc (.cells #[.int .i64 a, .int .i64 b] 64) = y := ⟨_, rfl⟩
      have bm : Below wr.heap.size wr wm := by rw [← hwm]; exact (Below.refl _ _).alloc (Nat.le_refl _) _
      have bk : Blk wm wr.heap.size #[.int .i64 a, .int .i64 b] 64 := by rw [← hwm]; exact Blk.new _ _ _
      have m0 : wm.cell? ⟨wr.heap.size, 0, none⟩ = some (.int .i64 a) := cellOfBlk bk 0
      have m1 : wm.cell? ⟨wr.heap.size, 1, none⟩ = some (.int .i64 b) := cellOfBlk bk 1
      have zm : wr.heap.size < wm.heap.size := bk.lt
      have HBm := Lib.hid (HB.out.trans (bm.mono zr)); have HOm := Lib.hid (row_keep HO.out bm); have BK := Lib.hid bk
      clear bm bk
      cases hbd : bandM (a, b)
      · obtain ⟨k0, k1⟩ : 0 ≤ a ∧ a.toNat < f.s.size := by
          rcases HX.out with h | h
          · rw [hbd] at h; cases h
          · exact h
        obtain ⟨kk, rfl⟩ : ∃ kk : Nat, a = (kk : Int) := ⟨a.toNat, by omega⟩
        have hks : kk < s.size := by have := Hs.out; simp only [Int.toNat_natCast] at k1; rw [this] at k1; exact k1
        have Hbd := Lib.hid hbd
        clear hbd k0 k1 HX
        go_wp2_with fail
        refine (isBand_any _ _ _).mono ?_
        rintro e w2 ⟨he, hb2⟩
        rw [Hbd.out] at he
        subst he
        have HB2 := Lib.hid (HBm.out.trans (hb2.mono (by omega)))
        have HO2 := Lib.hid (row_keep HOm.out hb2)
        have bk2 := BK.out.below hb2 zm
        have m0' : w2.cell? ⟨wr.heap.size, 0, none⟩ = some (.int .i64 kk) := cellOfBlk bk2 0
        clear hwm m0 m1 bk2 hb2
        have HIy : Hid ((txtN f xs)[j]? = some (s[kk].toNat : Int)) := by
          show _ = _
          rw [HI.out]
          unfold chrM
          rw [if_neg (by omega), Int.toNat_natCast, Hs.out, byt_eq hks]
        have Km := Lib.hid (K0.out.below HB2.out (by omega))
        have q1 : w2.cell? ⟨w.heap.size, 0, none⟩ = some (.string s) := cellOfBlk Km.out 0
        obtain ⟨v0, hv0⟩ := halfU_cell (txtN f xs) n j HZ.out hlt
        have hdd := (HO2.out.cellAt j (by omega)).trans hv0
        have hff := HO2.out.frozenAt j
        have hst := HO2.out.stored j (.int .u8 (s[kk].toNat : Int))
        rw [halfU_set HZ.out HIy.out] at hst
        have HS := Lib.hid hst.1
        have HB3 := Lib.hid (HB2.out.setCell (p := ⟨w0.heap.size, j, none⟩) (Nat.le_refl _) (.int .u8 (s[kk].toNat : Int)))
        clear hst hv0
        go_wp2
        go_roundw
        case rel => exact ⟨j + 1, by omega, by go_num, HS.out, HB3.out⟩
        case measure => simp [intOf]; omega
      · have Hbd := Lib.hid hbd
        clear hbd HX
        go_wp2_with fail
        refine (isBand_any _ _ _).mono ?_
        rintro e w2 ⟨he, hb2⟩
        rw [Hbd.out] at he
        subst he
        have HB2 := Lib.hid (HBm.out.trans (hb2.mono (by omega)))
        have HO2 := Lib.hid (row_keep HOm.out hb2)
        clear hwm m0 m1 hb2
        have HIy : Hid ((txtN f xs)[j]? = some 32) := by
          show _ = _
          rw [HI.out]
          have h1 := Hbd.out
          unfold bandM at h1
          rw [Bool.and_eq_true, beq_iff_eq] at h1
          unfold chrM
          rw [if_pos (by show a < 0; have := h1.1; omega)]
        obtain ⟨v0, hv0⟩ := halfU_cell (txtN f xs) n j HZ.out hlt
        have hdd := (HO2.out.cellAt j (by omega)).trans hv0
        have hff := HO2.out.frozenAt j
        have hst := HO2.out.stored j (.int .u8 32)
        rw [halfU_set HZ.out HIy.out] at hst
        have HS := Lib.hid hst.1
        have HB3 := Lib.hid (HB2.out.setCell (p := ⟨w0.heap.size, j, none⟩) (Nat.le_refl _) (.int .u8 32))
        clear hst hv0
        go_wp2
        go_roundw
        case rel => exact ⟨j + 1, by omega, by go_num, HS.out, HB3.out⟩
        case measure => simp [intOf]; omega
    · have hjn : j = n := by omega
      subst hjn
      have hown := HO.out
      rw [halfU_full HZ.out] at hown
      have hu : OwnU wr w0.heap.size (.slice (some ⟨w0.heap.size, 0, none⟩) j j) (txtN f xs) := by unfold OwnU; rw [HZ.out]; exact hown
      have hcv := strOf_own hu HZ.out
      clear hown hu
      go_wp2
      go_ret
      exact ⟨rfl, T0.out.trans (HB.out.mono (by omega))⟩
end Go.Proofs.YtimhnkpccbcohaaGreatDoor
