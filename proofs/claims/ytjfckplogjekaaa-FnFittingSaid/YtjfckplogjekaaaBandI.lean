/-
  bandWidths and BandWidths of the program by contract. Conditions: the letters are at most 1000000 wide, the bands at most 120, the measure is one, the load fits.
-/
import Derived.Test.YtjfckplogjekaaaFitI
import Derived.Test.YtjfckplogjekaaaMemI
namespace Go.Proofs.Ytjfckplogjekaaa
open Go.RowKit
set_option linter.unusedVariables false

def moreF (m : Msr) (L : Int) (B : Nat) : Int := if fullF m L B then restF m L B else 0
theorem mswWorld (w : World) (L B W t k : Int) : ∃ w0, (w.alloc (.cells #[.int .i64 W, .int .i64 t, .int .i64 k] 24)).alloc (.cells #[.int .i64 L, .int .i64 B] 53) = w0 ∧ Below w.heap.size w w0 ∧ w0.heap.size = w.heap.size + 2 ∧
    (w0.cell? ⟨w.heap.size, 0, none⟩ = some (.int .i64 W) ∧ w0.cell? ⟨w.heap.size, 1, none⟩ = some (.int .i64 t) ∧ w0.cell? ⟨w.heap.size, 2, none⟩ = some (.int .i64 k)) ∧
    (w0.cell? ⟨w.heap.size + 1, 0, none⟩ = some (.int .i64 L) ∧ w0.cell? ⟨w.heap.size + 1, 1, none⟩ = some (.int .i64 B)) := by
  refine ⟨_, rfl, (below_new _ _).trans ((below_new _ _).mono (by simp)), by simp, ?_, ?_⟩
  · exact hold3 (below_new _ _) (by simp) (lay3 w (.int .i64 W) (.int .i64 t) (.int .i64 k) 24)
  · have := lay2 (w.alloc (.cells #[.int .i64 W, .int .i64 t, .int .i64 k] 24)) (.int .i64 L) (.int .i64 B) 53
    rw [World.size_alloc] at this
    exact this
theorem own_base0 {w : World} {B B' : Nat} {v : Value} {zs : List Int} (h : Own w B v zs) (hB : B' ≤ B) : Own w B' v zs := by
  refine ⟨h.1, ?_⟩
  rcases h.2 with hn | ⟨g, cap, cur, hv, hg, rest⟩
  · exact .inl hn
  · exact .inr ⟨g, cap, cur, hv, by omega, rest⟩
theorem half_at (zs : List Int) {n k : Nat} (hn : zs.length = n) (hk : k < n) (u v : Value) : ((half zs n k).set k u).set k v = (half zs n k).set k v := by
  rw [List.set_set]

set_option maxRecDepth 100000 in
set_option maxHeartbeats 3200000 in
theorem bandWidths_any (L : Int) (B : Nat) (W t k : Int) (w : World) (h0 : 0 ≤ L) (h1 : L ≤ 1000000) (h3 : B ≤ 120) (hm : msrB ⟨W, t, k⟩ = true) (hf : widF L B t ≤ W) :
    Calls Try.prog 60 #[.agg #[.int .i64 W, .int .i64 t, .int .i64 k], .agg #[.int .i64 L, .int .i64 B]] w fun e w' => ∃ g, e = .returned (.slice (some ⟨g, 0, none⟩) B B) ∧ w.heap.size ≤ g ∧ Own w' w.heap.size (.slice (some ⟨g, 0, none⟩) B B) (bandL (t + riseF ⟨W, t, k⟩ L B) (moreF ⟨W, t, k⟩ L B) B) ∧ Below w.heap.size w w' := by
  have hM := msrB_iff.1 hm
  simp only at hM
  obtain ⟨r0, r1, r2, _, _⟩ := riseF_spec hm hf
  simp only at r1
  have HM := Lib.hid hm
  obtain ⟨w0, hw0, hb0, hz0, P, X⟩ := mswWorld w L B W t k
  have T0 := Lib.hid hb0; have X0 := Lib.hid X; have P0 := Lib.hid P; have Z0 := Lib.hid hz0
  have hd : decide (widF L B t ≤ W) = true := decide_eq_true hf
  have C0 := ldFull_any L B W t k w0 h0 h1 h3 hm
  rw [hd, Bool.true_and] at C0
  have CF := Lib.hid C0
  have CR := Lib.hid (fun wx => ldRest_any L B W t k wx h0 h1 h3 hm)
  have CS := Lib.hid (fun wx => ldRise_any L B W t k wx h0 h1 h3 hm)
  obtain ⟨rs, hrs⟩ : ∃ r, riseF ⟨W, t, k⟩ L B = r := ⟨_, rfl⟩
  obtain ⟨re, hre⟩ : ∃ r, restF ⟨W, t, k⟩ L B = r := ⟨_, rfl⟩
  obtain ⟨e, he⟩ : ∃ r, moreF ⟨W, t, k⟩ L B = r := ⟨_, rfl⟩
  have HE : Hid (e = if fullF ⟨W, t, k⟩ L B then re else 0) := by show _ = _; rw [← he, ← hre]; rfl
  rw [he]
  rw [hrs] at r0 r1 CS ⊢
  rw [hre] at r2 CR
  clear hb0 hz0 P X hm hf hd C0 hrs hre he
  have hzz := Z0.out
  obtain ⟨p0, p1, p2⟩ := P0.out
  obtain ⟨q0, q1⟩ := X0.out
  cases hfu : fullF ⟨W, t, k⟩ L B
  all_goals
    rw [hfu] at CF HE
    go_enter Try.func60, Try.ntmps60
    go_wp2_with fail
    clear hw0
    refine CF.out.mono ?_
    rintro e' w1 ⟨rfl, hb1⟩
    have T1 := Lib.hid (T0.out.trans (hb1.mono (by omega))); have P1 := Lib.hid (hold3 hb1 (by omega) P0.out); have X1 := Lib.hid (hold2 hb1 (by omega) X0.out)
    have z1 := hb1.size
    clear hb1 p0 p1 p2 q0 q1
    obtain ⟨p0, p1, p2⟩ := P1.out
    obtain ⟨q0, q1⟩ := X1.out
    obtain ⟨w2, hw2⟩ : ∃ w2, w2 = w1 := ⟨_, rfl⟩
    have tok : True := trivial
    first
      | (go_wp2_with fail
         refine (CR.out _).mono ?_
         rintro e' w2 ⟨rfl, hb2⟩
         clear hw2
         have T2 := Lib.hid (T1.out.trans (hb2.mono (by omega))); have P2 := Lib.hid (hold3 hb2 (by omega) P1.out); have X2 := Lib.hid (hold2 hb2 (by omega) X1.out)
         have z2 := hb2.size
         clear hb2 p0 p1 p2 q0 q1
         obtain ⟨p0, p1, p2⟩ := P2.out
         obtain ⟨q0, q1⟩ := X2.out
         go_wp2_with (at_make; refine wpl_make_int _ rfl (.tmp 15) rfl B _ rfl rfl (by omega) ?_; intro w3 hown3 hb3))
      | (subst hw2
         have T2 := Lib.hid T1.out; have P2 := Lib.hid P1.out; have X2 := Lib.hid X1.out
         have z2 : w2.heap.size ≤ w2.heap.size := Nat.le_refl _
         go_wp2_with (at_make; refine wpl_make_int _ rfl (.tmp 15) rfl B _ rfl rfl (by omega) ?_; intro w3 hown3 hb3))
    have HR3 := Lib.hid hown3; have HB3 := Lib.hid hb3
    have z3 := hb3.size
    clear hown3 hb3 p0 p1 p2 q0 q1
    go_loopw [19] (fun i wr => ∃ j : Nat, j ≤ B ∧ i = .int .i64 j ∧ wr.ownsRow w2.heap.size 3 1 (.slice (some ⟨w2.heap.size, 0, none⟩) B B) B (half (bandL (t + rs) e B) B j) ∧ Below w2.heap.size w2 wr) (fun i _ => B - (intOf i).toNat)
    case atStart => exact ⟨0, Nat.zero_le _, rfl, by have := HR3.out; simpa [half] using this, HB3.out⟩
    case round =>
      obtain ⟨j, hj, rfl, hown, hb⟩ := hrel
      have hsz := hb.size
      have HO := Lib.hid hown; have HB := Lib.hid hb
      clear hown hb
      by_cases hlt : j < B
      · have Pr := Lib.hid (hold3 HB.out (by omega) P2.out); have Xr := Lib.hid (hold2 HB.out (by omega) X2.out)
        obtain ⟨p0, p1, p2⟩ := Pr.out
        obtain ⟨q0, q1⟩ := Xr.out
        obtain ⟨v0, hv0⟩ := half_cell (bandL (t + rs) e B) B j (bandL_len _ _ _) hlt
        have HV := Lib.hid hv0
        have HW := Lib.hid (half_set (bandL_len (t + rs) e B) (bandL_get (t + rs) e hlt))
        clear hv0
        have e1 : IntKind.i64.wrap (t + rs) = t + rs := by rw [IntKind.wrap_i64]; omega
        have hj0 : (0 : Int) ≤ (j : Int) := by omega
        have hj1 : (j : Int) < (B : Int) := by omega
        have hg2 : w2.heap.size < wr.heap.size := (World.ownsRow.lt HO.out w2.heap.size rfl).2
        go_wp2_with fail
        first
          | go_region_held3 (fun w' => (w'.cell? ⟨w.heap.size, 0, none⟩ = some (.int .i64 W) ∧ w'.cell? ⟨w.heap.size, 1, none⟩ = some (.int .i64 t) ∧ w'.cell? ⟨w.heap.size, 2, none⟩ = some (.int .i64 k)) ∧ (w'.cell? ⟨w.heap.size + 1, 0, none⟩ = some (.int .i64 L) ∧ w'.cell? ⟨w.heap.size + 1, 1, none⟩ = some (.int .i64 B))) (first | go_keep | exact ⟨P5.out, X5.out⟩ | exact ⟨hold3 ((Below.refl w2.heap.size w5).setCell (p := ⟨w2.heap.size, j, none⟩) (Nat.le_refl _) _) (by omega) P5.out, hold2 ((Below.refl w2.heap.size w5).setCell (p := ⟨w2.heap.size, j, none⟩) (Nat.le_refl _) _) (by omega) X5.out⟩)
            (first
              | (go_at_call 57; refine (CS.out _).mono ?_; rintro e' w5 ⟨rfl, hb5⟩; have hc5 : Below wr.heap.size wr w5 := undrew hb5; have P5 := Lib.hid (hold3 hc5 (by omega) Pr.out); have X5 := Lib.hid (hold2 hc5 (by omega) Xr.out); have O5 := Lib.hid (row_below HO.out (fun g hg => by injection hg with hg; subst hg; exact hg2) hc5); have d5 := (O5.out.cellAt j (by omega)).trans HV.out; have f5 := O5.out.frozenAt j; have B5 := Lib.hid (HB.out.trans (hc5.mono (B' := w2.heap.size) (by omega))); have z5 := hc5.size; clear hb5 hc5))
          | fail "the region"
        have S6 := Lib.hid (O5.out.stored j (.int .i64 (t + rs))).1
        have B6 := Lib.hid (B5.out.setCell (p := ⟨w2.heap.size, j, none⟩) (Nat.le_refl _) (.int .i64 (t + rs)))
        have d6 := (S6.out.cellAt j (by omega)).trans (show ((half (bandL (t + rs) e B) B j).set j (.int .i64 (t + rs)))[j]? = some (.int .i64 (t + rs)) by
          rw [List.getElem?_set_self]
          have := HV.out
          exact (List.getElem?_eq_some_iff.1 this).1)
        have f6 := S6.out.frozenAt j
        clear p0 p1 p2 q0 q1
        by_cases hje : (j : Int) < e
        · first
            | (exfalso
               have hx := HE.out
               simp only [if_false, Bool.false_eq_true] at hx
               omega)
            | (have hje2 : (j : Int) < re := by
                 have hx := HE.out
                 simp only [if_true] at hx
                 omega
               have HX : Hid (bandW (t + rs) e j = t + rs + 1) := by show _ = _; unfold bandW; rw [if_pos hje]
               have S7 := Lib.hid (S6.out.stored j (.int .i64 (t + rs + 1))).1
               have B7 := Lib.hid (B6.out.setCell (p := ⟨w2.heap.size, j, none⟩) (Nat.le_refl _) (.int .i64 (t + rs + 1)))
               have HW2 : Hid ((half (bandL (t + rs) e B) B j).set j (.int .i64 (t + rs + 1)) = half (bandL (t + rs) e B) B (j + 1)) := by
                 show _ = _
                 have := HW.out
                 rw [HX.out] at this
                 exact this
               rw [half_at _ (bandL_len _ _ _) hlt, HW2.out] at S7
               clear hje
               go_wp2
               go_roundw
               case rel => exact ⟨j + 1, by omega, by go_num, S7.out, B7.out⟩
               case measure => simp [intOf]; omega)
        · have HX : Hid (bandW (t + rs) e j = t + rs) := by show _ = _; unfold bandW; rw [if_neg hje, Int.add_zero]
          have HW2 : Hid ((half (bandL (t + rs) e B) B j).set j (.int .i64 (t + rs)) = half (bandL (t + rs) e B) B (j + 1)) := by
            show _ = _
            have := HW.out
            rw [HX.out] at this
            exact this
          rw [HW2.out] at S6
          have hd0 : decide ((j : Int) < 0) = false := decide_eq_false (by omega)
          have hje2 : e = re → decide ((j : Int) < re) = false := fun h => decide_eq_false (by omega)
          first
            | (have hx := HE.out
               simp only [if_true] at hx
               have hje3 := hje2 hx
               clear hje hx hje2
               go_wp2
               go_roundw
               case rel => exact ⟨j + 1, by omega, by go_num, S6.out, B6.out⟩
               case measure => simp [intOf]; omega)
            | (clear hje hje2
               go_wp2
               go_roundw
               case rel => exact ⟨j + 1, by omega, by go_num, S6.out, B6.out⟩
               case measure => simp [intOf]; omega)
      · have hjn : j = B := by omega
        subst hjn
        go_wp2
        go_ret
        refine ⟨_, rfl, by omega, ?_, T2.out.trans (HB.out.mono (by omega))⟩
        have := HO.out
        rw [half_full (bandL_len _ _ _)] at this
        refine ⟨by simp [bandL_len], .inr ?_⟩
        rcases this.2 with ⟨h, _⟩ | ⟨g, cap, cur, hv, hg, rest⟩
        · cases h
        · exact ⟨g, cap, cur, by rw [bandL_len]; exact hv, by omega, by rw [bandL_len]; exact rest⟩
end Go.Proofs.Ytjfckplogjekaaa
