/-
  isFitting, WidthsOf, SpreadLine, IsFull of the program by contract. Condition: lengths of at most 2^20.
-/
import Derived.Test.YtpenmheacpapaaaRise
import Derived.Deep.RegionWith
namespace Go.Proofs.Ytpenmheacpapaaa
open Go.RowKit
set_option linter.unusedVariables false

/-- the world in which a function over a measure begins -/
theorem msWorld (w : World) (W t k : Int) : ∃ w0, w.alloc (.cells #[.int .i64 W, .int .i64 t, .int .i64 k] 24) = w0 ∧ Below w.heap.size w w0 ∧ w0.heap.size = w.heap.size + 1 ∧
    (w0.cell? ⟨w.heap.size, 0, none⟩ = some (.int .i64 W) ∧ w0.cell? ⟨w.heap.size, 1, none⟩ = some (.int .i64 t) ∧ w0.cell? ⟨w.heap.size, 2, none⟩ = some (.int .i64 k)) :=
  ⟨_, rfl, below_new _ _, by simp, lay3 w (.int .i64 W) (.int .i64 t) (.int .i64 k) 24⟩
theorem good_no {m : Msr} {zs : List Int} (h : msrB m = false) : goodB m zs = false := by unfold goodB; rw [h]; rfl
theorem good_line {m : Msr} {zs : List Int} (h : lineB zs = false) : goodB m zs = false := by unfold goodB fitsB; rw [h]; simp
theorem good_is {m : Msr} {zs : List Int} (h : msrB m = true) (h2 : lineB zs = true) : goodB m zs = decide (widF (sumL zs) (bandsN zs) m.t ≤ m.w) := by
  unfold goodB fitsB fitL widL; rw [h, h2]; simp

set_option maxRecDepth 100000 in
set_option maxHeartbeats 1600000 in
theorem isFitting_any (W t k : Int) (A : Option Addr) (n c : Nat) (zs : List Int) (w : World) (hn : zs.length = n) (hm : n ≤ maxLen) (h : Ints w A zs) :
    Calls Try.prog 86 #[.agg #[.int .i64 W, .int .i64 t, .int .i64 k], .slice A n c] w fun e w' => e = .returned (.bool (goodB ⟨W, t, k⟩ zs)) ∧ Below w.heap.size w w' := by
  have Hn := Lib.hid hn
  obtain ⟨w0, hw0, hb0, hz0, P⟩ := msWorld w W t k
  have T0 := Lib.hid hb0; have P0 := Lib.hid P; have Z0 := Lib.hid hz0
  have I0 := Lib.hid (h.below hb0)
  clear hb0 hz0 P hn h
  obtain ⟨p0, p1, p2⟩ := P0.out
  cases hms : msrB ⟨W, t, k⟩
  · have HR := Lib.hid (good_no (zs := zs) hms)
    go_enter Try.func86, Try.ntmps86
    go_wp2_with fail
    clear hw0
    have hz := Z0.out
    first
      | go_region_with ((first
          | (go_at_call 90; refine (implMeasureOk_any W t k _).mono ?_; rintro e w1 ⟨he, hb1⟩; rw [hms] at he; subst he; have hc1 : Below w0.heap.size w0 w1 := undrew hb1; have P1 := Lib.hid (hold3 hc1 (by omega) P0.out); have T1 := Lib.hid (T0.out.trans (hc1.mono (B' := w.heap.size) (by omega))); clear hb1 hc1; obtain ⟨p0, p1, p2⟩ := P1.out)))
      | fail "the region"
    all_goals
      go_wp2
      go_ret
      exact ⟨ret_bool HR.out.symm, T1.out⟩
  cases hli : lineB zs
  · have HR := Lib.hid (good_line (m := ⟨W, t, k⟩) hli)
    go_enter Try.func86, Try.ntmps86
    go_wp2_with fail
    clear hw0
    have hz := Z0.out
    first
      | go_region_with ((first
          | (go_at_call 90; refine (implMeasureOk_any W t k _).mono ?_; rintro e w1 ⟨he, hb1⟩; rw [hms] at he; subst he; have hc1 : Below w0.heap.size w0 w1 := undrew hb1; have P1 := Lib.hid (hold3 hc1 (by omega) P0.out); have T1 := Lib.hid (T0.out.trans (hc1.mono (B' := w.heap.size) (by omega))); have I1 := Lib.hid (I0.out.below hc1); clear hb1 hc1; obtain ⟨p0, p1, p2⟩ := P1.out)
          | (go_at_call 91; refine (implLineOk_any A n c zs _ Hn.out hm I1.out).mono ?_; rintro e w2 ⟨he, rfl⟩; rw [hli] at he; subst he)))
      | fail "the region"
    all_goals
      go_wp2
      go_ret
      exact ⟨ret_bool HR.out.symm, T1.out⟩
  have HR := Lib.hid (good_is (m := ⟨W, t, k⟩) hms hli)
  have HL := Lib.hid hli; have HM := Lib.hid hms
  obtain ⟨s0, s1, s2⟩ := lineB_sum hli
  go_enter Try.func86, Try.ntmps86
  go_wp2_with fail
  clear hw0
  have hz := Z0.out
  first
    | go_region_held3 (fun w' => w'.cell? ⟨w.heap.size, 0, none⟩ = some (.int .i64 W) ∧ w'.cell? ⟨w.heap.size, 1, none⟩ = some (.int .i64 t) ∧ w'.cell? ⟨w.heap.size, 2, none⟩ = some (.int .i64 k)) (first | go_keep | exact P1.out | exact P3.out | exact P4.out) (first
        | (go_at_call 90; refine (implMeasureOk_any W t k _).mono ?_; rintro e w1 ⟨he, hb1⟩; rw [HM.out] at he; subst he; have hc1 : Below w0.heap.size w0 w1 := undrew hb1; have P1 := Lib.hid (hold3 hc1 (by omega) P0.out); have T1 := Lib.hid (T0.out.trans (hc1.mono (B' := w.heap.size) (by omega))); have I1 := Lib.hid (I0.out.below hc1); have z1 := hc1.size; clear hb1 hc1; obtain ⟨p0, p1, p2⟩ := P1.out)
        | (go_at_call 91; refine (implLineOk_any A n c zs _ Hn.out hm I1.out).mono ?_; rintro e w2 ⟨he, rfl⟩; rw [HL.out] at he; subst he)
        | (go_at_call 87; refine (loadOf_any A n c zs _ Hn.out I1.out HL.out).mono ?_; rintro e w3 ⟨rfl, hb3⟩; have P3 := Lib.hid (hold3 hb3 (by omega) P1.out); have T3 := Lib.hid (T1.out.trans (hb3.mono (B' := w.heap.size) (by omega))); have z3 := hb3.size; clear hb3; obtain ⟨p0, p1, p2⟩ := P3.out)
        | (go_at_call 116; refine (ldFits_any (sumL zs) (bandsN zs) W t k _ s0 (by omega) s2 HM.out).mono ?_; rintro e w4 ⟨rfl, hb4⟩; have P4 := Lib.hid (hold3 hb4 (by omega) P3.out); have T4 := Lib.hid (T3.out.trans (hb4.mono (B' := w.heap.size) (by omega))); clear hb4))
    | fail "the region"
  all_goals
    go_wp2
    go_ret
    exact ⟨ret_bool HR.out.symm, T4.out⟩
end Go.Proofs.Ytpenmheacpapaaa
