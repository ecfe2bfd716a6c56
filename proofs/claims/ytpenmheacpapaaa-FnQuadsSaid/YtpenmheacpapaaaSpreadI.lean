/-
  WidthsOf and SpreadLine of the program by contract. Condition: lengths within the reach of a slice.
-/
import Derived.Test.YtpenmheacpapaaaFitI
namespace Go.Proofs.Ytpenmheacpapaaa
open Go.RowKit
set_option linter.unusedVariables false

set_option maxRecDepth 100000 in
set_option maxHeartbeats 1600000 in
theorem implSpread_any (W t k : Int) (A : Option Addr) (n c : Nat) (zs : List Int) (w : World) (hn : zs.length = n) (hm : n ≤ maxLen) (h : Ints w A zs) :
    Calls Try.prog 39 #[.agg #[.int .i64 W, .int .i64 t, .int .i64 k], .slice A n c] w fun e w' => e = .returned (.tuple #[.int .i64 (rise1 ⟨W, t, k⟩ zs), .int .i64 (rest1 ⟨W, t, k⟩ zs), .bool (goodB ⟨W, t, k⟩ zs)]) ∧ Below w.heap.size w w' := by
  have Hn := Lib.hid hn
  obtain ⟨w0, hw0, hb0, hz0, P⟩ := msWorld w W t k
  have T0 := Lib.hid hb0; have P0 := Lib.hid P; have Z0 := Lib.hid hz0
  have I0 := Lib.hid (h.below hb0)
  clear hb0 hz0 P hn h
  obtain ⟨p0, p1, p2⟩ := P0.out
  cases hg : goodB ⟨W, t, k⟩ zs
  · obtain ⟨r1, r2⟩ := spr_no hg
    rw [r1, r2]
    go_enter Try.func39, Try.ntmps39
    go_wp2_with fail
    clear hw0
    have hz := Z0.out
    refine (isFitting_any W t k A n c zs _ Hn.out hm I0.out).mono ?_
    rintro e w1 ⟨he, hb1⟩
    rw [hg] at he; subst he
    have T1 := Lib.hid (T0.out.trans (hb1.mono (B' := w.heap.size) (by omega)))
    clear hb1
    go_wp2
    go_ret3
    exact ⟨rfl, T1.out⟩
  obtain ⟨r1, r2⟩ := spr_is hg
  have R1 := Lib.hid r1; have R2 := Lib.hid r2
  obtain ⟨hms, hli, _⟩ := goodB_parts hg
  obtain ⟨s0, s1, s2⟩ := lineB_sum hli
  have HL := Lib.hid hli; have HM := Lib.hid hms
  clear r1 r2 hms hli
  go_enter Try.func39, Try.ntmps39
  go_wp2_with fail
  clear hw0
  have hz := Z0.out
  refine (isFitting_any W t k A n c zs _ Hn.out hm I0.out).mono ?_
  rintro e w1 ⟨he, hb1⟩
  rw [hg] at he; subst he
  have T1 := Lib.hid (T0.out.trans (hb1.mono (B' := w.heap.size) (by omega)))
  have P1 := Lib.hid (hold3 hb1 (by omega) P0.out)
  have I1 := Lib.hid (I0.out.below hb1)
  have z1 := hb1.size
  clear hb1
  go_wp2_with fail
  refine (loadOf_any A n c zs _ Hn.out I1.out HL.out).mono ?_
  rintro e w2 ⟨rfl, hb2⟩
  have P2 := Lib.hid (hold3 hb2 (by omega) P1.out); have T2 := Lib.hid (T1.out.trans (hb2.mono (B' := w.heap.size) (by omega))); have z2 := hb2.size
  clear hb2 p0 p1 p2
  obtain ⟨w3, hw3⟩ : ∃ w3, w2.alloc (.cells #[.int .i64 (sumL zs), .int .i64 (bandsN zs : Int)] 88) = w3 := ⟨_, rfl⟩
  have hb3 : Below w2.heap.size w2 w3 := by rw [← hw3]; exact below_new _ _
  have z3 : w3.heap.size = w2.heap.size + 1 := by rw [← hw3]; simp
  have X3 := Lib.hid (lay2 w2 (.int .i64 (sumL zs)) (.int .i64 (bandsN zs : Int)) 88)
  rw [hw3] at X3
  have P3 := Lib.hid (hold3 hb3 (by omega) P2.out); have T3 := Lib.hid (T2.out.trans (hb3.mono (B' := w.heap.size) (by omega)))
  clear hb3
  obtain ⟨p0, p1, p2⟩ := P3.out
  obtain ⟨q0, q1⟩ := X3.out
  go_wp2_with fail
  clear hw3
  first
    | go_region_held3 (fun w' => (w'.cell? ⟨w.heap.size, 0, none⟩ = some (.int .i64 W) ∧ w'.cell? ⟨w.heap.size, 1, none⟩ = some (.int .i64 t) ∧ w'.cell? ⟨w.heap.size, 2, none⟩ = some (.int .i64 k)) ∧ (w'.cell? ⟨w2.heap.size, 0, none⟩ = some (.int .i64 (sumL zs)) ∧ w'.cell? ⟨w2.heap.size, 1, none⟩ = some (.int .i64 (bandsN zs : Int)))) (first | go_keep | exact ⟨P4.out, X4.out⟩ | exact ⟨P5.out, X5.out⟩)
      (first
        | (go_at_call 88; refine (ldRise_any (sumL zs) (bandsN zs) W t k _ s0 (by omega) s2 HM.out).mono ?_; rintro e w4 ⟨rfl, hb4⟩; have hc4 : Below w3.heap.size w3 w4 := undrew hb4; have X4 := Lib.hid (hold2 hc4 (by omega) X3.out); have P4 := Lib.hid (hold3 hc4 (by omega) P3.out); have T4 := Lib.hid (T3.out.trans (hc4.mono (B' := w.heap.size) (by omega))); have z4 := hc4.size; clear hb4 hc4)
        | (go_at_call 89; refine (ldRest_any (sumL zs) (bandsN zs) W t k _ s0 (by omega) s2 HM.out).mono ?_; rintro e w5 ⟨rfl, hb5⟩; have hc5 : Below w4.heap.size w4 w5 := hb5; have X5 := Lib.hid (hold2 hc5 (by omega) X4.out); have P5 := Lib.hid (hold3 hc5 (by omega) P4.out); have T5 := Lib.hid (T4.out.trans (hc5.mono (B' := w.heap.size) (by omega))); have z5 := hc5.size; clear hb5 hc5))
    | fail "the region"
  go_wp2
  go_ret3
  exact ⟨by rw [R1.out, R2.out]; rfl, T5.out⟩
end Go.Proofs.Ytpenmheacpapaaa
