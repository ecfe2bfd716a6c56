/-
  LineKind, IsBreaking, CostOf of the program by contract. Conditions: lengths and capacities within the reach of a slice.
-/
import Derived.Test.YtpenmheacpapaaaBrkM
import Derived.Test.YtpenmheacpapaaaFitI
namespace Go.Proofs.Ytpenmheacpapaaa
open Go.RowKit
set_option linter.unusedVariables false

/-- the world in which a function begins that boxes a measure and lays a setting -/
theorem msStWorld (w : World) (W t k : Int) (s : Value) : ∃ w0, (w.alloc (.cells #[.int .i64 W, .int .i64 t, .int .i64 k] 24)).alloc (.cells #[.int .i64 W, .int .i64 t, .int .i64 k, s] 69) = w0 ∧ Below w.heap.size w w0 ∧ w0.heap.size = w.heap.size + 2 ∧ St w0 (w.heap.size + 1) W t k s := by
  refine ⟨_, rfl, (below_new _ _).trans ((below_new _ _).mono (by simp)), by simp, ?_⟩
  have := stWorld (w.alloc (.cells #[.int .i64 W, .int .i64 t, .int .i64 k] 24)) W t k s
  obtain ⟨w0, h0, _, _, h⟩ := this
  rw [h0]
  rwa [World.size_alloc] at h

set_option maxRecDepth 100000 in
set_option maxHeartbeats 1600000 in
theorem implLineKind_any (W t k : Int) (A : Option Addr) (n c : Nat) (zs : List Int) (a b : Int) (w : World) (hn : zs.length = n) (hc : n ≤ c) (hcm : c ≤ maxLen) (h : Ints w A zs) :
    Calls Try.prog 37 #[.agg #[.int .i64 W, .int .i64 t, .int .i64 k], .slice A n c, .int .i64 a, .int .i64 b] w fun e w' => e = .returned (.int .i64 (kindA ⟨W, t, k⟩ zs a b)) ∧ Below w.heap.size w w' := by
  have C := fun (w : World) (hI : Ints w A zs) => stOk_any W t k A n c zs w hn (by omega) hI
  have D := fun (ad : Addr) (a b : Nat) (w : World) (hI : Ints w (some ad) zs) (hm : msrB ⟨W, t, k⟩ = true) (ht : textB zs = true) (hab : a < b) (hb : b ≤ n) => stKind_any W t k ad n c zs a b w hn hc hcm hI hm ht hab hb
  obtain ⟨w0, hw0, hb0, hz0, P⟩ := msStWorld w W t k (.slice A n c)
  have T0 := Lib.hid hb0; have P0 := Lib.hid P; have Z0 := Lib.hid hz0
  have I0 := Lib.hid (h.below hb0)
  have CC := Lib.hid C; have DD := Lib.hid D; have Hn := Lib.hid hn
  obtain ⟨p0, p1, p2, p3⟩ := P
  have hlay := lay3 w (.int .i64 W) (.int .i64 t) (.int .i64 k) 24
  obtain ⟨q0, q1, q2⟩ := hlay
  clear hb0 hz0 hn h C D hc hcm
  cases ho : (msrB ⟨W, t, k⟩ && textB zs)
  · have HR : Hid (kindA ⟨W, t, k⟩ zs a b = -1) := by show _ = _; unfold kindA; rw [if_neg (by rw [okW_no ho]; simp)]
    go_enter Try.func37, Try.ntmps37
    go_wp2_with fail
    clear hw0
    refine (CC.out _ I0.out).mono ?_
    rintro e w1 ⟨he, hb1⟩
    rw [ho] at he; subst he
    have T1 := Lib.hid (T0.out.trans (hb1.mono (B' := w.heap.size) (by have := Z0.out; omega)))
    clear hb1 p0 p1 p2 p3 ho q0 q1 q2
    go_wp2
    go_ret
    exact ⟨ret_int HR.out.symm, T1.out⟩
  · have hq := ho
    rw [Bool.and_eq_true] at hq
    have HM := Lib.hid hq
    obtain ⟨_, hl1, hl2⟩ := textB_parts hq.2
    rw [Hn.out] at hl1 hl2
    have hA := ints_some I0.out (by rw [Hn.out]; exact hl1)
    clear hq
    have step : ∀ (R : Int), Hid (kindA ⟨W, t, k⟩ zs a b = R) → True := fun _ _ => trivial
    by_cases h1 : a < 0
    · have HR : Hid (kindA ⟨W, t, k⟩ zs a b = -1) := by show _ = _; unfold kindA; rw [if_neg (by omega)]
      go_enter Try.func37, Try.ntmps37
      go_wp2_with fail
      clear hw0
      refine (CC.out _ I0.out).mono ?_
      rintro e w1 ⟨he, hb1⟩
      rw [ho] at he; subst he
      have T1 := Lib.hid (T0.out.trans (hb1.mono (B' := w.heap.size) (by have := Z0.out; omega)))
      clear hb1 p0 p1 p2 p3 ho q0 q1 q2
      go_wp2
      go_ret
      exact ⟨ret_int HR.out.symm, T1.out⟩
    by_cases h2 : (n : Int) < b
    · have HR : Hid (kindA ⟨W, t, k⟩ zs a b = -1) := by show _ = _; unfold kindA; rw [if_neg (by rw [Hn.out]; omega)]
      go_enter Try.func37, Try.ntmps37
      go_wp2_with fail
      clear hw0
      refine (CC.out _ I0.out).mono ?_
      rintro e w1 ⟨he, hb1⟩
      rw [ho] at he; subst he
      have T1 := Lib.hid (T0.out.trans (hb1.mono (B' := w.heap.size) (by have := Z0.out; omega)))
      clear hb1 p0 p1 p2 p3 ho q0 q1 q2
      go_wp2
      go_ret
      exact ⟨ret_int HR.out.symm, T1.out⟩
    by_cases h3 : b ≤ a
    · have HR : Hid (kindA ⟨W, t, k⟩ zs a b = -1) := by show _ = _; unfold kindA; rw [if_neg (by omega)]
      go_enter Try.func37, Try.ntmps37
      go_wp2_with fail
      clear hw0
      refine (CC.out _ I0.out).mono ?_
      rintro e w1 ⟨he, hb1⟩
      rw [ho] at he; subst he
      have T1 := Lib.hid (T0.out.trans (hb1.mono (B' := w.heap.size) (by have := Z0.out; omega)))
      clear hb1 p0 p1 p2 p3 ho q0 q1 q2
      go_wp2
      go_ret
      exact ⟨ret_int HR.out.symm, T1.out⟩
    obtain ⟨x, rfl⟩ : ∃ x : Nat, a = (x : Int) := ⟨a.toNat, by omega⟩
    obtain ⟨y, rfl⟩ : ∃ y : Nat, b = (y : Int) := ⟨b.toNat, by omega⟩
    have hxy : x < y := by omega
    have hyn : y ≤ n := by omega
    have HR : Hid (kindA ⟨W, t, k⟩ zs x y = kindW ⟨W, t, k⟩ zs x y) := by show _ = _; unfold kindA; rw [if_pos ⟨ho, by omega, by rw [Hn.out]; omega, by omega⟩]; simp
    obtain ⟨ad, rfl⟩ := hA
    have DD2 := Lib.hid (fun w h => DD.out ad x y w h HM.out.1 HM.out.2 hxy hyn)
    clear DD hl1 hl2
    go_enter Try.func37, Try.ntmps37
    go_wp2_with fail
    clear hw0
    refine (CC.out _ I0.out).mono ?_
    rintro e w1 ⟨he, hb1⟩
    rw [ho] at he; subst he
    have T1 := Lib.hid (T0.out.trans (hb1.mono (B' := w.heap.size) (by have := Z0.out; omega)))
    have I1 := Lib.hid (I0.out.below hb1)
    have Z1 : Hid (w.heap.size ≤ w1.heap.size) := by show _ ≤ _; have := Z0.out; have := hb1.size; omega
    clear p0 p1 p2 p3 ho q0 q1 q2
    obtain ⟨p0, p1, p2, p3⟩ := St.hold hb1 (by have := Z0.out; omega) P0.out
    clear hb1
    go_wp2_with fail
    refine (DD2.out _ I1.out).mono ?_
    rintro e w2 ⟨rfl, hb2⟩
    have T2 := Lib.hid (T1.out.trans (hb2.mono (B' := w.heap.size) Z1.out))
    clear hb2 p0 p1 p2 p3
    go_wp2
    go_ret
    exact ⟨ret_int HR.out.symm, T2.out⟩
end Go.Proofs.Ytpenmheacpapaaa
