/-
  l4Ok, LineKind, l4Goes of the model by contract. Conditions: lengths and capacities within the reach of a slice; for l4Goes a measure and a text, and a line of at least one word.
-/
import Derived.Test.YtddkedinkgnboaaBrkM
import Derived.Test.YtddkedinkgnboaaSpecK
namespace Go.Proofs.Ytddkedinkgnboaa
open Go.RowKit
set_option linter.unusedVariables false

theorem kindSeg_any (W t k : Int) (ad : Addr) (M cc : Nat) (zs : List Int) (a b : Nat) (w : World) (h : Ints w (some ad) zs) (hm : msrB ⟨W, t, k⟩ = true) (ht : textB zs = true) (hab : a < b) (hb : b ≤ zs.length) (hM : b - a = M) :
    Calls Try.prog 75 #[.agg #[.int .i64 W, .int .i64 t, .int .i64 k], .slice (some (ad.add a)) M cc] w fun e w' => e = .returned (.int .i64 (kindW ⟨W, t, k⟩ zs a b)) ∧ Below w.heap.size w w' := by
  obtain ⟨hz, hl1, hl2⟩ := textB_parts ht
  obtain ⟨B, rfl⟩ : ∃ B, M = B + 1 := ⟨M - 1, by omega⟩
  have := l4Kind_any W t k (ad.add a) B cc (seg zs a b) w (by rw [seg_len hb]; exact hM) (ints_seg h hb) hm (fun x hx => hz x (seg_mem hx)) (by omega)
  unfold kindW
  rw [show b - a - 1 = B by omega]
  exact this
theorem riseSeg_any (W t k : Int) (ad : Addr) (M cc : Nat) (zs : List Int) (a b : Nat) (w : World) (h : Ints w (some ad) zs) (hm : msrB ⟨W, t, k⟩ = true) (ht : textB zs = true) (hab : a < b) (hb : b ≤ zs.length) (hM : b - a = M) (hl : lineW ⟨W, t, k⟩ zs a b = true) :
    Calls Try.prog 64 #[.agg #[.int .i64 W, .int .i64 t, .int .i64 k], .slice (some (ad.add a)) M cc] w fun e w' => e = .returned (.int .i64 (riseW ⟨W, t, k⟩ zs a b)) ∧ Below w.heap.size w w' := by
  obtain ⟨hz, hl1, hl2⟩ := textB_parts ht
  obtain ⟨B, rfl⟩ : ∃ B, M = B + 1 := ⟨M - 1, by omega⟩
  have hf := lineW_fits hl
  rw [show b - a - 1 = B by omega] at hf
  have := l4Rise_any W t k (ad.add a) B cc (seg zs a b) w (by rw [seg_len hb]; exact hM) (ints_seg h hb) hm (fun x hx => hz x (seg_mem hx)) (by omega) hf
  unfold riseW
  rw [show b - a - 1 = B by omega]
  exact this

set_option maxHeartbeats 800000 in
theorem l4Ok_any (W t k : Int) (A : Option Addr) (n c : Nat) (zs : List Int) (w : World) (hn : zs.length = n) (hm : n ≤ maxLen) (h : Ints w A zs) :
    Calls Try.prog 55 #[.agg #[.int .i64 W, .int .i64 t, .int .i64 k], .slice A n c] w fun e w' => e = .returned (.bool (msrB ⟨W, t, k⟩ && textB zs)) ∧ Below w.heap.size w w' := by
  have Hn := Lib.hid hn
  obtain ⟨w0, hw0, hb0, hz0, P⟩ := msWorld w W t k
  have T0 := Lib.hid hb0; have P0 := Lib.hid P; have Z0 := Lib.hid hz0
  have I0 := Lib.hid (h.below hb0)
  obtain ⟨p0, p1, p2⟩ := P
  clear hb0 hz0 hn h
  cases hms : msrB ⟨W, t, k⟩
  · go_enter Try.func55, Try.ntmps55
    go_wp2_with fail
    clear hw0
    refine (specMeasureOk_any W t k _).mono ?_
    rintro e w1 ⟨he, hb1⟩
    rw [hms] at he; subst he
    have T1 := Lib.hid (T0.out.trans (hb1.mono (B' := w.heap.size) (by have := Z0.out; omega)))
    clear hb1 p0 p1 p2 hms
    go_wp2
    go_ret
    exact ⟨rfl, T1.out⟩
  · go_enter Try.func55, Try.ntmps55
    go_wp2_with fail
    clear hw0
    refine (specMeasureOk_any W t k _).mono ?_
    rintro e w1 ⟨he, hb1⟩
    rw [hms] at he; subst he
    have T1 := Lib.hid (T0.out.trans (hb1.mono (B' := w.heap.size) (by have := Z0.out; omega)))
    have I1 := Lib.hid (I0.out.below hb1)
    clear hb1 p0 p1 p2 hms
    go_wp2_with fail
    refine (specTextOk_any A n c zs _ Hn.out hm I1.out).mono ?_
    rintro e w2 ⟨rfl, rfl⟩
    go_wp2
    go_ret
    exact ⟨ret_bool (by simp), T1.out⟩

set_option maxRecDepth 100000 in
set_option maxHeartbeats 1600000 in
theorem l4Goes_any (W t k : Int) (ad : Addr) (n c : Nat) (zs : List Int) (a q : Nat) (w : World) (hn : zs.length = n) (hc : n ≤ c) (hcm : c ≤ maxLen) (h : Ints w (some ad) zs) (hm : msrB ⟨W, t, k⟩ = true) (ht : textB zs = true) (hq : 1 ≤ q) (hb : a + q ≤ n) :
    Calls Try.prog 59 #[.agg #[.int .i64 W, .int .i64 t, .int .i64 k], .slice (some ad) n c, .int .i64 a, .int .i64 q] w fun e w' => e = .returned (.bool (lineW ⟨W, t, k⟩ zs a (a + q))) ∧ Below w.heap.size w w' := by
  obtain ⟨r, hr⟩ : ∃ r, a + q = r := ⟨_, rfl⟩
  have C := fun (w : World) (hI : Ints w (some ad) zs) => kindSeg_any W t k ad q (c - a) zs a r w hI hm ht (by omega) (by omega) (by omega)
  have HR : Hid (lineW ⟨W, t, k⟩ zs a r = (kindW ⟨W, t, k⟩ zs a r == 2 || (kindW ⟨W, t, k⟩ zs a r == 1 && decide (r = n)))) := by show _ = _; unfold lineW; rw [hn]
  obtain ⟨K, hK⟩ : ∃ K, kindW ⟨W, t, k⟩ zs a r = K := ⟨_, rfl⟩
  have hK3 : K = 0 ∨ K = 1 ∨ K = 2 := by rw [← hK]; exact kindF_cases _ _ _
  rw [hK] at C HR
  rw [hr]
  have CC := Lib.hid C
  unfold maxLen at hcm
  have hcast : (a : Int) + (q : Int) = (r : Int) := by omega
  have e2 : IntKind.i64.wrap ((a : Int) + (q : Int)) = (r : Int) := by rw [IntKind.wrap_i64]; obtain ⟨_, _, _⟩ := textB_parts ht; omega
  have hca : ¬ c = a := by omega
  have har : a ≤ r := by omega
  have hrc : r ≤ c := by omega
  have hra : r - a = q := by omega
  have e5 : IntKind.i64.wrap (r : Int) = (r : Int) := by rw [← hcast]; rw [e2]; omega
  have i1 : (0 : Int) ≤ (a : Int) := by omega
  have i2 : (a : Int) ≤ (r : Int) := by omega
  have i3 : (r : Int) ≤ (c : Int) := by omega
  have i4 : (0 : Int) ≤ (r : Int) := by omega
  obtain ⟨w0, hw0, hb0, hz0, P⟩ := msWorld w W t k
  have T0 := Lib.hid hb0; have P0 := Lib.hid P; have Z0 := Lib.hid hz0
  have I0 := Lib.hid (h.below hb0)
  have HN := Lib.hid hn
  obtain ⟨p0, p1, p2⟩ := P
  clear hb0 hn h hc hcm ht hm C hK hr
  go_enter Try.func59, Try.ntmps59
  go_wp2_with fail
  clear hw0
  have hz := Z0.out
  first
    | go_region_held3 (fun w' => w'.cell? ⟨w.heap.size, 0, none⟩ = some (.int .i64 W) ∧ w'.cell? ⟨w.heap.size, 1, none⟩ = some (.int .i64 t) ∧ w'.cell? ⟨w.heap.size, 2, none⟩ = some (.int .i64 k)) (first | go_keep | exact P1.out) (first
        | (go_at_call 75; refine (CC.out _ I0.out.drew).mono ?_; rintro e w1 ⟨rfl, hb1⟩; have hc1 : Below w0.heap.size w0 w1 := undrew hb1; have P1 := Lib.hid (hold3 hc1 (by omega) P0.out); have T1 := Lib.hid (T0.out.trans (hc1.mono (B' := w.heap.size) (by omega))); clear hb1 hc1))
    | fail "the region"
  all_goals
    clear hca har hrc hra i1 i2 i3 i4
    rcases hK3 with rfl | rfl | rfl
    · go_wp2
      go_ret
      exact ⟨ret_bool (by rw [HR.out]; simp), T1.out⟩
    · by_cases hbn : r = n
      · subst hbn
        go_wp2
        go_ret
        exact ⟨ret_bool (by rw [HR.out]; simp), T1.out⟩
      · have hd : ((r : Int) == (n : Int)) = false := by rw [beq_eq_false_iff_ne]; omega
        have hd2 : Hid (decide (r = n) = false) := by show _ = _; exact decide_eq_false hbn
        clear hbn
        go_wp2
        go_ret
        exact ⟨ret_bool (by rw [HR.out, hd2.out]; simp), T1.out⟩
    · go_wp2
      go_ret
      exact ⟨ret_bool (by rw [HR.out]; simp), T1.out⟩
end Go.Proofs.Ytddkedinkgnboaa
