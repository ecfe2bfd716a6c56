/-
  The draws of chapter 4 that return a measure and a line: l3Row, l3Both and those that call it. Condition: the cursor is whole.
-/
import Derived.Test.YtpenmheacpapaaaDrawN
namespace Go.Proofs.Ytpenmheacpapaaa
open Go.RowKit
set_option linter.unusedVariables false

set_option maxRecDepth 100000 in
set_option maxHeartbeats 3200000 in
theorem l3Row_any (g : Nat) (W t k : Int) (w : World) (hc : Cur w g) :
    Calls Try.prog 98 #[.pointer (some ⟨g, 0, none⟩), .agg #[.int .i64 W, .int .i64 t, .int .i64 k]] w fun e w' => ∃ gb m c zs, e = .returned (.slice (some ⟨gb, 0, none⟩) m c) ∧ zs.length = m ∧ m ≤ 122 ∧ m ≤ c ∧ c ≤ maxLen ∧ w.heap.size ≤ gb ∧ Own w' w.heap.size (.slice (some ⟨gb, 0, none⟩) m c) zs ∧ CM w w' g := by
  have hgw := hc.lt
  obtain ⟨wa, hwa⟩ : ∃ wa, w.alloc (.cells #[.int .i64 W, .int .i64 t, .int .i64 k] 24) = wa := ⟨_, rfl⟩
  have CA : CM w wa g := by rw [← hwa]; exact (CM.of hc).alloc _
  have MA : M3 wa w.heap.size W t k := by rw [← hwa]; exact M3.new w _ _ _
  have CA := Lib.hid CA
  have za : w.heap.size < wa.heap.size := MA.lt
  obtain ⟨m0, m1, m2, _, _, _⟩ := MA.cells
  clear hc MA
  go_enter Try.func98, Try.ntmps98
  go_wp2_with fail
  clear hwa
  refine (l3Line_any g W t k wa CA.out.1).mono ?_
  rintro e w1 ⟨gb, m, c, zs, rfl, hl, hm, hmc, hcm, hgb, hO1, hc1⟩
  have C1 := Lib.hid (CA.out.trans hc1); have O1 := Lib.hid (own_base1 hO1 (show w.heap.size ≤ wa.heap.size by omega)); have Hl := Lib.hid hl; have Hcm := Lib.hid hcm
  clear hc1 hO1 hl hcm m0 m1 m2 CA
  go_wp2_with fail
  refine (below_cm w1 g _ _ (by omega) (CM.of C1.out.1)).mono ?_
  rintro e w2 ⟨kd, rfl, hk, hc2, -⟩
  have C2 := Lib.hid (C1.out.trans hc2); have O2 := Lib.hid (O1.out.grown_lt hc2.2 (fun q hq => by injection hq with hq; omega))
  clear hc2 C1 O1
  by_cases h0 : kd = 0
  · have hb0 : ((kd : Int) == 0) = true := by simp; omega
    clear h0
    go_wp2_with fail
    refine (int_cm w2 g 4 4 [-1, 61, 60, 4611686018427387904] _ (CM.of C2.out.1) rfl (by omega) (by omega)).mono ?_
    rintro e w4 ⟨u, rfl, hc4, -⟩
    have C4 := Lib.hid (C2.out.trans hc4); have O4 := Lib.hid (O2.out.grown_lt hc4.2 (fun q hq => by injection hq with hq; omega))
    have z4 := C4.out.2.size
    clear hc4
    go_wp2_with (at_builtin; refine wpl_push w4 rfl (.tmp 15) (.tmp 19) rfl w.heap.size _ zs u rfl rfl O4.out z4 (by rw [Hl.out]; omega) ?_; intro v2 w6 hO6 hb6; obtain ⟨g6, m6, c6, rfl, hm6, hg6, hmc6, hcm6, hO6', hr6⟩ := own_form2 hO6 (by simp))
    have C6 := Lib.hid (C4.out.belowB hb6 (Nat.le_refl _) hgw); have O6 := Lib.hid hO6'; have Hc6 := Lib.hid hcm6; have Hm6 := Lib.hid hm6
    have hm7 : m6 ≤ 122 := by rw [← hm6, List.length_append, Hl.out]; simp; omega
    clear hb6 hO6 hO6' hr6 hm6 hcm6
    go_ret
    exact ⟨g6, m6, c6, zs ++ [u], rfl, Hm6.out, hm7, hmc6, Hc6.out, hg6, O6.out, C6.out⟩
  have hb0 : ((kd : Int) == 0) = false := by simp; omega
  by_cases h1 : kd = 1
  · have hb1 : ((kd : Int) == 1) = true := by simp; omega
    clear h0 h1
    go_wp2_with fail
    refine (below_cm w2 g _ _ (by omega) (CM.of C2.out.1)).mono ?_
    rintro e w3 ⟨x, rfl, hx, hc3, -⟩
    have C3 := Lib.hid (C2.out.trans hc3); have O3 := Lib.hid (O2.out.grown_lt hc3.2 (fun q hq => by injection hq with hq; omega))
    clear hc3 C2 O2
    go_wp2_with fail
    refine (below_cm w3 g _ _ (by omega) (CM.of C3.out.1)).mono ?_
    rintro e w4 ⟨y, rfl, hy, hc4, -⟩
    have C4 := Lib.hid (C3.out.trans hc4); have O4 := Lib.hid (O3.out.grown_lt hc4.2 (fun q hq => by injection hq with hq; omega))
    clear hc4 C3 O3
    have hgb2 : w.heap.size ≤ gb := by omega
    go_wp2
    go_loopw [5] (fun v wr => ∃ (ys : List Int) (m' gr c' : Nat), v = .slice (some ⟨gr, 0, none⟩) m' c' ∧ ys.length = m' ∧ m' ≤ 122 ∧ m' ≤ c' ∧ c' ≤ maxLen ∧ w.heap.size ≤ gr ∧ Own wr w.heap.size (.slice (some ⟨gr, 0, none⟩) m' c') ys ∧ CM w wr g) (fun v _ => 123 - lenS v)
    case atStart => exact ⟨zs, m, gb, c, rfl, Hl.out, by omega, hmc, Hcm.out, hgb2, O4.out, C4.out⟩
    case round =>
      clear O4 C4 Hl hm hmc Hcm
      obtain ⟨ys, m', gr, c', rfl, hl, hm1, hmc, hcm, hgr, hO, hC⟩ := hrel
      have Hl := Lib.hid hl; have HO := Lib.hid hO; have HC := Lib.hid hC; have Hcm := Lib.hid hcm
      have hszr := hC.2.size
      clear hl hO hC hcm
      by_cases hlt : (m' : Int) < 118 + (x : Int)
      · go_wp2_with (at_builtin; refine wpl_push wr rfl (.tmp 32) (.tmp 34) rfl w.heap.size _ ys (y : Int) rfl rfl HO.out hszr (by rw [Hl.out]; omega) ?_; intro v2 w5 hO5 hb5; obtain ⟨g5, m5, c5, rfl, hm5, hg5, hmc5, hcm5, hO5', hr5⟩ := own_form2 hO5 (by simp))
        have C5 := Lib.hid (HC.out.belowB hb5 (Nat.le_refl _) hgw); have O5 := Lib.hid hO5'; have Hc5 := Lib.hid hcm5; have Hm5 := Lib.hid hm5
        have hm6 : Hid (m5 = m' + 1) := by show _ = _; rw [← hm5, List.length_append, Hl.out]; rfl
        clear hb5 hO5 hO5' hr5 hm5 hcm5
        go_roundw
        case rel => exact ⟨ys ++ [(y : Int)], m5, g5, c5, rfl, Hm5.out, by have := hm6.out; omega, hmc5, Hc5.out, hg5, O5.out, C5.out⟩
        case measure => have := hm6.out; simp [lenS]; omega
      · go_wp2
        go_ret
        first | exact ⟨gr, m', c', ys, rfl, Hl.out, hm1, hmc, Hcm.out, hgr, HO.out, HC.out⟩ | exact ⟨gr, m', c', rfl, ys, Hl.out, hm1, hmc, Hcm.out, hgr, HO.out, HC.out⟩
  have hb1 : ((kd : Int) == 1) = false := by simp; omega
  clear h0 h1
  go_wp2
  go_ret
  exact ⟨gb, m, c, zs, rfl, Hl.out, by omega, hmc, Hcm.out, by omega, O2.out, C2.out⟩

end Go.Proofs.Ytpenmheacpapaaa
