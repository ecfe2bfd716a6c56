/-
  The draws of chapter 4 that return a measure and a line: l3Row, l3Both and those that call it. Condition: the cursor is whole.
-/
import Derived.Test.YtjfckplogjekaaaDrawN
namespace Go.Proofs.Ytjfckplogjekaaa
open Go.RowKit
set_option linter.unusedVariables false

set_option maxRecDepth 100000 in
set_option maxHeartbeats 3200000 in
theorem l3Row_any (g : Nat) (W t k : Int) (w : World) (hc : Cur w g) :
    Calls Try.prog 67 #[.pointer (some ⟨g, 0, none⟩), .agg #[.int .i64 W, .int .i64 t, .int .i64 k]] w fun e w' => ∃ gb m c zs, e = .returned (.slice (some ⟨gb, 0, none⟩) m c) ∧ zs.length = m ∧ m ≤ 122 ∧ m ≤ c ∧ c ≤ maxLen ∧ w.heap.size ≤ gb ∧ Own w' w.heap.size (.slice (some ⟨gb, 0, none⟩) m c) zs ∧ CM w w' g := by
  have hgw := hc.lt
  obtain ⟨wa, hwa⟩ : ∃ wa, w.alloc (.cells #[.int .i64 W, .int .i64 t, .int .i64 k] 24) = wa := ⟨_, rfl⟩
  have CA : CM w wa g := by rw [← hwa]; exact (CM.of hc).alloc _
  have MA : M3 wa w.heap.size W t k := by rw [← hwa]; exact M3.new w _ _ _
  have CA := Lib.hid CA
  have za : w.heap.size < wa.heap.size := MA.lt
  obtain ⟨m0, m1, m2, _, _, _⟩ := MA.cells
  clear hc MA
  go_enter Try.func67, Try.ntmps67
  go_wp2_with fail
  clear hwa
  refine (l3Line_any g W t k wa CA.out.1).mono ?_
  rintro e w1 ⟨gb, m, c, zs, rfl, hl, hm, hmc, hcm, hgb, hO1, hc1⟩
  have C1 := Lib.hid (CA.out.trans hc1); have O1 := Lib.hid (own_base1 hO1 (show w.heap.size ≤ wa.heap.size by omega)); have Hl := Lib.hid hl; have Hcm := Lib.hid hcm
  clear hc1 hO1 hl hcm m0 m1 m2 CA
  go_wp2_with fail
  refine (below_cm w1 g _ _ (by omega) (CM.of C1.out.1)).mono ?_
  rintro e w2 ⟨kd, rfl, hk, hc2, -⟩
  have C2 := Lib.hid (C1.out.trans hc2); have O2 := Lib.hid (O1.out.grown_lt hc2.2 (fun q hq => by injection hq with hq; omega))
  clear hc2 C1 O1
  by_cases h0 : kd = 0
  · have hb0 : ((kd : Int) == 0) = true := by simp; omega
    clear h0
    go_wp2_with fail
    refine (int_cm w2 g 4 4 [-1, 61, 60, 4611686018427387904] _ (CM.of C2.out.1) rfl (by omega) (by omega)).mono ?_
    rintro e w4 ⟨u, rfl, hc4, -⟩
    have C4 := Lib.hid (C2.out.trans hc4); have O4 := Lib.hid (O2.out.grown_lt hc4.2 (fun q hq => by injection hq with hq; omega))
    have z4 := C4.out.2.size
    clear hc4
    go_wp2_with (at_builtin; refine wpl_push w4 rfl (.tmp 15) (.tmp 19) rfl w.heap.size _ zs u rfl rfl O4.out z4 (by rw [Hl.out]; omega) ?_; intro v2 w6 hO6 hb6; obtain ⟨g6, m6, c6, rfl, hm6, hg6, hmc6, hcm6, hO6', hr6⟩ := own_form2 hO6 (by simp))
    have C6 := Lib.hid (C4.out.belowB hb6 (Nat.le_refl _) hgw); have O6 := Lib.hid hO6'; have Hc6 := Lib.hid hcm6; have Hm6 := Lib.hid hm6
    have hm7 : m6 ≤ 122 := by rw [← hm6, List.length_append, Hl.out]; simp; omega
    clear hb6 hO6 hO6' hr6 hm6 hcm6
    go_ret
    exact ⟨g6, m6, c6, zs ++ [u], rfl, Hm6.out, hm7, hmc6, Hc6.out, hg6, O6.out, C6.out⟩
  have hb0 : ((kd : Int) == 0) = false := by simp; omega
  by_cases h1 : kd = 1
  · have hb1 : ((kd : Int) == 1) = true := by simp; omega
    clear h0 h1
    go_wp2_with fail
    refine (below_cm w2 g _ _ (by omega) (CM.of C2.out.1)).mono ?_
    rintro e w3 ⟨x, rfl, hx, hc3, -⟩
    have C3 := Lib.hid (C2.out.trans hc3); have O3 := Lib.hid (O2.out.grown_lt hc3.2 (fun q hq => by injection hq with hq; omega))
    clear hc3 C2 O2
    go_wp2_with fail
    refine (below_cm w3 g _ _ (by omega) (CM.of C3.out.1)).mono ?_
    rintro e w4 ⟨y, rfl, hy, hc4, -⟩
    have C4 := Lib.hid (C3.out.trans hc4); have O4 := Lib.hid (O3.out.grown_lt hc4.2 (fun q hq => by injection hq with hq; omega))
    clear hc4 C3 O3
    have hgb2 : w.heap.size ≤ gb := by omega
    go_wp2
    go_loopw [5] (fun v wr => ∃ (ys : List Int) (m' gr c' : Nat), v = .slice (some ⟨gr, 0, none⟩) m' c' ∧ ys.length = m' ∧ m' ≤ 122 ∧ m' ≤ c' ∧ c' ≤ maxLen ∧ w.heap.size ≤ gr ∧ Own wr w.heap.size (.slice (some ⟨gr, 0, none⟩) m' c') ys ∧ CM w wr g) (fun v _ => 123 - lenS v)
    case atStart => exact ⟨zs, m, gb, c, rfl, Hl.out, by omega, hmc, Hcm.out, hgb2, O4.out, C4.out⟩
    case round =>
      clear O4 C4 Hl hm hmc Hcm
      obtain ⟨ys, m', gr, c', rfl, hl, hm1, hmc, hcm, hgr, hO, hC⟩ := hrel
      have Hl := Lib.hid hl; have HO := Lib.hid hO; have HC := Lib.hid hC; have Hcm := Lib.hid hcm
      have hszr := hC.2.size
      clear hl hO hC hcm
      by_cases hlt : (m' : Int) < 118 + (x : Int)
      · go_wp2_with (at_builtin; refine wpl_push wr rfl (.tmp 32) (.tmp 34) rfl w.heap.size _ ys (y : Int) rfl rfl HO.out hszr (by rw [Hl.out]; omega) ?_; intro v2 w5 hO5 hb5; obtain ⟨g5, m5, c5, rfl, hm5, hg5, hmc5, hcm5, hO5', hr5⟩ := own_form2 hO5 (by simp))
        have C5 := Lib.hid (HC.out.belowB hb5 (Nat.le_refl _) hgw); have O5 := Lib.hid hO5'; have Hc5 := Lib.hid hcm5; have Hm5 := Lib.hid hm5
        have hm6 : Hid (m5 = m' + 1) := by show _ = _; rw [← hm5, List.length_append, Hl.out]; rfl
        clear hb5 hO5 hO5' hr5 hm5 hcm5
        go_roundw
        case rel => exact ⟨ys ++ [(y : Int)], m5, g5, c5, rfl, Hm5.out, by have := hm6.out; omega, hmc5, Hc5.out, hg5, O5.out, C5.out⟩
        case measure => have := hm6.out; simp [lenS]; omega
      · go_wp2
        go_ret
        first | exact ⟨gr, m', c', ys, rfl, Hl.out, hm1, hmc, Hcm.out, hgr, HO.out, HC.out⟩ | exact ⟨gr, m', c', rfl, ys, Hl.out, hm1, hmc, Hcm.out, hgr, HO.out, HC.out⟩
  have hb1 : ((kd : Int) == 1) = false := by simp; omega
  clear h0 h1
  go_wp2
  go_ret
  exact ⟨gb, m, c, zs, rfl, Hl.out, by omega, hmc, Hcm.out, by omega, O2.out, C2.out⟩

set_option maxRecDepth 100000 in
set_option maxHeartbeats 3200000 in
theorem l3Both_any (g : Nat) (w : World) (hc : Cur w g) :
    Calls Try.prog 53 #[.pointer (some ⟨g, 0, none⟩)] w fun e w' => ∃ x y z gb m c zs, e = .returned (.tuple #[.agg #[.int .i64 x, .int .i64 y, .int .i64 z], .slice (some ⟨gb, 0, none⟩) m c]) ∧ zs.length = m ∧ m ≤ 122 ∧ m ≤ c ∧ c ≤ maxLen ∧ w.heap.size ≤ gb ∧ Own w' w.heap.size (.slice (some ⟨gb, 0, none⟩) m c) zs ∧ CM w w' g := by
  have hgw := hc.lt
  obtain ⟨wa, hwa⟩ : ∃ wa, w.alloc (.cells #[.int .i64 0, .int .i64 0, .int .i64 0] 24) = wa := ⟨_, rfl⟩
  have CA : CM w wa g := by rw [← hwa]; exact (CM.of hc).alloc _
  have RA : M3 wa w.heap.size 0 0 0 := by rw [← hwa]; exact M3.new w 0 0 0
  have CA := Lib.hid CA; have RA := Lib.hid RA
  have za : w.heap.size < wa.heap.size := RA.out.lt
  clear hc
  go_enter Try.func53, Try.ntmps53
  go_wp2_with fail
  clear hwa
  refine (l3Any_any g wa CA.out.1).mono ?_
  rintro e w1 ⟨x, y, z, rfl, hc1⟩
  have R1 := Lib.hid (RA.out.cm hc1 (by omega)); have C1 := Lib.hid (CA.out.trans hc1)
  have z1 : w.heap.size < w1.heap.size := R1.out.lt
  obtain ⟨w2, hw2⟩ : ∃ w2, w1.alloc (.cells #[.int .i64 x, .int .i64 y, .int .i64 z] 24) = w2 := ⟨_, rfl⟩
  have M2 : M3 w2 w1.heap.size x y z := by rw [← hw2]; exact M3.new w1 _ _ _
  have hb2 : Below w1.heap.size w1 w2 := by rw [← hw2]; exact below_new _ _
  have R2 := Lib.hid (R1.out.below hb2 R1.out.lt); have C2 : Hid (CM w w2 g) := C1.out.step hb2; have CC2 := Lib.hid C2.out.1
  have z2 : w1.heap.size < w2.heap.size := M2.lt
  have M2 := Lib.hid M2
  obtain ⟨m0, m1, m2, _, _, _⟩ := M2.out.cells
  clear hc1 hb2
  go_wp2_with fail
  clear hw2
  first
    | go_region_held3 (fun w' => w'.cell? ⟨w1.heap.size, 0, none⟩ = some (.int .i64 x) ∧ w'.cell? ⟨w1.heap.size, 1, none⟩ = some (.int .i64 y) ∧ w'.cell? ⟨w1.heap.size, 2, none⟩ = some (.int .i64 z)) (first | go_keep | exact ⟨n0, n1, n2⟩ | exact ⟨k0, k1, k2⟩)
      (first
        | (go_at_call 67; refine (l3Row_any g x y z _ (by first | exact CC2.out | exact CC2.out.drew)).mono ?_; rintro e w3 ⟨gb, m, c, zs, rfl, hl, hm, hmc, hcm, hgb, hO3, hc3d⟩; have hc3 : CM w2 w3 g := ⟨hc3d.1, (Moved.refl w2 g).drew.trans hc3d.2⟩; have C3 := Lib.hid (C2.out.trans hc3); have M3q := Lib.hid (M2.out.cm hc3 (by omega)); have R3 := Lib.hid (R2.out.cm hc3 (by omega)); have O3 := Lib.hid hO3; have Hl := Lib.hid hl; have Hcm := Lib.hid hcm; obtain ⟨n0, n1, n2, _, _, _⟩ := M3q.out.cells; obtain ⟨s0, s1, s2, f0, f1, f2⟩ := R3.out.cells; have MK := Lib.hid (((M3q.out.other ⟨w.heap.size, 0, none⟩ (.int .i64 x) (by show _ ≠ w.heap.size; omega)).other ⟨w.heap.size, 1, none⟩ (.int .i64 y) (by show _ ≠ w.heap.size; omega)).other ⟨w.heap.size, 2, none⟩ (.int .i64 z) (by show _ ≠ w.heap.size; omega)); obtain ⟨k0, k1, k2, _, _, _⟩ := MK.out.cells; clear hc3 hc3d hO3 hl hcm))
    | fail "the region"
  have RG := Lib.hid (R3.out.put x y z)
  obtain ⟨d0, d1, d2, _, _, _⟩ := RG.out.cells
  have CG := Lib.hid (((C3.out.set (p := ⟨w.heap.size, 0, none⟩) (Nat.le_refl _) hgw (.int .i64 x)).set (p := ⟨w.heap.size, 1, none⟩) (Nat.le_refl _) hgw (.int .i64 y)).set (p := ⟨w.heap.size, 2, none⟩) (Nat.le_refl _) hgw (.int .i64 z))
  have hgb2 : w2.heap.size ≤ gb := hgb
  have OG : Hid (Own (((w3.setCell ⟨w.heap.size, 0, none⟩ (.int .i64 x)).setCell ⟨w.heap.size, 1, none⟩ (.int .i64 y)).setCell ⟨w.heap.size, 2, none⟩ (.int .i64 z)) w.heap.size (.slice (some ⟨gb, 0, none⟩) m c) zs) :=
    own_base1 (((O3.out.grown_lt (grown_set (World.grownBy.refl w3 _) 0 _) (fun q hq => by injection hq with hq; subst hq; show w.heap.size < w2.heap.size; omega)).grown_lt (grown_set (World.grownBy.refl _ _) 1 _) (fun q hq => by injection hq with hq; subst hq; show w.heap.size < w2.heap.size; omega)).grown_lt (grown_set (World.grownBy.refl _ _) 2 _) (fun q hq => by injection hq with hq; subst hq; show w.heap.size < w2.heap.size; omega)) (show w.heap.size ≤ w2.heap.size by omega)
  go_wp2
  exact bodyPost_ret (v := .tuple #[.agg #[.int .i64 x, .int .i64 y, .int .i64 z], .slice (some ⟨gb, 0, none⟩) m c]) (by simp [results, Try.results53, go_sem, d0, d1, d2]) rfl ⟨x, y, z, gb, m, c, zs, rfl, Hl.out, hm, hmc, Hcm.out, by omega, OG.out, CG.out⟩
end Go.Proofs.Ytjfckplogjekaaa
