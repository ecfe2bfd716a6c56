/-
  The draws of chapter 5 that return a measure and words: whatever the bytes, in memory of their own; they write into nothing that was there but the cursor. Condition: the cursor is whole.
-/
import Derived.Test.YtddkedinkgnboaaDrawB
namespace Go.Proofs.Ytddkedinkgnboaa
open Go.RowKit
set_option linter.unusedVariables false

theorem own_put3 {w : World} {B b : Nat} {v : Value} {zs : List Int} (h : Own w B v zs) (hb : b < B) (p q r : Value) : Own (((w.setCell ⟨b, 0, none⟩ p).setCell ⟨b, 1, none⟩ q).setCell ⟨b, 2, none⟩ r) B v zs :=
  ((h.grown_lt (grown_set (World.grownBy.refl w _) 0 _) (fun q hq => by injection hq with hq; subst hq; exact hb)).grown_lt (grown_set (World.grownBy.refl _ _) 1 _) (fun q hq => by injection hq with hq; subst hq; exact hb)).grown_lt (grown_set (World.grownBy.refl _ _) 2 _) (fun q hq => by injection hq with hq; subst hq; exact hb)

set_option maxRecDepth 100000 in
set_option maxHeartbeats 3200000 in
theorem l4Measure_any (g : Nat) (w : World) (hc : Cur w g) :
    Calls Try.prog 65 #[.pointer (some ⟨g, 0, none⟩)] w fun e w' => ∃ x y z : Int, e = .returned (.agg #[.int .i64 x, .int .i64 y, .int .i64 z]) ∧ 1 ≤ y ∧ y ≤ 3 ∧ CM w w' g := by
  have hgw := hc.lt
  obtain ⟨wa, hwa⟩ : ∃ wa, w.alloc (.cells #[.int .i64 0, .int .i64 0, .int .i64 0] 24) = wa := ⟨_, rfl⟩
  have CA : CM w wa g := by rw [← hwa]; exact (CM.of hc).alloc _
  have RA : M3 wa w.heap.size 0 0 0 := by rw [← hwa]; exact M3.new w 0 0 0
  have CA := Lib.hid CA; have RA := Lib.hid RA
  have za : w.heap.size < wa.heap.size := RA.out.lt
  clear hc
  go_enter Try.func65, Try.ntmps65
  go_wp2_with fail
  clear hwa
  refine (below_cm wa g _ _ (by omega) (CM.of CA.out.1)).mono ?_
  rintro e w1 ⟨x, rfl, hx, hc1, hm1⟩
  have R1 := Lib.hid (RA.out.cm hc1 (by omega)); have C1 := Lib.hid (CA.out.trans hc1)
  clear hc1 hm1
  go_wp2_with fail
  refine (below_cm w1 g _ _ (by omega) (CM.of C1.out.1)).mono ?_
  rintro e w2 ⟨y, rfl, hy, hc2, hm2⟩
  have R2 := Lib.hid (R1.out.cm hc2 (by omega)); have C2 := Lib.hid (C1.out.trans hc2)
  have z2 : w.heap.size < w2.heap.size := R2.out.lt
  obtain ⟨w3a, hw3a⟩ : ∃ w3, w2.alloc (.cells #[.int .i64 (20 + (x : Int)), .int .i64 (1 + (y : Int)), .int .i64 0] 24) = w3 := ⟨_, rfl⟩
  obtain ⟨w3, hw3⟩ : ∃ w3, w3a.setCell ⟨w2.heap.size, 2, none⟩ (.int .i64 0) = w3 := ⟨_, rfl⟩
  have M3a : M3 w3a w2.heap.size (20 + (x : Int)) (1 + (y : Int)) 0 := by rw [← hw3a]; exact M3.new w2 _ _ _
  have M3' : M3 w3 w2.heap.size (20 + (x : Int)) (1 + (y : Int)) 0 := by rw [← hw3]; exact M3a.set2 0
  have hb3 : Below w2.heap.size w2 w3 := by rw [← hw3, ← hw3a]; exact (below_new _ _).setCell (p := ⟨w2.heap.size, 2, none⟩) (Nat.le_refl _) _
  have R3 := Lib.hid (R2.out.below hb3 R2.out.lt); have C3 : Hid (CM w w3 g) := C2.out.step hb3; have MM := Lib.hid M3'
  have z3 : w2.heap.size < w3.heap.size := M3'.lt
  obtain ⟨m0, m1, m2, f0, f1, f2⟩ := M3'.cells
  obtain ⟨n0, n1, n2, k0, k1, k2⟩ := M3a.cells
  clear hc2 hm2 hb3 M3' R1 C1 RA CA
  go_wp2_with fail
  clear hw3 hw3a M3a n0 n1 n2 k0 k1 k2
  first
    | go_region_held3 (fun w' => w'.cell? ⟨w2.heap.size, 1, none⟩ = some (.int .i64 (1 + (y : Int)))) (first | go_keep | exact m41 | exact m51)
      (first
        | (go_at_call 43; refine (below_cm w3 g _ _ (by omega) (by first | exact CM.of C3.out.1 | exact (CM.of C3.out.1).drew)).mono ?_; rintro e w4 ⟨u, rfl, hu, hc4, -⟩; have R4 := Lib.hid (R3.out.cm hc4 (by omega)); have C4 := Lib.hid (C3.out.trans hc4); have M4 := Lib.hid (MM.out.cm hc4 (by omega)); obtain ⟨m40, m41, m42, f40, f41, f42⟩ := M4.out.cells; have M5 := fun (v : Int) => M4.out.set2 v; have m51 := (M5 (1 + (y : Int) + u)).cells.2.1; have e1 : IntKind.i64.wrap (1 + (y : Int) + (u : Int)) = 1 + (y : Int) + (u : Int) := (by rw [IntKind.wrap_i64]; omega); clear hc4))
    | fail "the region"
  have M5 := Lib.hid (M4.out.set2 (1 + (y : Int) + u)); have R5 := Lib.hid (R4.out.other ⟨w2.heap.size, 2, none⟩ (.int .i64 (1 + (y : Int) + u)) (by show _ ≠ w2.heap.size; omega)); have C5 := Lib.hid (C4.out.set (p := ⟨w2.heap.size, 2, none⟩) (Nat.le_of_lt z2) hgw (.int .i64 (1 + (y : Int) + u)))
  have R6 := Lib.hid (R5.out.put (20 + (x : Int)) (1 + (y : Int)) (1 + (y : Int) + u))
  have C6 : Hid (CM w ((((w4.setCell ⟨w2.heap.size, 2, none⟩ (.int .i64 (1 + (y : Int) + u))).setCell ⟨w.heap.size, 0, none⟩ (.int .i64 (20 + (x : Int)))).setCell ⟨w.heap.size, 1, none⟩ (.int .i64 (1 + (y : Int)))).setCell ⟨w.heap.size, 2, none⟩ (.int .i64 (1 + (y : Int) + u))) g) := ((C5.out.set (Nat.le_refl _) hgw _).set (Nat.le_refl _) hgw _).set (Nat.le_refl _) hgw _
  obtain ⟨a0, a1, a2, _, _, _⟩ := M5.out.cells
  obtain ⟨b0, b1, b2, g0, g1, g2⟩ := R5.out.cells
  obtain ⟨d0, d1, d2, _, _, _⟩ := R6.out.cells
  go_wp2
  exact bodyPost_ret (v := .agg #[.int .i64 (20 + (x : Int)), .int .i64 (1 + (y : Int)), .int .i64 (1 + (y : Int) + u)]) (by simp [results, Try.results65, go_sem, d0, d1, d2]) rfl ⟨_, _, _, rfl, by omega, by omega, C6.out⟩

set_option maxRecDepth 100000 in
set_option maxHeartbeats 1600000 in
theorem l4Words_any (g : Nat) (w : World) (hc : Cur w g) :
    Calls Try.prog 66 #[.pointer (some ⟨g, 0, none⟩)] w fun e w' => ∃ gb m c zs, e = .returned (.slice (some ⟨gb, 0, none⟩) m c) ∧ zs.length = m ∧ m ≤ 18 ∧ m ≤ c ∧ c ≤ maxLen ∧ w.heap.size ≤ gb ∧ Own w' w.heap.size (.slice (some ⟨gb, 0, none⟩) m c) zs ∧ CM w w' g := by
  have hgw := hc.lt
  obtain ⟨wa, hwa⟩ : ∃ wa, w.alloc (.cells #[] 3) = wa := ⟨_, rfl⟩
  have CA : CM w wa g := by rw [← hwa]; exact (CM.of hc).alloc _
  have OA : Own wa w.heap.size (.slice (some ⟨w.heap.size, 0, none⟩) 0 0) [] := by rw [← hwa]; exact World.ownsRow_lit w #[] 0 (Nat.le_refl _) (Nat.zero_le _) rfl
  have za : w.heap.size < wa.heap.size := by rw [← hwa]; simp
  have CA := Lib.hid CA; have OA := Lib.hid OA
  clear hc
  go_enter Try.func66, Try.ntmps66
  go_wp2_with fail
  clear hwa
  refine (below_cm wa g _ _ (by omega) (CM.of CA.out.1)).mono ?_
  rintro e w1 ⟨x0, rfl, hx0, hc1, -⟩
  have C1 := Lib.hid (CA.out.trans hc1); have O1 := Lib.hid (OA.out.grown_lt hc1.2 (fun q hq => by injection hq with hq; omega))
  clear hc1 CA OA
  go_wp2_with fail
  refine (below_cm w1 g _ _ (by omega) (CM.of C1.out.1)).mono ?_
  rintro e w2 ⟨x1, rfl, hx1, hc2, -⟩
  have C2 := Lib.hid (C1.out.trans hc2); have O2 := Lib.hid (O1.out.grown_lt hc2.2 (fun q hq => by injection hq with hq; omega))
  clear hc2 C1 O1
  have hx1' : x1 < 18 := by omega
  go_wp2
  go_loopw [3, 5] (fun v y wr => ∃ (zs : List Int) (m gr c' u : Nat), v = .slice (some ⟨gr, 0, none⟩) m c' ∧ y = .int .i64 u ∧ zs.length = m ∧ m + u ≤ 18 ∧ w.heap.size ≤ gr ∧ m ≤ c' ∧ Hid (c' ≤ maxLen) ∧ Own wr w.heap.size (.slice (some ⟨gr, 0, none⟩) m c') zs ∧ CM w wr g) (fun _ y _ => (intOf y).toNat)
  case atStart => exact ⟨[], 0, w.heap.size, 0, 1 + x1, rfl, by go_num, rfl, by omega, Nat.le_refl _, Nat.le_refl _, Nat.zero_le _, O2.out, C2.out⟩
  case round =>
    clear O2 C2
    obtain ⟨zs, m, gr, c', u, rfl, rfl, hl, hm, hgr, hmc, hcm, hO, hC⟩ := hrel
    have Hl := Lib.hid hl; have HO := Lib.hid hO; have HC := Lib.hid hC
    have hszr := hC.2.size
    clear hl hO hC
    by_cases hlt : 0 < u
    · go_wp2_with fail
      refine (below_cm wr g _ _ (by omega) (CM.of HC.out.1)).mono ?_
      rintro e w4 ⟨y, rfl, hy, hc4, -⟩
      have C4 := Lib.hid (HC.out.trans hc4); have O4 := Lib.hid (HO.out.grown_lt hc4.2 (fun q hq => by injection hq with hq; omega))
      have z4 := C4.out.2.size
      clear hc4 HC HO
      go_wp2_with (at_builtin; refine wpl_push w4 rfl (.tmp 17) (.tmp 22) rfl w.heap.size _ zs (1 + (y : Int)) rfl rfl O4.out z4 (by rw [Hl.out]; omega) ?_; intro v2 w6 hO6 hb6; obtain ⟨g6, m6, c6, rfl, hm6, hg6, hmc6, hcm6, hO6', hr6⟩ := own_form2 hO6 (by simp))
      have C6 := Lib.hid (C4.out.belowB hb6 (Nat.le_refl _) hgw); have O6 := Lib.hid hO6'; have Hc6 := Lib.hid hcm6; have Hn6 := Lib.hid hm6
      have hm7 : m6 = m + 1 := by rw [← hm6, List.length_append, Hl.out]; rfl
      clear hb6 hO6 hO6' hr6 hm6 hcm6
      go_roundw
      case rel => exact ⟨zs ++ [1 + (y : Int)], m6, g6, c6, u - 1, rfl, by go_num, Hn6.out, by omega, hg6, hmc6, Hc6, O6.out, C6.out⟩
      case measure => simp [intOf]; omega
    · obtain rfl : u = 0 := by omega
      go_wp2
      go_ret
      exact ⟨gr, m, c', zs, rfl, Hl.out, by omega, hmc, hcm.out, hgr, HO.out, HC.out⟩

set_option maxRecDepth 100000 in
set_option maxHeartbeats 3200000 in
theorem l4Both_any (g : Nat) (w : World) (hc : Cur w g) :
    Calls Try.prog 42 #[.pointer (some ⟨g, 0, none⟩)] w fun e w' => ∃ x y z A m c zs, e = .returned (.tuple #[.agg #[.int .i64 x, .int .i64 y, .int .i64 z], .slice A m c]) ∧ zs.length = m ∧ m ≤ 42 ∧ m ≤ c ∧ c ≤ maxLen ∧ Own w' w.heap.size (.slice A m c) zs ∧ CM w w' g := by
  have hgw := hc.lt
  obtain ⟨wa, hwa⟩ : ∃ wa, w.alloc (.cells #[.int .i64 0, .int .i64 0, .int .i64 0] 24) = wa := ⟨_, rfl⟩
  have CA : CM w wa g := by rw [← hwa]; exact (CM.of hc).alloc _
  have RA : M3 wa w.heap.size 0 0 0 := by rw [← hwa]; exact M3.new w 0 0 0
  have CA := Lib.hid CA; have RA := Lib.hid RA
  have za : w.heap.size < wa.heap.size := RA.out.lt
  clear hc
  go_enter Try.func42, Try.ntmps42
  go_wp2_with fail
  clear hwa
  refine (l4Measure_any g wa CA.out.1).mono ?_
  rintro e w1 ⟨x, y, z, rfl, hy1, hy2, hc1⟩
  have R1 := Lib.hid (RA.out.cm hc1 (by omega)); have C1 := Lib.hid (CA.out.trans hc1)
  have z1 : w.heap.size < w1.heap.size := R1.out.lt
  obtain ⟨w2, hw2⟩ : ∃ w2, w1.alloc (.cells #[.int .i64 x, .int .i64 y, .int .i64 z] 24) = w2 := ⟨_, rfl⟩
  have M2 : M3 w2 w1.heap.size x y z := by rw [← hw2]; exact M3.new w1 _ _ _
  have hb2 : Below w1.heap.size w1 w2 := by rw [← hw2]; exact below_new _ _
  have R2 := Lib.hid (R1.out.below hb2 R1.out.lt); have C2 : Hid (CM w w2 g) := C1.out.step hb2; have M2 := Lib.hid M2
  have z2 : w1.heap.size < w2.heap.size := M2.out.lt
  clear hc1 hb2 hy1 hy2
  go_wp2_with fail
  clear hw2
  refine (l4Words_any g w2 C2.out.1).mono ?_
  rintro e w3 ⟨gb, m, c, zs, rfl, hl, hm1, hmc, hcm, hgb, hO3, hc3⟩
  have R3 := Lib.hid (R2.out.cm hc3 (by omega)); have C3 := Lib.hid (C2.out.trans hc3); have M3q := Lib.hid (M2.out.cm hc3 (by omega))
  have O3 := Lib.hid hO3; have Hl := Lib.hid hl; have Hcm := Lib.hid hcm
  have z3 : w2.heap.size ≤ w3.heap.size := hc3.2.size
  clear hc3 hO3 hl hcm R2 C2 M2 R1 C1 RA CA
  go_wp2_with fail
  refine (below_cm w3 g _ _ (by omega) (CM.of C3.out.1)).mono ?_
  rintro e w4 ⟨kd, rfl, hk, hc4, -⟩
  have R4 := Lib.hid (R3.out.cm hc4 (by omega)); have C4 := Lib.hid (C3.out.trans hc4); have M4 := Lib.hid (M3q.out.cm hc4 (by omega))
  have O4 := Lib.hid (O3.out.grown_lt hc4.2 (fun q hq => by injection hq with hq; omega))
  have z4 : w3.heap.size ≤ w4.heap.size := hc4.2.size
  clear hc4 R3 C3 M3q O3
  by_cases h0 : kd = 0
  · have hb0 : ((kd : Int) == 0) = true := by simp; omega
    clear h0 M4
    go_wp2_with fail
    refine (l3Any_any g w4 C4.out.1).mono ?_
    rintro e w5 ⟨x, y, z, rfl, hc5⟩
    have R5 := Lib.hid (R4.out.cm hc5 (by omega)); have C5 := Lib.hid (C4.out.trans hc5)
    have O5 := Lib.hid (O4.out.grown_lt hc5.2 (fun q hq => by injection hq with hq; omega))
    clear hc5 R4 C4 O4
    obtain ⟨b0, b1, b2, g0, g1, g2⟩ := R5.out.cells
    have RG := Lib.hid (R5.out.put x y z)
    obtain ⟨d0, d1, d2, _, _, _⟩ := RG.out.cells
    have CG := Lib.hid (((C5.out.set (p := ⟨w.heap.size, 0, none⟩) (Nat.le_refl _) hgw (.int .i64 x)).set (p := ⟨w.heap.size, 1, none⟩) (Nat.le_refl _) hgw (.int .i64 y)).set (p := ⟨w.heap.size, 2, none⟩) (Nat.le_refl _) hgw (.int .i64 z))
    have OG := Lib.hid (own_base1 (own_put3 O5.out (show w.heap.size < w2.heap.size by omega) (.int .i64 x) (.int .i64 y) (.int .i64 z)) (show w.heap.size ≤ w2.heap.size by omega))
    go_wp2
    exact bodyPost_ret (v := .tuple #[.agg #[.int .i64 x, .int .i64 y, .int .i64 z], .slice (some ⟨gb, 0, none⟩) m c]) (by simp [results, Try.results42, go_sem, d0, d1, d2]) rfl ⟨x, y, z, some ⟨gb, 0, none⟩, m, c, zs, rfl, Hl.out, by omega, by omega, Hcm.out, OG.out, CG.out⟩
  have hb0 : ((kd : Int) == 0) = false := by simp; omega
  by_cases h1 : kd = 1
  · have hb1 : ((kd : Int) == 1) = true := by simp; omega
    clear h0 h1
    go_wp2_with fail
    refine (int_cm w4 g 4 4 [0, -1, 2000, 2001] _ (CM.of C4.out.1) rfl (by omega) (by omega)).mono ?_
    rintro e w5 ⟨u, rfl, hc5, -⟩
    have R5 := Lib.hid (R4.out.cm hc5 (by omega)); have C5 := Lib.hid (C4.out.trans hc5); have M5 := Lib.hid (M4.out.cm hc5 (by omega))
    have O5 := Lib.hid (O4.out.grown_lt hc5.2 (fun q hq => by injection hq with hq; omega))
    have z5 : w4.heap.size ≤ w5.heap.size := hc5.2.size
    clear hc5 R4 C4 M4 O4
    go_wp2_with (at_builtin; refine wpl_push w5 rfl (.tmp 20) (.tmp 24) rfl w2.heap.size _ zs u rfl rfl O5.out (by omega) (by rw [Hl.out]; omega) ?_; intro v2 w6 hO6 hb6; obtain ⟨g6, m6, c6, rfl, hm6, hg6, hmc6, hcm6, hO6', hr6⟩ := own_form2 hO6 (by simp); have R6 := Lib.hid (R5.out.below hb6 (by omega)); have C6 := Lib.hid (C5.out.belowB hb6 (by omega) hgw); have M6 := Lib.hid (M5.out.below hb6 (by omega)); have O6 := Lib.hid hO6'; have Hc6 := Lib.hid hcm6; have Hn6 := Lib.hid hm6; have Hm7 : Hid (m6 = m + 1) := (by show _ = _; rw [← hm6, List.length_append, Hl.out]; rfl); clear hb6 hO6 hO6' hr6 hm6 hcm6 R5 C5 M5 O5; obtain ⟨a0, a1, a2, _, _, _⟩ := M6.out.cells; obtain ⟨b0, b1, b2, g0, g1, g2⟩ := R6.out.cells)
    have RG := Lib.hid (R6.out.put x y z)
    obtain ⟨d0, d1, d2, _, _, _⟩ := RG.out.cells
    have CG := Lib.hid (((C6.out.set (p := ⟨w.heap.size, 0, none⟩) (Nat.le_refl _) hgw (.int .i64 x)).set (p := ⟨w.heap.size, 1, none⟩) (Nat.le_refl _) hgw (.int .i64 y)).set (p := ⟨w.heap.size, 2, none⟩) (Nat.le_refl _) hgw (.int .i64 z))
    have OG := Lib.hid (own_base1 (own_put3 O6.out (show w.heap.size < w2.heap.size by omega) (.int .i64 x) (.int .i64 y) (.int .i64 z)) (show w.heap.size ≤ w2.heap.size by omega))
    have hm7 := Hm7.out
    exact bodyPost_ret (v := .tuple #[.agg #[.int .i64 x, .int .i64 y, .int .i64 z], .slice (some ⟨g6, 0, none⟩) m6 c6]) (by simp [results, Try.results42, go_sem, d0, d1, d2]) rfl ⟨x, y, z, some ⟨g6, 0, none⟩, m6, c6, (zs ++ [u]), rfl, Hn6.out, by omega, by omega, Hc6.out, OG.out, CG.out⟩
  have hb1 : ((kd : Int) == 1) = false := by simp; omega
  by_cases h2 : kd = 2
  · have hb2 : ((kd : Int) == 2) = true := by simp; omega
    clear h0 h1 h2
    go_wp2_with fail
    refine (below_cm w4 g _ _ (by omega) (CM.of C4.out.1)).mono ?_
    rintro e w5 ⟨n0, rfl, hn0, hc5, -⟩
    have R5 := Lib.hid (R4.out.cm hc5 (by omega)); have C5 := Lib.hid (C4.out.trans hc5); have M5 := Lib.hid (M4.out.cm hc5 (by omega))
    have O5 := Lib.hid (O4.out.grown_lt hc5.2 (fun q hq => by injection hq with hq; omega))
    have z5 : w4.heap.size ≤ w5.heap.size := hc5.2.size
    clear hc5 R4 C4 M4 O4
    obtain ⟨n1, hn1⟩ : ∃ n1, 39 + n0 = n1 := ⟨_, rfl⟩
    have hcast : (39 : Int) + (n0 : Int) = (n1 : Int) := by omega
    have hn2 : n1 ≤ 41 := by omega
    have Hcm2 := Hcm
    clear hn1 hn0
    go_wp2
    go_loopw [5] (fun v wr => ∃ (ys : List Int) (m' gr c' : Nat), v = .slice (some ⟨gr, 0, none⟩) m' c' ∧ ys.length = m' ∧ m' ≤ 42 ∧ w2.heap.size ≤ gr ∧ m' ≤ c' ∧ Hid (c' ≤ maxLen) ∧ Own wr w2.heap.size (.slice (some ⟨gr, 0, none⟩) m' c') ys ∧ CM w wr g ∧ M3 wr w1.heap.size x y z ∧ M3 wr w.heap.size 0 0 0 ∧ w4.heap.size ≤ wr.heap.size) (fun v _ => 42 - lenS v)
    case atStart => exact ⟨zs, m, gb, c, rfl, Hl.out, by omega, by omega, by omega, Hcm.out, O5.out, C5.out, M5.out, R5.out, z5⟩
    case round =>
      clear O5 C5 M5 R5 z5 Hcm Hl
      obtain ⟨ys, m', gr, c', rfl, hl, hm', hgr, hmc', Hcm, hO, hC, hM, hR, hz⟩ := hrel
      have Hl := Lib.hid hl; have HO := Lib.hid hO; have HC := Lib.hid hC; have HM := Lib.hid hM; have HR := Lib.hid hR
      clear hl hO hC hM hR
      by_cases hlt : m' < n1
      · go_wp2_with fail
        refine (below_cm wr g _ _ (by omega) (CM.of HC.out.1)).mono ?_
        rintro e w6 ⟨q, rfl, hq, hc6, -⟩
        have R6 := Lib.hid (HR.out.cm hc6 (by omega)); have C6 := Lib.hid (HC.out.trans hc6); have M6 := Lib.hid (HM.out.cm hc6 (by omega))
        have O6 := Lib.hid (HO.out.grown_lt hc6.2 (fun q hq => by injection hq with hq; omega))
        have z6 : wr.heap.size ≤ w6.heap.size := hc6.2.size
        clear hc6 HR HC HM HO
        go_wp2_with (at_builtin; refine wpl_push w6 rfl (.tmp 35) (.tmp 39) rfl w2.heap.size _ ys (1 + (q : Int)) rfl rfl O6.out (by omega) (by rw [Hl.out]; omega) ?_; intro v2 w7 hO7 hb7; obtain ⟨g7, m7, c7, rfl, hm7, hg7, hmc7, hcm7, hO7', hr7⟩ := own_form2 hO7 (by simp); have R7 := Lib.hid (R6.out.below hb7 (by omega)); have C7 := Lib.hid (C6.out.belowB hb7 (by omega) hgw); have M7 := Lib.hid (M6.out.below hb7 (by omega)); have O7 := Lib.hid hO7'; have Hc7 := Lib.hid hcm7; have Hn7 := Lib.hid hm7; have Hm8 : Hid (m7 = m' + 1) := (by show _ = _; rw [← hm7, List.length_append, Hl.out]; rfl); have z7 : w4.heap.size ≤ w7.heap.size := (by have := hb7.size; omega); clear hb7 hO7 hO7' hr7 hm7 hcm7 R6 C6 M6 O6)
        have hm8 := Hm8.out
        go_roundw
        case rel => exact ⟨ys ++ [1 + (q : Int)], m7, g7, c7, rfl, Hn7.out, by omega, hg7, hmc7, Hc7, O7.out, C7.out, M7.out, R7.out, z7⟩
        case measure => simp [lenS]; omega
      · have hlt2 : ¬ ((m' : Int) < (n1 : Int)) := by omega
        obtain ⟨a0, a1, a2, _, _, _⟩ := HM.out.cells
        obtain ⟨b0, b1, b2, g0, g1, g2⟩ := HR.out.cells
        have RG := Lib.hid (HR.out.put x y z)
        obtain ⟨d0, d1, d2, _, _, _⟩ := RG.out.cells
        have CG := Lib.hid (((HC.out.set (p := ⟨w.heap.size, 0, none⟩) (Nat.le_refl _) hgw (.int .i64 x)).set (p := ⟨w.heap.size, 1, none⟩) (Nat.le_refl _) hgw (.int .i64 y)).set (p := ⟨w.heap.size, 2, none⟩) (Nat.le_refl _) hgw (.int .i64 z))
        have OG := Lib.hid (own_base1 (own_put3 HO.out (show w.heap.size < w2.heap.size by omega) (.int .i64 x) (.int .i64 y) (.int .i64 z)) (show w.heap.size ≤ w2.heap.size by omega))
        go_wp2
        exact bodyPost_ret (v := .tuple #[.agg #[.int .i64 x, .int .i64 y, .int .i64 z], .slice (some ⟨gr, 0, none⟩) m' c']) (by simp [results, Try.results42, go_sem, d0, d1, d2]) rfl (by first | exact ⟨x, y, z, some ⟨gr, 0, none⟩, m', c', ys, rfl, Hl.out, by omega, by omega, Hcm.out, OG.out, CG.out⟩ | exact ⟨x, y, z, some ⟨gr, 0, none⟩, m', c', rfl, ys, Hl.out, by omega, by omega, Hcm.out, OG.out, CG.out⟩)
  have hb2 : ((kd : Int) == 2) = false := by simp; omega
  by_cases h3 : kd = 3
  · have hb3 : ((kd : Int) == 3) = true := by simp; omega
    clear h0 h1 h2 h3
    have O5 : Hid (Own w4 w2.heap.size (.slice none 0 0) []) := World.ownsRow_nil w4 _ _ _
    obtain ⟨a0, a1, a2, _, _, _⟩ := M4.out.cells
    obtain ⟨b0, b1, b2, g0, g1, g2⟩ := R4.out.cells
    have RG := Lib.hid (R4.out.put x y z)
    obtain ⟨d0, d1, d2, _, _, _⟩ := RG.out.cells
    have CG := Lib.hid (((C4.out.set (p := ⟨w.heap.size, 0, none⟩) (Nat.le_refl _) hgw (.int .i64 x)).set (p := ⟨w.heap.size, 1, none⟩) (Nat.le_refl _) hgw (.int .i64 y)).set (p := ⟨w.heap.size, 2, none⟩) (Nat.le_refl _) hgw (.int .i64 z))
    have OG := Lib.hid (own_base1 (own_put3 O5.out (show w.heap.size < w2.heap.size by omega) (.int .i64 x) (.int .i64 y) (.int .i64 z)) (show w.heap.size ≤ w2.heap.size by omega))
    go_wp2
    exact bodyPost_ret (v := .tuple #[.agg #[.int .i64 x, .int .i64 y, .int .i64 z], .slice none 0 0]) (by simp [results, Try.results42, go_sem, d0, d1, d2]) rfl ⟨x, y, z, none, 0, 0, [], rfl, rfl, by omega, by omega, (Nat.zero_le _), OG.out, CG.out⟩
  have hb3 : ((kd : Int) == 3) = false := by simp; omega
  clear h0 h1 h2 h3
  obtain ⟨a0, a1, a2, _, _, _⟩ := M4.out.cells
  obtain ⟨b0, b1, b2, g0, g1, g2⟩ := R4.out.cells
  have RG := Lib.hid (R4.out.put x y z)
  obtain ⟨d0, d1, d2, _, _, _⟩ := RG.out.cells
  have CG := Lib.hid (((C4.out.set (p := ⟨w.heap.size, 0, none⟩) (Nat.le_refl _) hgw (.int .i64 x)).set (p := ⟨w.heap.size, 1, none⟩) (Nat.le_refl _) hgw (.int .i64 y)).set (p := ⟨w.heap.size, 2, none⟩) (Nat.le_refl _) hgw (.int .i64 z))
  have OG := Lib.hid (own_base1 (own_put3 O4.out (show w.heap.size < w2.heap.size by omega) (.int .i64 x) (.int .i64 y) (.int .i64 z)) (show w.heap.size ≤ w2.heap.size by omega))
  go_wp2
  exact bodyPost_ret (v := .tuple #[.agg #[.int .i64 x, .int .i64 y, .int .i64 z], .slice (some ⟨gb, 0, none⟩) m c]) (by simp [results, Try.results42, go_sem, d0, d1, d2]) rfl ⟨x, y, z, some ⟨gb, 0, none⟩, m, c, zs, rfl, Hl.out, by omega, by omega, Hcm.out, OG.out, CG.out⟩
end Go.Proofs.Ytddkedinkgnboaa
