/-
  The draws of chapter 4, on: l3Any, l3Line, l3Row, l3Both. Condition: the cursor is whole.
-/
import Derived.Test.YtpenmheacpapaaaDrawM
import Derived.WalkLawsBesides
namespace Go.Proofs.Ytpenmheacpapaaa
open Go.RowKit
set_option linter.unusedVariables false

theorem own_base1 {w : World} {B B' : Nat} {v : Value} {zs : List Int} (h : Own w B v zs) (hB : B' ≤ B) : Own w B' v zs := by
  refine ⟨h.1, ?_⟩
  rcases h.2 with hn | ⟨g, cap, cur, hv, hg, rest⟩
  · exact .inl hn
  · exact .inr ⟨g, cap, cur, hv, by omega, rest⟩

set_option maxRecDepth 100000 in
set_option maxHeartbeats 3200000 in
theorem l3Any_any (g : Nat) (w : World) (hc : Cur w g) :
    Calls Try.prog 97 #[.pointer (some ⟨g, 0, none⟩)] w fun e w' => ∃ x y z : Int, e = .returned (.agg #[.int .i64 x, .int .i64 y, .int .i64 z]) ∧ CM w w' g := by
  have hgw := hc.lt
  obtain ⟨wa, hwa⟩ : ∃ wa, w.alloc (.cells #[.int .i64 0, .int .i64 0, .int .i64 0] 24) = wa := ⟨_, rfl⟩
  have CA : CM w wa g := by rw [← hwa]; exact (CM.of hc).alloc _
  have RA : M3 wa w.heap.size 0 0 0 := by rw [← hwa]; exact M3.new w 0 0 0
  have CA := Lib.hid CA; have RA := Lib.hid RA
  have za : w.heap.size < wa.heap.size := RA.out.lt
  clear hc
  go_enter Try.func97, Try.ntmps97
  go_wp2_with fail
  clear hwa
  refine (l3Measure_any g wa CA.out.1).mono ?_
  rintro e w1 ⟨x, y, z, rfl, hy1, hy2, hc1⟩
  have R1 := Lib.hid (RA.out.cm hc1 (by omega)); have C1 := Lib.hid (CA.out.trans hc1)
  have z1 : w.heap.size < w1.heap.size := R1.out.lt
  obtain ⟨w2, hw2⟩ : ∃ w2, w1.alloc (.cells #[.int .i64 x, .int .i64 y, .int .i64 z] 24) = w2 := ⟨_, rfl⟩
  have M2 : M3 w2 w1.heap.size x y z := by rw [← hw2]; exact M3.new w1 _ _ _
  have hb2 : Below w1.heap.size w1 w2 := by rw [← hw2]; exact below_new _ _
  have R2 := Lib.hid (R1.out.below hb2 R1.out.lt); have C2 : Hid (CM w w2 g) := C1.out.step hb2; have M2 := Lib.hid M2
  clear hc1 hb2
  go_wp2_with fail
  clear hw2
  refine (below_cm w2 g _ _ (by omega) (CM.of C2.out.1)).mono ?_
  rintro e w3 ⟨kd, rfl, hk, hc3, -⟩
  have R3 := Lib.hid (R2.out.cm hc3 (by omega)); have C3 := Lib.hid (C2.out.trans hc3); have M3q := Lib.hid (M2.out.cm hc3 (by omega))
  have z3 : w1.heap.size < w3.heap.size := M3q.out.lt
  clear hc3 R2 C2 M2 R1 C1 RA CA
  by_cases h0 : kd = 0
  · have hb0 : ((kd : Int) == 0) = true := by simp; omega
    clear h0
    go_wp2_with fail
    refine (int_cm w3 g 5 5 [0, -1, 2000, 2001, 4611686018427387904] _ (CM.of C3.out.1) rfl (by omega) (by omega)).mono ?_
    rintro e w4 ⟨u, rfl, hc4, -⟩
    have R4 := Lib.hid (R3.out.cm hc4 (by omega)); have M4 := Lib.hid (M3q.out.cm hc4 (by omega)); have C4 := Lib.hid (C3.out.trans hc4)
    clear hc4
    obtain ⟨a0, a1, a2, f0, f1, f2⟩ := M4.out.cells
    have MF := Lib.hid (M4.out.set0 u); have RF := Lib.hid (R4.out.other ⟨w1.heap.size, 0, none⟩ (.int .i64 u) (by show _ ≠ w1.heap.size; omega)); have CF := Lib.hid (C4.out.set (p := ⟨w1.heap.size, 0, none⟩) (Nat.le_of_lt z1) hgw (.int .i64 u))
    obtain ⟨a0, a1, a2, _, _, _⟩ := MF.out.cells
    obtain ⟨b0, b1, b2, g0, g1, g2⟩ := RF.out.cells
    have RG := Lib.hid (RF.out.put u y z)
    obtain ⟨d0, d1, d2, _, _, _⟩ := RG.out.cells
    have CG := Lib.hid (((CF.out.set (p := ⟨w.heap.size, 0, none⟩) (Nat.le_refl _) hgw (.int .i64 u)).set (p := ⟨w.heap.size, 1, none⟩) (Nat.le_refl _) hgw (.int .i64 y)).set (p := ⟨w.heap.size, 2, none⟩) (Nat.le_refl _) hgw (.int .i64 z))
    go_wp2
    exact bodyPost_ret (v := .agg #[.int .i64 u, .int .i64 y, .int .i64 z]) (by simp [results, Try.results97, go_sem, d0, d1, d2]) rfl ⟨_, _, _, rfl, CG.out⟩
  have hb0 : ((kd : Int) == 0) = false := by simp; omega
  by_cases h1 : kd = 1
  · have hb1 : ((kd : Int) == 1) = true := by simp; omega
    clear h0 h1
    go_wp2_with fail
    refine (int_cm w3 g 4 4 [0, 100, 101, -7] _ (CM.of C3.out.1) rfl (by omega) (by omega)).mono ?_
    rintro e w4 ⟨u, rfl, hc4, -⟩
    have R4 := Lib.hid (R3.out.cm hc4 (by omega)); have M4 := Lib.hid (M3q.out.cm hc4 (by omega)); have C4 := Lib.hid (C3.out.trans hc4)
    clear hc4
    obtain ⟨a0, a1, a2, f0, f1, f2⟩ := M4.out.cells
    have MF0 := Lib.hid (M4.out.set1 u); have RF0 := Lib.hid (R4.out.other ⟨w1.heap.size, 1, none⟩ (.int .i64 u) (by show _ ≠ w1.heap.size; omega)); have CF0 := Lib.hid (C4.out.set (p := ⟨w1.heap.size, 1, none⟩) (Nat.le_of_lt z1) hgw (.int .i64 u))
    obtain ⟨s0, s1, s2, h0, h1, h2⟩ := MF0.out.cells
    have MF := Lib.hid (MF0.out.set2 u); have RF := Lib.hid (RF0.out.other ⟨w1.heap.size, 2, none⟩ (.int .i64 u) (by show _ ≠ w1.heap.size; omega)); have CF := Lib.hid (CF0.out.set (p := ⟨w1.heap.size, 2, none⟩) (Nat.le_of_lt z1) hgw (.int .i64 u))
    obtain ⟨a0, a1, a2, _, _, _⟩ := MF.out.cells
    obtain ⟨b0, b1, b2, g0, g1, g2⟩ := RF.out.cells
    have RG := Lib.hid (RF.out.put x u u)
    obtain ⟨d0, d1, d2, _, _, _⟩ := RG.out.cells
    have CG := Lib.hid (((CF.out.set (p := ⟨w.heap.size, 0, none⟩) (Nat.le_refl _) hgw (.int .i64 x)).set (p := ⟨w.heap.size, 1, none⟩) (Nat.le_refl _) hgw (.int .i64 u)).set (p := ⟨w.heap.size, 2, none⟩) (Nat.le_refl _) hgw (.int .i64 u))
    go_wp2
    exact bodyPost_ret (v := .agg #[.int .i64 x, .int .i64 u, .int .i64 u]) (by simp [results, Try.results97, go_sem, d0, d1, d2]) rfl ⟨_, _, _, rfl, CG.out⟩
  have hb1 : ((kd : Int) == 1) = false := by simp; omega
  by_cases h2 : kd = 2
  · have hb2 : ((kd : Int) == 2) = true := by simp; omega
    clear h0 h1 h2
    obtain ⟨q0, q1, q2, _, _, _⟩ := M3q.out.cells
    go_wp2_with fail
    refine (int_cm w3 g 4 4 [0, 100, 101, y - 1] _ (CM.of C3.out.1) rfl (by omega) (by omega)).mono ?_
    rintro e w4 ⟨u, rfl, hc4, -⟩
    have R4 := Lib.hid (R3.out.cm hc4 (by omega)); have M4 := Lib.hid (M3q.out.cm hc4 (by omega)); have C4 := Lib.hid (C3.out.trans hc4)
    clear hc4
    obtain ⟨a0, a1, a2, f0, f1, f2⟩ := M4.out.cells
    have MF := Lib.hid (M4.out.set2 u); have RF := Lib.hid (R4.out.other ⟨w1.heap.size, 2, none⟩ (.int .i64 u) (by show _ ≠ w1.heap.size; omega)); have CF := Lib.hid (C4.out.set (p := ⟨w1.heap.size, 2, none⟩) (Nat.le_of_lt z1) hgw (.int .i64 u))
    obtain ⟨a0, a1, a2, _, _, _⟩ := MF.out.cells
    obtain ⟨b0, b1, b2, g0, g1, g2⟩ := RF.out.cells
    have RG := Lib.hid (RF.out.put x y u)
    obtain ⟨d0, d1, d2, _, _, _⟩ := RG.out.cells
    have CG := Lib.hid (((CF.out.set (p := ⟨w.heap.size, 0, none⟩) (Nat.le_refl _) hgw (.int .i64 x)).set (p := ⟨w.heap.size, 1, none⟩) (Nat.le_refl _) hgw (.int .i64 y)).set (p := ⟨w.heap.size, 2, none⟩) (Nat.le_refl _) hgw (.int .i64 u))
    go_wp2
    exact bodyPost_ret (v := .agg #[.int .i64 x, .int .i64 y, .int .i64 u]) (by simp [results, Try.results97, go_sem, d0, d1, d2]) rfl ⟨_, _, _, rfl, CG.out⟩
  have hb2 : ((kd : Int) == 2) = false := by simp; omega
  clear h0 h1 h2
  have MF := M3q; have RF := R3; have CF := C3
  obtain ⟨a0, a1, a2, _, _, _⟩ := MF.out.cells
  obtain ⟨b0, b1, b2, g0, g1, g2⟩ := RF.out.cells
  have RG := Lib.hid (RF.out.put x y z)
  obtain ⟨d0, d1, d2, _, _, _⟩ := RG.out.cells
  have CG := Lib.hid (((CF.out.set (p := ⟨w.heap.size, 0, none⟩) (Nat.le_refl _) hgw (.int .i64 x)).set (p := ⟨w.heap.size, 1, none⟩) (Nat.le_refl _) hgw (.int .i64 y)).set (p := ⟨w.heap.size, 2, none⟩) (Nat.le_refl _) hgw (.int .i64 z))
  go_wp2
  exact bodyPost_ret (v := .agg #[.int .i64 x, .int .i64 y, .int .i64 z]) (by simp [results, Try.results97, go_sem, d0, d1, d2]) rfl ⟨_, _, _, rfl, CG.out⟩

set_option maxRecDepth 100000 in
set_option maxHeartbeats 3200000 in
theorem l3Line_any (g : Nat) (W t k : Int) (w : World) (hc : Cur w g) :
    Calls Try.prog 121 #[.pointer (some ⟨g, 0, none⟩), .agg #[.int .i64 W, .int .i64 t, .int .i64 k]] w fun e w' => ∃ gb m c zs, e = .returned (.slice (some ⟨gb, 0, none⟩) m c) ∧ zs.length = m ∧ m ≤ 40 ∧ m ≤ c ∧ c ≤ maxLen ∧ w.heap.size ≤ gb ∧ Own w' w.heap.size (.slice (some ⟨gb, 0, none⟩) m c) zs ∧ CM w w' g := by
  have hgw := hc.lt
  obtain ⟨wa, hwa⟩ : ∃ wa, w.alloc (.cells #[.int .i64 W, .int .i64 t, .int .i64 k] 24) = wa := ⟨_, rfl⟩
  have CA : CM w wa g := by rw [← hwa]; exact (CM.of hc).alloc _
  have MA : M3 wa w.heap.size W t k := by rw [← hwa]; exact M3.new w _ _ _
  have za : wa.heap.size = w.heap.size + 1 := by rw [← hwa]; simp
  obtain ⟨wb, hwb⟩ : ∃ wb, wa.alloc (.cells #[] 3) = wb := ⟨_, rfl⟩
  have hbb : Below wa.heap.size wa wb := by rw [← hwb]; exact below_new _ _
  have OB : Own wb wa.heap.size (.slice (some ⟨wa.heap.size, 0, none⟩) 0 0) [] := by rw [← hwb]; exact World.ownsRow_lit wa #[] 0 (Nat.le_refl _) (Nat.zero_le _) rfl
  have CB := Lib.hid (CA.step hbb); have MB := Lib.hid (MA.below hbb MA.lt); have OB := Lib.hid OB
  have Za := Lib.hid za
  clear hc CA MA hbb za
  go_enter Try.func121, Try.ntmps121
  go_wp2_with fail
  clear hwa hwb
  refine (below_cm wb g _ _ (by omega) (CM.of CB.out.1)).mono ?_
  rintro e w1 ⟨x, rfl, hx, hc1, -⟩
  have C1 := Lib.hid (CB.out.trans hc1); have M1 := Lib.hid (MB.out.cm hc1 (by omega)); have O1 := Lib.hid (OB.out.grown_lt hc1.2 (fun q hq => by injection hq with hq; have := Za.out; omega))
  have CC1 := Lib.hid hc1.1
  clear hc1 CB MB OB
  obtain ⟨m0, m1, m2, _, _, _⟩ := M1.out.cells
  go_wp2_with fail
  first
    | go_region_held3 (fun w' => w'.cell? ⟨w.heap.size, 0, none⟩ = some (.int .i64 W)) (first | go_keep | exact n0)
      (first
        | (go_at_call 65; refine (below_cm w1 g _ _ (by omega) (by first | exact CM.of CC1.out | exact (CM.of CC1.out).drew)).mono ?_; rintro e w2 ⟨u, rfl, hu, hc2, -⟩; have C2 := Lib.hid (C1.out.trans hc2); have M2 := Lib.hid (M1.out.cm hc2 (by omega)); have O2 := Lib.hid (O1.out.grown_lt hc2.2 (fun q hq => by injection hq with hq; have := Za.out; omega)); obtain ⟨n0, n1, n2, _, _, _⟩ := M2.out.cells; clear hc2))
    | fail "the region"
  clear m0 m1 m2
  obtain ⟨V, hV⟩ : ∃ V, IntKind.i64.wrap (W - (u : Int)) = V := ⟨_, rfl⟩
  rw [hV]
  clear hV
  go_wp2
  clear n0 n1 n2
  go_loopw [5, 7] (fun v q wr => ∃ (zs : List Int) (m gb c : Nat) (L : Int), v = .slice (some ⟨gb, 0, none⟩) m c ∧ q = .int .i64 L ∧ zs.length = m ∧ m ≤ 40 ∧ m ≤ c ∧ c ≤ maxLen ∧ wa.heap.size ≤ gb ∧ Own wr wa.heap.size (.slice (some ⟨gb, 0, none⟩) m c) zs ∧ CM w wr g ∧ M3 wr w.heap.size W t k) (fun v _ _ => 41 - lenS v)
  case atStart => exact ⟨[], 0, wa.heap.size, 0, _, rfl, rfl, rfl, by omega, Nat.le_refl _, Nat.zero_le _, Nat.le_refl _, O2.out, C2.out, M2.out⟩
  case round =>
    clear O1 C1 M1 O2 C2 M2 CC1
    obtain ⟨zs, m, gb, c, L, rfl, rfl, hl, hm, hmc, hcm, hgb, hO, hC, hM⟩ := hrel
    have Hl := Lib.hid hl; have HO := Lib.hid hO; have HC := Lib.hid hC; have HM := Lib.hid hM; have Hcm := Lib.hid hcm
    clear hl hO hC hM hcm
    by_cases hlt : m < 40
    · go_wp2_with fail
      refine (below_cm wr g _ _ (by omega) (CM.of HC.out.1)).mono ?_
      rintro e w3 ⟨y, rfl, hy, hc3, -⟩
      have C3 := Lib.hid (HC.out.trans hc3); have Mq := Lib.hid (HM.out.cm hc3 (by omega)); have O3 := Lib.hid (HO.out.grown_lt hc3.2 (fun q hq => by injection hq with hq; have := Za.out; omega))
      clear hc3 HC HM HO
      go_wp2_with fail
      refine (below_cm w3 g _ _ (by omega) (CM.of C3.out.1)).mono ?_
      rintro e w4 ⟨q, rfl, hq, hc4, -⟩
      have C4 := Lib.hid (C3.out.trans hc4); have M4 := Lib.hid (Mq.out.cm hc4 (by omega)); have O4 := Lib.hid (O3.out.grown_lt hc4.2 (fun q hq => by injection hq with hq; have := Za.out; omega))
      have z4 := C4.out.2.size
      have zgb : gb < w4.heap.size := (World.ownsRow.lt O4.out gb rfl).2
      clear hc4 C3 Mq O3
      obtain ⟨m0, m1, m2, _, _, _⟩ := M4.out.cells
      obtain ⟨qz, hqz⟩ : ∃ b, ((q : Int) == 0) = b := ⟨_, rfl⟩
      cases qz
      · by_cases hmx : 1 + (y : Int) < t
        · obtain ⟨L2, hL2⟩ : ∃ L2, wrap64 (L - t) = L2 := ⟨_, rfl⟩
          by_cases hneg : L2 < 0
          · go_wp2_with fail
            refine (once_cm w4 g _ _ (CM.of C4.out.1)).mono ?_
            rintro e w5 ⟨ob, rfl, hc5, -⟩
            have C5 := Lib.hid (C4.out.trans hc5); have M5 := Lib.hid (M4.out.cm hc5 (by omega)); have O5 := Lib.hid (O4.out.grown_lt hc5.2 (fun q hq => by injection hq with hq; have := Za.out; omega))
            clear hc5
            cases ob
            · go_wp2
              go_ret
              exact ⟨gb, m, c, zs, rfl, Hl.out, hm, hmc, Hcm.out, by have := Za.out; omega, own_base1 O5.out (by have := Za.out; omega), C5.out⟩
            · go_wp2_with (at_builtin; refine wpl_push w5 rfl (.tmp 41) (.tmp 43) rfl wa.heap.size _ zs (1 + (y : Int)) rfl rfl O5.out (by have := (World.ownsRow.lt O5.out gb rfl).2; omega) (by rw [Hl.out]; omega) ?_; intro v2 w6 hO6 hb6; obtain ⟨g6, m6, c6, rfl, hm6, hg6, hmc6, hcm6, hO6', hr6⟩ := own_form2 hO6 (by simp))
              have C6 := Lib.hid (C5.out.belowB hb6 (by have := Za.out; omega) hgw); have M6 := Lib.hid (M5.out.below hb6 (by have := Za.out; omega)); have O6 := Lib.hid hO6'; have Hc6 := Lib.hid hcm6
              have Hm6 : Hid (m6 = m + 1) := by show _ = _; rw [← hm6, List.length_append, Hl.out]; rfl
              have Hn6 := Lib.hid hm6
              clear hb6 hO6 hO6' hr6 hm6 hcm6
              go_roundw
              case rel => first | exact ⟨zs ++ [(1 + (y : Int))], m6, g6, c6, _, rfl, rfl, Hn6.out, by have := Hm6.out; omega, hmc6, Hc6.out, hg6, O6.out, C6.out, M6.out⟩ | ((repeat apply Exists.intro); exact ⟨⟨zs ++ [(1 + (y : Int))], m6, g6, c6, _, rfl, rfl, Hn6.out, by have := Hm6.out; omega, hmc6, Hc6.out, hg6, O6.out, C6.out, M6.out⟩, rfl⟩)
              case measure => have := Hm6.out; simp [lenS]; omega
          · have hneg2 : decide (L2 < 0) = false := decide_eq_false hneg
            clear hneg
            go_wp2_with (at_builtin; refine wpl_push w4 rfl (.tmp 41) (.tmp 43) rfl wa.heap.size _ zs (1 + (y : Int)) rfl rfl O4.out (by have := (World.ownsRow.lt O4.out gb rfl).2; omega) (by rw [Hl.out]; omega) ?_; intro v2 w6 hO6 hb6; obtain ⟨g6, m6, c6, rfl, hm6, hg6, hmc6, hcm6, hO6', hr6⟩ := own_form2 hO6 (by simp))
            have C6 := Lib.hid (C4.out.belowB hb6 (by have := Za.out; omega) hgw); have M6 := Lib.hid (M4.out.below hb6 (by have := Za.out; omega)); have O6 := Lib.hid hO6'; have Hc6 := Lib.hid hcm6
            have Hm6 : Hid (m6 = m + 1) := by show _ = _; rw [← hm6, List.length_append, Hl.out]; rfl
            have Hn6 := Lib.hid hm6
            clear hb6 hO6 hO6' hr6 hm6 hcm6
            go_roundw
            case rel => first | exact ⟨zs ++ [(1 + (y : Int))], m6, g6, c6, _, rfl, rfl, Hn6.out, by have := Hm6.out; omega, hmc6, Hc6.out, hg6, O6.out, C6.out, M6.out⟩ | ((repeat apply Exists.intro); exact ⟨⟨zs ++ [(1 + (y : Int))], m6, g6, c6, _, rfl, rfl, Hn6.out, by have := Hm6.out; omega, hmc6, Hc6.out, hg6, O6.out, C6.out, M6.out⟩, rfl⟩)
            case measure => have := Hm6.out; simp [lenS]; omega
        · obtain ⟨L2, hL2⟩ : ∃ L2, wrap64 (L - (1 + (y : Int))) = L2 := ⟨_, rfl⟩
          by_cases hneg : L2 < 0
          · go_wp2_with fail
            refine (once_cm w4 g _ _ (CM.of C4.out.1)).mono ?_
            rintro e w5 ⟨ob, rfl, hc5, -⟩
            have C5 := Lib.hid (C4.out.trans hc5); have M5 := Lib.hid (M4.out.cm hc5 (by omega)); have O5 := Lib.hid (O4.out.grown_lt hc5.2 (fun q hq => by injection hq with hq; have := Za.out; omega))
            clear hc5
            cases ob
            · go_wp2
              go_ret
              exact ⟨gb, m, c, zs, rfl, Hl.out, hm, hmc, Hcm.out, by have := Za.out; omega, own_base1 O5.out (by have := Za.out; omega), C5.out⟩
            · go_wp2_with (at_builtin; refine wpl_push w5 rfl (.tmp 41) (.tmp 43) rfl wa.heap.size _ zs (1 + (y : Int)) rfl rfl O5.out (by have := (World.ownsRow.lt O5.out gb rfl).2; omega) (by rw [Hl.out]; omega) ?_; intro v2 w6 hO6 hb6; obtain ⟨g6, m6, c6, rfl, hm6, hg6, hmc6, hcm6, hO6', hr6⟩ := own_form2 hO6 (by simp))
              have C6 := Lib.hid (C5.out.belowB hb6 (by have := Za.out; omega) hgw); have M6 := Lib.hid (M5.out.below hb6 (by have := Za.out; omega)); have O6 := Lib.hid hO6'; have Hc6 := Lib.hid hcm6
              have Hm6 : Hid (m6 = m + 1) := by show _ = _; rw [← hm6, List.length_append, Hl.out]; rfl
              have Hn6 := Lib.hid hm6
              clear hb6 hO6 hO6' hr6 hm6 hcm6
              go_roundw
              case rel => first | exact ⟨zs ++ [(1 + (y : Int))], m6, g6, c6, _, rfl, rfl, Hn6.out, by have := Hm6.out; omega, hmc6, Hc6.out, hg6, O6.out, C6.out, M6.out⟩ | ((repeat apply Exists.intro); exact ⟨⟨zs ++ [(1 + (y : Int))], m6, g6, c6, _, rfl, rfl, Hn6.out, by have := Hm6.out; omega, hmc6, Hc6.out, hg6, O6.out, C6.out, M6.out⟩, rfl⟩)
              case measure => have := Hm6.out; simp [lenS]; omega
          · have hneg2 : decide (L2 < 0) = false := decide_eq_false hneg
            clear hneg
            go_wp2_with (at_builtin; refine wpl_push w4 rfl (.tmp 41) (.tmp 43) rfl wa.heap.size _ zs (1 + (y : Int)) rfl rfl O4.out (by have := (World.ownsRow.lt O4.out gb rfl).2; omega) (by rw [Hl.out]; omega) ?_; intro v2 w6 hO6 hb6; obtain ⟨g6, m6, c6, rfl, hm6, hg6, hmc6, hcm6, hO6', hr6⟩ := own_form2 hO6 (by simp))
            have C6 := Lib.hid (C4.out.belowB hb6 (by have := Za.out; omega) hgw); have M6 := Lib.hid (M4.out.below hb6 (by have := Za.out; omega)); have O6 := Lib.hid hO6'; have Hc6 := Lib.hid hcm6
            have Hm6 : Hid (m6 = m + 1) := by show _ = _; rw [← hm6, List.length_append, Hl.out]; rfl
            have Hn6 := Lib.hid hm6
            clear hb6 hO6 hO6' hr6 hm6 hcm6
            go_roundw
            case rel => first | exact ⟨zs ++ [(1 + (y : Int))], m6, g6, c6, _, rfl, rfl, Hn6.out, by have := Hm6.out; omega, hmc6, Hc6.out, hg6, O6.out, C6.out, M6.out⟩ | ((repeat apply Exists.intro); exact ⟨⟨zs ++ [(1 + (y : Int))], m6, g6, c6, _, rfl, rfl, Hn6.out, by have := Hm6.out; omega, hmc6, Hc6.out, hg6, O6.out, C6.out, M6.out⟩, rfl⟩)
            case measure => have := Hm6.out; simp [lenS]; omega
      · by_cases hmx : (0 : Int) < t
        · obtain ⟨L2, hL2⟩ : ∃ L2, wrap64 (L - t) = L2 := ⟨_, rfl⟩
          by_cases hneg : L2 < 0
          · go_wp2_with fail
            refine (once_cm w4 g _ _ (CM.of C4.out.1)).mono ?_
            rintro e w5 ⟨ob, rfl, hc5, -⟩
            have C5 := Lib.hid (C4.out.trans hc5); have M5 := Lib.hid (M4.out.cm hc5 (by omega)); have O5 := Lib.hid (O4.out.grown_lt hc5.2 (fun q hq => by injection hq with hq; have := Za.out; omega))
            clear hc5
            cases ob
            · go_wp2
              go_ret
              exact ⟨gb, m, c, zs, rfl, Hl.out, hm, hmc, Hcm.out, by have := Za.out; omega, own_base1 O5.out (by have := Za.out; omega), C5.out⟩
            · go_wp2_with (at_builtin; refine wpl_push w5 rfl (.tmp 41) (.tmp 43) rfl wa.heap.size _ zs (0 : Int) rfl rfl O5.out (by have := (World.ownsRow.lt O5.out gb rfl).2; omega) (by rw [Hl.out]; omega) ?_; intro v2 w6 hO6 hb6; obtain ⟨g6, m6, c6, rfl, hm6, hg6, hmc6, hcm6, hO6', hr6⟩ := own_form2 hO6 (by simp))
              have C6 := Lib.hid (C5.out.belowB hb6 (by have := Za.out; omega) hgw); have M6 := Lib.hid (M5.out.below hb6 (by have := Za.out; omega)); have O6 := Lib.hid hO6'; have Hc6 := Lib.hid hcm6
              have Hm6 : Hid (m6 = m + 1) := by show _ = _; rw [← hm6, List.length_append, Hl.out]; rfl
              have Hn6 := Lib.hid hm6
              clear hb6 hO6 hO6' hr6 hm6 hcm6
              go_roundw
              case rel => first | exact ⟨zs ++ [(0 : Int)], m6, g6, c6, _, rfl, rfl, Hn6.out, by have := Hm6.out; omega, hmc6, Hc6.out, hg6, O6.out, C6.out, M6.out⟩ | ((repeat apply Exists.intro); exact ⟨⟨zs ++ [(0 : Int)], m6, g6, c6, _, rfl, rfl, Hn6.out, by have := Hm6.out; omega, hmc6, Hc6.out, hg6, O6.out, C6.out, M6.out⟩, rfl⟩)
              case measure => have := Hm6.out; simp [lenS]; omega
          · have hneg2 : decide (L2 < 0) = false := decide_eq_false hneg
            clear hneg
            go_wp2_with (at_builtin; refine wpl_push w4 rfl (.tmp 41) (.tmp 43) rfl wa.heap.size _ zs (0 : Int) rfl rfl O4.out (by have := (World.ownsRow.lt O4.out gb rfl).2; omega) (by rw [Hl.out]; omega) ?_; intro v2 w6 hO6 hb6; obtain ⟨g6, m6, c6, rfl, hm6, hg6, hmc6, hcm6, hO6', hr6⟩ := own_form2 hO6 (by simp))
            have C6 := Lib.hid (C4.out.belowB hb6 (by have := Za.out; omega) hgw); have M6 := Lib.hid (M4.out.below hb6 (by have := Za.out; omega)); have O6 := Lib.hid hO6'; have Hc6 := Lib.hid hcm6
            have Hm6 : Hid (m6 = m + 1) := by show _ = _; rw [← hm6, List.length_append, Hl.out]; rfl
            have Hn6 := Lib.hid hm6
            clear hb6 hO6 hO6' hr6 hm6 hcm6
            go_roundw
            case rel => first | exact ⟨zs ++ [(0 : Int)], m6, g6, c6, _, rfl, rfl, Hn6.out, by have := Hm6.out; omega, hmc6, Hc6.out, hg6, O6.out, C6.out, M6.out⟩ | ((repeat apply Exists.intro); exact ⟨⟨zs ++ [(0 : Int)], m6, g6, c6, _, rfl, rfl, Hn6.out, by have := Hm6.out; omega, hmc6, Hc6.out, hg6, O6.out, C6.out, M6.out⟩, rfl⟩)
            case measure => have := Hm6.out; simp [lenS]; omega
        · obtain ⟨L2, hL2⟩ : ∃ L2, wrap64 L = L2 := ⟨_, rfl⟩
          by_cases hneg : L2 < 0
          · go_wp2_with fail
            refine (once_cm w4 g _ _ (CM.of C4.out.1)).mono ?_
            rintro e w5 ⟨ob, rfl, hc5, -⟩
            have C5 := Lib.hid (C4.out.trans hc5); have M5 := Lib.hid (M4.out.cm hc5 (by omega)); have O5 := Lib.hid (O4.out.grown_lt hc5.2 (fun q hq => by injection hq with hq; have := Za.out; omega))
            clear hc5
            cases ob
            · go_wp2
              go_ret
              exact ⟨gb, m, c, zs, rfl, Hl.out, hm, hmc, Hcm.out, by have := Za.out; omega, own_base1 O5.out (by have := Za.out; omega), C5.out⟩
            · go_wp2_with (at_builtin; refine wpl_push w5 rfl (.tmp 41) (.tmp 43) rfl wa.heap.size _ zs (0 : Int) rfl rfl O5.out (by have := (World.ownsRow.lt O5.out gb rfl).2; omega) (by rw [Hl.out]; omega) ?_; intro v2 w6 hO6 hb6; obtain ⟨g6, m6, c6, rfl, hm6, hg6, hmc6, hcm6, hO6', hr6⟩ := own_form2 hO6 (by simp))
              have C6 := Lib.hid (C5.out.belowB hb6 (by have := Za.out; omega) hgw); have M6 := Lib.hid (M5.out.below hb6 (by have := Za.out; omega)); have O6 := Lib.hid hO6'; have Hc6 := Lib.hid hcm6
              have Hm6 : Hid (m6 = m + 1) := by show _ = _; rw [← hm6, List.length_append, Hl.out]; rfl
              have Hn6 := Lib.hid hm6
              clear hb6 hO6 hO6' hr6 hm6 hcm6
              go_roundw
              case rel => first | exact ⟨zs ++ [(0 : Int)], m6, g6, c6, _, rfl, rfl, Hn6.out, by have := Hm6.out; omega, hmc6, Hc6.out, hg6, O6.out, C6.out, M6.out⟩ | ((repeat apply Exists.intro); exact ⟨⟨zs ++ [(0 : Int)], m6, g6, c6, _, rfl, rfl, Hn6.out, by have := Hm6.out; omega, hmc6, Hc6.out, hg6, O6.out, C6.out, M6.out⟩, rfl⟩)
              case measure => have := Hm6.out; simp [lenS]; omega
          · have hneg2 : decide (L2 < 0) = false := decide_eq_false hneg
            clear hneg
            go_wp2_with (at_builtin; refine wpl_push w4 rfl (.tmp 41) (.tmp 43) rfl wa.heap.size _ zs (0 : Int) rfl rfl O4.out (by have := (World.ownsRow.lt O4.out gb rfl).2; omega) (by rw [Hl.out]; omega) ?_; intro v2 w6 hO6 hb6; obtain ⟨g6, m6, c6, rfl, hm6, hg6, hmc6, hcm6, hO6', hr6⟩ := own_form2 hO6 (by simp))
            have C6 := Lib.hid (C4.out.belowB hb6 (by have := Za.out; omega) hgw); have M6 := Lib.hid (M4.out.below hb6 (by have := Za.out; omega)); have O6 := Lib.hid hO6'; have Hc6 := Lib.hid hcm6
            have Hm6 : Hid (m6 = m + 1) := by show _ = _; rw [← hm6, List.length_append, Hl.out]; rfl
            have Hn6 := Lib.hid hm6
            clear hb6 hO6 hO6' hr6 hm6 hcm6
            go_roundw
            case rel => first | exact ⟨zs ++ [(0 : Int)], m6, g6, c6, _, rfl, rfl, Hn6.out, by have := Hm6.out; omega, hmc6, Hc6.out, hg6, O6.out, C6.out, M6.out⟩ | ((repeat apply Exists.intro); exact ⟨⟨zs ++ [(0 : Int)], m6, g6, c6, _, rfl, rfl, Hn6.out, by have := Hm6.out; omega, hmc6, Hc6.out, hg6, O6.out, C6.out, M6.out⟩, rfl⟩)
            case measure => have := Hm6.out; simp [lenS]; omega
    · have hm40 : m = 40 := by omega
      subst hm40
      go_wp2
      go_ret
      exact ⟨gb, 40, c, zs, rfl, Hl.out, by omega, hmc, Hcm.out, by have := Za.out; omega, own_base1 HO.out (by have := Za.out; omega), HC.out⟩
end Go.Proofs.Ytpenmheacpapaaa
