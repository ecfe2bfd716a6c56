/-
  DrawGreedyBreaking, DrawBestBreaking, DrawLineKind: whatever the bytes, a measure of three numbers and at most 42 words, in memory of their own. No condition but that the bytes are bytes.
-/
import Derived.Test.YtpenmheacpapaaaDrawW
namespace Go.Proofs.Ytpenmheacpapaaa
open Go.RowKit
set_option linter.unusedVariables false

set_option maxRecDepth 100000 in
set_option maxHeartbeats 3200000 in
theorem drawGreedy_any (A : Option Addr) (n c : Nat) (bs : List Int) (w : World) (hn : bs.length = n) (hm : n ≤ maxLen) (h : Bytes w A bs) (wf : ∀ z ∈ bs, (Lit.int .u8 z).wf = true) :
    Calls Try.prog 29 #[.slice A n c] w fun e w' => ∃ x y z Aw m c zs, e = .returned (.tuple #[.agg #[.int .i64 x, .int .i64 y, .int .i64 z], .slice Aw m c]) ∧ zs.length = m ∧ m ≤ 42 ∧ m ≤ c ∧ c ≤ maxLen ∧ Own w' w.heap.size (.slice Aw m c) zs ∧ Below w.heap.size w w' := by
  obtain ⟨wa, hwa⟩ : ∃ wa, w.alloc (.cells #[.int .i64 0, .int .i64 0, .int .i64 0] 24) = wa := ⟨_, rfl⟩
  have hba : Below w.heap.size w wa := by rw [← hwa]; exact below_new _ _
  have RA : M3 wa w.heap.size 0 0 0 := by rw [← hwa]; exact M3.new w 0 0 0
  have za : w.heap.size < wa.heap.size := RA.lt
  have BA := Lib.hid hba; have RA := Lib.hid RA; have Hn := Lib.hid hn; have Hwf := Lib.hid wf
  have HA : Hid (Bytes wa A bs) := fun hp => by
    obtain ⟨ad, e, hc⟩ := h hp
    exact ⟨ad, e, fun j hj => (hba.cell (World.block_lt_of_cell? _ _ (hc j hj))).trans (hc j hj)⟩
  clear hba hn wf h
  go_enter Try.func29, Try.ntmps29
  go_wp2_with fail
  clear hwa
  refine (l01New_any A n c bs wa Hn.out hm HA.out Hwf.out).mono ?_
  rintro e w1 ⟨rfl, hc1, hb1, hs1⟩
  have R1 := Lib.hid (RA.out.below hb1 za); have HC1 := Lib.hid hc1
  have B1 := Lib.hid (BA.out.trans (hb1.mono (by omega)))
  have hs1' : w1.heap.size = wa.heap.size + 1 := hs1
  have z1 : wa.heap.size < w1.heap.size := by omega
  clear hc1 hb1 hs1 hs1' BA HA
  obtain ⟨g, hg⟩ : ∃ g, wa.heap.size = g := ⟨_, rfl⟩
  rw [hg] at za z1 HC1 ⊢
  clear hg
  go_wp2_with fail
  refine (l4Both_any g w1 HC1.out).mono ?_
  rintro e w2 ⟨x, y, z, Aw, m, c', zs, rfl, hl, hm1, hmc, hcm, hO2, hc2⟩
  have R2 := Lib.hid (R1.out.cm hc2 (by omega)); have C2 := Lib.hid hc2; have O2 := Lib.hid hO2; have Hl := Lib.hid hl; have Hcm := Lib.hid hcm
  have z2 : w1.heap.size ≤ w2.heap.size := hc2.2.size
  clear hc2 hO2 hl hcm R1
  have RG := Lib.hid (R2.out.put x y z)
  obtain ⟨d0, d1, d2, _, _, _⟩ := RG.out.cells
  obtain ⟨b0, b1, b2, g0, g1, g2⟩ := R2.out.cells
  have OG := Lib.hid (own_base1 (own_put3 O2.out (show w.heap.size < w1.heap.size by omega) (.int .i64 x) (.int .i64 y) (.int .i64 z)) (show w.heap.size ≤ w1.heap.size by omega))
  have BI := Lib.hid (B1.out.trans (C2.out.2.below (B := w.heap.size) (by omega) (by omega)))
  have BG := Lib.hid (((BI.out.setCell (p := ⟨w.heap.size, 0, none⟩) (Nat.le_refl _) (.int .i64 x)).setCell (p := ⟨w.heap.size, 1, none⟩) (Nat.le_refl _) (.int .i64 y)).setCell (p := ⟨w.heap.size, 2, none⟩) (Nat.le_refl _) (.int .i64 z))
  go_wp2
  refine bodyPost_ret (v := .tuple #[.agg #[.int .i64 x, .int .i64 y, .int .i64 z], .slice Aw m c']) (by simp [results, Try.results29, go_sem, d0, d1, d2]) rfl ?_
  first
    | exact ⟨x, y, z, Aw, m, c', zs, rfl, Hl.out, hm1, hmc, Hcm.out, OG.out, BG.out⟩
    | ((repeat apply Exists.intro); exact ⟨rfl, Hl.out, hm1, hmc, Hcm.out, OG.out, BG.out⟩)

set_option maxRecDepth 100000 in
set_option maxHeartbeats 3200000 in
theorem drawBest_any (A : Option Addr) (n c : Nat) (bs : List Int) (w : World) (hn : bs.length = n) (hm : n ≤ maxLen) (h : Bytes w A bs) (wf : ∀ z ∈ bs, (Lit.int .u8 z).wf = true) :
    Calls Try.prog 32 #[.slice A n c] w fun e w' => ∃ x y z Aw m c zs, e = .returned (.tuple #[.agg #[.int .i64 x, .int .i64 y, .int .i64 z], .slice Aw m c]) ∧ zs.length = m ∧ m ≤ 42 ∧ m ≤ c ∧ c ≤ maxLen ∧ Own w' w.heap.size (.slice Aw m c) zs ∧ Below w.heap.size w w' := by
  obtain ⟨wa, hwa⟩ : ∃ wa, w.alloc (.cells #[.int .i64 0, .int .i64 0, .int .i64 0] 24) = wa := ⟨_, rfl⟩
  have hba : Below w.heap.size w wa := by rw [← hwa]; exact below_new _ _
  have RA : M3 wa w.heap.size 0 0 0 := by rw [← hwa]; exact M3.new w 0 0 0
  have za : w.heap.size < wa.heap.size := RA.lt
  have BA := Lib.hid hba; have RA := Lib.hid RA; have Hn := Lib.hid hn; have Hwf := Lib.hid wf
  have HA : Hid (Bytes wa A bs) := fun hp => by
    obtain ⟨ad, e, hc⟩ := h hp
    exact ⟨ad, e, fun j hj => (hba.cell (World.block_lt_of_cell? _ _ (hc j hj))).trans (hc j hj)⟩
  clear hba hn wf h
  go_enter Try.func32, Try.ntmps32
  go_wp2_with fail
  clear hwa
  refine (l01New_any A n c bs wa Hn.out hm HA.out Hwf.out).mono ?_
  rintro e w1 ⟨rfl, hc1, hb1, hs1⟩
  have R1 := Lib.hid (RA.out.below hb1 za); have HC1 := Lib.hid hc1
  have B1 := Lib.hid (BA.out.trans (hb1.mono (by omega)))
  have hs1' : w1.heap.size = wa.heap.size + 1 := hs1
  have z1 : wa.heap.size < w1.heap.size := by omega
  clear hc1 hb1 hs1 hs1' BA HA
  obtain ⟨g, hg⟩ : ∃ g, wa.heap.size = g := ⟨_, rfl⟩
  rw [hg] at za z1 HC1 ⊢
  clear hg
  go_wp2_with fail
  refine (l4Both_any g w1 HC1.out).mono ?_
  rintro e w2 ⟨x, y, z, Aw, m, c', zs, rfl, hl, hm1, hmc, hcm, hO2, hc2⟩
  have R2 := Lib.hid (R1.out.cm hc2 (by omega)); have C2 := Lib.hid hc2; have O2 := Lib.hid hO2; have Hl := Lib.hid hl; have Hcm := Lib.hid hcm
  have z2 : w1.heap.size ≤ w2.heap.size := hc2.2.size
  clear hc2 hO2 hl hcm R1
  have RG := Lib.hid (R2.out.put x y z)
  obtain ⟨d0, d1, d2, _, _, _⟩ := RG.out.cells
  obtain ⟨b0, b1, b2, g0, g1, g2⟩ := R2.out.cells
  have OG := Lib.hid (own_base1 (own_put3 O2.out (show w.heap.size < w1.heap.size by omega) (.int .i64 x) (.int .i64 y) (.int .i64 z)) (show w.heap.size ≤ w1.heap.size by omega))
  have BI := Lib.hid (B1.out.trans (C2.out.2.below (B := w.heap.size) (by omega) (by omega)))
  have BG := Lib.hid (((BI.out.setCell (p := ⟨w.heap.size, 0, none⟩) (Nat.le_refl _) (.int .i64 x)).setCell (p := ⟨w.heap.size, 1, none⟩) (Nat.le_refl _) (.int .i64 y)).setCell (p := ⟨w.heap.size, 2, none⟩) (Nat.le_refl _) (.int .i64 z))
  go_wp2
  refine bodyPost_ret (v := .tuple #[.agg #[.int .i64 x, .int .i64 y, .int .i64 z], .slice Aw m c']) (by simp [results, Try.results32, go_sem, d0, d1, d2]) rfl ?_
  first
    | exact ⟨x, y, z, Aw, m, c', zs, rfl, Hl.out, hm1, hmc, Hcm.out, OG.out, BG.out⟩
    | ((repeat apply Exists.intro); exact ⟨rfl, Hl.out, hm1, hmc, Hcm.out, OG.out, BG.out⟩)

set_option maxRecDepth 100000 in
set_option maxHeartbeats 3200000 in
theorem drawKind_any (A : Option Addr) (n c : Nat) (bs : List Int) (w : World) (hn : bs.length = n) (hm : n ≤ maxLen) (h : Bytes w A bs) (wf : ∀ z ∈ bs, (Lit.int .u8 z).wf = true) :
    Calls Try.prog 36 #[.slice A n c] w fun e w' => ∃ x y z Aw m c zs a b, e = .returned (.tuple #[.agg #[.int .i64 x, .int .i64 y, .int .i64 z], .slice Aw m c, .int .i64 a, .int .i64 b]) ∧ zs.length = m ∧ m ≤ 42 ∧ m ≤ c ∧ c ≤ maxLen ∧ Own w' w.heap.size (.slice Aw m c) zs ∧ Below w.heap.size w w' := by
  obtain ⟨wa, hwa⟩ : ∃ wa, w.alloc (.cells #[.int .i64 0, .int .i64 0, .int .i64 0] 24) = wa := ⟨_, rfl⟩
  have hba : Below w.heap.size w wa := by rw [← hwa]; exact below_new _ _
  have RA : M3 wa w.heap.size 0 0 0 := by rw [← hwa]; exact M3.new w 0 0 0
  have za : w.heap.size < wa.heap.size := RA.lt
  have BA := Lib.hid hba; have RA := Lib.hid RA; have Hn := Lib.hid hn; have Hwf := Lib.hid wf
  have HA : Hid (Bytes wa A bs) := fun hp => by
    obtain ⟨ad, e, hc⟩ := h hp
    exact ⟨ad, e, fun j hj => (hba.cell (World.block_lt_of_cell? _ _ (hc j hj))).trans (hc j hj)⟩
  clear hba hn wf h
  go_enter Try.func36, Try.ntmps36
  go_wp2_with fail
  clear hwa
  refine (l01New_any A n c bs wa Hn.out hm HA.out Hwf.out).mono ?_
  rintro e w1 ⟨rfl, hc1, hb1, hs1⟩
  have R1 := Lib.hid (RA.out.below hb1 za); have HC1 := Lib.hid hc1
  have B1 := Lib.hid (BA.out.trans (hb1.mono (by omega)))
  have hs1' : w1.heap.size = wa.heap.size + 1 := hs1
  have z1 : wa.heap.size < w1.heap.size := by omega
  clear hc1 hb1 hs1 hs1' BA HA
  obtain ⟨g, hg⟩ : ∃ g, wa.heap.size = g := ⟨_, rfl⟩
  rw [hg] at za z1 HC1 ⊢
  clear hg
  go_wp2_with fail
  refine (l4Both_any g w1 HC1.out).mono ?_
  rintro e w2 ⟨x, y, z, Aw, m, c', zs, rfl, hl, hm1, hmc, hcm, hO2, hc2⟩
  have R2 := Lib.hid (R1.out.cm hc2 (by omega)); have C2 := Lib.hid hc2; have O2 := Lib.hid hO2; have Hl := Lib.hid hl; have Hcm := Lib.hid hcm
  have z2 : w1.heap.size ≤ w2.heap.size := hc2.2.size
  clear hc2 hO2 hl hcm R1
  obtain ⟨w3, hw3⟩ : ∃ w3, w2.alloc (.cells #[.int .i64 x, .int .i64 y, .int .i64 z] 24) = w3 := ⟨_, rfl⟩
  have M3' : M3 w3 w2.heap.size x y z := by rw [← hw3]; exact M3.new w2 _ _ _
  have hb3 : Below w2.heap.size w2 w3 := by rw [← hw3]; exact below_new _ _
  have R3 := Lib.hid (R2.out.below hb3 R2.out.lt); have C3 : Hid (CM w1 w3 g) := C2.out.step hb3; have O3 := Lib.hid (O2.out.below hb3)
  have z3 : w2.heap.size < w3.heap.size := M3'.lt
  have M3q := Lib.hid M3'
  clear hb3 R2 C2 M3' O2
  go_wp2_with fail
  clear hw3
  refine (below_cm w3 g _ _ (by omega) (CM.of C3.out.1)).mono ?_
  rintro e w4 ⟨fr, rfl, hfr, hc4, -⟩
  have R4 := Lib.hid (R3.out.cm hc4 (by omega)); have C4 := Lib.hid (C3.out.trans hc4); have M4 := Lib.hid (M3q.out.cm hc4 (by omega)); have O4 := Lib.hid (O3.out.grown_lt hc4.2 (fun q hq => by injection hq with hq; omega))
  have z4 : w3.heap.size ≤ w4.heap.size := hc4.2.size
  clear hc4 R3 C3 M3q O3
  go_wp2_with fail
  refine (below_cm w4 g _ _ (by omega) (CM.of C4.out.1)).mono ?_
  rintro e w5 ⟨tt, rfl, htt, hc5, -⟩
  have R5 := Lib.hid (R4.out.cm hc5 (by omega)); have C5 := Lib.hid (C4.out.trans hc5); have M5 := Lib.hid (M4.out.cm hc5 (by omega)); have O5 := Lib.hid (O4.out.grown_lt hc5.2 (fun q hq => by injection hq with hq; omega))
  have z5 : w4.heap.size ≤ w5.heap.size := hc5.2.size
  clear hc5 R4 C4 M4 O4
  go_wp2_with fail
  refine (once_cm w5 g _ _ (CM.of C5.out.1)).mono ?_
  rintro e w6 ⟨ob1, rfl, hc6, -⟩
  have R6 := Lib.hid (R5.out.cm hc6 (by omega)); have C6 := Lib.hid (C5.out.trans hc6); have M6 := Lib.hid (M5.out.cm hc6 (by omega)); have O6 := Lib.hid (O5.out.grown_lt hc6.2 (fun q hq => by injection hq with hq; omega))
  have z6 : w5.heap.size ≤ w6.heap.size := hc6.2.size
  clear hc6 R5 C5 M5 O5
  cases ob1
  · skip
    go_wp2_with fail
    refine (once_cm w6 g _ _ (CM.of C6.out.1)).mono ?_
    rintro e w7 ⟨ob2, rfl, hc7, -⟩
    have R7 := Lib.hid (R6.out.cm hc7 (by omega)); have C7 := Lib.hid (C6.out.trans hc7); have M7 := Lib.hid (M6.out.cm hc7 (by omega)); have O7 := Lib.hid (O6.out.grown_lt hc7.2 (fun q hq => by injection hq with hq; omega))
    have z7 : w6.heap.size ≤ w7.heap.size := hc7.2.size
    clear hc7 R6 C6 M6 O6
    cases ob2
    · skip
      obtain ⟨a0, a1, a2, _, _, _⟩ := M7.out.cells
      have RG := Lib.hid (R7.out.put x y z)
      obtain ⟨d0, d1, d2, _, _, _⟩ := RG.out.cells
      obtain ⟨b0, b1, b2, g0, g1, g2⟩ := R7.out.cells
      have OG := Lib.hid (own_base1 (own_put3 O7.out (show w.heap.size < w1.heap.size by omega) (.int .i64 x) (.int .i64 y) (.int .i64 z)) (show w.heap.size ≤ w1.heap.size by omega))
      have BI := Lib.hid (B1.out.trans (C7.out.2.below (B := w.heap.size) (by omega) (by omega)))
      have BG := Lib.hid (((BI.out.setCell (p := ⟨w.heap.size, 0, none⟩) (Nat.le_refl _) (.int .i64 x)).setCell (p := ⟨w.heap.size, 1, none⟩) (Nat.le_refl _) (.int .i64 y)).setCell (p := ⟨w.heap.size, 2, none⟩) (Nat.le_refl _) (.int .i64 z))
      go_wp2
      refine bodyPost_ret (v := .tuple #[.agg #[.int .i64 x, .int .i64 y, .int .i64 z], .slice Aw m c', .int .i64 (fr), .int .i64 ((fr : Int) + 1 + (tt : Int))]) (by simp [results, Try.results36, go_sem, d0, d1, d2]) rfl ?_
      first
        | exact ⟨x, y, z, Aw, m, c', zs, fr, (fr : Int) + 1 + (tt : Int), rfl, Hl.out, hm1, hmc, Hcm.out, OG.out, BG.out⟩
        | ((repeat apply Exists.intro); exact ⟨rfl, Hl.out, hm1, hmc, Hcm.out, OG.out, BG.out⟩)
    · skip
      go_wp2_with fail
      refine (int_cm w7 g 3 3 [-1, 0, -9223372036854775808] _ (CM.of C7.out.1) rfl (by omega) (by omega)).mono ?_
      rintro e w8 ⟨u2, rfl, hc8, -⟩
      have R8 := Lib.hid (R7.out.cm hc8 (by omega)); have C8 := Lib.hid (C7.out.trans hc8); have M8 := Lib.hid (M7.out.cm hc8 (by omega)); have O8 := Lib.hid (O7.out.grown_lt hc8.2 (fun q hq => by injection hq with hq; omega))
      have z8 : w7.heap.size ≤ w8.heap.size := hc8.2.size
      clear hc8 R7 C7 M7 O7
      obtain ⟨a0, a1, a2, _, _, _⟩ := M8.out.cells
      have RG := Lib.hid (R8.out.put x y z)
      obtain ⟨d0, d1, d2, _, _, _⟩ := RG.out.cells
      obtain ⟨b0, b1, b2, g0, g1, g2⟩ := R8.out.cells
      have OG := Lib.hid (own_base1 (own_put3 O8.out (show w.heap.size < w1.heap.size by omega) (.int .i64 x) (.int .i64 y) (.int .i64 z)) (show w.heap.size ≤ w1.heap.size by omega))
      have BI := Lib.hid (B1.out.trans (C8.out.2.below (B := w.heap.size) (by omega) (by omega)))
      have BG := Lib.hid (((BI.out.setCell (p := ⟨w.heap.size, 0, none⟩) (Nat.le_refl _) (.int .i64 x)).setCell (p := ⟨w.heap.size, 1, none⟩) (Nat.le_refl _) (.int .i64 y)).setCell (p := ⟨w.heap.size, 2, none⟩) (Nat.le_refl _) (.int .i64 z))
      go_wp2
      refine bodyPost_ret (v := .tuple #[.agg #[.int .i64 x, .int .i64 y, .int .i64 z], .slice Aw m c', .int .i64 u2, .int .i64 ((fr : Int) + 1 + (tt : Int))]) (by simp [results, Try.results36, go_sem, d0, d1, d2]) rfl ?_
      first
        | exact ⟨x, y, z, Aw, m, c', zs, u2, (fr : Int) + 1 + (tt : Int), rfl, Hl.out, hm1, hmc, Hcm.out, OG.out, BG.out⟩
        | ((repeat apply Exists.intro); exact ⟨rfl, Hl.out, hm1, hmc, Hcm.out, OG.out, BG.out⟩)
  · skip
    go_wp2_with fail
    refine (int_cm w6 g 6 6 [0, 1, fr, m, (m : Int) + 1, 9223372036854775807] _ (CM.of C6.out.1) rfl (by omega) (by omega)).mono ?_
    rintro e w7 ⟨u1, rfl, hc7, -⟩
    have R7 := Lib.hid (R6.out.cm hc7 (by omega)); have C7 := Lib.hid (C6.out.trans hc7); have M7 := Lib.hid (M6.out.cm hc7 (by omega)); have O7 := Lib.hid (O6.out.grown_lt hc7.2 (fun q hq => by injection hq with hq; omega))
    have z7 : w6.heap.size ≤ w7.heap.size := hc7.2.size
    clear hc7 R6 C6 M6 O6
    go_wp2_with fail
    refine (once_cm w7 g _ _ (CM.of C7.out.1)).mono ?_
    rintro e w8 ⟨ob2, rfl, hc8, -⟩
    have R8 := Lib.hid (R7.out.cm hc8 (by omega)); have C8 := Lib.hid (C7.out.trans hc8); have M8 := Lib.hid (M7.out.cm hc8 (by omega)); have O8 := Lib.hid (O7.out.grown_lt hc8.2 (fun q hq => by injection hq with hq; omega))
    have z8 : w7.heap.size ≤ w8.heap.size := hc8.2.size
    clear hc8 R7 C7 M7 O7
    cases ob2
    · skip
      obtain ⟨a0, a1, a2, _, _, _⟩ := M8.out.cells
      have RG := Lib.hid (R8.out.put x y z)
      obtain ⟨d0, d1, d2, _, _, _⟩ := RG.out.cells
      obtain ⟨b0, b1, b2, g0, g1, g2⟩ := R8.out.cells
      have OG := Lib.hid (own_base1 (own_put3 O8.out (show w.heap.size < w1.heap.size by omega) (.int .i64 x) (.int .i64 y) (.int .i64 z)) (show w.heap.size ≤ w1.heap.size by omega))
      have BI := Lib.hid (B1.out.trans (C8.out.2.below (B := w.heap.size) (by omega) (by omega)))
      have BG := Lib.hid (((BI.out.setCell (p := ⟨w.heap.size, 0, none⟩) (Nat.le_refl _) (.int .i64 x)).setCell (p := ⟨w.heap.size, 1, none⟩) (Nat.le_refl _) (.int .i64 y)).setCell (p := ⟨w.heap.size, 2, none⟩) (Nat.le_refl _) (.int .i64 z))
      go_wp2
      refine bodyPost_ret (v := .tuple #[.agg #[.int .i64 x, .int .i64 y, .int .i64 z], .slice Aw m c', .int .i64 (fr), .int .i64 (u1)]) (by simp [results, Try.results36, go_sem, d0, d1, d2]) rfl ?_
      first
        | exact ⟨x, y, z, Aw, m, c', zs, fr, u1, rfl, Hl.out, hm1, hmc, Hcm.out, OG.out, BG.out⟩
        | ((repeat apply Exists.intro); exact ⟨rfl, Hl.out, hm1, hmc, Hcm.out, OG.out, BG.out⟩)
    · skip
      go_wp2_with fail
      refine (int_cm w8 g 3 3 [-1, 0, -9223372036854775808] _ (CM.of C8.out.1) rfl (by omega) (by omega)).mono ?_
      rintro e w9 ⟨u2, rfl, hc9, -⟩
      have R9 := Lib.hid (R8.out.cm hc9 (by omega)); have C9 := Lib.hid (C8.out.trans hc9); have M9 := Lib.hid (M8.out.cm hc9 (by omega)); have O9 := Lib.hid (O8.out.grown_lt hc9.2 (fun q hq => by injection hq with hq; omega))
      have z9 : w8.heap.size ≤ w9.heap.size := hc9.2.size
      clear hc9 R8 C8 M8 O8
      obtain ⟨a0, a1, a2, _, _, _⟩ := M9.out.cells
      have RG := Lib.hid (R9.out.put x y z)
      obtain ⟨d0, d1, d2, _, _, _⟩ := RG.out.cells
      obtain ⟨b0, b1, b2, g0, g1, g2⟩ := R9.out.cells
      have OG := Lib.hid (own_base1 (own_put3 O9.out (show w.heap.size < w1.heap.size by omega) (.int .i64 x) (.int .i64 y) (.int .i64 z)) (show w.heap.size ≤ w1.heap.size by omega))
      have BI := Lib.hid (B1.out.trans (C9.out.2.below (B := w.heap.size) (by omega) (by omega)))
      have BG := Lib.hid (((BI.out.setCell (p := ⟨w.heap.size, 0, none⟩) (Nat.le_refl _) (.int .i64 x)).setCell (p := ⟨w.heap.size, 1, none⟩) (Nat.le_refl _) (.int .i64 y)).setCell (p := ⟨w.heap.size, 2, none⟩) (Nat.le_refl _) (.int .i64 z))
      go_wp2
      refine bodyPost_ret (v := .tuple #[.agg #[.int .i64 x, .int .i64 y, .int .i64 z], .slice Aw m c', .int .i64 u2, .int .i64 (u1)]) (by simp [results, Try.results36, go_sem, d0, d1, d2]) rfl ?_
      first
        | exact ⟨x, y, z, Aw, m, c', zs, u2, u1, rfl, Hl.out, hm1, hmc, Hcm.out, OG.out, BG.out⟩
        | ((repeat apply Exists.intro); exact ⟨rfl, Hl.out, hm1, hmc, Hcm.out, OG.out, BG.out⟩)
end Go.Proofs.Ytpenmheacpapaaa
