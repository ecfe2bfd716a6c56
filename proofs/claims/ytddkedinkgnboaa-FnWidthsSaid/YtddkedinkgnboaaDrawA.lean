/-
  The draws of BreakingAt and WidthsFor. No condition.
-/
import Derived.Test.YtddkedinkgnboaaDrawX
import Derived.Test.YtddkedinkgnboaaPkC
import Derived.Test.YtddkedinkgnboaaPkD
namespace Go.Proofs.Ytddkedinkgnboaa
open Go.RowKit Go.Shelf
set_option linter.unusedVariables false
attribute [local go_sem] Oper.semAt_some

theorem int_cmB (w0 : World) (g n c : Nat) (zs : List Int) (w : World) (hc : CM w0 w g) (hn : zs.length = n) (hp : 0 < n) (hm : n ≤ 1000) :
    Calls Try.prog 45 #[.pointer (some ⟨g, 0, none⟩), .slice (some ⟨w.heap.size, 0, none⟩) n c] (w.alloc (.cells (zs.map (Value.int .i64)).toArray 3)) fun e w' => ∃ x : Int, x ∈ zs ∧ e = .returned (.int .i64 x) ∧ CM w0 w' g ∧ CM w w' g := by
  refine (l01Int_any g _ n c (w.heap.size + 1) zs _ (hc.1.alloc _) hn (by unfold maxLen; omega) hp (lit_ints w zs) (fun ad had => by injection had with had; subst had; have := hc.1.lt; simp; omega)).mono ?_
  rintro e w2 ⟨x, rfl, hx, hc2, ht2⟩
  have hm2 : Moved w w2 g := (Moved.alloc w _ g).trans ht2.moved
  exact ⟨x, hx, rfl, ⟨hc2, hc.2.trans hm2⟩, ⟨hc2, hm2⟩⟩

set_option maxRecDepth 100000 in
set_option maxHeartbeats 3200000 in
theorem drawAt_any (A : Option Addr) (n c : Nat) (bs : List Int) (w : World) (hn : bs.length = n) (hm : n ≤ maxLen) (h : Bytes w A bs) (wf : ∀ z ∈ bs, (Lit.int .u8 z).wf = true) :
    Calls Try.prog 14 #[.slice A n c] w fun e w' => ∃ x y z Aw m c zs i, e = .returned (.tuple #[.agg #[.int .i64 x, .int .i64 y, .int .i64 z], .slice Aw m c, .int .i64 i]) ∧ zs.length = m ∧ m ≤ 42 ∧ m ≤ c ∧ c ≤ maxLen ∧ -1 ≤ i ∧ i ≤ 9223372036854775807 ∧ Own w' w.heap.size (.slice Aw m c) zs ∧ Below w.heap.size w w' := by
  obtain ⟨wa, hwa⟩ : ∃ wa, w.alloc (.cells #[.int .i64 0, .int .i64 0, .int .i64 0] 24) = wa := ⟨_, rfl⟩
  have hba : Below w.heap.size w wa := by rw [← hwa]; exact below_new _ _
  have RA : M3 wa w.heap.size 0 0 0 := by rw [← hwa]; exact M3.new w 0 0 0
  have za : w.heap.size < wa.heap.size := RA.lt
  have BA := Lib.hid hba; have RA := Lib.hid RA; have Hn := Lib.hid hn; have Hwf := Lib.hid wf
  have HA : Hid (Bytes wa A bs) := fun hp => by
    obtain ⟨ad, e, hc⟩ := h hp
    exact ⟨ad, e, fun j hj => (hba.cell (World.block_lt_of_cell? _ _ (hc j hj))).trans (hc j hj)⟩
  clear hba hn wf h
  go_enter Try.func14, Try.ntmps14
  go_wp2_with fail
  clear hwa
  refine (l01New_any A n c bs wa Hn.out hm HA.out Hwf.out).mono ?_
  rintro e w1 ⟨rfl, hc1, hb1, hs1⟩
  have R1 := Lib.hid (RA.out.below hb1 za); have HC1 := Lib.hid hc1
  have B1 := Lib.hid (BA.out.trans (hb1.mono (by omega)))
  have hs1' : w1.heap.size = wa.heap.size + 1 := hs1
  have z1 : wa.heap.size < w1.heap.size := by omega
  clear hc1 hb1 hs1 hs1' BA HA
  obtain ⟨g, hg⟩ : ∃ g, wa.heap.size = g := ⟨_, rfl⟩
  rw [hg] at za z1 HC1 ⊢
  clear hg
  go_wp2_with fail
  refine (l4Both_any g w1 HC1.out).mono ?_
  rintro e w2 ⟨x, y, z, Aw, m, c', zs, rfl, hl, hm1, hmc, hcm, hO2, hc2⟩
  have R2 := Lib.hid (R1.out.cm hc2 (by omega)); have C2 := Lib.hid hc2; have O2 := Lib.hid hO2; have Hl := Lib.hid hl; have Hcm := Lib.hid hcm
  have z2 : w1.heap.size ≤ w2.heap.size := hc2.2.size
  clear hc2 hO2 hl hcm R1
  obtain ⟨w3, hw3⟩ : ∃ w3, w2.alloc (.cells #[.int .i64 x, .int .i64 y, .int .i64 z] 24) = w3 := ⟨_, rfl⟩
  have M3' : M3 w3 w2.heap.size x y z := by rw [← hw3]; exact M3.new w2 _ _ _
  have hb3 : Below w2.heap.size w2 w3 := by rw [← hw3]; exact below_new _ _
  have R3 := Lib.hid (R2.out.below hb3 R2.out.lt); have C3 : Hid (CM w1 w3 g) := C2.out.step hb3; have O3 := Lib.hid (O2.out.below hb3)
  have z3 : w2.heap.size < w3.heap.size := M3'.lt
  have M3q := Lib.hid M3'
  clear hb3 R2 C2 M3' O2
  have Hmc := Lib.hid hmc
  obtain ⟨C0, hC0⟩ : ∃ C, cntA ⟨x, y, z⟩ zs = C := ⟨_, rfl⟩
  have HC0 := Lib.hid hC0
  clear hC0
  obtain ⟨q0, q1, q2, _, _, _⟩ := M3q.out.cells
  by_cases h1 : C0 ≤ 1
  · skip
    go_wp2_with (go_at_call 22; clear hw3; refine (specCntB_any x y z Aw m c' zs w3 Hl.out Hmc.out Hcm.out (own_intsA O3.out)).mono ?_; rintro e w4 ⟨rfl, hb4⟩; rw [HC0.out]; have R4 := Lib.hid (R3.out.below hb4 (by omega)); have C4 : Hid (CM w1 w4 g) := C3.out.step hb4; have M4 := Lib.hid (M3q.out.below hb4 (by omega)); have O4 := Lib.hid (O3.out.below hb4); have z4 : w3.heap.size ≤ w4.heap.size := hb4.size; clear hb4 q0 q1 q2 R3 C3 M3q O3)
    refine (below_cm w4 g _ _ (by omega) (CM.of C4.out.1)).mono ?_
    rintro e w5 ⟨ix, rfl, hix, hc5, -⟩
    have R5 := Lib.hid (R4.out.cm hc5 (by omega)); have C5 := Lib.hid (C4.out.trans hc5); have M5 := Lib.hid (M4.out.cm hc5 (by omega)); have O5 := Lib.hid (O4.out.grown_lt hc5.2 (fun q hq => by injection hq with hq; omega))
    have z5 : w4.heap.size ≤ w5.heap.size := hc5.2.size
    clear hc5 R4 C4 M4 O4
    go_wp2_with fail
    refine (once_cm w5 g _ _ (CM.of C5.out.1)).mono ?_
    rintro e w6 ⟨ob, rfl, hc6, -⟩
    have R6 := Lib.hid (R5.out.cm hc6 (by omega)); have C6 := Lib.hid (C5.out.trans hc6); have M6 := Lib.hid (M5.out.cm hc6 (by omega)); have O6 := Lib.hid (O5.out.grown_lt hc6.2 (fun q hq => by injection hq with hq; omega))
    have z6 : w5.heap.size ≤ w6.heap.size := hc6.2.size
    clear hc6 R5 C5 M5 O5
    cases ob
    · skip
      obtain ⟨a0, a1, a2, _, _, _⟩ := M6.out.cells
      have RG := Lib.hid (R6.out.put x y z)
      obtain ⟨d0, d1, d2, _, _, _⟩ := RG.out.cells
      obtain ⟨b0, b1, b2, g0, g1, g2⟩ := R6.out.cells
      have OG := Lib.hid (own_base1 (own_put3 O6.out (show w.heap.size < w1.heap.size by omega) (.int .i64 x) (.int .i64 y) (.int .i64 z)) (show w.heap.size ≤ w1.heap.size by omega))
      have BI := Lib.hid (B1.out.trans (C6.out.2.below (B := w.heap.size) (by omega) (by omega)))
      have BG := Lib.hid (((BI.out.setCell (p := ⟨w.heap.size, 0, none⟩) (Nat.le_refl _) (.int .i64 x)).setCell (p := ⟨w.heap.size, 1, none⟩) (Nat.le_refl _) (.int .i64 y)).setCell (p := ⟨w.heap.size, 2, none⟩) (Nat.le_refl _) (.int .i64 z))
      go_wp2
      refine bodyPost_ret (v := .tuple #[.agg #[.int .i64 x, .int .i64 y, .int .i64 z], .slice Aw m c', .int .i64 (ix : Int)]) (by simp [results, Try.results14, go_sem, d0, d1, d2]) rfl ?_
      first
        | exact ⟨x, y, z, Aw, m, c', zs, (ix : Int), rfl, Hl.out, hm1, hmc, Hcm.out, by omega, by omega, OG.out, BG.out⟩
        | ((repeat apply Exists.intro); exact ⟨rfl, Hl.out, hm1, hmc, Hcm.out, by omega, by omega, OG.out, BG.out⟩)
    · skip
      go_wp2_with fail
      refine (int_cmB w6 g 4 4 [-1, 1, 0, 9223372036854775807] _ (CM.of C6.out.1) rfl (by omega) (by omega)).mono ?_
      rintro e w7 ⟨u, hu, rfl, hc7, -⟩
      have R7 := Lib.hid (R6.out.cm hc7 (by omega)); have C7 := Lib.hid (C6.out.trans hc7); have M7 := Lib.hid (M6.out.cm hc7 (by omega)); have O7 := Lib.hid (O6.out.grown_lt hc7.2 (fun q hq => by injection hq with hq; omega))
      have z7 : w6.heap.size ≤ w7.heap.size := hc7.2.size
      clear hc7 R6 C6 M6 O6
      have hub : -1 ≤ u ∧ u ≤ 9223372036854775807 := by simp at hu; omega
      clear hu
      obtain ⟨a0, a1, a2, _, _, _⟩ := M7.out.cells
      have RG := Lib.hid (R7.out.put x y z)
      obtain ⟨d0, d1, d2, _, _, _⟩ := RG.out.cells
      obtain ⟨b0, b1, b2, g0, g1, g2⟩ := R7.out.cells
      have OG := Lib.hid (own_base1 (own_put3 O7.out (show w.heap.size < w1.heap.size by omega) (.int .i64 x) (.int .i64 y) (.int .i64 z)) (show w.heap.size ≤ w1.heap.size by omega))
      have BI := Lib.hid (B1.out.trans (C7.out.2.below (B := w.heap.size) (by omega) (by omega)))
      have BG := Lib.hid (((BI.out.setCell (p := ⟨w.heap.size, 0, none⟩) (Nat.le_refl _) (.int .i64 x)).setCell (p := ⟨w.heap.size, 1, none⟩) (Nat.le_refl _) (.int .i64 y)).setCell (p := ⟨w.heap.size, 2, none⟩) (Nat.le_refl _) (.int .i64 z))
      go_wp2
      refine bodyPost_ret (v := .tuple #[.agg #[.int .i64 x, .int .i64 y, .int .i64 z], .slice Aw m c', .int .i64 u]) (by simp [results, Try.results14, go_sem, d0, d1, d2]) rfl ?_
      first
        | exact ⟨x, y, z, Aw, m, c', zs, u, rfl, Hl.out, hm1, hmc, Hcm.out, hub.1, hub.2, OG.out, BG.out⟩
        | ((repeat apply Exists.intro); exact ⟨rfl, Hl.out, hm1, hmc, Hcm.out, hub.1, hub.2, OG.out, BG.out⟩)
  by_cases h2 : C0 ≤ 1073741824
  · have e9 : IntKind.i64.wrap (C0 - 1) = C0 - 1 := by rw [IntKind.wrap_i64]; omega
    go_wp2_with (go_at_call 22; clear hw3; refine (specCntB_any x y z Aw m c' zs w3 Hl.out Hmc.out Hcm.out (own_intsA O3.out)).mono ?_; rintro e w4 ⟨rfl, hb4⟩; rw [HC0.out]; have R4 := Lib.hid (R3.out.below hb4 (by omega)); have C4 : Hid (CM w1 w4 g) := C3.out.step hb4; have M4 := Lib.hid (M3q.out.below hb4 (by omega)); have O4 := Lib.hid (O3.out.below hb4); have z4 : w3.heap.size ≤ w4.heap.size := hb4.size; clear hb4 q0 q1 q2 R3 C3 M3q O3)
    refine (below_cm w4 g _ _ (by omega) (CM.of C4.out.1)).mono ?_
    rintro e w5 ⟨ix, rfl, hix, hc5, -⟩
    have R5 := Lib.hid (R4.out.cm hc5 (by omega)); have C5 := Lib.hid (C4.out.trans hc5); have M5 := Lib.hid (M4.out.cm hc5 (by omega)); have O5 := Lib.hid (O4.out.grown_lt hc5.2 (fun q hq => by injection hq with hq; omega))
    have z5 : w4.heap.size ≤ w5.heap.size := hc5.2.size
    clear hc5 R4 C4 M4 O4
    go_wp2_with fail
    refine (once_cm w5 g _ _ (CM.of C5.out.1)).mono ?_
    rintro e w6 ⟨ob, rfl, hc6, -⟩
    have R6 := Lib.hid (R5.out.cm hc6 (by omega)); have C6 := Lib.hid (C5.out.trans hc6); have M6 := Lib.hid (M5.out.cm hc6 (by omega)); have O6 := Lib.hid (O5.out.grown_lt hc6.2 (fun q hq => by injection hq with hq; omega))
    have z6 : w5.heap.size ≤ w6.heap.size := hc6.2.size
    clear hc6 R5 C5 M5 O5
    cases ob
    · skip
      obtain ⟨a0, a1, a2, _, _, _⟩ := M6.out.cells
      have RG := Lib.hid (R6.out.put x y z)
      obtain ⟨d0, d1, d2, _, _, _⟩ := RG.out.cells
      obtain ⟨b0, b1, b2, g0, g1, g2⟩ := R6.out.cells
      have OG := Lib.hid (own_base1 (own_put3 O6.out (show w.heap.size < w1.heap.size by omega) (.int .i64 x) (.int .i64 y) (.int .i64 z)) (show w.heap.size ≤ w1.heap.size by omega))
      have BI := Lib.hid (B1.out.trans (C6.out.2.below (B := w.heap.size) (by omega) (by omega)))
      have BG := Lib.hid (((BI.out.setCell (p := ⟨w.heap.size, 0, none⟩) (Nat.le_refl _) (.int .i64 x)).setCell (p := ⟨w.heap.size, 1, none⟩) (Nat.le_refl _) (.int .i64 y)).setCell (p := ⟨w.heap.size, 2, none⟩) (Nat.le_refl _) (.int .i64 z))
      go_wp2
      refine bodyPost_ret (v := .tuple #[.agg #[.int .i64 x, .int .i64 y, .int .i64 z], .slice Aw m c', .int .i64 (ix : Int)]) (by simp [results, Try.results14, go_sem, d0, d1, d2]) rfl ?_
      first
        | exact ⟨x, y, z, Aw, m, c', zs, (ix : Int), rfl, Hl.out, hm1, hmc, Hcm.out, by omega, by omega, OG.out, BG.out⟩
        | ((repeat apply Exists.intro); exact ⟨rfl, Hl.out, hm1, hmc, Hcm.out, by omega, by omega, OG.out, BG.out⟩)
    · skip
      go_wp2_with fail
      refine (int_cmB w6 g 4 4 [-1, C0, C0 - 1, 9223372036854775807] _ (CM.of C6.out.1) rfl (by omega) (by omega)).mono ?_
      rintro e w7 ⟨u, hu, rfl, hc7, -⟩
      have R7 := Lib.hid (R6.out.cm hc7 (by omega)); have C7 := Lib.hid (C6.out.trans hc7); have M7 := Lib.hid (M6.out.cm hc7 (by omega)); have O7 := Lib.hid (O6.out.grown_lt hc7.2 (fun q hq => by injection hq with hq; omega))
      have z7 : w6.heap.size ≤ w7.heap.size := hc7.2.size
      clear hc7 R6 C6 M6 O6
      have hub : -1 ≤ u ∧ u ≤ 9223372036854775807 := by simp at hu; omega
      clear hu
      obtain ⟨a0, a1, a2, _, _, _⟩ := M7.out.cells
      have RG := Lib.hid (R7.out.put x y z)
      obtain ⟨d0, d1, d2, _, _, _⟩ := RG.out.cells
      obtain ⟨b0, b1, b2, g0, g1, g2⟩ := R7.out.cells
      have OG := Lib.hid (own_base1 (own_put3 O7.out (show w.heap.size < w1.heap.size by omega) (.int .i64 x) (.int .i64 y) (.int .i64 z)) (show w.heap.size ≤ w1.heap.size by omega))
      have BI := Lib.hid (B1.out.trans (C7.out.2.below (B := w.heap.size) (by omega) (by omega)))
      have BG := Lib.hid (((BI.out.setCell (p := ⟨w.heap.size, 0, none⟩) (Nat.le_refl _) (.int .i64 x)).setCell (p := ⟨w.heap.size, 1, none⟩) (Nat.le_refl _) (.int .i64 y)).setCell (p := ⟨w.heap.size, 2, none⟩) (Nat.le_refl _) (.int .i64 z))
      go_wp2
      refine bodyPost_ret (v := .tuple #[.agg #[.int .i64 x, .int .i64 y, .int .i64 z], .slice Aw m c', .int .i64 u]) (by simp [results, Try.results14, go_sem, d0, d1, d2]) rfl ?_
      first
        | exact ⟨x, y, z, Aw, m, c', zs, u, rfl, Hl.out, hm1, hmc, Hcm.out, hub.1, hub.2, OG.out, BG.out⟩
        | ((repeat apply Exists.intro); exact ⟨rfl, Hl.out, hm1, hmc, Hcm.out, hub.1, hub.2, OG.out, BG.out⟩)
  · skip
    go_wp2_with (go_at_call 22; clear hw3; refine (specCntB_any x y z Aw m c' zs w3 Hl.out Hmc.out Hcm.out (own_intsA O3.out)).mono ?_; rintro e w4 ⟨rfl, hb4⟩; rw [HC0.out]; have R4 := Lib.hid (R3.out.below hb4 (by omega)); have C4 : Hid (CM w1 w4 g) := C3.out.step hb4; have M4 := Lib.hid (M3q.out.below hb4 (by omega)); have O4 := Lib.hid (O3.out.below hb4); have z4 : w3.heap.size ≤ w4.heap.size := hb4.size; clear hb4 q0 q1 q2 R3 C3 M3q O3)
    refine (below_cm w4 g _ _ (by omega) (CM.of C4.out.1)).mono ?_
    rintro e w5 ⟨ix, rfl, hix, hc5, -⟩
    have R5 := Lib.hid (R4.out.cm hc5 (by omega)); have C5 := Lib.hid (C4.out.trans hc5); have M5 := Lib.hid (M4.out.cm hc5 (by omega)); have O5 := Lib.hid (O4.out.grown_lt hc5.2 (fun q hq => by injection hq with hq; omega))
    have z5 : w4.heap.size ≤ w5.heap.size := hc5.2.size
    clear hc5 R4 C4 M4 O4
    go_wp2_with fail
    refine (once_cm w5 g _ _ (CM.of C5.out.1)).mono ?_
    rintro e w6 ⟨ob, rfl, hc6, -⟩
    have R6 := Lib.hid (R5.out.cm hc6 (by omega)); have C6 := Lib.hid (C5.out.trans hc6); have M6 := Lib.hid (M5.out.cm hc6 (by omega)); have O6 := Lib.hid (O5.out.grown_lt hc6.2 (fun q hq => by injection hq with hq; omega))
    have z6 : w5.heap.size ≤ w6.heap.size := hc6.2.size
    clear hc6 R5 C5 M5 O5
    cases ob
    · skip
      obtain ⟨a0, a1, a2, _, _, _⟩ := M6.out.cells
      have RG := Lib.hid (R6.out.put x y z)
      obtain ⟨d0, d1, d2, _, _, _⟩ := RG.out.cells
      obtain ⟨b0, b1, b2, g0, g1, g2⟩ := R6.out.cells
      have OG := Lib.hid (own_base1 (own_put3 O6.out (show w.heap.size < w1.heap.size by omega) (.int .i64 x) (.int .i64 y) (.int .i64 z)) (show w.heap.size ≤ w1.heap.size by omega))
      have BI := Lib.hid (B1.out.trans (C6.out.2.below (B := w.heap.size) (by omega) (by omega)))
      have BG := Lib.hid (((BI.out.setCell (p := ⟨w.heap.size, 0, none⟩) (Nat.le_refl _) (.int .i64 x)).setCell (p := ⟨w.heap.size, 1, none⟩) (Nat.le_refl _) (.int .i64 y)).setCell (p := ⟨w.heap.size, 2, none⟩) (Nat.le_refl _) (.int .i64 z))
      go_wp2
      refine bodyPost_ret (v := .tuple #[.agg #[.int .i64 x, .int .i64 y, .int .i64 z], .slice Aw m c', .int .i64 (ix : Int)]) (by simp [results, Try.results14, go_sem, d0, d1, d2]) rfl ?_
      first
        | exact ⟨x, y, z, Aw, m, c', zs, (ix : Int), rfl, Hl.out, hm1, hmc, Hcm.out, by omega, by omega, OG.out, BG.out⟩
        | ((repeat apply Exists.intro); exact ⟨rfl, Hl.out, hm1, hmc, Hcm.out, by omega, by omega, OG.out, BG.out⟩)
    · skip
      go_wp2_with fail
      refine (int_cmB w6 g 4 4 [-1, 1073741824, 1073741823, 9223372036854775807] _ (CM.of C6.out.1) rfl (by omega) (by omega)).mono ?_
      rintro e w7 ⟨u, hu, rfl, hc7, -⟩
      have R7 := Lib.hid (R6.out.cm hc7 (by omega)); have C7 := Lib.hid (C6.out.trans hc7); have M7 := Lib.hid (M6.out.cm hc7 (by omega)); have O7 := Lib.hid (O6.out.grown_lt hc7.2 (fun q hq => by injection hq with hq; omega))
      have z7 : w6.heap.size ≤ w7.heap.size := hc7.2.size
      clear hc7 R6 C6 M6 O6
      have hub : -1 ≤ u ∧ u ≤ 9223372036854775807 := by simp at hu; omega
      clear hu
      obtain ⟨a0, a1, a2, _, _, _⟩ := M7.out.cells
      have RG := Lib.hid (R7.out.put x y z)
      obtain ⟨d0, d1, d2, _, _, _⟩ := RG.out.cells
      obtain ⟨b0, b1, b2, g0, g1, g2⟩ := R7.out.cells
      have OG := Lib.hid (own_base1 (own_put3 O7.out (show w.heap.size < w1.heap.size by omega) (.int .i64 x) (.int .i64 y) (.int .i64 z)) (show w.heap.size ≤ w1.heap.size by omega))
      have BI := Lib.hid (B1.out.trans (C7.out.2.below (B := w.heap.size) (by omega) (by omega)))
      have BG := Lib.hid (((BI.out.setCell (p := ⟨w.heap.size, 0, none⟩) (Nat.le_refl _) (.int .i64 x)).setCell (p := ⟨w.heap.size, 1, none⟩) (Nat.le_refl _) (.int .i64 y)).setCell (p := ⟨w.heap.size, 2, none⟩) (Nat.le_refl _) (.int .i64 z))
      go_wp2
      refine bodyPost_ret (v := .tuple #[.agg #[.int .i64 x, .int .i64 y, .int .i64 z], .slice Aw m c', .int .i64 u]) (by simp [results, Try.results14, go_sem, d0, d1, d2]) rfl ?_
      first
        | exact ⟨x, y, z, Aw, m, c', zs, u, rfl, Hl.out, hm1, hmc, Hcm.out, hub.1, hub.2, OG.out, BG.out⟩
        | ((repeat apply Exists.intro); exact ⟨rfl, Hl.out, hm1, hmc, Hcm.out, hub.1, hub.2, OG.out, BG.out⟩)

set_option maxRecDepth 100000 in
set_option maxHeartbeats 3200000 in
theorem drawWid_any (A : Option Addr) (n c : Nat) (bs : List Int) (w : World) (hn : bs.length = n) (hm : n ≤ maxLen) (h : Bytes w A bs) (wf : ∀ z ∈ bs, (Lit.int .u8 z).wf = true) :
    Calls Try.prog 30 #[.slice A n c] w fun e w' => ∃ x y z Aw m c zs i, e = .returned (.tuple #[.agg #[.int .i64 x, .int .i64 y, .int .i64 z], .slice Aw m c, .int .i64 i]) ∧ zs.length = m ∧ m ≤ 12 ∧ m ≤ c ∧ c ≤ maxLen ∧ -1 ≤ i ∧ i ≤ 301 ∧ Own w' w.heap.size (.slice Aw m c) zs ∧ Below w.heap.size w w' := by
  obtain ⟨wa, hwa⟩ : ∃ wa, w.alloc (.cells #[.int .i64 0, .int .i64 0, .int .i64 0] 24) = wa := ⟨_, rfl⟩
  have hba : Below w.heap.size w wa := by rw [← hwa]; exact below_new _ _
  have RA : M3 wa w.heap.size 0 0 0 := by rw [← hwa]; exact M3.new w 0 0 0
  have za : w.heap.size < wa.heap.size := RA.lt
  have BA := Lib.hid hba; have RA := Lib.hid RA; have Hn := Lib.hid hn; have Hwf := Lib.hid wf
  have HA : Hid (Bytes wa A bs) := fun hp => by
    obtain ⟨ad, e, hc⟩ := h hp
    exact ⟨ad, e, fun j hj => (hba.cell (World.block_lt_of_cell? _ _ (hc j hj))).trans (hc j hj)⟩
  clear hba hn wf h
  go_enter Try.func30, Try.ntmps30
  go_wp2_with fail
  clear hwa
  refine (l01New_any A n c bs wa Hn.out hm HA.out Hwf.out).mono ?_
  rintro e w1 ⟨rfl, hc1, hb1, hs1⟩
  have R1 := Lib.hid (RA.out.below hb1 za); have HC1 := Lib.hid hc1
  have B1 := Lib.hid (BA.out.trans (hb1.mono (by omega)))
  have hs1' : w1.heap.size = wa.heap.size + 1 := hs1
  have z1 : wa.heap.size < w1.heap.size := by omega
  clear hc1 hb1 hs1 hs1' BA HA
  obtain ⟨g, hg⟩ : ∃ g, wa.heap.size = g := ⟨_, rfl⟩
  rw [hg] at za z1 HC1 ⊢
  clear hg
  go_wp2_with fail
  refine (l4Both_any g w1 HC1.out).mono ?_
  rintro e w2 ⟨x, y, z, Aw, m, c', zs, rfl, hl, hm1, hmc, hcm, hO2, hc2⟩
  have R2 := Lib.hid (R1.out.cm hc2 (by omega)); have C2 := Lib.hid hc2; have O2 := Lib.hid hO2; have Hl := Lib.hid hl; have Hcm := Lib.hid hcm
  have z2 : w1.heap.size ≤ w2.heap.size := hc2.2.size
  clear hc2 hO2 hl hcm R1
  obtain ⟨w3, hw3⟩ : ∃ w3, w2.alloc (.cells #[.int .i64 x, .int .i64 y, .int .i64 z] 24) = w3 := ⟨_, rfl⟩
  have M3' : M3 w3 w2.heap.size x y z := by rw [← hw3]; exact M3.new w2 _ _ _
  have hb3 : Below w2.heap.size w2 w3 := by rw [← hw3]; exact below_new _ _
  have R3 := Lib.hid (R2.out.below hb3 R2.out.lt); have C3 : Hid (CM w1 w3 g) := C2.out.step hb3; have O3 := Lib.hid (O2.out.below hb3)
  have z3 : w2.heap.size < w3.heap.size := M3'.lt
  have M3q := Lib.hid M3'
  clear hb3 R2 C2 M3' O2
  have hmx : Try.prog.follows .mixedOrders = true := by kernel_rfl
  have KEY : Hid (∀ Av nv ys, Own w3 w1.heap.size (.slice Av nv c') ys → Own w3.drew w1.heap.size (.slice Av nv c') ys) := fun _ _ _ h => h
  by_cases h12 : 12 < m
  · obtain ⟨ad, rfl⟩ := ints_some (own_intsA O3.out) (by rw [Hl.out]; omega)
    have OT := Lib.hid (own_take O3.out Hl.out (k := 12) (by omega) ⟨ad, rfl⟩)
    have LT : Hid ((zs.take 12).length = 12) := by show _ = _; rw [List.length_take, Hl.out]; omega
    have hc12 : 12 ≤ c' := by omega
    have hca : ¬ c' = 0 := by omega
    go_wp2
    obtain ⟨q0, q1, q2, _, _, _⟩ := M3q.out.cells
    refine wp_region_plan (.take 0 (.take 1 (.take 2 (.one 3 (.one 4 (.one 5 (.one 6 (.one 7 .done)))))))) (fun w' => w'.cell? ⟨w2.heap.size, 0, none⟩ = some (.int .i64 x) ∧ w'.cell? ⟨w2.heap.size, 1, none⟩ = some (.int .i64 y) ∧ w'.cell? ⟨w2.heap.size, 2, none⟩ = some (.int .i64 z)) hmx (by kernel_rfl) (by kernel_rfl) (by intro c a d v w h; cases d <;> exact h) ⟨q0, q1, q2⟩ ?_
    iterate 3 (refine plan_quiet rfl (by rfl) (v := ?_) ?_ ?_; rotate_left; (intro w1 hSw; (try dsimp only at hSw); go_simp; try (with_reducible rfl)); (try simp only [Act.put, List.setIfInBounds_toArray, List.set_cons_zero, List.set_cons_succ]))
    obtain ⟨wd, hwd⟩ : ∃ v, w3.drew = v := ⟨_, rfl⟩
    have Rd : Hid (M3 wd w.heap.size 0 0 0) := by show M3 _ _ _ _ _; rw [← hwd]; exact R3.out
    have Md : Hid (M3 wd w2.heap.size x y z) := by show M3 _ _ _ _ _; rw [← hwd]; exact M3q.out
    have Cd : Hid (CM w1 wd g) := by show CM _ _ _; rw [← hwd]; exact C3.out.drew
    have Od : Hid (Own wd w1.heap.size (.slice (some ad) 12 c') (zs.take 12)) := by show Own _ _ _ _; rw [← hwd]; exact KEY.out _ _ _ OT.out
    have zd : w2.heap.size < wd.heap.size := by rw [← hwd]; exact z3
    rw [hwd]
    clear hwd q0 q1 q2 R3 M3q C3 O3 OT KEY hw3
    refine plan_step rfl (fun K hK => ?_)
    rw [if_pos (by rfl)]
    go_simp
    obtain ⟨wl, hwl⟩ : ∃ v, wd.alloc (.cells #[.int .i64 60, .int .i64 40, .int .i64 20, .int .i64 100, .int .i64 0, .int .i64 (-1), .int .i64 300, .int .i64 301] 3) = v := ⟨_, rfl⟩
    have bl : Below wd.heap.size wd wl := by rw [← hwl]; exact below_new _ _
    have Ml := Lib.hid (Md.out.below bl Md.out.lt)
    rw [hwl]
    refine hK.out _ _ (by obtain ⟨q0, q1, q2, _, _, _⟩ := Ml.out.cells; exact ⟨q0, q1, q2⟩) ?_
    clear hK K bl
    refine plan_step rfl (fun K hK => ?_)
    rw [if_pos (by rfl)]
    go_simp
    rw [← hwl]
    refine (int_cmB wd g 8 8 [60, 40, 20, 100, 0, -1, 300, 301] _ (CM.of Cd.out.1) rfl (by omega) (by omega)).mono ?_
    rintro e w4 ⟨u, hu, rfl, hc4, -⟩
    have hub : -1 ≤ u ∧ u ≤ 301 := by simp at hu; omega
    have R4 := Lib.hid (Rd.out.cm hc4 (by omega)); have C4 := Lib.hid (Cd.out.trans hc4); have M4 := Lib.hid (Md.out.cm hc4 (by omega)); have O4 := Lib.hid (Od.out.grown_lt hc4.2 (fun q hq => by injection hq with hq; omega))
    have z4 : wd.heap.size ≤ w4.heap.size := hc4.2.size
    have HU := Lib.hid hub
    clear hu hub hc4 Rd Cd Md Od Ml hwl
    refine hK.out _ _ (by obtain ⟨q0, q1, q2, _, _, _⟩ := M4.out.cells; exact ⟨q0, q1, q2⟩) ?_
    clear hK K
    obtain ⟨b0, b1, b2, g0, g1, g2⟩ := R4.out.cells
    refine plan_step rfl (fun K hK => ?_)
    rw [if_pos (by rfl)]
    go_simp
    have RG := Lib.hid (R4.out.put x y z)
    have MG := Lib.hid (((M4.out.other ⟨w.heap.size, 0, none⟩ (.int .i64 x) (by show w2.heap.size ≠ w.heap.size; omega)).other ⟨w.heap.size, 1, none⟩ (.int .i64 y) (by show w2.heap.size ≠ w.heap.size; omega)).other ⟨w.heap.size, 2, none⟩ (.int .i64 z) (by show w2.heap.size ≠ w.heap.size; omega))
    have OG := Lib.hid (own_base1 (own_put3 O4.out (show w.heap.size < w1.heap.size by omega) (.int .i64 x) (.int .i64 y) (.int .i64 z)) (show w.heap.size ≤ w1.heap.size by omega))
    have BI := Lib.hid (B1.out.trans (C4.out.2.below (B := w.heap.size) (by omega) (by omega)))
    have BG := Lib.hid (((BI.out.setCell (p := ⟨w.heap.size, 0, none⟩) (Nat.le_refl _) (.int .i64 x)).setCell (p := ⟨w.heap.size, 1, none⟩) (Nat.le_refl _) (.int .i64 y)).setCell (p := ⟨w.heap.size, 2, none⟩) (Nat.le_refl _) (.int .i64 z))
    clear b0 b1 b2 g0 g1 g2 R4 M4 O4 C4 BI
    obtain ⟨d0, d1, d2, _, _, _⟩ := RG.out.cells
    have SG := Lib.hid MG.out.cells
    refine hK.out _ _ (by obtain ⟨q0, q1, q2, _, _, _⟩ := SG.out; exact ⟨q0, q1, q2⟩) ?_
    clear hK K
    refine plan_step rfl (fun K hK => ?_)
    rw [if_pos (by rfl)]
    go_simp
    refine hK.out _ _ (by obtain ⟨q0, q1, q2, _, _, _⟩ := SG.out; exact ⟨q0, q1, q2⟩) ?_
    clear hK K
    refine plan_step rfl (fun K hK => ?_)
    rw [if_pos (by rfl)]
    go_simp
    refine hK.out _ _ (by obtain ⟨q0, q1, q2, _, _, _⟩ := SG.out; exact ⟨q0, q1, q2⟩) ?_
    clear hK K
    refine plan_end ?_
    go_wp2
    refine bodyPost_ret (v := .tuple #[.agg #[.int .i64 x, .int .i64 y, .int .i64 z], .slice (some ad) 12 c', .int .i64 u]) (by simp [results, Try.results30, go_sem, d0, d1, d2]) rfl ?_
    first
      | exact ⟨x, y, z, (some ad), 12, c', zs.take 12, u, rfl, LT.out, by omega, by omega, Hcm.out, HU.out.1, HU.out.2, OG.out, BG.out⟩
      | ((repeat apply Exists.intro); exact ⟨rfl, LT.out, by omega, by omega, Hcm.out, HU.out.1, HU.out.2, OG.out, BG.out⟩)
  · have OT := O3
    have LT := Hl
    go_wp2
    obtain ⟨q0, q1, q2, _, _, _⟩ := M3q.out.cells
    refine wp_region_plan (.take 0 (.take 1 (.take 2 (.one 3 (.one 4 (.one 5 (.one 6 (.one 7 .done)))))))) (fun w' => w'.cell? ⟨w2.heap.size, 0, none⟩ = some (.int .i64 x) ∧ w'.cell? ⟨w2.heap.size, 1, none⟩ = some (.int .i64 y) ∧ w'.cell? ⟨w2.heap.size, 2, none⟩ = some (.int .i64 z)) hmx (by kernel_rfl) (by kernel_rfl) (by intro c a d v w h; cases d <;> exact h) ⟨q0, q1, q2⟩ ?_
    iterate 3 (refine plan_quiet rfl (by rfl) (v := ?_) ?_ ?_; rotate_left; (intro w1 hSw; (try dsimp only at hSw); go_simp; try (with_reducible rfl)); (try simp only [Act.put, List.setIfInBounds_toArray, List.set_cons_zero, List.set_cons_succ]))
    obtain ⟨wd, hwd⟩ : ∃ v, w3.drew = v := ⟨_, rfl⟩
    have Rd : Hid (M3 wd w.heap.size 0 0 0) := by show M3 _ _ _ _ _; rw [← hwd]; exact R3.out
    have Md : Hid (M3 wd w2.heap.size x y z) := by show M3 _ _ _ _ _; rw [← hwd]; exact M3q.out
    have Cd : Hid (CM w1 wd g) := by show CM _ _ _; rw [← hwd]; exact C3.out.drew
    have Od : Hid (Own wd w1.heap.size (.slice Aw m c') (zs)) := by show Own _ _ _ _; rw [← hwd]; exact KEY.out _ _ _ OT.out
    have zd : w2.heap.size < wd.heap.size := by rw [← hwd]; exact z3
    rw [hwd]
    clear hwd q0 q1 q2 R3 M3q C3 O3 OT KEY hw3
    refine plan_step rfl (fun K hK => ?_)
    rw [if_pos (by rfl)]
    go_simp
    obtain ⟨wl, hwl⟩ : ∃ v, wd.alloc (.cells #[.int .i64 60, .int .i64 40, .int .i64 20, .int .i64 100, .int .i64 0, .int .i64 (-1), .int .i64 300, .int .i64 301] 3) = v := ⟨_, rfl⟩
    have bl : Below wd.heap.size wd wl := by rw [← hwl]; exact below_new _ _
    have Ml := Lib.hid (Md.out.below bl Md.out.lt)
    rw [hwl]
    refine hK.out _ _ (by obtain ⟨q0, q1, q2, _, _, _⟩ := Ml.out.cells; exact ⟨q0, q1, q2⟩) ?_
    clear hK K bl
    refine plan_step rfl (fun K hK => ?_)
    rw [if_pos (by rfl)]
    go_simp
    rw [← hwl]
    refine (int_cmB wd g 8 8 [60, 40, 20, 100, 0, -1, 300, 301] _ (CM.of Cd.out.1) rfl (by omega) (by omega)).mono ?_
    rintro e w4 ⟨u, hu, rfl, hc4, -⟩
    have hub : -1 ≤ u ∧ u ≤ 301 := by simp at hu; omega
    have R4 := Lib.hid (Rd.out.cm hc4 (by omega)); have C4 := Lib.hid (Cd.out.trans hc4); have M4 := Lib.hid (Md.out.cm hc4 (by omega)); have O4 := Lib.hid (Od.out.grown_lt hc4.2 (fun q hq => by injection hq with hq; omega))
    have z4 : wd.heap.size ≤ w4.heap.size := hc4.2.size
    have HU := Lib.hid hub
    clear hu hub hc4 Rd Cd Md Od Ml hwl
    refine hK.out _ _ (by obtain ⟨q0, q1, q2, _, _, _⟩ := M4.out.cells; exact ⟨q0, q1, q2⟩) ?_
    clear hK K
    obtain ⟨b0, b1, b2, g0, g1, g2⟩ := R4.out.cells
    refine plan_step rfl (fun K hK => ?_)
    rw [if_pos (by rfl)]
    go_simp
    have RG := Lib.hid (R4.out.put x y z)
    have MG := Lib.hid (((M4.out.other ⟨w.heap.size, 0, none⟩ (.int .i64 x) (by show w2.heap.size ≠ w.heap.size; omega)).other ⟨w.heap.size, 1, none⟩ (.int .i64 y) (by show w2.heap.size ≠ w.heap.size; omega)).other ⟨w.heap.size, 2, none⟩ (.int .i64 z) (by show w2.heap.size ≠ w.heap.size; omega))
    have OG := Lib.hid (own_base1 (own_put3 O4.out (show w.heap.size < w1.heap.size by omega) (.int .i64 x) (.int .i64 y) (.int .i64 z)) (show w.heap.size ≤ w1.heap.size by omega))
    have BI := Lib.hid (B1.out.trans (C4.out.2.below (B := w.heap.size) (by omega) (by omega)))
    have BG := Lib.hid (((BI.out.setCell (p := ⟨w.heap.size, 0, none⟩) (Nat.le_refl _) (.int .i64 x)).setCell (p := ⟨w.heap.size, 1, none⟩) (Nat.le_refl _) (.int .i64 y)).setCell (p := ⟨w.heap.size, 2, none⟩) (Nat.le_refl _) (.int .i64 z))
    clear b0 b1 b2 g0 g1 g2 R4 M4 O4 C4 BI
    obtain ⟨d0, d1, d2, _, _, _⟩ := RG.out.cells
    have SG := Lib.hid MG.out.cells
    refine hK.out _ _ (by obtain ⟨q0, q1, q2, _, _, _⟩ := SG.out; exact ⟨q0, q1, q2⟩) ?_
    clear hK K
    refine plan_step rfl (fun K hK => ?_)
    rw [if_pos (by rfl)]
    go_simp
    refine hK.out _ _ (by obtain ⟨q0, q1, q2, _, _, _⟩ := SG.out; exact ⟨q0, q1, q2⟩) ?_
    clear hK K
    refine plan_step rfl (fun K hK => ?_)
    rw [if_pos (by rfl)]
    go_simp
    refine hK.out _ _ (by obtain ⟨q0, q1, q2, _, _, _⟩ := SG.out; exact ⟨q0, q1, q2⟩) ?_
    clear hK K
    refine plan_end ?_
    go_wp2
    refine bodyPost_ret (v := .tuple #[.agg #[.int .i64 x, .int .i64 y, .int .i64 z], .slice Aw m c', .int .i64 u]) (by simp [results, Try.results30, go_sem, d0, d1, d2]) rfl ?_
    first
      | exact ⟨x, y, z, Aw, m, c', zs, u, rfl, LT.out, by omega, by omega, Hcm.out, HU.out.1, HU.out.2, OG.out, BG.out⟩
      | ((repeat apply Exists.intro); exact ⟨rfl, LT.out, by omega, by omega, Hcm.out, HU.out.1, HU.out.2, OG.out, BG.out⟩)
end Go.Proofs.Ytddkedinkgnboaa
