/-
  DrawGreedyBreaking, DrawBestBreaking, DrawLineKind: whatever the bytes, a measure of three numbers and at most 42 words, in memory of their own. No condition but that the bytes are bytes.
-/
import Derived.Test.YtddkedinkgnboaaDrawW
namespace Go.Proofs.Ytddkedinkgnboaa
open Go.RowKit
set_option linter.unusedVariables false

set_option maxRecDepth 100000 in
set_option maxHeartbeats 3200000 in
theorem drawGreedy_any (A : Option Addr) (n c : Nat) (bs : List Int) (w : World) (hn : bs.length = n) (hm : n ≤ maxLen) (h : Bytes w A bs) (wf : ∀ z ∈ bs, (Lit.int .u8 z).wf = true) :
    Calls Try.prog 23 #[.slice A n c] w fun e w' => ∃ x y z Aw m c zs, e = .returned (.tuple #[.agg #[.int .i64 x, .int .i64 y, .int .i64 z], .slice Aw m c]) ∧ zs.length = m ∧ m ≤ 42 ∧ m ≤ c ∧ c ≤ maxLen ∧ Own w' w.heap.size (.slice Aw m c) zs ∧ Below w.heap.size w w' := by
  obtain ⟨wa, hwa⟩ : ∃ wa, w.alloc (.cells #[.int .i64 0, .int .i64 0, .int .i64 0] 24) = wa := ⟨_, rfl⟩
  have hba : Below w.heap.size w wa := by rw [← hwa]; exact below_new _ _
  have RA : M3 wa w.heap.size 0 0 0 := by rw [← hwa]; exact M3.new w 0 0 0
  have za : w.heap.size < wa.heap.size := RA.lt
  have BA := Lib.hid hba; have RA := Lib.hid RA; have Hn := Lib.hid hn; have Hwf := Lib.hid wf
  have HA : Hid (Bytes wa A bs) := fun hp => by
    obtain ⟨ad, e, hc⟩ := h hp
    exact ⟨ad, e, fun j hj => (hba.cell (World.block_lt_of_cell? _ _ (hc j hj))).trans (hc j hj)⟩
  clear hba hn wf h
  go_enter Try.func23, Try.ntmps23
  go_wp2_with fail
  clear hwa
  refine (l01New_any A n c bs wa Hn.out hm HA.out Hwf.out).mono ?_
  rintro e w1 ⟨rfl, hc1, hb1, hs1⟩
  have R1 := Lib.hid (RA.out.below hb1 za); have HC1 := Lib.hid hc1
  have B1 := Lib.hid (BA.out.trans (hb1.mono (by omega)))
  have hs1' : w1.heap.size = wa.heap.size + 1 := hs1
  have z1 : wa.heap.size < w1.heap.size := by omega
  clear hc1 hb1 hs1 hs1' BA HA
  obtain ⟨g, hg⟩ : ∃ g, wa.heap.size = g := ⟨_, rfl⟩
  rw [hg] at za z1 HC1 ⊢
  clear hg
  go_wp2_with fail
  refine (l4Both_any g w1 HC1.out).mono ?_
  rintro e w2 ⟨x, y, z, Aw, m, c', zs, rfl, hl, hm1, hmc, hcm, hO2, hc2⟩
  have R2 := Lib.hid (R1.out.cm hc2 (by omega)); have C2 := Lib.hid hc2; have O2 := Lib.hid hO2; have Hl := Lib.hid hl; have Hcm := Lib.hid hcm
  have z2 : w1.heap.size ≤ w2.heap.size := hc2.2.size
  clear hc2 hO2 hl hcm R1
  have RG := Lib.hid (R2.out.put x y z)
  obtain ⟨d0, d1, d2, _, _, _⟩ := RG.out.cells
  obtain ⟨b0, b1, b2, g0, g1, g2⟩ := R2.out.cells
  have OG := Lib.hid (own_base1 (own_put3 O2.out (show w.heap.size < w1.heap.size by omega) (.int .i64 x) (.int .i64 y) (.int .i64 z)) (show w.heap.size ≤ w1.heap.size by omega))
  have BI := Lib.hid (B1.out.trans (C2.out.2.below (B := w.heap.size) (by omega) (by omega)))
  have BG := Lib.hid (((BI.out.setCell (p := ⟨w.heap.size, 0, none⟩) (Nat.le_refl _) (.int .i64 x)).setCell (p := ⟨w.heap.size, 1, none⟩) (Nat.le_refl _) (.int .i64 y)).setCell (p := ⟨w.heap.size, 2, none⟩) (Nat.le_refl _) (.int .i64 z))
  go_wp2
  refine bodyPost_ret (v := .tuple #[.agg #[.int .i64 x, .int .i64 y, .int .i64 z], .slice Aw m c']) (by simp [results, Try.results23, go_sem, d0, d1, d2]) rfl ?_
  first
    | exact ⟨x, y, z, Aw, m, c', zs, rfl, Hl.out, hm1, hmc, Hcm.out, OG.out, BG.out⟩
    | ((repeat apply Exists.intro); exact ⟨rfl, Hl.out, hm1, hmc, Hcm.out, OG.out, BG.out⟩)

set_option maxRecDepth 100000 in
set_option maxHeartbeats 3200000 in
theorem drawBest_any (A : Option Addr) (n c : Nat) (bs : List Int) (w : World) (hn : bs.length = n) (hm : n ≤ maxLen) (h : Bytes w A bs) (wf : ∀ z ∈ bs, (Lit.int .u8 z).wf = true) :
    Calls Try.prog 26 #[.slice A n c] w fun e w' => ∃ x y z Aw m c zs, e = .returned (.tuple #[.agg #[.int .i64 x, .int .i64 y, .int .i64 z], .slice Aw m c]) ∧ zs.length = m ∧ m ≤ 42 ∧ m ≤ c ∧ c ≤ maxLen ∧ Own w' w.heap.size (.slice Aw m c) zs ∧ Below w.heap.size w w' := by
  obtain ⟨wa, hwa⟩ : ∃ wa, w.alloc (.cells #[.int .i64 0, .int .i64 0, .int .i64 0] 24) = wa := ⟨_, rfl⟩
  have hba : Below w.heap.size w wa := by rw [← hwa]; exact below_new _ _
  have RA : M3 wa w.heap.size 0 0 0 := by rw [← hwa]; exact M3.new w 0 0 0
  have za : w.heap.size < wa.heap.size := RA.lt
  have BA := Lib.hid hba; have RA := Lib.hid RA; have Hn := Lib.hid hn; have Hwf := Lib.hid wf
  have HA : Hid (Bytes wa A bs) := fun hp => by
    obtain ⟨ad, e, hc⟩ := h hp
    exact ⟨ad, e, fun j hj => (hba.cell (World.block_lt_of_cell? _ _ (hc j hj))).trans (hc j hj)⟩
  clear hba hn wf h
  go_enter Try.func26, Try.ntmps26
  go_wp2_with fail
  clear hwa
  refine (l01New_any A n c bs wa Hn.out hm HA.out Hwf.out).mono ?_
  rintro e w1 ⟨rfl, hc1, hb1, hs1⟩
  have R1 := Lib.hid (RA.out.below hb1 za); have HC1 := Lib.hid hc1
  have B1 := Lib.hid (BA.out.trans (hb1.mono (by omega)))
  have hs1' : w1.heap.size = wa.heap.size + 1 := hs1
  have z1 : wa.heap.size < w1.heap.size := by omega
  clear hc1 hb1 hs1 hs1' BA HA
  obtain ⟨g, hg⟩ : ∃ g, wa.heap.size = g := ⟨_, rfl⟩
  rw [hg] at za z1 HC1 ⊢
  clear hg
  go_wp2_with fail
  refine (l4Both_any g w1 HC1.out).mono ?_
  rintro e w2 ⟨x, y, z, Aw, m, c', zs, rfl, hl, hm1, hmc, hcm, hO2, hc2⟩
  have R2 := Lib.hid (R1.out.cm hc2 (by omega)); have C2 := Lib.hid hc2; have O2 := Lib.hid hO2; have Hl := Lib.hid hl; have Hcm := Lib.hid hcm
  have z2 : w1.heap.size ≤ w2.heap.size := hc2.2.size
  clear hc2 hO2 hl hcm R1
  have RG := Lib.hid (R2.out.put x y z)
  obtain ⟨d0, d1, d2, _, _, _⟩ := RG.out.cells
  obtain ⟨b0, b1, b2, g0, g1, g2⟩ := R2.out.cells
  have OG := Lib.hid (own_base1 (own_put3 O2.out (show w.heap.size < w1.heap.size by omega) (.int .i64 x) (.int .i64 y) (.int .i64 z)) (show w.heap.size ≤ w1.heap.size by omega))
  have BI := Lib.hid (B1.out.trans (C2.out.2.below (B := w.heap.size) (by omega) (by omega)))
  have BG := Lib.hid (((BI.out.setCell (p := ⟨w.heap.size, 0, none⟩) (Nat.le_refl _) (.int .i64 x)).setCell (p := ⟨w.heap.size, 1, none⟩) (Nat.le_refl _) (.int .i64 y)).setCell (p := ⟨w.heap.size, 2, none⟩) (Nat.le_refl _) (.int .i64 z))
  go_wp2
  refine bodyPost_ret (v := .tuple #[.agg #[.int .i64 x, .int .i64 y, .int .i64 z], .slice Aw m c']) (by simp [results, Try.results26, go_sem, d0, d1, d2]) rfl ?_
  first
    | exact ⟨x, y, z, Aw, m, c', zs, rfl, Hl.out, hm1, hmc, Hcm.out, OG.out, BG.out⟩
    | ((repeat apply Exists.intro); exact ⟨rfl, Hl.out, hm1, hmc, Hcm.out, OG.out, BG.out⟩)

end Go.Proofs.Ytddkedinkgnboaa
