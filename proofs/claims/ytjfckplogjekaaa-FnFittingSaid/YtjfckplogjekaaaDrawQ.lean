/-
  DrawIsFull, DrawPlacesOf, DrawSpreadLine, DrawWidthsOf: whatever the bytes, a measure of three numbers and a line of at most 122. No condition but that the bytes are bytes.
-/
import Derived.Test.YtjfckplogjekaaaDrawP
namespace Go.Proofs.Ytjfckplogjekaaa
open Go.RowKit
set_option linter.unusedVariables false

set_option maxRecDepth 100000 in
set_option maxHeartbeats 1600000 in
theorem drawIsFull_any (A : Option Addr) (n c : Nat) (bs : List Int) (w : World) (hn : bs.length = n) (hm : n ≤ maxLen) (h : Bytes w A bs) (wf : ∀ z ∈ bs, (Lit.int .u8 z).wf = true) :
    Calls Try.prog 19 #[.slice A n c] w fun e w' => ∃ x y z gb m c zs, e = .returned (.tuple #[.agg #[.int .i64 x, .int .i64 y, .int .i64 z], .slice (some ⟨gb, 0, none⟩) m c]) ∧ zs.length = m ∧ m ≤ 122 ∧ m ≤ c ∧ c ≤ maxLen ∧ Own w' w.heap.size (.slice (some ⟨gb, 0, none⟩) m c) zs ∧ Below w.heap.size w w' := by
  obtain ⟨wa, hwa⟩ : ∃ wa, w.alloc (.cells #[.int .i64 0, .int .i64 0, .int .i64 0] 24) = wa := ⟨_, rfl⟩
  have hba : Below w.heap.size w wa := by rw [← hwa]; exact below_new _ _
  have RA : M3 wa w.heap.size 0 0 0 := by rw [← hwa]; exact M3.new w 0 0 0
  have za : w.heap.size < wa.heap.size := RA.lt
  have BA := Lib.hid hba; have RA := Lib.hid RA; have Hn := Lib.hid hn; have Hwf := Lib.hid wf
  have HA : Hid (Bytes wa A bs) := fun hp => by
    obtain ⟨ad, e, hc⟩ := h hp
    exact ⟨ad, e, fun j hj => (hba.cell (World.block_lt_of_cell? _ _ (hc j hj))).trans (hc j hj)⟩
  clear hba hn wf h
  go_enter Try.func19, Try.ntmps19
  go_wp2_with fail
  clear hwa
  refine (l01New_any A n c bs wa Hn.out hm HA.out Hwf.out).mono ?_
  rintro e w1 ⟨rfl, hc1, hb1, hs1⟩
  have R1 := Lib.hid (RA.out.below hb1 za); have HC1 := Lib.hid hc1; have HB1 := Lib.hid hb1; have HS1 := Lib.hid hs1
  clear hc1 hb1 hs1
  go_wp2_with fail
  refine (l3Both_any wa.heap.size w1 HC1.out).mono ?_
  rintro e w2 ⟨x, y, z, gb, m, c', zs, rfl, hl, hm1, hmc, hcm, hgb, hO2, hc2⟩
  have R2 := Lib.hid (R1.out.cm hc2 (by omega)); have O2 := Lib.hid hO2; have Hl := Lib.hid hl; have Hcm := Lib.hid hcm
  have B2 := Lib.hid (BA.out.trans ((cm_below HB1.out HS1.out hc2).mono (by omega)))
  have hgb1 : wa.heap.size + 1 ≤ gb := by have := HS1.out; omega
  have hw1 : w.heap.size < w1.heap.size := by have := HS1.out; omega
  obtain ⟨s0, s1, s2, f0, f1, f2⟩ := R2.out.cells
  have RG := Lib.hid (R2.out.put x y z)
  obtain ⟨d0, d1, d2, _, _, _⟩ := RG.out.cells
  have OG : Hid (Own (((w2.setCell ⟨w.heap.size, 0, none⟩ (.int .i64 x)).setCell ⟨w.heap.size, 1, none⟩ (.int .i64 y)).setCell ⟨w.heap.size, 2, none⟩ (.int .i64 z)) w.heap.size (.slice (some ⟨gb, 0, none⟩) m c') zs) :=
    own_base1 (((O2.out.grown_lt (grown_set (World.grownBy.refl w2 _) 0 _) (fun q hq => by injection hq with hq; subst hq; exact hw1)).grown_lt (grown_set (World.grownBy.refl _ _) 1 _) (fun q hq => by injection hq with hq; subst hq; exact hw1)).grown_lt (grown_set (World.grownBy.refl _ _) 2 _) (fun q hq => by injection hq with hq; subst hq; exact hw1)) (show w.heap.size ≤ w1.heap.size by omega)
  have BG := Lib.hid (((B2.out.setCell (p := ⟨w.heap.size, 0, none⟩) (Nat.le_refl _) (.int .i64 x)).setCell (p := ⟨w.heap.size, 1, none⟩) (Nat.le_refl _) (.int .i64 y)).setCell (p := ⟨w.heap.size, 2, none⟩) (Nat.le_refl _) (.int .i64 z))
  clear hO2 hl hcm hc2
  go_wp2
  exact bodyPost_ret (v := .tuple #[.agg #[.int .i64 x, .int .i64 y, .int .i64 z], .slice (some ⟨gb, 0, none⟩) m c']) (by simp [results, Try.results19, go_sem, d0, d1, d2]) rfl ⟨x, y, z, gb, m, c', zs, rfl, Hl.out, hm1, hmc, Hcm.out, OG.out, BG.out⟩

set_option maxRecDepth 100000 in
set_option maxHeartbeats 1600000 in
theorem drawPlaces_any (A : Option Addr) (n c : Nat) (bs : List Int) (w : World) (hn : bs.length = n) (hm : n ≤ maxLen) (h : Bytes w A bs) (wf : ∀ z ∈ bs, (Lit.int .u8 z).wf = true) :
    Calls Try.prog 28 #[.slice A n c] w fun e w' => ∃ x y z gb m c zs, e = .returned (.tuple #[.agg #[.int .i64 x, .int .i64 y, .int .i64 z], .slice (some ⟨gb, 0, none⟩) m c]) ∧ zs.length = m ∧ m ≤ 122 ∧ m ≤ c ∧ c ≤ maxLen ∧ Own w' w.heap.size (.slice (some ⟨gb, 0, none⟩) m c) zs ∧ Below w.heap.size w w' := by
  obtain ⟨wa, hwa⟩ : ∃ wa, w.alloc (.cells #[.int .i64 0, .int .i64 0, .int .i64 0] 24) = wa := ⟨_, rfl⟩
  have hba : Below w.heap.size w wa := by rw [← hwa]; exact below_new _ _
  have RA : M3 wa w.heap.size 0 0 0 := by rw [← hwa]; exact M3.new w 0 0 0
  have za : w.heap.size < wa.heap.size := RA.lt
  have BA := Lib.hid hba; have RA := Lib.hid RA; have Hn := Lib.hid hn; have Hwf := Lib.hid wf
  have HA : Hid (Bytes wa A bs) := fun hp => by
    obtain ⟨ad, e, hc⟩ := h hp
    exact ⟨ad, e, fun j hj => (hba.cell (World.block_lt_of_cell? _ _ (hc j hj))).trans (hc j hj)⟩
  clear hba hn wf h
  go_enter Try.func28, Try.ntmps28
  go_wp2_with fail
  clear hwa
  refine (l01New_any A n c bs wa Hn.out hm HA.out Hwf.out).mono ?_
  rintro e w1 ⟨rfl, hc1, hb1, hs1⟩
  have R1 := Lib.hid (RA.out.below hb1 za); have HC1 := Lib.hid hc1; have HB1 := Lib.hid hb1; have HS1 := Lib.hid hs1
  clear hc1 hb1 hs1
  go_wp2_with fail
  refine (l3Both_any wa.heap.size w1 HC1.out).mono ?_
  rintro e w2 ⟨x, y, z, gb, m, c', zs, rfl, hl, hm1, hmc, hcm, hgb, hO2, hc2⟩
  have R2 := Lib.hid (R1.out.cm hc2 (by omega)); have O2 := Lib.hid hO2; have Hl := Lib.hid hl; have Hcm := Lib.hid hcm
  have B2 := Lib.hid (BA.out.trans ((cm_below HB1.out HS1.out hc2).mono (by omega)))
  have hgb1 : wa.heap.size + 1 ≤ gb := by have := HS1.out; omega
  have hw1 : w.heap.size < w1.heap.size := by have := HS1.out; omega
  obtain ⟨s0, s1, s2, f0, f1, f2⟩ := R2.out.cells
  have RG := Lib.hid (R2.out.put x y z)
  obtain ⟨d0, d1, d2, _, _, _⟩ := RG.out.cells
  have OG : Hid (Own (((w2.setCell ⟨w.heap.size, 0, none⟩ (.int .i64 x)).setCell ⟨w.heap.size, 1, none⟩ (.int .i64 y)).setCell ⟨w.heap.size, 2, none⟩ (.int .i64 z)) w.heap.size (.slice (some ⟨gb, 0, none⟩) m c') zs) :=
    own_base1 (((O2.out.grown_lt (grown_set (World.grownBy.refl w2 _) 0 _) (fun q hq => by injection hq with hq; subst hq; exact hw1)).grown_lt (grown_set (World.grownBy.refl _ _) 1 _) (fun q hq => by injection hq with hq; subst hq; exact hw1)).grown_lt (grown_set (World.grownBy.refl _ _) 2 _) (fun q hq => by injection hq with hq; subst hq; exact hw1)) (show w.heap.size ≤ w1.heap.size by omega)
  have BG := Lib.hid (((B2.out.setCell (p := ⟨w.heap.size, 0, none⟩) (Nat.le_refl _) (.int .i64 x)).setCell (p := ⟨w.heap.size, 1, none⟩) (Nat.le_refl _) (.int .i64 y)).setCell (p := ⟨w.heap.size, 2, none⟩) (Nat.le_refl _) (.int .i64 z))
  clear hO2 hl hcm hc2
  go_wp2
  exact bodyPost_ret (v := .tuple #[.agg #[.int .i64 x, .int .i64 y, .int .i64 z], .slice (some ⟨gb, 0, none⟩) m c']) (by simp [results, Try.results28, go_sem, d0, d1, d2]) rfl ⟨x, y, z, gb, m, c', zs, rfl, Hl.out, hm1, hmc, Hcm.out, OG.out, BG.out⟩

set_option maxRecDepth 100000 in
set_option maxHeartbeats 1600000 in
theorem drawSpread_any (A : Option Addr) (n c : Nat) (bs : List Int) (w : World) (hn : bs.length = n) (hm : n ≤ maxLen) (h : Bytes w A bs) (wf : ∀ z ∈ bs, (Lit.int .u8 z).wf = true) :
    Calls Try.prog 30 #[.slice A n c] w fun e w' => ∃ x y z gb m c zs, e = .returned (.tuple #[.agg #[.int .i64 x, .int .i64 y, .int .i64 z], .slice (some ⟨gb, 0, none⟩) m c]) ∧ zs.length = m ∧ m ≤ 122 ∧ m ≤ c ∧ c ≤ maxLen ∧ Own w' w.heap.size (.slice (some ⟨gb, 0, none⟩) m c) zs ∧ Below w.heap.size w w' := by
  obtain ⟨wa, hwa⟩ : ∃ wa, w.alloc (.cells #[.int .i64 0, .int .i64 0, .int .i64 0] 24) = wa := ⟨_, rfl⟩
  have hba : Below w.heap.size w wa := by rw [← hwa]; exact below_new _ _
  have RA : M3 wa w.heap.size 0 0 0 := by rw [← hwa]; exact M3.new w 0 0 0
  have za : w.heap.size < wa.heap.size := RA.lt
  have BA := Lib.hid hba; have RA := Lib.hid RA; have Hn := Lib.hid hn; have Hwf := Lib.hid wf
  have HA : Hid (Bytes wa A bs) := fun hp => by
    obtain ⟨ad, e, hc⟩ := h hp
    exact ⟨ad, e, fun j hj => (hba.cell (World.block_lt_of_cell? _ _ (hc j hj))).trans (hc j hj)⟩
  clear hba hn wf h
  go_enter Try.func30, Try.ntmps30
  go_wp2_with fail
  clear hwa
  refine (l01New_any A n c bs wa Hn.out hm HA.out Hwf.out).mono ?_
  rintro e w1 ⟨rfl, hc1, hb1, hs1⟩
  have R1 := Lib.hid (RA.out.below hb1 za); have HC1 := Lib.hid hc1; have HB1 := Lib.hid hb1; have HS1 := Lib.hid hs1
  clear hc1 hb1 hs1
  go_wp2_with fail
  refine (l3Both_any wa.heap.size w1 HC1.out).mono ?_
  rintro e w2 ⟨x, y, z, gb, m, c', zs, rfl, hl, hm1, hmc, hcm, hgb, hO2, hc2⟩
  have R2 := Lib.hid (R1.out.cm hc2 (by omega)); have O2 := Lib.hid hO2; have Hl := Lib.hid hl; have Hcm := Lib.hid hcm
  have B2 := Lib.hid (BA.out.trans ((cm_below HB1.out HS1.out hc2).mono (by omega)))
  have hgb1 : wa.heap.size + 1 ≤ gb := by have := HS1.out; omega
  have hw1 : w.heap.size < w1.heap.size := by have := HS1.out; omega
  obtain ⟨s0, s1, s2, f0, f1, f2⟩ := R2.out.cells
  have RG := Lib.hid (R2.out.put x y z)
  obtain ⟨d0, d1, d2, _, _, _⟩ := RG.out.cells
  have OG : Hid (Own (((w2.setCell ⟨w.heap.size, 0, none⟩ (.int .i64 x)).setCell ⟨w.heap.size, 1, none⟩ (.int .i64 y)).setCell ⟨w.heap.size, 2, none⟩ (.int .i64 z)) w.heap.size (.slice (some ⟨gb, 0, none⟩) m c') zs) :=
    own_base1 (((O2.out.grown_lt (grown_set (World.grownBy.refl w2 _) 0 _) (fun q hq => by injection hq with hq; subst hq; exact hw1)).grown_lt (grown_set (World.grownBy.refl _ _) 1 _) (fun q hq => by injection hq with hq; subst hq; exact hw1)).grown_lt (grown_set (World.grownBy.refl _ _) 2 _) (fun q hq => by injection hq with hq; subst hq; exact hw1)) (show w.heap.size ≤ w1.heap.size by omega)
  have BG := Lib.hid (((B2.out.setCell (p := ⟨w.heap.size, 0, none⟩) (Nat.le_refl _) (.int .i64 x)).setCell (p := ⟨w.heap.size, 1, none⟩) (Nat.le_refl _) (.int .i64 y)).setCell (p := ⟨w.heap.size, 2, none⟩) (Nat.le_refl _) (.int .i64 z))
  clear hO2 hl hcm hc2
  go_wp2
  exact bodyPost_ret (v := .tuple #[.agg #[.int .i64 x, .int .i64 y, .int .i64 z], .slice (some ⟨gb, 0, none⟩) m c']) (by simp [results, Try.results30, go_sem, d0, d1, d2]) rfl ⟨x, y, z, gb, m, c', zs, rfl, Hl.out, hm1, hmc, Hcm.out, OG.out, BG.out⟩

set_option maxRecDepth 100000 in
set_option maxHeartbeats 1600000 in
theorem drawWidths_any (A : Option Addr) (n c : Nat) (bs : List Int) (w : World) (hn : bs.length = n) (hm : n ≤ maxLen) (h : Bytes w A bs) (wf : ∀ z ∈ bs, (Lit.int .u8 z).wf = true) :
    Calls Try.prog 32 #[.slice A n c] w fun e w' => ∃ x y z gb m c zs, e = .returned (.tuple #[.agg #[.int .i64 x, .int .i64 y, .int .i64 z], .slice (some ⟨gb, 0, none⟩) m c]) ∧ zs.length = m ∧ m ≤ 122 ∧ m ≤ c ∧ c ≤ maxLen ∧ Own w' w.heap.size (.slice (some ⟨gb, 0, none⟩) m c) zs ∧ Below w.heap.size w w' := by
  obtain ⟨wa, hwa⟩ : ∃ wa, w.alloc (.cells #[.int .i64 0, .int .i64 0, .int .i64 0] 24) = wa := ⟨_, rfl⟩
  have hba : Below w.heap.size w wa := by rw [← hwa]; exact below_new _ _
  have RA : M3 wa w.heap.size 0 0 0 := by rw [← hwa]; exact M3.new w 0 0 0
  have za : w.heap.size < wa.heap.size := RA.lt
  have BA := Lib.hid hba; have RA := Lib.hid RA; have Hn := Lib.hid hn; have Hwf := Lib.hid wf
  have HA : Hid (Bytes wa A bs) := fun hp => by
    obtain ⟨ad, e, hc⟩ := h hp
    exact ⟨ad, e, fun j hj => (hba.cell (World.block_lt_of_cell? _ _ (hc j hj))).trans (hc j hj)⟩
  clear hba hn wf h
  go_enter Try.func32, Try.ntmps32
  go_wp2_with fail
  clear hwa
  refine (l01New_any A n c bs wa Hn.out hm HA.out Hwf.out).mono ?_
  rintro e w1 ⟨rfl, hc1, hb1, hs1⟩
  have R1 := Lib.hid (RA.out.below hb1 za); have HC1 := Lib.hid hc1; have HB1 := Lib.hid hb1; have HS1 := Lib.hid hs1
  clear hc1 hb1 hs1
  go_wp2_with fail
  refine (l3Both_any wa.heap.size w1 HC1.out).mono ?_
  rintro e w2 ⟨x, y, z, gb, m, c', zs, rfl, hl, hm1, hmc, hcm, hgb, hO2, hc2⟩
  have R2 := Lib.hid (R1.out.cm hc2 (by omega)); have O2 := Lib.hid hO2; have Hl := Lib.hid hl; have Hcm := Lib.hid hcm
  have B2 := Lib.hid (BA.out.trans ((cm_below HB1.out HS1.out hc2).mono (by omega)))
  have hgb1 : wa.heap.size + 1 ≤ gb := by have := HS1.out; omega
  have hw1 : w.heap.size < w1.heap.size := by have := HS1.out; omega
  obtain ⟨s0, s1, s2, f0, f1, f2⟩ := R2.out.cells
  have RG := Lib.hid (R2.out.put x y z)
  obtain ⟨d0, d1, d2, _, _, _⟩ := RG.out.cells
  have OG : Hid (Own (((w2.setCell ⟨w.heap.size, 0, none⟩ (.int .i64 x)).setCell ⟨w.heap.size, 1, none⟩ (.int .i64 y)).setCell ⟨w.heap.size, 2, none⟩ (.int .i64 z)) w.heap.size (.slice (some ⟨gb, 0, none⟩) m c') zs) :=
    own_base1 (((O2.out.grown_lt (grown_set (World.grownBy.refl w2 _) 0 _) (fun q hq => by injection hq with hq; subst hq; exact hw1)).grown_lt (grown_set (World.grownBy.refl _ _) 1 _) (fun q hq => by injection hq with hq; subst hq; exact hw1)).grown_lt (grown_set (World.grownBy.refl _ _) 2 _) (fun q hq => by injection hq with hq; subst hq; exact hw1)) (show w.heap.size ≤ w1.heap.size by omega)
  have BG := Lib.hid (((B2.out.setCell (p := ⟨w.heap.size, 0, none⟩) (Nat.le_refl _) (.int .i64 x)).setCell (p := ⟨w.heap.size, 1, none⟩) (Nat.le_refl _) (.int .i64 y)).setCell (p := ⟨w.heap.size, 2, none⟩) (Nat.le_refl _) (.int .i64 z))
  clear hO2 hl hcm hc2
  go_wp2
  exact bodyPost_ret (v := .tuple #[.agg #[.int .i64 x, .int .i64 y, .int .i64 z], .slice (some ⟨gb, 0, none⟩) m c']) (by simp [results, Try.results32, go_sem, d0, d1, d2]) rfl ⟨x, y, z, gb, m, c', zs, rfl, Hl.out, hm1, hmc, Hcm.out, OG.out, BG.out⟩
end Go.Proofs.Ytjfckplogjekaaa
