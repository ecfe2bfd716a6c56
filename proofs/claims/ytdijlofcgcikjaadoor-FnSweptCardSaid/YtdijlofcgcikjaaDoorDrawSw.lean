/-
  DrawSweepMagazine: whatever the bytes, a font of at most 24 letters and a magazine of at most 24 rows of at most 21 matrices. Condition: the bytes are bytes.
-/
import Derived.Test.YtdijlofcgcikjaaDoorDrawTk
namespace Go.Proofs.YtdijlofcgcikjaaDoor
open Go.RowKit
set_option linter.unusedVariables false
set_option linter.unusedSimpArgs false

set_option maxRecDepth 100000 in
set_option maxHeartbeats 12800000 in
theorem drawSweep_any (A : Option Addr) (n c : Nat) (bs : List Int) (w : World) (hn : bs.length = n) (hm : n ≤ maxLen) (h : Bytes w A bs) (wf : ∀ z ∈ bs, (Lit.int .u8 z).wf = true) :
    Calls Tryd.prog 16 #[.slice A n c] w fun e w' => ∃ u v f ms, e = .returned (.tuple #[u, v]) ∧ MagD2 w w' u v f ms := by
  have Hn := Lib.hid hn; have Hwf := Lib.hid wf
  obtain ⟨w0, hw0, hb0, hz0, R0⟩ := mxWorld w #[.string ⟨#[]⟩, .slice none 0 0, .slice none 0 0] 25
  obtain ⟨o1, ho1⟩ : ∃ y, w.heap.size = y := ⟨_, rfl⟩
  have HO1 := Lib.hid ho1
  rw [ho1] at hb0 hz0 R0
  have H := Lib.hid (bytes_below h (by rw [ho1]; exact hb0))
  go_enter Tryd.func16, Tryd.ntmps16
  go_wp2_with fail
  clear hw0 ho1 hn wf h
  refine (l01New_any _ _ _ bs _ Hn.out hm H.out Hwf.out).mono ?_
  rintro e w1 ⟨rfl, hc1, hb1, hs1⟩
  obtain ⟨g, hg⟩ : ∃ g, w0.heap.size = g := ⟨_, rfl⟩
  rw [hg] at hc1 hs1 hb1 hz0
  rw [hg]
  have T1 := Lib.hid (hb0.trans (hb1.mono (by omega : o1 ≤ g)))
  have R1 := Lib.hid (R0.below hb1 (by omega))
  have hgw : g < w1.heap.size := hc1.lt
  have HC1 := Lib.hid hc1
  have hgo : o1 < g := by omega
  clear hb1 hb0 R0 H hg Hwf hc1 hs1 hz0
  clear Hn
  go_wp2_with fail
  refine (l2Both_any g w1 HC1.out).mono ?_
  rintro e w2 ⟨u, v, s, ws, cs, ms, rfl, hBD⟩
  obtain ⟨A, n, c, A2, m, d, B, nn, cc, rfl, rfl, hs24, hws, hn24, hcs, hm24, hbd, hml, hnc, hcc, hst, hB, hP, hD, hI, hcm⟩ := hBD
  have hm2 := hcm.2
  have T2 := Lib.hid (T1.out.trans (hm2.below (by omega) (by omega)))
  have R2 := Lib.hid (R1.out.moved hm2 (by omega))
  have hsz2 := hm2.size
  have P2 := Lib.hid hP; have D2 := Lib.hid hD; have I2 := Lib.hid hI; have C2 := Lib.hid hcm
  have HWS := Lib.hid hws; have HCS := Lib.hid hcs; have HBD := Lib.hid hbd; have HML := Lib.hid hml; have HST := Lib.hid hst
  clear T1 R1 HC1 hm2 hws hcs hbd hml hst hP hD hI hcm
  have ff := R2.out.warm
  obtain ⟨q0, q1, q2⟩ := (show w2.cell? ⟨o1, 0, none⟩ = some (.string ⟨#[]⟩) ∧ w2.cell? ⟨o1, 1, none⟩ = some (.slice none 0 0) ∧ w2.cell? ⟨o1, 2, none⟩ = some (.slice none 0 0) from ⟨cellOfBlk R2.out 0, cellOfBlk R2.out 1, cellOfBlk R2.out 2⟩)
  go_wp2
  obtain ⟨y, hy⟩ : ∃ x, (((w2.setCell ⟨o1, 0, none⟩ (.string s)).setCell ⟨o1, 1, none⟩ (.slice A n c)).setCell ⟨o1, 2, none⟩ (.slice A2 m d)) = x := ⟨_, rfl⟩
  have HR4 : Hid (Blk y o1 #[.string s, .slice A n c, .slice A2 m d] 25) := by show Blk _ _ _ _; rw [← hy]; exact (heapSet (i := 2) (heapSet (i := 1) (heapSet (i := 0) R2.out (.string s)) (.slice A n c)) (.slice A2 m d))
  have HW4 : Hid (Own y (w1.heap.size + 1) (.slice A n c) ws) := by show Own _ _ _ _; rw [← hy]; exact (((P2.out.setO ⟨o1, 0, none⟩ (.string s) (fun k hk => by have := (World.ownsRow.lt P2.out k hk).1; show k ≠ o1; omega)).setO ⟨o1, 1, none⟩ (.slice A n c) (fun k hk => by have := (World.ownsRow.lt P2.out k hk).1; show k ≠ o1; omega)).setO ⟨o1, 2, none⟩ (.slice A2 m d) (fun k hk => by have := (World.ownsRow.lt P2.out k hk).1; show k ≠ o1; omega))
  have HC4 : Hid (Own y (w1.heap.size + 1) (.slice A2 m d) cs) := by show Own _ _ _ _; rw [← hy]; exact (((D2.out.setO ⟨o1, 0, none⟩ (.string s) (fun k hk => by have := (World.ownsRow.lt D2.out k hk).1; show k ≠ o1; omega)).setO ⟨o1, 1, none⟩ (.slice A n c) (fun k hk => by have := (World.ownsRow.lt D2.out k hk).1; show k ≠ o1; omega)).setO ⟨o1, 2, none⟩ (.slice A2 m d) (fun k hk => by have := (World.ownsRow.lt D2.out k hk).1; show k ≠ o1; omega))
  have HT4 : Hid (Below o1 w y) := by show Below _ _ _; rw [← hy]; exact (((T2.out.setCell (p := ⟨o1, 0, none⟩) (Nat.le_refl _) (.string s)).setCell (p := ⟨o1, 1, none⟩) (Nat.le_refl _) (.slice A n c)).setCell (p := ⟨o1, 2, none⟩) (Nat.le_refl _) (.slice A2 m d))
  have hzy : y.heap.size = w2.heap.size := by rw [← hy, setCell_size, setCell_size, setCell_size]
  have HG4 : Hid (MagI y o1 y.heap.size (some ⟨B, 0, none⟩) ms) := by show MagI _ _ _ _ _; rw [hzy, ← hy]; exact (((I2.out.chg (chg_set _ o1 0 _) (Nat.le_refl _) (.inr (by omega))).chg (chg_set _ o1 1 _) (by rw [setCell_size]; exact Nat.le_refl _) (.inr (by omega))).chg (chg_set _ o1 2 _) (by rw [setCell_size, setCell_size]; exact Nat.le_refl _) (.inr (by omega))).wide (by omega) (Nat.le_refl _)
  (try rw [hy])
  clear hy ff q0 q1 q2 hzy C2 R2 P2 D2 I2 T2
  obtain ⟨r0, r1, r2⟩ := (show y.cell? ⟨o1, 0, none⟩ = some (.string s) ∧ y.cell? ⟨o1, 1, none⟩ = some (.slice A n c) ∧ y.cell? ⟨o1, 2, none⟩ = some (.slice A2 m d) from ⟨cellOfBlk HR4.out 0, cellOfBlk HR4.out 1, cellOfBlk HR4.out 2⟩)
  (try simp only [Exit.inBlock, Exit.then])
  refine bodyPost_ret (v := .tuple #[.agg #[.string s, .slice A n c, .slice A2 m d], .slice (some ⟨B, 0, none⟩) nn cc]) (by simp [results, Tryd.results16, go_sem, r0, r1, r2]) rfl ?_
  have hW : ws.length = n := HWS.out
  have hC : cs.length = m := HCS.out
  subst hW; subst hC
  have hzw : w.heap.size ≤ w1.heap.size + 1 := by have := HO1.out; omega
  exact ⟨_, _, ⟨s, ws, cs⟩, ms, rfl, B, nn, cc, rfl, hs24, hn24, hm24, HBD.out, HML.out, hnc, hcc, HST.out, ⟨A, c, A2, d, rfl, IntsI.of_own (own_base HW4.out hzw), IntsI.of_own (own_base HC4.out hzw), (own_caps HW4.out).1, (own_caps HW4.out).2, (own_caps HC4.out).1, (own_caps HC4.out).2, by show s.size ≤ maxLen; unfold maxLen; omega⟩, by rw [HO1.out]; exact HG4.out, by rw [HO1.out]; exact HT4.out⟩
end Go.Proofs.YtdijlofcgcikjaaDoor
