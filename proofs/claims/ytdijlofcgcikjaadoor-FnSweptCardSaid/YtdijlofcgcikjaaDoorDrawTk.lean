/-
  DrawTakeMatrix: whatever the bytes, a font of at most 24 letters, a magazine of at most 24 rows of at most 21 matrices, a number. Condition: the bytes are bytes.
-/
import Derived.Test.YtdijlofcgcikjaaDoorDrawBo
import Derived.Test.YtdijlofcgcikjaaDoorDrawFi
namespace Go.Proofs.YtdijlofcgcikjaaDoor
open Go.RowKit
set_option linter.unusedVariables false
set_option linter.unusedSimpArgs false

/-- a font and a magazine in memory of the call's own, as a draw returns them -/
def MagD2 (w w' : World) (u v : Value) (f : Fnt) (ms : List (List Mat)) : Prop :=
  ∃ B nn cc, v = .slice (some ⟨B, 0, none⟩) nn cc ∧ f.s.size ≤ 24 ∧ f.ws.length ≤ 24 ∧ f.cs.length ≤ 24 ∧ (∀ x ∈ f.cs, 0 ≤ x ∧ x ≤ 128) ∧ ms.length = nn ∧ nn ≤ cc ∧ cc ≤ 24 ∧ StkB 21 ms ∧
    FontV w' w.heap.size w'.heap.size u f ∧ MagI w' w.heap.size w'.heap.size (some ⟨B, 0, none⟩) ms ∧ Below w.heap.size w w'
set_option maxRecDepth 100000 in
set_option maxHeartbeats 12800000 in
theorem drawTake_any (A : Option Addr) (n c : Nat) (bs : List Int) (w : World) (hn : bs.length = n) (hm : n ≤ maxLen) (h : Bytes w A bs) (wf : ∀ z ∈ bs, (Lit.int .u8 z).wf = true) :
    Calls Tryd.prog 8 #[.slice A n c] w fun e w' => ∃ u v f ms ch, e = .returned (.tuple #[u, v, .int .i64 ch]) ∧ -1 ≤ ch ∧ ch ≤ 25 ∧ MagD2 w w' u v f ms := by
  have Hn := Lib.hid hn; have Hwf := Lib.hid wf
  obtain ⟨w0, hw0, hb0, hz0, R0⟩ := mxWorld w #[.string ⟨#[]⟩, .slice none 0 0, .slice none 0 0] 25
  obtain ⟨o1, ho1⟩ : ∃ y, w.heap.size = y := ⟨_, rfl⟩
  have HO1 := Lib.hid ho1
  rw [ho1] at hb0 hz0 R0
  have H := Lib.hid (bytes_below h (by rw [ho1]; exact hb0))
  go_enter Tryd.func8, Tryd.ntmps8
  go_wp2_with fail
  clear hw0 ho1 hn wf h
  refine (l01New_any _ _ _ bs _ Hn.out hm H.out Hwf.out).mono ?_
  rintro e w1 ⟨rfl, hc1, hb1, hs1⟩
  obtain ⟨g, hg⟩ : ∃ g, w0.heap.size = g := ⟨_, rfl⟩
  rw [hg] at hc1 hs1 hb1 hz0
  rw [hg]
  have T1 := Lib.hid (hb0.trans (hb1.mono (by omega : o1 ≤ g)))
  have R1 := Lib.hid (R0.below hb1 (by omega))
  have hgw : g < w1.heap.size := hc1.lt
  have HC1 := Lib.hid hc1
  have hgo : o1 < g := by omega
  clear hb1 hb0 R0 H hg Hwf hc1 hs1 hz0
  clear Hn
  go_wp2_with fail
  refine (l2Both_any g w1 HC1.out).mono ?_
  rintro e w2 ⟨u, v, s, ws, cs, ms, rfl, hBD⟩
  obtain ⟨A, n, c, A2, m, d, B, nn, cc, rfl, rfl, hs24, hws, hn24, hcs, hm24, hbd, hml, hnc, hcc, hst, hB, hP, hD, hI, hcm⟩ := hBD
  have hm2 := hcm.2
  have T2 := Lib.hid (T1.out.trans (hm2.below (by omega) (by omega)))
  have R2 := Lib.hid (R1.out.moved hm2 (by omega))
  have hsz2 := hm2.size
  have P2 := Lib.hid hP; have D2 := Lib.hid hD; have I2 := Lib.hid hI; have C2 := Lib.hid hcm
  have HWS := Lib.hid hws; have HCS := Lib.hid hcs; have HBD := Lib.hid hbd; have HML := Lib.hid hml; have HST := Lib.hid hst
  clear T1 R1 HC1 hm2 hws hcs hbd hml hst hP hD hI hcm
  go_wp2_with fail
  obtain ⟨w3, hw3, hb3, hz3, hK3⟩ := mxWorld w2 #[.string s, .slice A n c, .slice A2 m d] 25
  obtain ⟨b, hb⟩ : ∃ y, w2.heap.size = y := ⟨_, rfl⟩
  have C3 := Lib.hid (C2.out.step hb3); have R3 := Lib.hid (R2.out.below hb3 (by omega)); have P3 := Lib.hid (P2.out.below hb3); have D3 := Lib.hid (D2.out.below hb3)
  have I3 := Lib.hid (I2.out.below (Nat.le_refl _) hb3); have T3 := Lib.hid (T2.out.trans (hb3.mono (by omega)))
  rw [hw3, hb]
  rw [hb] at hz3 hK3 hsz2 I3
  have K3 := Lib.hid hK3
  obtain ⟨hi, hhi⟩ : ∃ y, b = y := ⟨_, rfl⟩
  have zb3 : b < w3.heap.size := by omega
  have zh3 : hi ≤ w3.heap.size := by omega
  have I3 : Hid (MagI w3 B hi (some ⟨B, 0, none⟩) ms) := by show MagI _ _ _ _ _; rw [← hhi]; exact I3.out
  have hbhi : hi ≤ b := by omega
  clear C2 R2 P2 D2 I2 T2 hb3 hK3 hw3 hb hz3 hhi
  obtain ⟨n2, hn2⟩ : ∃ y : Int, (nn : Int) + 2 = y := ⟨_, rfl⟩
  have e5 : IntKind.i64.wrap n2 = n2 := by rw [IntKind.wrap_i64]; omega
  refine wp_region_plan (.take 0 (.take 1 (.take 2 (.take 3 (.take 4 (.take 5 (.one 6 (.take 7 (.one 8 (.take 9 (.take 10 .done))))))))))) (fun w' => w'.cell? ⟨b, 0, none⟩ = some (.string s) ∧ w'.cell? ⟨b, 1, none⟩ = some (.slice A n c) ∧ w'.cell? ⟨b, 2, none⟩ = some (.slice A2 m d)) (by kernel_rfl) (by kernel_rfl) (by kernel_rfl) (by intro c a d v w h; cases d <;> exact h) ⟨cellOfBlk K3.out 0, cellOfBlk K3.out 1, cellOfBlk K3.out 2⟩ ?_
  obtain ⟨w4, hwd⟩ : ∃ x, w3.drew = x := ⟨_, rfl⟩
  have C4 : Hid (CM w1 w4 g) := by show CM w1 w4 g; rw [← hwd]; exact CM.drew C3.out
  have R4 : Hid (Blk w4 o1 #[.string ⟨#[]⟩, .slice none 0 0, .slice none 0 0] 25) := by show Blk w4 o1 #[.string ⟨#[]⟩, .slice none 0 0, .slice none 0 0] 25; rw [← hwd]; exact R3.out
  have K4 : Hid (Blk w4 b #[.string s, .slice A n c, .slice A2 m d] 25) := by show Blk w4 b #[.string s, .slice A n c, .slice A2 m d] 25; rw [← hwd]; exact K3.out
  have P4 : Hid (Own w4 (w1.heap.size + 1) (.slice A n c) ws) := by show Own w4 (w1.heap.size + 1) (.slice A n c) ws; rw [← hwd]; exact Own.drew P3.out
  have D4 : Hid (Own w4 (w1.heap.size + 1) (.slice A2 m d) cs) := by show Own w4 (w1.heap.size + 1) (.slice A2 m d) cs; rw [← hwd]; exact Own.drew D3.out
  have I4 : Hid (MagI w4 B hi (some ⟨B, 0, none⟩) ms) := by show MagI w4 B hi (some ⟨B, 0, none⟩) ms; rw [← hwd]; exact I3.out
  have T4 : Hid (Below o1 w w4) := by show Below o1 w w4; rw [← hwd]; exact T3.out.drew
  have zb4 : b < w4.heap.size := by rw [← hwd]; exact zb3
  have zh4 : hi ≤ w4.heap.size := by rw [← hwd]; exact zh3
  rw [hwd]
  clear hwd C3 R3 K3 P3 D3 I3 T3
  refine plan_quiet rfl (by rfl) (v := ?_) ?_ ?_; rotate_left; (intro w1 hSw; obtain ⟨h0, h1, h2⟩ := hSw; go_simp; try (with_reducible rfl)); (try simp only [Act.put, List.setIfInBounds_toArray, List.set_cons_zero, List.set_cons_succ])
  refine plan_quiet rfl (by rfl) (v := ?_) ?_ ?_; rotate_left; (intro w1 hSw; obtain ⟨h0, h1, h2⟩ := hSw; go_simp; try (with_reducible rfl)); (try simp only [Act.put, List.setIfInBounds_toArray, List.set_cons_zero, List.set_cons_succ])
  refine plan_quiet rfl (by rfl) (v := ?_) ?_ ?_; rotate_left; (intro w1 hSw; obtain ⟨h0, h1, h2⟩ := hSw; go_simp; try (with_reducible rfl)); (try simp only [Act.put, List.setIfInBounds_toArray, List.set_cons_zero, List.set_cons_succ])
  refine plan_quiet rfl (by rfl) (v := ?_) ?_ ?_; rotate_left; (intro w1 hSw; obtain ⟨h0, h1, h2⟩ := hSw; go_simp; try (with_reducible rfl)); (try simp only [Act.put, List.setIfInBounds_toArray, List.set_cons_zero, List.set_cons_succ])
  refine plan_quiet rfl (by rfl) (v := ?_) ?_ ?_; rotate_left; (intro w1 hSw; obtain ⟨h0, h1, h2⟩ := hSw; go_simp; try (with_reducible rfl)); (try simp only [Act.put, List.setIfInBounds_toArray, List.set_cons_zero, List.set_cons_succ])
  refine plan_quiet rfl (by rfl) (v := ?_) ?_ ?_; rotate_left; (intro w1 hSw; obtain ⟨h0, h1, h2⟩ := hSw; go_simp; try (with_reducible rfl)); (try simp only [Act.put, List.setIfInBounds_toArray, List.set_cons_zero, List.set_cons_succ])
  refine plan_step rfl (fun Kc hK => ?_)
  rw [if_pos (by rfl)]
  go_simp
  refine (below_cm w1 g _ w4 (by omega) C4.out).mono ?_
  rintro e w5 ⟨x4, rfl, hx4, hc5, hm5⟩
  have zb5 : b < w5.heap.size := by have := hm5.size; omega
  have zh5 : hi ≤ w5.heap.size := by have := hm5.size; omega
  have C5 := Lib.hid (hc5)
  have R5 := Lib.hid (R4.out.moved hm5 (by omega))
  have K5 := Lib.hid (K4.out.moved hm5 (by omega))
  have P5 := Lib.hid (P4.out.grown_lt hm5 (fun k hk => by injection hk with hk; omega))
  have D5 := Lib.hid (D4.out.grown_lt hm5 (fun k hk => by injection hk with hk; omega))
  have I5 := Lib.hid (I4.out.chg (chg_moved hm5) zh4 (.inr (by omega)))
  have T5 := Lib.hid (T4.out.trans (hm5.below (by omega) (by omega)))
  clear C4 R4 K4 P4 D4 I4 T4
  obtain ⟨ch, hch⟩ : ∃ y : Int, (x4 : Int) - 1 = y := ⟨_, rfl⟩
  have e4 : IntKind.i64.wrap ch = ch := by rw [IntKind.wrap_i64]; omega
  clear hc5 hm5
  refine hK.out _ _ ⟨cellOfBlk K5.out 0, cellOfBlk K5.out 1, cellOfBlk K5.out 2⟩ ?_
  clear hK Kc
  refine plan_quiet rfl (by rfl) (v := ?_) ?_ ?_; rotate_left; (intro w1 hSw; obtain ⟨h0, h1, h2⟩ := hSw; go_simp; try (with_reducible rfl)); (try simp only [Act.put, List.setIfInBounds_toArray, List.set_cons_zero, List.set_cons_succ])
  have ff := R5.out.warm
  obtain ⟨q0, q1, q2⟩ := (show w5.cell? ⟨o1, 0, none⟩ = some (.string ⟨#[]⟩) ∧ w5.cell? ⟨o1, 1, none⟩ = some (.slice none 0 0) ∧ w5.cell? ⟨o1, 2, none⟩ = some (.slice none 0 0) from ⟨cellOfBlk R5.out 0, cellOfBlk R5.out 1, cellOfBlk R5.out 2⟩)
  obtain ⟨y, hy⟩ : ∃ x, (((w5.setCell ⟨o1, 0, none⟩ (.string s)).setCell ⟨o1, 1, none⟩ (.slice A n c)).setCell ⟨o1, 2, none⟩ (.slice A2 m d)) = x := ⟨_, rfl⟩
  have HR4 : Hid (Blk y o1 #[.string s, .slice A n c, .slice A2 m d] 25) := by show Blk _ _ _ _; rw [← hy]; exact (heapSet (i := 2) (heapSet (i := 1) (heapSet (i := 0) R5.out (.string s)) (.slice A n c)) (.slice A2 m d))
  have HK4 : Hid (Blk y b #[.string s, .slice A n c, .slice A2 m d] 25) := by show Blk _ _ _ _; rw [← hy]; exact (((K5.out.other _ _ (by show b ≠ o1; omega)).other _ _ (by show b ≠ o1; omega)).other _ _ (by show b ≠ o1; omega))
  have HW4 : Hid (Own y (w1.heap.size + 1) (.slice A n c) ws) := by show Own _ _ _ _; rw [← hy]; exact (((P5.out.setO ⟨o1, 0, none⟩ (.string s) (fun k hk => by have := (World.ownsRow.lt P5.out k hk).1; show k ≠ o1; omega)).setO ⟨o1, 1, none⟩ (.slice A n c) (fun k hk => by have := (World.ownsRow.lt P5.out k hk).1; show k ≠ o1; omega)).setO ⟨o1, 2, none⟩ (.slice A2 m d) (fun k hk => by have := (World.ownsRow.lt P5.out k hk).1; show k ≠ o1; omega))
  have HC4 : Hid (Own y (w1.heap.size + 1) (.slice A2 m d) cs) := by show Own _ _ _ _; rw [← hy]; exact (((D5.out.setO ⟨o1, 0, none⟩ (.string s) (fun k hk => by have := (World.ownsRow.lt D5.out k hk).1; show k ≠ o1; omega)).setO ⟨o1, 1, none⟩ (.slice A n c) (fun k hk => by have := (World.ownsRow.lt D5.out k hk).1; show k ≠ o1; omega)).setO ⟨o1, 2, none⟩ (.slice A2 m d) (fun k hk => by have := (World.ownsRow.lt D5.out k hk).1; show k ≠ o1; omega))
  have HT4 : Hid (Below o1 w y) := by show Below _ _ _; rw [← hy]; exact (((T5.out.setCell (p := ⟨o1, 0, none⟩) (Nat.le_refl _) (.string s)).setCell (p := ⟨o1, 1, none⟩) (Nat.le_refl _) (.slice A n c)).setCell (p := ⟨o1, 2, none⟩) (Nat.le_refl _) (.slice A2 m d))
  have hzy : y.heap.size = w5.heap.size := by rw [← hy, setCell_size, setCell_size, setCell_size]
  have HG4 : Hid (MagI y o1 y.heap.size (some ⟨B, 0, none⟩) ms) := by show MagI _ _ _ _ _; rw [hzy, ← hy]; exact (((I5.out.chg (chg_set _ o1 0 _) zh5 (.inr (by omega))).chg (chg_set _ o1 1 _) (by rw [setCell_size]; exact zh5) (.inr (by omega))).chg (chg_set _ o1 2 _) (by rw [setCell_size, setCell_size]; exact zh5) (.inr (by omega))).wide (by omega) zh5
  refine plan_step rfl (fun Kc hK => ?_)
  rw [if_pos (by rfl)]
  go_simp
  (try rw [hy])
  clear hy ff q0 q1 q2 hzy C5 R5 K5 P5 D5 I5 T5
  refine hK.out _ _ ⟨cellOfBlk HK4.out 0, cellOfBlk HK4.out 1, cellOfBlk HK4.out 2⟩ ?_
  clear hK Kc
  refine plan_quiet rfl (by rfl) (v := ?_) ?_ ?_; rotate_left; (intro w1 hSw; obtain ⟨h0, h1, h2⟩ := hSw; go_simp; try (with_reducible rfl)); (try simp only [Act.put, List.setIfInBounds_toArray, List.set_cons_zero, List.set_cons_succ])
  refine plan_quiet rfl (by rfl) (v := ?_) ?_ ?_; rotate_left; (intro w1 hSw; obtain ⟨h0, h1, h2⟩ := hSw; go_simp; try (with_reducible rfl)); (try simp only [Act.put, List.setIfInBounds_toArray, List.set_cons_zero, List.set_cons_succ])
  refine plan_end ?_
  go_wp2
  obtain ⟨r0, r1, r2⟩ := (show y.cell? ⟨o1, 0, none⟩ = some (.string s) ∧ y.cell? ⟨o1, 1, none⟩ = some (.slice A n c) ∧ y.cell? ⟨o1, 2, none⟩ = some (.slice A2 m d) from ⟨cellOfBlk HR4.out 0, cellOfBlk HR4.out 1, cellOfBlk HR4.out 2⟩)
  (try simp only [Exit.inBlock, Exit.then])
  refine bodyPost_ret (v := .tuple #[.agg #[.string s, .slice A n c, .slice A2 m d], .slice (some ⟨B, 0, none⟩) nn cc, .int .i64 ch]) (by simp [results, Tryd.results8, go_sem, r0, r1, r2]) rfl ?_
  have hW : ws.length = n := HWS.out
  have hC : cs.length = m := HCS.out
  subst hW; subst hC
  have hzw : w.heap.size ≤ w1.heap.size + 1 := by have := HO1.out; omega
  exact ⟨_, _, ⟨s, ws, cs⟩, ms, ch, rfl, by omega, by omega, B, nn, cc, rfl, hs24, hn24, hm24, HBD.out, HML.out, hnc, hcc, HST.out, ⟨A, c, A2, d, rfl, IntsI.of_own (own_base HW4.out hzw), IntsI.of_own (own_base HC4.out hzw), (own_caps HW4.out).1, (own_caps HW4.out).2, (own_caps HC4.out).1, (own_caps HC4.out).2, by show s.size ≤ maxLen; unfold maxLen; omega⟩, by rw [HO1.out]; exact HG4.out, by rw [HO1.out]; exact HT4.out⟩
end Go.Proofs.YtdijlofcgcikjaaDoor
