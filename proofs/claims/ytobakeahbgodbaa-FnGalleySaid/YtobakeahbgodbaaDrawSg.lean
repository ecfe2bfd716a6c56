/-
  The draw of a galley: whatever the bytes, a font of at most 24 letters, a measure and a wording of at most 200 bytes, in memory of its own. No condition.
-/
import Derived.Test.YtobakeahbgodbaaDrawTx
namespace Go.Proofs.Ytobakeahbgodbaa
open Go.RowKit
set_option linter.unusedVariables false

set_option maxRecDepth 100000 in
set_option maxHeartbeats 3200000 in
theorem drawSg_any (A : Option Addr) (n c : Nat) (bs : List Int) (w : World) (hn : bs.length = n) (hm : n ≤ maxLen) (h : Bytes w A bs) (wf : ∀ z ∈ bs, (Lit.int .u8 z).wf = true) :
    Calls Try.prog 24 #[.slice A n c] w fun e w' => ∃ v f x y z t, e = .returned (.tuple #[v, .agg #[.int .i64 x, .int .i64 y, .int .i64 z], .string t]) ∧ FontV w' w.heap.size w'.heap.size v f ∧ f.s.size ≤ 24 ∧ f.ws.length ≤ 24 ∧ f.cs.length ≤ 24 ∧ t.size ≤ 200 ∧ Below w.heap.size w w' := by
  have Hn := Lib.hid hn; have Hwf := Lib.hid wf
  obtain ⟨wx, hwx, hbx, hzx, hRx⟩ := mxWorld w #[.string ⟨#[]⟩, .slice none 0 0, .slice none 0 0] 25
  obtain ⟨o1, ho1⟩ : ∃ o1, w.heap.size = o1 := ⟨_, rfl⟩
  obtain ⟨o2, ho2⟩ : ∃ o2, wx.heap.size = o2 := ⟨_, rfl⟩
  obtain ⟨w0, hw0⟩ : ∃ w0, wx.alloc (.cells #[.int .i64 0, .int .i64 0, .int .i64 0] 51) = w0 := ⟨_, rfl⟩
  have hM0 : M3 w0 o2 0 0 0 := by rw [← hw0, ← ho2]; exact M3.new wx 0 0 0
  have hb0 : Below wx.heap.size wx w0 := by rw [← hw0]; exact below_new _ _
  have hz0 : o2 < w0.heap.size := hM0.lt
  have HO1 := Lib.hid ho1
  rw [ho2] at hb0 hzx
  rw [ho1] at hbx hzx hRx
  have hoo : o2 = o1 + 1 := by omega
  have H := Lib.hid (bytes_below (bytes_below h (by rw [ho1]; exact hbx)) (by rw [ho2]; exact hb0))
  have R0 := Lib.hid (hRx.below hb0 (by omega)); have M0 := Lib.hid hM0
  have T0 := Lib.hid (hbx.trans (hb0.mono (by omega)))
  clear hn wf h hbx hRx hM0 hb0 hzx
  go_enter Try.func24, Try.ntmps24
  go_wp2_with fail
  clear hw0 hwx ho1 ho2
  refine (l01New_any _ _ _ bs _ Hn.out hm H.out Hwf.out).mono ?_
  rintro e w1 ⟨rfl, hc1, hb1, hs1⟩
  obtain ⟨g, hg⟩ : ∃ g, w0.heap.size = g := ⟨_, rfl⟩
  rw [hg] at hc1 hs1 hb1 hz0
  have R1 := Lib.hid (R0.out.below hb1 (by omega)); have M1 := Lib.hid (M0.out.below hb1 (by omega))
  have T1 := Lib.hid (T0.out.trans (hb1.mono (by omega))); have HC1 := Lib.hid hc1
  rw [hg]
  clear hb1 hc1 R0 T0 M0 hg
  go_wp2_with fail
  refine (l2Any_any g w1 HC1.out).mono ?_
  rintro e w2 ⟨v, s, ws, cs, rfl, hF⟩
  obtain ⟨A1, m1, c1, A2, m2, d2, rfl, hs24, hw1, hm1, hc2, hm2, hO1, hO2, hcm⟩ := hF
  have hm0 := hcm.2
  have R2 := Lib.hid (R1.out.moved hm0 (by omega)); have M2 := Lib.hid (M1.out.cm hcm (by omega))
  have T2 := Lib.hid (T1.out.trans (hm0.below (by omega) (by omega)))
  have O1 := Lib.hid hO1; have O2 := Lib.hid hO2; have C2 := Lib.hid hcm; have HW := Lib.hid hw1; have HC := Lib.hid hc2
  have z2 : w1.heap.size ≤ w2.heap.size := hm0.size
  clear hO1 hO2 hcm hm0 R1 T1 HC1 M1 hw1 hc2
  obtain ⟨w3, hw3, hb3, hz3, hK3⟩ := mxWorld w2 #[.string s, .slice A1 m1 c1, .slice A2 m2 d2] 25
  obtain ⟨b, hb⟩ : ∃ b, w2.heap.size = b := ⟨_, rfl⟩
  have R3 := Lib.hid (R2.out.below hb3 (by omega)); have M3_ := Lib.hid (M2.out.below hb3 (by omega)); have T3 := Lib.hid (T2.out.trans (hb3.mono (by omega)))
  have P1 := Lib.hid (O1.out.below hb3); have P2 := Lib.hid (O2.out.below hb3); have C3 := Lib.hid (C2.out.step hb3)
  rw [hb] at hK3 hz3 z2
  have K3 := Lib.hid hK3
  clear R2 M2 T2 O1 O2 C2 hb3 hK3
  go_wp2_with fail
  clear hw3 hb
  refine wp_region_plan (.take 0 (.take 1 (.take 3 (.take 4 (.one 2 (.one 5 (.one 6 (.one 7 (.take 8 .done))))))))) (fun w' => w'.cell? ⟨b, 0, none⟩ = some (.string s) ∧ w'.cell? ⟨b, 1, none⟩ = some (.slice A1 m1 c1) ∧ w'.cell? ⟨b, 2, none⟩ = some (.slice A2 m2 d2)) (by kernel_rfl) (by kernel_rfl) (by kernel_rfl) (by intro c a d v w h; cases d <;> exact h) ⟨cellOfBlk K3.out 0, cellOfBlk K3.out 1, cellOfBlk K3.out 2⟩ ?_
  obtain ⟨w4, hw4⟩ : ∃ x, w3.drew = x := ⟨_, rfl⟩
  have R4 : Hid (Blk w4 o1 #[.string ⟨#[]⟩, .slice none 0 0, .slice none 0 0] 25) := by show Blk _ _ _ _; rw [← hw4]; exact R3.out
  have N4 : Hid (M3 w4 o2 0 0 0) := by show M3 _ _ _ _ _; rw [← hw4]; exact M3_.out
  have T4 : Hid (Below o1 w w4) := by show Below _ _ _; rw [← hw4]; exact T3.out.drew
  have P4 : Hid (Own w4 w1.heap.size (.slice A1 m1 c1) ws) := by show Own _ _ _ _; rw [← hw4]; exact Own.drew P1.out
  have O4 : Hid (Own w4 w1.heap.size (.slice A2 m2 d2) cs) := by show Own _ _ _ _; rw [← hw4]; exact Own.drew P2.out
  have C4 : Hid (CM w1 w4 g) := by show CM _ _ _; rw [← hw4]; exact CM.drew C3.out
  have K4 : Hid (Blk w4 b #[.string s, .slice A1 m1 c1, .slice A2 m2 d2] 25) := by show Blk _ _ _ _; rw [← hw4]; exact K3.out
  have z4 : w4.heap.size = b + 1 := by rw [← hw4]; exact hz3
  rw [hw4]
  clear hw4 R3 M3_ T3 P1 P2 C3 K3
  refine plan_quiet rfl (by rfl) (v := ?_) ?_ ?_; rotate_left; (intro w1 hSw; obtain ⟨h0, h1, h2⟩ := hSw; go_simp; try (with_reducible rfl)); (try simp only [Act.put, List.setIfInBounds_toArray, List.set_cons_zero, List.set_cons_succ])
  refine plan_quiet rfl (by rfl) (v := ?_) ?_ ?_; rotate_left; (intro w1 hSw; obtain ⟨h0, h1, h2⟩ := hSw; go_simp; try (with_reducible rfl)); (try simp only [Act.put, List.setIfInBounds_toArray, List.set_cons_zero, List.set_cons_succ])
  refine plan_quiet rfl (by rfl) (v := ?_) ?_ ?_; rotate_left; (intro w1 hSw; obtain ⟨h0, h1, h2⟩ := hSw; go_simp; try (with_reducible rfl)); (try simp only [Act.put, List.setIfInBounds_toArray, List.set_cons_zero, List.set_cons_succ])
  refine plan_quiet rfl (by rfl) (v := ?_) ?_ ?_; rotate_left; (intro w1 hSw; obtain ⟨h0, h1, h2⟩ := hSw; go_simp; try (with_reducible rfl)); (try simp only [Act.put, List.setIfInBounds_toArray, List.set_cons_zero, List.set_cons_succ])
  refine plan_step rfl (fun Kc hK => ?_)
  rw [if_pos (by rfl)]
  go_simp
  refine (l6Measure_any g w4 C4.out.1).mono ?_
  rintro e w5 ⟨x, y, z, rfl, hcm⟩
  have R5 := Lib.hid (R4.out.moved hcm.2 (by omega)); have N5 := Lib.hid (N4.out.cm hcm (by omega)); have T5 := Lib.hid (T4.out.trans (hcm.2.below (by omega) (by omega)))
  have P5 := Lib.hid (P4.out.grown_lt hcm.2 (fun k hk => by have e9 : g = k := (by injection hk); omega)); have O5 := Lib.hid (O4.out.grown_lt hcm.2 (fun k hk => by have e9 : g = k := (by injection hk); omega))
  have C5 := Lib.hid (C4.out.trans hcm); have K5 := Lib.hid (K4.out.moved hcm.2 (by omega)); have z5 := hcm.2.size
  clear hcm R4 N4 T4 P4 O4 C4 K4
  refine hK.out _ _ ⟨cellOfBlk K5.out 0, cellOfBlk K5.out 1, cellOfBlk K5.out 2⟩ ?_
  clear hK Kc
  refine plan_step rfl (fun Kc hK => ?_)
  rw [if_pos (by rfl)]
  go_simp
  refine (l6Text_any g s A1 A2 m1 c1 m2 d2 w5 C5.out.1 (by omega)).mono ?_
  rintro e w6 ⟨t, rfl, ht, hcm⟩
  have R6 := Lib.hid (R5.out.moved hcm.2 (by omega)); have N6 := Lib.hid (N5.out.cm hcm (by omega)); have T6 := Lib.hid (T5.out.trans (hcm.2.below (by omega) (by omega)))
  have P6 := Lib.hid (P5.out.grown_lt hcm.2 (fun k hk => by have e9 : g = k := (by injection hk); omega)); have O6 := Lib.hid (O5.out.grown_lt hcm.2 (fun k hk => by have e9 : g = k := (by injection hk); omega))
  have C6 := Lib.hid (C5.out.trans hcm); have K6 := Lib.hid (K5.out.moved hcm.2 (by omega)); have z6 := hcm.2.size
  clear hcm R5 N5 T5 P5 O5 C5 K5
  refine hK.out _ _ ⟨cellOfBlk K6.out 0, cellOfBlk K6.out 1, cellOfBlk K6.out 2⟩ ?_
  clear hK Kc
  have f9 := R6.out.warm
  obtain ⟨q0, q1, q2⟩ := (show w6.cell? ⟨o1, 0, none⟩ = some (.string ⟨#[]⟩) ∧ w6.cell? ⟨o1, 1, none⟩ = some (.slice none 0 0) ∧ w6.cell? ⟨o1, 2, none⟩ = some (.slice none 0 0) from ⟨cellOfBlk R6.out 0, cellOfBlk R6.out 1, cellOfBlk R6.out 2⟩)
  have W7 := ((w6.setCell ⟨o1, 0, none⟩ (.string s)).setCell ⟨o1, 1, none⟩ (.slice A1 m1 c1)).setCell ⟨o1, 2, none⟩ (.slice A2 m2 d2)
  clear W7
  obtain ⟨w7, hw7⟩ : ∃ x, ((w6.setCell ⟨o1, 0, none⟩ (.string s)).setCell ⟨o1, 1, none⟩ (.slice A1 m1 c1)).setCell ⟨o1, 2, none⟩ (.slice A2 m2 d2) = x := ⟨_, rfl⟩
  have ne1 : ∀ k, (Value.slice A1 m1 c1).ownBlock = some k → k ≠ o1 := fun k hk => by have := (World.ownsRow.lt P6.out k hk).1; omega
  have ne2 : ∀ k, (Value.slice A2 m2 d2).ownBlock = some k → k ≠ o1 := fun k hk => by have := (World.ownsRow.lt O6.out k hk).1; omega
  have R7 : Hid (Blk w7 o1 #[.string s, .slice A1 m1 c1, .slice A2 m2 d2] 25) := by show Blk _ _ _ _; rw [← hw7]; exact heapSet (i := 2) (heapSet (i := 1) (heapSet (i := 0) R6.out _) _) _
  have N7 : Hid (M3 w7 o2 0 0 0) := by show M3 _ _ _ _ _; rw [← hw7]; exact ((N6.out.other _ _ (by show o2 ≠ o1; omega)).other _ _ (by show o2 ≠ o1; omega)).other _ _ (by show o2 ≠ o1; omega)
  have T7 : Hid (Below o1 w w7) := by show Below _ _ _; rw [← hw7]; exact ((T6.out.setCell (p := ⟨o1, 0, none⟩) (Nat.le_refl _) _).setCell (p := ⟨o1, 1, none⟩) (Nat.le_refl _) _).setCell (p := ⟨o1, 2, none⟩) (Nat.le_refl _) _
  have P7 : Hid (Own w7 w1.heap.size (.slice A1 m1 c1) ws) := by show Own _ _ _ _; rw [← hw7]; exact ((P6.out.setO _ _ ne1).setO _ _ ne1).setO _ _ ne1
  have O7 : Hid (Own w7 w1.heap.size (.slice A2 m2 d2) cs) := by show Own _ _ _ _; rw [← hw7]; exact ((O6.out.setO _ _ ne2).setO _ _ ne2).setO _ _ ne2
  have K7 : Hid (Blk w7 b #[.string s, .slice A1 m1 c1, .slice A2 m2 d2] 25) := by show Blk _ _ _ _; rw [← hw7]; exact ((K6.out.other _ _ (by show b ≠ o1; omega)).other _ _ (by show b ≠ o1; omega)).other _ _ (by show b ≠ o1; omega)
  clear ne1 ne2
  refine plan_step rfl (fun Kc hK => ?_)
  rw [if_pos (by rfl)]
  go_simp
  clear f9 q0 q1 q2
  (try rw [hw7])
  refine hK.out _ _ ⟨cellOfBlk K7.out 0, cellOfBlk K7.out 1, cellOfBlk K7.out 2⟩ ?_
  clear hK Kc hw7 R6 N6 T6 P6 O6 C6 K6
  obtain ⟨m0, m1_, m2_, f0, f1, f2⟩ := N7.out.cells
  obtain ⟨w8, hw8⟩ : ∃ W9, ((w7.setCell ⟨o2, 0, none⟩ (.int .i64 x)).setCell ⟨o2, 1, none⟩ (.int .i64 y)).setCell ⟨o2, 2, none⟩ (.int .i64 z) = W9 := ⟨_, rfl⟩
  have ne1 : ∀ k, (Value.slice A1 m1 c1).ownBlock = some k → k ≠ o2 := fun k hk => by have := (World.ownsRow.lt P7.out k hk).1; omega
  have ne2 : ∀ k, (Value.slice A2 m2 d2).ownBlock = some k → k ≠ o2 := fun k hk => by have := (World.ownsRow.lt O7.out k hk).1; omega
  have R8 : Hid (Blk w8 o1 #[.string s, .slice A1 m1 c1, .slice A2 m2 d2] 25) := by show Blk _ _ _ _; rw [← hw8]; exact ((R7.out.other _ _ (by show o1 ≠ o2; omega)).other _ _ (by show o1 ≠ o2; omega)).other _ _ (by show o1 ≠ o2; omega)
  have N8 : Hid (M3 w8 o2 x y z) := by show M3 _ _ _ _ _; rw [← hw8]; exact N7.out.put x y z
  have T8 : Hid (Below o1 w w8) := by show Below _ _ _; rw [← hw8]; exact ((T7.out.setCell (p := ⟨o2, 0, none⟩) (by show o1 ≤ o2; omega) _).setCell (p := ⟨o2, 1, none⟩) (by show o1 ≤ o2; omega) _).setCell (p := ⟨o2, 2, none⟩) (by show o1 ≤ o2; omega) _
  have P8 : Hid (Own w8 w1.heap.size (.slice A1 m1 c1) ws) := by show Own _ _ _ _; rw [← hw8]; exact ((P7.out.setO _ _ ne1).setO _ _ ne1).setO _ _ ne1
  have O8 : Hid (Own w8 w1.heap.size (.slice A2 m2 d2) cs) := by show Own _ _ _ _; rw [← hw8]; exact ((O7.out.setO _ _ ne2).setO _ _ ne2).setO _ _ ne2
  have K8 : Hid (Blk w8 b #[.string s, .slice A1 m1 c1, .slice A2 m2 d2] 25) := by show Blk _ _ _ _; rw [← hw8]; exact ((K7.out.other _ _ (by show b ≠ o2; omega)).other _ _ (by show b ≠ o2; omega)).other _ _ (by show b ≠ o2; omega)
  clear ne1 ne2
  try subst hoo
  refine plan_step rfl (fun Kc hK => ?_)
  rw [if_pos (by rfl)]
  go_simp
  clear m0 m1_ m2_ f0 f1 f2
  (try rw [hw8])
  refine hK.out _ _ ⟨cellOfBlk K8.out 0, cellOfBlk K8.out 1, cellOfBlk K8.out 2⟩ ?_
  clear hK Kc hw8 R7 N7 T7 P7 O7 K7
  refine plan_quiet rfl (by rfl) (v := ?_) ?_ ?_; rotate_left; (intro w1 hSw; obtain ⟨h0, h1, h2⟩ := hSw; go_simp; try (with_reducible rfl)); (try simp only [Act.put, List.setIfInBounds_toArray, List.set_cons_zero, List.set_cons_succ])
  refine plan_end ?_
  go_wp2
  obtain ⟨r0, r1, r2⟩ := (show w8.cell? ⟨o1, 0, none⟩ = some (.string s) ∧ w8.cell? ⟨o1, 1, none⟩ = some (.slice A1 m1 c1) ∧ w8.cell? ⟨o1, 2, none⟩ = some (.slice A2 m2 d2) from ⟨cellOfBlk R8.out 0, cellOfBlk R8.out 1, cellOfBlk R8.out 2⟩)
  obtain ⟨s0, s1, s2, -, -, -⟩ := N8.out.cells
  (try simp only [Exit.inBlock, Exit.then])
  refine bodyPost_ret (v := .tuple #[.agg #[.string s, .slice A1 m1 c1, .slice A2 m2 d2], .agg #[.int .i64 x, .int .i64 y, .int .i64 z], .string t]) (by simp [results, Try.results24, go_sem, r0, r1, r2, s0, s1, s2]) rfl ?_
  have hW : ws.length = m1 := HW.out
  have hC : cs.length = m2 := HC.out
  subst hW; subst hC
  have hzw : w.heap.size ≤ w1.heap.size := by have := HO1.out; omega
  exact ⟨_, ⟨s, ws, cs⟩, x, y, z, t, rfl, ⟨A1, c1, A2, d2, rfl, IntsI.of_own (own_base P8.out hzw), IntsI.of_own (own_base O8.out hzw), (own_caps P8.out).1, (own_caps P8.out).2, (own_caps O8.out).1, (own_caps O8.out).2, by show s.size ≤ maxLen; unfold maxLen; omega⟩, hs24, hm1, hm2, ht, by rw [HO1.out]; exact T8.out⟩
end Go.Proofs.Ytobakeahbgodbaa
