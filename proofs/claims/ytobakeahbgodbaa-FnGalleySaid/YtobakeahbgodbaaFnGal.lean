/-
  FnGalley: its walk. No condition.
-/
import Derived.Test.YtobakeahbgodbaaDrawSg
import Derived.Test.YtobakeahbgodbaaGalW
import Derived.Test.YtobakeahbgodbaaLawStr
namespace Go.Proofs.Ytobakeahbgodbaa
open Go.RowKit
set_option linter.unusedVariables false

set_option maxRecDepth 100000 in
set_option maxHeartbeats 6400000 in
theorem fnGalley_walk (A : Option Addr) (n c : Nat) (bs : List Int) (w : World) (hn : bs.length = n) (hm : n ≤ maxLen) (h : Bytes w A bs) (wf : ∀ z ∈ bs, (Lit.int .u8 z).wf = true) :
    Calls Try.prog 6 #[.slice A n c] w fun e w' => e = .returned (.bool true) ∧ Below w.heap.size w w' := by
  have H := Lib.hid h; have Hn := Lib.hid hn; have Hwf := Lib.hid wf
  clear h hn wf
  have hm0 := hm
  unfold maxLen at hm
  by_cases hbig : 1048576 < n
  · go_enter Try.func6, Try.ntmps6
    go_wp2
    go_ret
    exact ⟨rfl, Below.refl _ _⟩
  go_enter Try.func6, Try.ntmps6
  go_wp2_with fail
  refine (drawSg_any _ _ _ bs _ Hn.out hm0 H.out Hwf.out).mono ?_
  rintro e w1 ⟨v, ⟨s, ws, cs⟩, X, Y, Z, t, rfl, hF, hs24, hw24, hc24, ht, hb1⟩
  simp only at hs24 hw24 hc24
  obtain ⟨B1, d1, B2, d2, rfl⟩ := fontForm hF
  go_wp2_with fail
  have hSm : Small ⟨s, ws, cs⟩ := ⟨by show s.size ≤ _; omega, by show ws.length ≤ _; omega, by show cs.length ≤ _; omega⟩
  obtain ⟨w2, hw2, hb2, hz2, hK2⟩ := mxWorld w1 #[.string s, .slice B1 ws.length d1, .slice B2 cs.length d2] 25
  obtain ⟨w3, hw3⟩ : ∃ x, w2.alloc (.cells #[.int .i64 X, .int .i64 Y, .int .i64 Z] 51) = x := ⟨_, rfl⟩
  have hN3 : M3 w3 w2.heap.size X Y Z := by rw [← hw3]; exact M3.new w2 X Y Z
  have hb3 : Below w2.heap.size w2 w3 := by rw [← hw3]; exact below_new _ _
  have z1 := hb1.size
  have hz3 := hb3.size
  obtain ⟨b, hb⟩ : ∃ b, w1.heap.size = b := ⟨_, rfl⟩
  rw [hb] at hz2
  rw [hz2] at hN3
  have z3 : b + 1 < w3.heap.size := hN3.lt
  have F3 := Lib.hid ((hF.below (Nat.le_refl _) hb2).below (by omega) hb3); have T3 := Lib.hid ((hb1.trans (hb2.mono z1)).trans (hb3.mono (by omega)))
  rw [hb] at F3 hK2 z1
  have K3 := Lib.hid (hK2.below hb3 (by omega)); have N3 := Lib.hid hN3; have HS := Lib.hid hSm
  clear hF hb1 hb2 hb3 hK2 hN3 hSm hz2 hz3
  rw [hw2, hw3, hb]
  clear hw2 hw3 hb
  refine (implGal_any w.heap.size b _ ⟨s, ws, cs⟩ X Y Z t w3 F3.out (by omega) HS.out (by omega)).mono ?_
  rintro e4 w4 ⟨u, rfl, hO, hb4⟩
  have z4 : b + 1 < w4.heap.size := by have := hb4.size; omega
  have F4 := Lib.hid (F3.out.below (by omega) hb4); have K4 := Lib.hid (K3.out.below hb4 (by omega)); have N4 := Lib.hid (N3.out.below hb4 (by omega)); have T4 := Lib.hid (T3.out.trans (hb4.mono (by omega)))
  clear F3 K3 N3 T3 hb4
  cases hg : galA ⟨s, ws, cs⟩ ⟨X, Y, Z⟩ t with
  | none =>
    rw [hg] at hO
    obtain ⟨A1, c1, rfl, -, -⟩ := hO.form
    have HG := Lib.hid hg
    clear hO hg
    obtain ⟨b0, b1, b2, b3, b4, b5⟩ := (show w4.cell? ⟨b, 0, none⟩ = some (.string s) ∧ w4.cell? ⟨b, 1, none⟩ = some (.slice B1 ws.length d1) ∧ w4.cell? ⟨b, 2, none⟩ = some (.slice B2 cs.length d2) ∧ w4.cell? ⟨b + 1, 0, none⟩ = some (.int .i64 X) ∧ w4.cell? ⟨b + 1, 1, none⟩ = some (.int .i64 Y) ∧ w4.cell? ⟨b + 1, 2, none⟩ = some (.int .i64 Z) from ⟨cellOfBlk K4.out 0, cellOfBlk K4.out 1, cellOfBlk K4.out 2, N4.out.cells.1, N4.out.cells.2.1, N4.out.cells.2.2.1⟩)
    simp only [Option.isSome_none, Option.getD_none, List.length_nil]
    go_wp2_with fail
    clear b0 b1 b2 b3 b4 b5
    refine (specGal_any w.heap.size b _ ⟨s, ws, cs⟩ X Y Z t w4 F4.out (by omega) HS.out (by omega)).mono ?_
    rintro e5 w5 ⟨u2, rfl, hO2, hb5⟩
    rw [HG.out]
    simp only [Option.isSome_none]
    clear hO2
    have z5 : b + 1 < w5.heap.size := by have := hb5.size; omega
    have F5 := Lib.hid (F4.out.below (by omega) hb5); have K5 := Lib.hid (K4.out.below hb5 (by omega)); have N5 := Lib.hid (N4.out.below hb5 (by omega)); have T5 := Lib.hid (T4.out.trans (hb5.mono (by omega)))
    clear F4 K4 N4 T4 hb5
    go_wp2
    go_ret
    exact ⟨rfl, T5.out⟩
  | some g =>
    have hgp := galA_parts hg; have hall := gal_all hg; have hsum := gal_sum hg
    have HLN : Hid (∀ l, l ∈ g → wwB ⟨s, ws, cs⟩ l = true ∧ 1 ≤ (wwL ⟨s, ws, cs⟩ l).length ∧ (wwL ⟨s, ws, cs⟩ l).length ≤ 40 ∧ (∀ x ∈ (wwL ⟨s, ws, cs⟩ l), 1 ≤ x ∧ x ≤ 2000) ∧ widF (sumL (wwL ⟨s, ws, cs⟩ l)) ((wwL ⟨s, ws, cs⟩ l).length - 1) Y ≤ X) := fun l hl => gal_line hg hl
    rw [hg] at hO
    simp only [Option.isSome_some, Option.getD_some] at hO ⊢
    obtain ⟨hwt, -, hgb, hga, hszl, hg40, hbk⟩ := hgp
    have hms : msrB ⟨X, Y, Z⟩ = true := by unfold isBrk okW at hbk; rw [Bool.and_eq_true, Bool.and_eq_true] at hbk; exact hbk.1.1
    obtain ⟨hX1, hX2, hY1, hYZ, hZ⟩ := msrB_iff.1 hms
    simp only at hX1 hX2 hY1 hYZ hZ
    obtain ⟨A1, c1, rfl, hst, hA1, hc1, hcm1⟩ := hO.form
    obtain ⟨gn, hgn⟩ : ∃ y, g.length = y := ⟨_, rfl⟩
    rw [hgn] at hO hg40 hc1 hsum ⊢
    have HN := Lib.hid hgn; have HGA := Lib.hid hga; have HGB := Lib.hid hgb; have HSZ := Lib.hid hszl; have HALL := Lib.hid hall; have HSUM := Lib.hid hsum; have HWT := Lib.hid hwt; have G4 := Lib.hid hO
    have hgts : (gtS g).size ≤ 80080 := Nat.le_trans (gtS_size g) hszl
    clear hgn hga hgb hszl hall hsum hwt hO hst hA1 hbk hms hg
    obtain ⟨b0, b1, b2, b3, b4, b5⟩ := (show w4.cell? ⟨b, 0, none⟩ = some (.string s) ∧ w4.cell? ⟨b, 1, none⟩ = some (.slice B1 ws.length d1) ∧ w4.cell? ⟨b, 2, none⟩ = some (.slice B2 cs.length d2) ∧ w4.cell? ⟨b + 1, 0, none⟩ = some (.int .i64 X) ∧ w4.cell? ⟨b + 1, 1, none⟩ = some (.int .i64 Y) ∧ w4.cell? ⟨b + 1, 2, none⟩ = some (.int .i64 Z) from ⟨cellOfBlk K4.out 0, cellOfBlk K4.out 1, cellOfBlk K4.out 2, N4.out.cells.1, N4.out.cells.2.1, N4.out.cells.2.2.1⟩)
    go_wp2_with fail
    clear b0 b1 b2 b3 b4 b5
    refine wp_region_plan (.take 0 (.take 1 (.take 2 (.one 3 (.one 4 (.take 5 (.take 6 (.take 7 (.take 8 (.take 9 .done)))))))))) (fun w' => w'.cell? ⟨b, 0, none⟩ = some (.string s) ∧ w'.cell? ⟨b, 1, none⟩ = some (.slice B1 ws.length d1) ∧ w'.cell? ⟨b, 2, none⟩ = some (.slice B2 cs.length d2) ∧ w'.cell? ⟨b + 1, 0, none⟩ = some (.int .i64 X) ∧ w'.cell? ⟨b + 1, 1, none⟩ = some (.int .i64 Y) ∧ w'.cell? ⟨b + 1, 2, none⟩ = some (.int .i64 Z)) (by kernel_rfl) (by kernel_rfl) (by kernel_rfl) (by intro c a d v w h; cases d <;> exact h) ⟨cellOfBlk K4.out 0, cellOfBlk K4.out 1, cellOfBlk K4.out 2, N4.out.cells.1, N4.out.cells.2.1, N4.out.cells.2.2.1⟩ ?_
    obtain ⟨w5, hwd⟩ : ∃ x, w4.drew = x := ⟨_, rfl⟩
    have F5 : Hid (FontV w5 w.heap.size b (.agg #[.string s, .slice B1 ws.length d1, .slice B2 cs.length d2]) ⟨s, ws, cs⟩) := by show FontV w5 w.heap.size b (.agg #[.string s, .slice B1 ws.length d1, .slice B2 cs.length d2]) ⟨s, ws, cs⟩; rw [← hwd]; exact F4.out
    have K5 : Hid (Blk w5 b #[.string s, .slice B1 ws.length d1, .slice B2 cs.length d2] 25) := by show Blk w5 b #[.string s, .slice B1 ws.length d1, .slice B2 cs.length d2] 25; rw [← hwd]; exact K4.out
    have N5 : Hid (M3 w5 (b + 1) X Y Z) := by show M3 w5 (b + 1) X Y Z; rw [← hwd]; exact N4.out
    have T5 : Hid (Below w.heap.size w w5) := by show Below w.heap.size w w5; rw [← hwd]; exact T4.out.drew
    have G5 : Hid (OwnS w5 w3.heap.size (.slice A1 gn c1) g) := by show OwnS w5 w3.heap.size (.slice A1 gn c1) g; rw [← hwd]; exact G4.out
    have z5 : b + 1 < w5.heap.size := by rw [← hwd]; exact z4
    rw [hwd]
    clear hwd F4 K4 N4 T4 G4
    refine plan_quiet rfl (by rfl) (v := ?_) ?_ ?_; rotate_left; (intro w1 hSw; obtain ⟨h0, h1, h2, h3, h4, h5⟩ := hSw; go_simp; try (with_reducible rfl)); (try simp only [Act.put, List.setIfInBounds_toArray, List.set_cons_zero, List.set_cons_succ])
    refine plan_quiet rfl (by rfl) (v := ?_) ?_ ?_; rotate_left; (intro w1 hSw; obtain ⟨h0, h1, h2, h3, h4, h5⟩ := hSw; go_simp; try (with_reducible rfl)); (try simp only [Act.put, List.setIfInBounds_toArray, List.set_cons_zero, List.set_cons_succ])
    refine plan_quiet rfl (by rfl) (v := ?_) ?_ ?_; rotate_left; (intro w1 hSw; obtain ⟨h0, h1, h2, h3, h4, h5⟩ := hSw; go_simp; try (with_reducible rfl)); (try simp only [Act.put, List.setIfInBounds_toArray, List.set_cons_zero, List.set_cons_succ])
    refine plan_step rfl (fun Kc hK => ?_)
    rw [if_pos (by rfl)]
    go_simp
    refine (implGT_own _ _ _ _ g w5 HN.out (Nat.le_trans HSZ.out (by decide)) G5.out).mono ?_
    rintro e6 w6 ⟨rfl, hb6⟩
    have z6 : b + 1 < w6.heap.size := by have := hb6.size; omega
    have F6 := Lib.hid (F5.out.below (by omega) hb6); have K6 := Lib.hid (K5.out.below hb6 (by omega)); have N6 := Lib.hid (N5.out.below hb6 (by omega)); have T6 := Lib.hid (T5.out.trans (hb6.mono (by omega)))
    have G6 := Lib.hid (G5.out.below hb6)
    clear F5 K5 N5 T5 G5 hb6
    refine hK.out _ _ ⟨cellOfBlk K6.out 0, cellOfBlk K6.out 1, cellOfBlk K6.out 2, N6.out.cells.1, N6.out.cells.2.1, N6.out.cells.2.2.1⟩ ?_
    clear hK Kc
    refine plan_step rfl (fun Kc hK => ?_)
    rw [if_pos (by rfl)]
    go_simp
    refine (implGal_any w.heap.size b _ ⟨s, ws, cs⟩ X Y Z (gtS g) w6 F6.out (by omega) HS.out (by omega)).mono ?_
    rintro e7 w7 ⟨u2, rfl, hO2, hb7⟩
    rw [HGA.out] at hO2 ⊢
    simp only [Option.isSome_some, Option.getD_some] at hO2 ⊢
    obtain ⟨A2, c2, rfl, hst2, -, hc2, hcm2⟩ := hO2.form
    rw [HN.out] at hc2 ⊢
    have z7 : b + 1 < w7.heap.size := by have := hb7.size; omega
    have F7 := Lib.hid (F6.out.below (by omega) hb7); have K7 := Lib.hid (K6.out.below hb7 (by omega)); have N7 := Lib.hid (N6.out.below hb7 (by omega)); have T7 := Lib.hid (T6.out.trans (hb7.mono (by omega)))
    have G7 := Lib.hid (G6.out.below hb7)
    clear F6 K6 N6 T6 G6 hb7
    have R7 := Lib.hid hst2
    clear hO2 hst2
    refine hK.out _ _ ⟨cellOfBlk K7.out 0, cellOfBlk K7.out 1, cellOfBlk K7.out 2, N7.out.cells.1, N7.out.cells.2.1, N7.out.cells.2.2.1⟩ ?_
    clear hK Kc
    refine plan_quiet rfl (by rfl) (v := ?_) ?_ ?_; rotate_left; (intro w1 hSw; obtain ⟨h0, h1, h2, h3, h4, h5⟩ := hSw; go_simp; try (with_reducible rfl)); (try simp only [Act.put, List.setIfInBounds_toArray, List.set_cons_zero, List.set_cons_succ])
    refine plan_quiet rfl (by rfl) (v := ?_) ?_ ?_; rotate_left; (intro w1 hSw; obtain ⟨h0, h1, h2, h3, h4, h5⟩ := hSw; go_simp; try (with_reducible rfl)); (try simp only [Act.put, List.setIfInBounds_toArray, List.set_cons_zero, List.set_cons_succ])
    refine plan_quiet rfl (by rfl) (v := ?_) ?_ ?_; rotate_left; (intro w1 hSw; obtain ⟨h0, h1, h2, h3, h4, h5⟩ := hSw; go_simp; try (with_reducible rfl)); (try simp only [Act.put, List.setIfInBounds_toArray, List.set_cons_zero, List.set_cons_succ])
    refine plan_quiet rfl (by rfl) (v := ?_) ?_ ?_; rotate_left; (intro w1 hSw; obtain ⟨h0, h1, h2, h3, h4, h5⟩ := hSw; go_simp; try (with_reducible rfl)); (try simp only [Act.put, List.setIfInBounds_toArray, List.set_cons_zero, List.set_cons_succ])
    refine plan_quiet rfl (by rfl) (v := ?_) ?_ ?_; rotate_left; (intro w1 hSw; obtain ⟨h0, h1, h2, h3, h4, h5⟩ := hSw; go_simp; try (with_reducible rfl)); (try simp only [Act.put, List.setIfInBounds_toArray, List.set_cons_zero, List.set_cons_succ])
    refine plan_end ?_
    obtain ⟨b0, b1, b2, b3, b4, b5⟩ := (show w7.cell? ⟨b, 0, none⟩ = some (.string s) ∧ w7.cell? ⟨b, 1, none⟩ = some (.slice B1 ws.length d1) ∧ w7.cell? ⟨b, 2, none⟩ = some (.slice B2 cs.length d2) ∧ w7.cell? ⟨b + 1, 0, none⟩ = some (.int .i64 X) ∧ w7.cell? ⟨b + 1, 1, none⟩ = some (.int .i64 Y) ∧ w7.cell? ⟨b + 1, 2, none⟩ = some (.int .i64 Z) from ⟨cellOfBlk K7.out 0, cellOfBlk K7.out 1, cellOfBlk K7.out 2, N7.out.cells.1, N7.out.cells.2.1, N7.out.cells.2.2.1⟩)
    go_wp2_with fail
    clear b0 b1 b2 b3 b4 b5
    refine (implWords_any w.heap.size b _ ⟨s, ws, cs⟩ t w7 F7.out (by omega) HS.out (by omega)).mono ?_
    rintro e8 w8 ⟨u8, rfl, hO8, hb8⟩
    rw [HWT.out]
    obtain ⟨A3, c3, rfl, hI8, -, hc3, hcm3⟩ := hO8.form
    obtain ⟨m, hm3⟩ : ∃ y, (wwL ⟨s, ws, cs⟩ t).length = y := ⟨_, rfl⟩
    rw [hm3] at hc3 ⊢
    have HM := Lib.hid hm3
    clear hO8 hm3
    have z8 : b + 1 < w8.heap.size := by have := hb8.size; omega
    have F8 := Lib.hid (F7.out.below (by omega) hb8); have K8 := Lib.hid (K7.out.below hb8 (by omega)); have N8 := Lib.hid (N7.out.below hb8 (by omega)); have T8 := Lib.hid (T7.out.trans (hb8.mono (by omega)))
    have G8 := Lib.hid (G7.out.below hb8)
    have R8 := Lib.hid (R7.out.below hb8)
    clear F7 K7 N7 T7 G7 R7 hb8
    have V8 := Lib.hid hI8
    clear hI8
    obtain ⟨b0, b1, b2, b3, b4, b5⟩ := (show w8.cell? ⟨b, 0, none⟩ = some (.string s) ∧ w8.cell? ⟨b, 1, none⟩ = some (.slice B1 ws.length d1) ∧ w8.cell? ⟨b, 2, none⟩ = some (.slice B2 cs.length d2) ∧ w8.cell? ⟨b + 1, 0, none⟩ = some (.int .i64 X) ∧ w8.cell? ⟨b + 1, 1, none⟩ = some (.int .i64 Y) ∧ w8.cell? ⟨b + 1, 2, none⟩ = some (.int .i64 Z) from ⟨cellOfBlk K8.out 0, cellOfBlk K8.out 1, cellOfBlk K8.out 2, N8.out.cells.1, N8.out.cells.2.1, N8.out.cells.2.2.1⟩)
    go_wp2_with fail
    clear b0 b1 b2 b3 b4 b5
    refine wp_region_plan (.take 0 (.take 1 (.one 2 (.one 3 (.take 4 (.take 5 (.take 6 (.take 7 (.take 8 .done))))))))) (fun w' => w'.cell? ⟨b, 0, none⟩ = some (.string s) ∧ w'.cell? ⟨b, 1, none⟩ = some (.slice B1 ws.length d1) ∧ w'.cell? ⟨b, 2, none⟩ = some (.slice B2 cs.length d2) ∧ w'.cell? ⟨b + 1, 0, none⟩ = some (.int .i64 X) ∧ w'.cell? ⟨b + 1, 1, none⟩ = some (.int .i64 Y) ∧ w'.cell? ⟨b + 1, 2, none⟩ = some (.int .i64 Z)) (by kernel_rfl) (by kernel_rfl) (by kernel_rfl) (by intro c a d v w h; cases d <;> exact h) ⟨cellOfBlk K8.out 0, cellOfBlk K8.out 1, cellOfBlk K8.out 2, N8.out.cells.1, N8.out.cells.2.1, N8.out.cells.2.2.1⟩ ?_
    obtain ⟨w9, hwd⟩ : ∃ x, w8.drew = x := ⟨_, rfl⟩
    have F9 : Hid (FontV w9 w.heap.size b (.agg #[.string s, .slice B1 ws.length d1, .slice B2 cs.length d2]) ⟨s, ws, cs⟩) := by show FontV w9 w.heap.size b (.agg #[.string s, .slice B1 ws.length d1, .slice B2 cs.length d2]) ⟨s, ws, cs⟩; rw [← hwd]; exact F8.out
    have K9 : Hid (Blk w9 b #[.string s, .slice B1 ws.length d1, .slice B2 cs.length d2] 25) := by show Blk w9 b #[.string s, .slice B1 ws.length d1, .slice B2 cs.length d2] 25; rw [← hwd]; exact K8.out
    have N9 : Hid (M3 w9 (b + 1) X Y Z) := by show M3 w9 (b + 1) X Y Z; rw [← hwd]; exact N8.out
    have T9 : Hid (Below w.heap.size w w9) := by show Below w.heap.size w w9; rw [← hwd]; exact T8.out.drew
    have G9 : Hid (OwnS w9 w3.heap.size (.slice A1 gn c1) g) := by show OwnS w9 w3.heap.size (.slice A1 gn c1) g; rw [← hwd]; exact G8.out
    have R9 : Hid (Strs w9 A2 g) := by show Strs w9 A2 g; rw [← hwd]; exact R8.out
    have V9 : Hid (Ints w9 A3 (wwL ⟨s, ws, cs⟩ t)) := by show Ints w9 A3 (wwL ⟨s, ws, cs⟩ t); rw [← hwd]; exact V8.out
    have z9 : b + 1 < w9.heap.size := by rw [← hwd]; exact z8
    rw [hwd]
    clear hwd F8 K8 N8 T8 G8 R8 V8
    refine plan_quiet rfl (by rfl) (v := ?_) ?_ ?_; rotate_left; (intro w1 hSw; obtain ⟨h0, h1, h2, h3, h4, h5⟩ := hSw; go_simp; try (with_reducible rfl)); (try simp only [Act.put, List.setIfInBounds_toArray, List.set_cons_zero, List.set_cons_succ])
    refine plan_quiet rfl (by rfl) (v := ?_) ?_ ?_; rotate_left; (intro w1 hSw; obtain ⟨h0, h1, h2, h3, h4, h5⟩ := hSw; go_simp; try (with_reducible rfl)); (try simp only [Act.put, List.setIfInBounds_toArray, List.set_cons_zero, List.set_cons_succ])
    refine plan_step rfl (fun Kc hK => ?_)
    rw [if_pos (by rfl)]
    go_simp
    refine (implGT_own _ _ _ _ g w9 HN.out (Nat.le_trans HSZ.out (by decide)) G9.out).mono ?_
    rintro e10 w10 ⟨rfl, hb10⟩
    have z10 : b + 1 < w10.heap.size := by have := hb10.size; omega
    have F10 := Lib.hid (F9.out.below (by omega) hb10); have K10 := Lib.hid (K9.out.below hb10 (by omega)); have N10 := Lib.hid (N9.out.below hb10 (by omega)); have T10 := Lib.hid (T9.out.trans (hb10.mono (by omega)))
    have G10 := Lib.hid (G9.out.below hb10)
    have R10 := Lib.hid (R9.out.below hb10)
    have V10 := Lib.hid (V9.out.below hb10)
    clear F9 K9 N9 T9 G9 R9 V9 hb10
    refine hK.out _ _ ⟨cellOfBlk K10.out 0, cellOfBlk K10.out 1, cellOfBlk K10.out 2, N10.out.cells.1, N10.out.cells.2.1, N10.out.cells.2.2.1⟩ ?_
    clear hK Kc
    refine plan_step rfl (fun Kc hK => ?_)
    rw [if_pos (by rfl)]
    go_simp
    refine (implWords_any w.heap.size b _ ⟨s, ws, cs⟩ (gtS g) w10 F10.out (by omega) HS.out (by omega)).mono ?_
    rintro e11 w11 ⟨u11, rfl, hO11, hb11⟩
    rw [HALL.out.1, HWT.out]
    rw [HALL.out.2] at hO11
    obtain ⟨A4, c4, rfl, hI11, -, hc4, hcm4⟩ := hO11.form
    rw [HM.out] at hc4 ⊢
    clear hO11
    have z11 : b + 1 < w11.heap.size := by have := hb11.size; omega
    have F11 := Lib.hid (F10.out.below (by omega) hb11); have K11 := Lib.hid (K10.out.below hb11 (by omega)); have N11 := Lib.hid (N10.out.below hb11 (by omega)); have T11 := Lib.hid (T10.out.trans (hb11.mono (by omega)))
    have G11 := Lib.hid (G10.out.below hb11)
    have R11 := Lib.hid (R10.out.below hb11)
    have V11 := Lib.hid (V10.out.below hb11)
    clear F10 K10 N10 T10 G10 R10 V10 hb11
    have U11 := Lib.hid hI11
    clear hI11
    refine hK.out _ _ ⟨cellOfBlk K11.out 0, cellOfBlk K11.out 1, cellOfBlk K11.out 2, N11.out.cells.1, N11.out.cells.2.1, N11.out.cells.2.2.1⟩ ?_
    clear hK Kc
    refine plan_quiet rfl (by rfl) (v := ?_) ?_ ?_; rotate_left; (intro w1 hSw; obtain ⟨h0, h1, h2, h3, h4, h5⟩ := hSw; go_simp; try (with_reducible rfl)); (try simp only [Act.put, List.setIfInBounds_toArray, List.set_cons_zero, List.set_cons_succ])
    refine plan_quiet rfl (by rfl) (v := ?_) ?_ ?_; rotate_left; (intro w1 hSw; obtain ⟨h0, h1, h2, h3, h4, h5⟩ := hSw; go_simp; try (with_reducible rfl)); (try simp only [Act.put, List.setIfInBounds_toArray, List.set_cons_zero, List.set_cons_succ])
    refine plan_quiet rfl (by rfl) (v := ?_) ?_ ?_; rotate_left; (intro w1 hSw; obtain ⟨h0, h1, h2, h3, h4, h5⟩ := hSw; go_simp; try (with_reducible rfl)); (try simp only [Act.put, List.setIfInBounds_toArray, List.set_cons_zero, List.set_cons_succ])
    refine plan_quiet rfl (by rfl) (v := ?_) ?_ ?_; rotate_left; (intro w1 hSw; obtain ⟨h0, h1, h2, h3, h4, h5⟩ := hSw; go_simp; try (with_reducible rfl)); (try simp only [Act.put, List.setIfInBounds_toArray, List.set_cons_zero, List.set_cons_succ])
    refine plan_quiet rfl (by rfl) (v := ?_) ?_ ?_; rotate_left; (intro w1 hSw; obtain ⟨h0, h1, h2, h3, h4, h5⟩ := hSw; go_simp; try (with_reducible rfl)); (try simp only [Act.put, List.setIfInBounds_toArray, List.set_cons_zero, List.set_cons_succ])
    refine plan_end ?_
    obtain ⟨b0, b1, b2, b3, b4, b5⟩ := (show w11.cell? ⟨b, 0, none⟩ = some (.string s) ∧ w11.cell? ⟨b, 1, none⟩ = some (.slice B1 ws.length d1) ∧ w11.cell? ⟨b, 2, none⟩ = some (.slice B2 cs.length d2) ∧ w11.cell? ⟨b + 1, 0, none⟩ = some (.int .i64 X) ∧ w11.cell? ⟨b + 1, 1, none⟩ = some (.int .i64 Y) ∧ w11.cell? ⟨b + 1, 2, none⟩ = some (.int .i64 Z) from ⟨cellOfBlk K11.out 0, cellOfBlk K11.out 1, cellOfBlk K11.out 2, N11.out.cells.1, N11.out.cells.2.1, N11.out.cells.2.2.1⟩)
    go_wp2_with fail
    refine (implGalOk_any w.heap.size b _ _ ⟨s, ws, cs⟩ X Y Z A1 gn c1 g w11 F11.out (by omega) HS.out HN.out (Nat.le_trans HSZ.out (by decide)) G11.out).mono ?_
    rintro e12 w12 ⟨rfl, hb12⟩
    rw [HGB.out]
    clear b0 b1 b2 b3 b4 b5
    have z12 : b + 1 < w12.heap.size := by have := hb12.size; omega
    have F12 := Lib.hid (F11.out.below (by omega) hb12); have K12 := Lib.hid (K11.out.below hb12 (by omega)); have N12 := Lib.hid (N11.out.below hb12 (by omega)); have T12 := Lib.hid (T11.out.trans (hb12.mono (by omega)))
    have G12 := Lib.hid (G11.out.below hb12)
    have R12 := Lib.hid (R11.out.below hb12)
    have V12 := Lib.hid (V11.out.below hb12)
    have U12 := Lib.hid (U11.out.below hb12)
    clear F11 K11 N11 T11 G11 R11 V11 U11 hb12
    go_wp2_with fail
    have hgm : gn ≤ maxLen := by unfold maxLen; omega
    refine (lawStrings_same A2 A1 gn c2 c1 g w12 HN.out hgm R12.out (owns_rd G12.out)).mono ?_
    rintro e13 w13 ⟨q, rfl, rfl⟩
    obtain ⟨w13, hwd⟩ : ∃ x, w12.drewN q = x := ⟨_, rfl⟩
    have F13 : Hid (FontV w13 w.heap.size b (.agg #[.string s, .slice B1 ws.length d1, .slice B2 cs.length d2]) ⟨s, ws, cs⟩) := by show FontV w13 w.heap.size b (.agg #[.string s, .slice B1 ws.length d1, .slice B2 cs.length d2]) ⟨s, ws, cs⟩; rw [← hwd]; exact F12.out
    have K13 : Hid (Blk w13 b #[.string s, .slice B1 ws.length d1, .slice B2 cs.length d2] 25) := by show Blk w13 b #[.string s, .slice B1 ws.length d1, .slice B2 cs.length d2] 25; rw [← hwd]; exact K12.out
    have N13 : Hid (M3 w13 (b + 1) X Y Z) := by show M3 w13 (b + 1) X Y Z; rw [← hwd]; exact N12.out
    have T13 : Hid (Below w.heap.size w w13) := by show Below w.heap.size w w13; rw [← hwd]; exact below_drewN T12.out q
    have G13 : Hid (OwnS w13 w3.heap.size (.slice A1 gn c1) g) := by show OwnS w13 w3.heap.size (.slice A1 gn c1) g; rw [← hwd]; exact G12.out
    have R13 : Hid (Strs w13 A2 g) := by show Strs w13 A2 g; rw [← hwd]; exact R12.out
    have V13 : Hid (Ints w13 A3 (wwL ⟨s, ws, cs⟩ t)) := by show Ints w13 A3 (wwL ⟨s, ws, cs⟩ t); rw [← hwd]; exact V12.out
    have U13 : Hid (Ints w13 A4 (wwL ⟨s, ws, cs⟩ t)) := by show Ints w13 A4 (wwL ⟨s, ws, cs⟩ t); rw [← hwd]; exact U12.out
    have z13 : b + 1 < w13.heap.size := by rw [← hwd]; exact z12
    rw [hwd]
    clear hwd F12 K12 N12 T12 G12 R12 V12 U12
    go_wp2_with fail
    have hmm : m ≤ maxLen := by have := hcm3; omega
    refine (lawInts_any A3 A4 m c3 m c4 _ _ w13 HM.out HM.out hmm hmm V13.out U13.out).mono ?_
    rintro e14 w14 ⟨q2, rfl, rfl⟩
    rw [decide_eq_true rfl]
    obtain ⟨w14, hwd⟩ : ∃ x, w13.drewN q2 = x := ⟨_, rfl⟩
    have F14 : Hid (FontV w14 w.heap.size b (.agg #[.string s, .slice B1 ws.length d1, .slice B2 cs.length d2]) ⟨s, ws, cs⟩) := by show FontV w14 w.heap.size b (.agg #[.string s, .slice B1 ws.length d1, .slice B2 cs.length d2]) ⟨s, ws, cs⟩; rw [← hwd]; exact F13.out
    have K14 : Hid (Blk w14 b #[.string s, .slice B1 ws.length d1, .slice B2 cs.length d2] 25) := by show Blk w14 b #[.string s, .slice B1 ws.length d1, .slice B2 cs.length d2] 25; rw [← hwd]; exact K13.out
    have N14 : Hid (M3 w14 (b + 1) X Y Z) := by show M3 w14 (b + 1) X Y Z; rw [← hwd]; exact N13.out
    have T14 : Hid (Below w.heap.size w w14) := by show Below w.heap.size w w14; rw [← hwd]; exact below_drewN T13.out q2
    have G14 : Hid (OwnS w14 w3.heap.size (.slice A1 gn c1) g) := by show OwnS w14 w3.heap.size (.slice A1 gn c1) g; rw [← hwd]; exact G13.out
    have R14 : Hid (Strs w14 A2 g) := by show Strs w14 A2 g; rw [← hwd]; exact R13.out
    have V14 : Hid (Ints w14 A3 (wwL ⟨s, ws, cs⟩ t)) := by show Ints w14 A3 (wwL ⟨s, ws, cs⟩ t); rw [← hwd]; exact V13.out
    have U14 : Hid (Ints w14 A4 (wwL ⟨s, ws, cs⟩ t)) := by show Ints w14 A4 (wwL ⟨s, ws, cs⟩ t); rw [← hwd]; exact U13.out
    have z14 : b + 1 < w14.heap.size := by rw [← hwd]; exact z13
    rw [hwd]
    clear hwd F13 K13 N13 T13 G13 R13 V13 U13
    have hsum : lenGal ⟨s, ws, cs⟩ g gn = m := by rw [HSUM.out]; exact HM.out
    have HSM := Lib.hid hsum
    clear hsum HSUM
    go_wp2_with fail
    go_loopw [16, 105] (fun v i wr => ∃ k : Nat, k ≤ gn ∧ i = .int .i64 k ∧ v = .int .i64 ((lenGal ⟨s, ws, cs⟩ g k : Nat) : Int) ∧ Hid (Below w14.heap.size w14 wr)) (fun _ i _ => gn - (intOf i).toNat)
    case atStart => exact ⟨0, Nat.zero_le _, rfl, rfl, Below.refl _ _⟩
    case round =>
      obtain ⟨k, hk, rfl, rfl, hwr⟩ := hrel
      obtain ⟨w15, h15⟩ : ∃ x, x = wr := ⟨_, rfl⟩
      subst h15
      have hb15 := hwr.out
      have W15 := Lib.hid hb15
      clear hwr
      have z15 : b + 1 < w15.heap.size := by have := hb15.size; omega
      have F15 := Lib.hid (F14.out.below (by omega) hb15); have K15 := Lib.hid (K14.out.below hb15 (by omega)); have N15 := Lib.hid (N14.out.below hb15 (by omega)); have T15 := Lib.hid (T14.out.trans (hb15.mono (by omega)))
      have G15 := Lib.hid (G14.out.below hb15)
      have R15 := Lib.hid (R14.out.below hb15)
      have V15 := Lib.hid (V14.out.below hb15)
      have U15 := Lib.hid (U14.out.below hb15)
      clear F14 K14 N14 T14 G14 R14 V14 U14 hb15
      have hlk := lenGal_le (f := ⟨s, ws, cs⟩) (g := g) (fun l hl => (HLN.out l hl).2.2.1) k
      obtain ⟨K, hK⟩ : ∃ y, lenGal ⟨s, ws, cs⟩ g k = y := ⟨_, rfl⟩
      rw [hK] at hlk ⊢
      have HK := Lib.hid hK
      clear hK
      by_cases hlt : k < gn
      · obtain ⟨ad, l, rfl, hl, hc⟩ := (owns_rd G15.out).at_ (k := k) (by rw [HN.out]; exact hlt)
        obtain ⟨hlB, hl1, hl40, hlx, hlw⟩ := HLN.out l (List.mem_of_getElem? hl.out)
        have hsucc := lenGal_succ (f := ⟨s, ws, cs⟩) hl.out
        have hlz : l.size ≤ 80080 := by have := szL_mem (List.mem_of_getElem? hl.out); have := HSZ.out; omega
        obtain ⟨zs, hzs⟩ : ∃ y, wwL ⟨s, ws, cs⟩ l = y := ⟨_, rfl⟩
        rw [hzs] at hl1 hl40 hlx hlw hsucc
        obtain ⟨p, hp⟩ : ∃ y, zs.length = y := ⟨_, rfl⟩
        rw [hp] at hl1 hl40 hlw hsucc
        have HZ := Lib.hid hzs; have HP := Lib.hid hp; have HX := Lib.hid hlx; have HB := Lib.hid hlB; have HW := Lib.hid hlw; have HSU := Lib.hid hsucc
        clear hzs hp hlx hlB hlw hsucc
        obtain ⟨b0, b1, b2, b3, b4, b5⟩ := (show w15.cell? ⟨b, 0, none⟩ = some (.string s) ∧ w15.cell? ⟨b, 1, none⟩ = some (.slice B1 ws.length d1) ∧ w15.cell? ⟨b, 2, none⟩ = some (.slice B2 cs.length d2) ∧ w15.cell? ⟨b + 1, 0, none⟩ = some (.int .i64 X) ∧ w15.cell? ⟨b + 1, 1, none⟩ = some (.int .i64 Y) ∧ w15.cell? ⟨b + 1, 2, none⟩ = some (.int .i64 Z) from ⟨cellOfBlk K15.out 0, cellOfBlk K15.out 1, cellOfBlk K15.out 2, N15.out.cells.1, N15.out.cells.2.1, N15.out.cells.2.2.1⟩)
        go_wp2_with fail
        clear b0 b1 b2 b3 b4 b5 hc
        refine (implWords_any w.heap.size b _ ⟨s, ws, cs⟩ l w15 F15.out (by omega) HS.out (by omega)).mono ?_
        rintro e16 w16 ⟨u16, rfl, hO16, hb16⟩
        rw [HB.out]
        rw [HZ.out] at hO16
        obtain ⟨A5, c5, rfl, hI16, -, hc5, hcm5⟩ := hO16.form
        rw [HP.out] at hc5 ⊢
        clear hO16
        have z16 : b + 1 < w16.heap.size := by have := hb16.size; omega
        have F16 := Lib.hid (F15.out.below (by omega) hb16); have K16 := Lib.hid (K15.out.below hb16 (by omega)); have N16 := Lib.hid (N15.out.below hb16 (by omega)); have T16 := Lib.hid (T15.out.trans (hb16.mono (by omega)))
        have G16 := Lib.hid (G15.out.below hb16)
        have R16 := Lib.hid (R15.out.below hb16)
        have V16 := Lib.hid (V15.out.below hb16)
        have U16 := Lib.hid (U15.out.below hb16)
        have W16 := Lib.hid (W15.out.trans (hb16.mono W15.out.size))
        clear F15 K15 N15 T15 G15 R15 V15 U15 W15 hb16
        have P16 := Lib.hid hI16
        clear hI16
        obtain ⟨p1, hp1⟩ : ∃ y, p = y + 1 := ⟨p - 1, by omega⟩
        have hS := sumL_smallG (fun x hx => ⟨by have := (HX.out x hx).1; omega, (HX.out x hx).2⟩) p
        rw [List.take_of_length_le (by rw [HP.out]; exact Nat.le_refl _)] at hS
        have hw0 := HW.out
        unfold widF at hw0
        obtain ⟨S, hSS⟩ : ∃ y, sumL zs = y := ⟨_, rfl⟩
        rw [hSS] at hS hw0
        rw [show p - 1 = p1 by omega] at hw0
        have hP0 : 0 ≤ (p1 : Int) * Y := Int.mul_nonneg (by omega) (by omega)
        obtain ⟨PP, hPP⟩ : ∃ y, (p1 : Int) * Y = y := ⟨_, rfl⟩
        rw [hPP] at hw0 hP0
        obtain ⟨TT, hTT⟩ : ∃ y, S + PP = y := ⟨_, rfl⟩
        rw [hTT] at hw0
        have e1 : (p : Int) - 1 = (p1 : Int) := by omega
        have e2 : IntKind.i64.wrap (p1 : Int) = (p1 : Int) := by rw [IntKind.wrap_i64]; omega
        have e4 : IntKind.i64.wrap PP = PP := by rw [IntKind.wrap_i64]; omega
        have e6 : IntKind.i64.wrap TT = TT := by rw [IntKind.wrap_i64]; omega
        have e7 : ¬ (X < TT) := by omega
        have HSS := Lib.hid hSS
        clear hSS hp1 hw0 hP0
        go_wp2_with fail
        refine wp_region_plan (.take 0 (.take 1 (.take 2 (.take 3 (.take 5 (.take 6 (.take 7 (.take 8 (.take 9 (.take 10 (.take 12 (.take 13 (.one 4 (.take 11 (.take 14 (.take 15 .done)))))))))))))))) (fun w' => w'.cell? ⟨b, 0, none⟩ = some (.string s) ∧ w'.cell? ⟨b, 1, none⟩ = some (.slice B1 ws.length d1) ∧ w'.cell? ⟨b, 2, none⟩ = some (.slice B2 cs.length d2) ∧ w'.cell? ⟨b + 1, 0, none⟩ = some (.int .i64 X) ∧ w'.cell? ⟨b + 1, 1, none⟩ = some (.int .i64 Y) ∧ w'.cell? ⟨b + 1, 2, none⟩ = some (.int .i64 Z)) (by kernel_rfl) (by kernel_rfl) (by kernel_rfl) (by intro c a d v w h; cases d <;> exact h) ⟨cellOfBlk K16.out 0, cellOfBlk K16.out 1, cellOfBlk K16.out 2, N16.out.cells.1, N16.out.cells.2.1, N16.out.cells.2.2.1⟩ ?_
        obtain ⟨w17, hwd⟩ : ∃ x, w16.drew = x := ⟨_, rfl⟩
        have F17 : Hid (FontV w17 w.heap.size b (.agg #[.string s, .slice B1 ws.length d1, .slice B2 cs.length d2]) ⟨s, ws, cs⟩) := by show FontV w17 w.heap.size b (.agg #[.string s, .slice B1 ws.length d1, .slice B2 cs.length d2]) ⟨s, ws, cs⟩; rw [← hwd]; exact F16.out
        have K17 : Hid (Blk w17 b #[.string s, .slice B1 ws.length d1, .slice B2 cs.length d2] 25) := by show Blk w17 b #[.string s, .slice B1 ws.length d1, .slice B2 cs.length d2] 25; rw [← hwd]; exact K16.out
        have N17 : Hid (M3 w17 (b + 1) X Y Z) := by show M3 w17 (b + 1) X Y Z; rw [← hwd]; exact N16.out
        have T17 : Hid (Below w.heap.size w w17) := by show Below w.heap.size w w17; rw [← hwd]; exact T16.out.drew
        have G17 : Hid (OwnS w17 w3.heap.size (.slice (some ad) gn c1) g) := by show OwnS w17 w3.heap.size (.slice (some ad) gn c1) g; rw [← hwd]; exact G16.out
        have R17 : Hid (Strs w17 A2 g) := by show Strs w17 A2 g; rw [← hwd]; exact R16.out
        have V17 : Hid (Ints w17 A3 (wwL ⟨s, ws, cs⟩ t)) := by show Ints w17 A3 (wwL ⟨s, ws, cs⟩ t); rw [← hwd]; exact V16.out
        have U17 : Hid (Ints w17 A4 (wwL ⟨s, ws, cs⟩ t)) := by show Ints w17 A4 (wwL ⟨s, ws, cs⟩ t); rw [← hwd]; exact U16.out
        have W17 : Hid (Below w14.heap.size w14 w17) := by show Below w14.heap.size w14 w17; rw [← hwd]; exact W16.out.drew
        have P17 : Hid (Ints w17 A5 zs) := by show Ints w17 A5 zs; rw [← hwd]; exact P16.out
        have z17 : b + 1 < w17.heap.size := by rw [← hwd]; exact z16
        rw [hwd]
        clear hwd F16 K16 N16 T16 G16 R16 V16 U16 W16 P16
        refine plan_quiet rfl (by rfl) (v := ?_) ?_ ?_; rotate_left; (intro w1 hSw; obtain ⟨h0, h1, h2, h3, h4, h5⟩ := hSw; go_simp; try (with_reducible rfl)); (try simp only [Act.put, List.setIfInBounds_toArray, List.set_cons_zero, List.set_cons_succ])
        refine plan_quiet rfl (by rfl) (v := ?_) ?_ ?_; rotate_left; (intro w1 hSw; obtain ⟨h0, h1, h2, h3, h4, h5⟩ := hSw; go_simp; try (with_reducible rfl)); (try simp only [Act.put, List.setIfInBounds_toArray, List.set_cons_zero, List.set_cons_succ])
        refine plan_quiet rfl (by rfl) (v := ?_) ?_ ?_; rotate_left; (intro w1 hSw; obtain ⟨h0, h1, h2, h3, h4, h5⟩ := hSw; go_simp; try (with_reducible rfl)); (try simp only [Act.put, List.setIfInBounds_toArray, List.set_cons_zero, List.set_cons_succ])
        refine plan_quiet rfl (by rfl) (v := ?_) ?_ ?_; rotate_left; (intro w1 hSw; obtain ⟨h0, h1, h2, h3, h4, h5⟩ := hSw; go_simp; try (with_reducible rfl)); (try simp only [Act.put, List.setIfInBounds_toArray, List.set_cons_zero, List.set_cons_succ])
        refine plan_quiet rfl (by rfl) (v := ?_) ?_ ?_; rotate_left; (intro w1 hSw; obtain ⟨h0, h1, h2, h3, h4, h5⟩ := hSw; go_simp; try (with_reducible rfl)); (try simp only [Act.put, List.setIfInBounds_toArray, List.set_cons_zero, List.set_cons_succ])
        refine plan_quiet rfl (by rfl) (v := ?_) ?_ ?_; rotate_left; (intro w1 hSw; obtain ⟨h0, h1, h2, h3, h4, h5⟩ := hSw; go_simp; try (with_reducible rfl)); (try simp only [Act.put, List.setIfInBounds_toArray, List.set_cons_zero, List.set_cons_succ])
        refine plan_quiet rfl (by rfl) (v := ?_) ?_ ?_; rotate_left; (intro w1 hSw; obtain ⟨h0, h1, h2, h3, h4, h5⟩ := hSw; go_simp; try (with_reducible rfl)); (try simp only [Act.put, List.setIfInBounds_toArray, List.set_cons_zero, List.set_cons_succ])
        refine plan_quiet rfl (by rfl) (v := ?_) ?_ ?_; rotate_left; (intro w1 hSw; obtain ⟨h0, h1, h2, h3, h4, h5⟩ := hSw; go_simp; try (with_reducible rfl)); (try simp only [Act.put, List.setIfInBounds_toArray, List.set_cons_zero, List.set_cons_succ])
        refine plan_quiet rfl (by rfl) (v := ?_) ?_ ?_; rotate_left; (intro w1 hSw; obtain ⟨h0, h1, h2, h3, h4, h5⟩ := hSw; go_simp; try (with_reducible rfl)); (try simp only [Act.put, List.setIfInBounds_toArray, List.set_cons_zero, List.set_cons_succ])
        refine plan_quiet rfl (by rfl) (v := ?_) ?_ ?_; rotate_left; (intro w1 hSw; obtain ⟨h0, h1, h2, h3, h4, h5⟩ := hSw; go_simp; try (with_reducible rfl)); (try simp only [Act.put, List.setIfInBounds_toArray, List.set_cons_zero, List.set_cons_succ])
        refine plan_quiet rfl (by rfl) (v := ?_) ?_ ?_; rotate_left; (intro w1 hSw; obtain ⟨h0, h1, h2, h3, h4, h5⟩ := hSw; go_simp; try (with_reducible rfl)); (try simp only [Act.put, List.setIfInBounds_toArray, List.set_cons_zero, List.set_cons_succ])
        refine plan_quiet rfl (by rfl) (v := ?_) ?_ ?_; rotate_left; (intro w1 hSw; obtain ⟨h0, h1, h2, h3, h4, h5⟩ := hSw; go_simp; try (with_reducible rfl)); (try simp only [Act.put, List.setIfInBounds_toArray, List.set_cons_zero, List.set_cons_succ])
        refine plan_step rfl (fun Kc hK => ?_)
        rw [if_pos (by rfl)]
        go_simp
        refine (totalG_any A5 p c5 zs w17 HP.out P17.out (fun x hx => ⟨by have := (HX.out x hx).1; omega, (HX.out x hx).2⟩) (by omega)).mono ?_
        rintro e18 w18 ⟨rfl, rfl⟩
        rw [HSS.out]
        refine hK.out _ _ ⟨cellOfBlk K17.out 0, cellOfBlk K17.out 1, cellOfBlk K17.out 2, N17.out.cells.1, N17.out.cells.2.1, N17.out.cells.2.2.1⟩ ?_
        clear hK Kc
        refine plan_quiet rfl (by rfl) (v := ?_) ?_ ?_; rotate_left; (intro w1 hSw; obtain ⟨h0, h1, h2, h3, h4, h5⟩ := hSw; go_simp; try (with_reducible rfl)); (try simp only [Act.put, List.setIfInBounds_toArray, List.set_cons_zero, List.set_cons_succ])
        refine plan_quiet rfl (by rfl) (v := ?_) ?_ ?_; rotate_left; (intro w1 hSw; obtain ⟨h0, h1, h2, h3, h4, h5⟩ := hSw; go_simp; try (with_reducible rfl)); (try simp only [Act.put, List.setIfInBounds_toArray, List.set_cons_zero, List.set_cons_succ])
        refine plan_quiet rfl (by rfl) (v := ?_) ?_ ?_; rotate_left; (intro w1 hSw; obtain ⟨h0, h1, h2, h3, h4, h5⟩ := hSw; go_simp; try (with_reducible rfl)); (try simp only [Act.put, List.setIfInBounds_toArray, List.set_cons_zero, List.set_cons_succ])
        refine plan_end ?_
        obtain ⟨KP, hKP⟩ : ∃ y, K + p = y := ⟨_, rfl⟩
        have e8 : (K : Int) + (p : Int) = (KP : Int) := by omega
        have e9 : IntKind.i64.wrap (KP : Int) = (KP : Int) := by rw [IntKind.wrap_i64]; omega
        have HKP := Lib.hid hKP
        clear hKP
        clear hPP hTT e1 e2 e4 e6
        go_wp2_with fail
        go_roundw
        case rel => exact ⟨k + 1, by omega, by go_num, by rw [HSU.out, HK.out, HKP.out], W17.out⟩
        case measure => simp [intOf]; omega
      · have hkn : k = gn := by omega
        subst hkn
        have hKm : K = m := by rw [← HK.out]; exact HSM.out
        subst hKm
        go_wp2_with fail
        go_ret
        exact ⟨rfl, T15.out⟩
end Go.Proofs.Ytobakeahbgodbaa
