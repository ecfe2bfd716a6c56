/-
  The exact law of SetGalley: its walk. No condition.
-/
import Derived.Test.YtobakeahbgodbaaPkI
import Derived.Test.YtobakeahbgodbaaPkE
import Derived.Test.YtobakeahbgodbaaPkG
import Derived.Test.YtobakeahbgodbaaPkH
import Derived.Test.YtobakeahbgodbaaPkF
import Derived.Test.YtobakeahbgodbaaPkD
import Derived.Test.YtobakeahbgodbaaPkA
namespace Go.Proofs.Ytobakeahbgodbaa
open Go.RowKit
set_option linter.unusedVariables false

theorem galD_len (f : Fnt) (m : Msr) (s : ByteArray) : ((galA f m s).getD []).length ≤ 40 := by
  cases h : galA f m s with
  | none => simp
  | some g => exact (galA_parts h).2.2.2.2.2.1
set_option maxRecDepth 100000 in
set_option maxHeartbeats 6400000 in
theorem fnExactSetGalley_walk (lo hi : Nat) (v : Value) (f : Fnt) (ms : Msr) (tx : ByteArray) (w : World) (h : FontV w lo hi v f) (hhi : hi ≤ w.heap.size) (htx : tx.size ≤ maxLen) :
    Calls Try.prog 7 #[v, .agg #[.int .i64 ms.w, .int .i64 ms.t, .int .i64 ms.k], .string tx] w fun e w' => e = .returned (.bool true) ∧ Below w.heap.size w w' := by
  obtain ⟨W, t, k⟩ := ms
  obtain ⟨s, hs0⟩ : ∃ s, f.s = s := ⟨_, rfl⟩
  obtain ⟨n, hn⟩ : ∃ n, f.ws.length = n := ⟨_, rfl⟩
  obtain ⟨m, hm⟩ : ∃ m, f.cs.length = m := ⟨_, rfl⟩
  have HSZ := Lib.hid hs0; have HNZ := Lib.hid hn; have HMZ := Lib.hid hm
  obtain ⟨A, c, B, d, rfl⟩ := fontFormF h HSZ HNZ HMZ
  obtain ⟨wa, hwa, hba, hza, Ka⟩ := mxWorld w #[.string s, .slice A n c, .slice B m d] 62
  obtain ⟨w0, hw0, hb0, hz0, K0⟩ := mxWorld wa #[.int .i64 W, .int .i64 t, .int .i64 k] 63
  have T0 := Lib.hid (hba.trans (hb0.mono (B' := w.heap.size) (by omega))); have P0 := Lib.hid (Ka.below hb0 (by omega)); have V0 := Lib.hid (h.below hhi T0.out)
  rw [hza] at K0 hz0
  have Q0 := Lib.hid K0
  have s0 : w.heap.size + 1 < w0.heap.size := by omega
  clear h hba hb0 hz0 Ka K0 hs0 hn hm
  obtain ⟨Pc0, Pc1, Pc2⟩ := P0.out.threeF
  obtain ⟨Qc0, Qc1, Qc2⟩ := Q0.out.threeF
  by_cases htz : ¬ tx.size ≤ 1048576
  · have ht9 : decide ((1048576 : Int) < (tx.size : Int)) = true := decide_eq_true (by omega)
    go_enter Try.func7, Try.ntmps7
    go_wp2_with fail
    all_goals first | (go_ret; exact ⟨rfl, by first | exact T0.out | (rw [hwa, hw0]; exact T0.out) | (rw [hw0]; exact T0.out)⟩) | skip
  have htz : tx.size ≤ 1048576 := by omega
  have ht8 : decide ((1048576 : Int) < (tx.size : Int)) = false := decide_eq_false (by omega)
  by_cases hbig : (1048576 : Int) < f.big
  · have Hk := Lib.hid (takeOff_bad hbig)
    go_enter Try.func7, Try.ntmps7
    go_wp2_with fail
    clear hwa hw0 hza
    refine (szFont_any lo hi _ f _ w0 V0.out (by omega) (by omega)).mono ?_
    rintro e w1 ⟨rfl, hb1⟩
    rw [Hk.out]
    have T1 := Lib.hid (T0.out.trans (hb1.mono (by omega)))
    clear hb1 Pc0 Pc1 Pc2 Qc0 Qc1 Qc2
    go_wp2
    go_ret
    exact ⟨rfl, T1.out⟩
  have Hk := Lib.hid (takeOff_good hbig)
  have HS := Lib.hid (big_small hbig)
  have hk0 : decide (1048576 - (f.big : Int) < 0) = false := decide_eq_false (by omega)
  go_enter Try.func7, Try.ntmps7
  go_wp2_with fail
  clear hwa hw0 hza
  refine (szFont_any lo hi _ f _ w0 V0.out (by omega) (by omega)).mono ?_
  rintro e w1 ⟨rfl, hb⟩
  rw [Hk.out]
  clear Pc0 Pc1 Pc2
  clear Qc0 Qc1 Qc2
  have s1 : w0.heap.size ≤ w1.heap.size := hb.size
  have P1 := Lib.hid (P0.out.below hb (by omega))
  have Q1 := Lib.hid (Q0.out.below hb (by omega))
  have T1 := Lib.hid (T0.out.trans (hb.mono (by omega)))
  have V1 := Lib.hid (V0.out.below (by omega) hb)
  clear P0 Q0 T0 V0
  clear hb
  have yP_1 : w.heap.size < w1.heap.size := by omega
  have yQ_1 : (w.heap.size + 1) < w1.heap.size := by omega
  obtain ⟨Pc0, Pc1, Pc2⟩ := P1.out.threeF
  obtain ⟨Qc0, Qc1, Qc2⟩ := Q1.out.threeF
  obtain ⟨R, hR⟩ : ∃ x, (galA f ⟨W, t, k⟩ tx).getD [] = x := ⟨_, rfl⟩
  obtain ⟨nn, hnn⟩ : ∃ x, R.length = x := ⟨_, rfl⟩
  have hn20 : nn ≤ 1048576 := by rw [← hnn, ← hR]; exact Nat.le_trans (galD_len f _ tx) (by decide)
  obtain ⟨ok, hok⟩ : ∃ x, (galA f ⟨W, t, k⟩ tx).isSome = x := ⟨_, rfl⟩
  have HRe := Lib.hid hR; have HN := Lib.hid hnn; have Hok := Lib.hid hok
  clear hR hnn hok
  have hne : (ok != ok) = false := by simp
  go_wp2_with fail
  refine wp_region_plan (.take 0 (.take 2 (.take 4 (.one 1 (.one 3 (.one 5 (.take 6 (.take 7 (.take 8 (.take 9 (.take 10 .done))))))))))) (fun w' => (w'.cell? ⟨w.heap.size, 0, none⟩ = some (.string s) ∧ w'.cell? ⟨w.heap.size, 1, none⟩ = some (.slice A n c) ∧ w'.cell? ⟨w.heap.size, 2, none⟩ = some (.slice B m d)) ∧ (w'.cell? ⟨(w.heap.size + 1), 0, none⟩ = some (.int .i64 W) ∧ w'.cell? ⟨(w.heap.size + 1), 1, none⟩ = some (.int .i64 t) ∧ w'.cell? ⟨(w.heap.size + 1), 2, none⟩ = some (.int .i64 k))) (by kernel_rfl) (by kernel_rfl) (by kernel_rfl) (by intro c a d v w h; cases d <;> exact h) ⟨P1.out.threeF, Q1.out.threeF⟩ ?_
  clear Pc0 Pc1 Pc2
  clear Qc0 Qc1 Qc2
  refine plan_quiet rfl (by rfl) (v := ?_) ?_ ?_; rotate_left; (intro w1 hSw; obtain ⟨⟨h0, h1, h2⟩, ⟨h3, h4, h5⟩⟩ := hSw; go_simp; try (with_reducible rfl)); (try simp only [Act.put, List.setIfInBounds_toArray, List.set_cons_zero, List.set_cons_succ])
  refine plan_quiet rfl (by rfl) (v := ?_) ?_ ?_; rotate_left; (intro w1 hSw; obtain ⟨⟨h0, h1, h2⟩, ⟨h3, h4, h5⟩⟩ := hSw; go_simp; try (with_reducible rfl)); (try simp only [Act.put, List.setIfInBounds_toArray, List.set_cons_zero, List.set_cons_succ])
  refine plan_quiet rfl (by rfl) (v := ?_) ?_ ?_; rotate_left; (intro w1 hSw; obtain ⟨⟨h0, h1, h2⟩, ⟨h3, h4, h5⟩⟩ := hSw; go_simp; try (with_reducible rfl)); (try simp only [Act.put, List.setIfInBounds_toArray, List.set_cons_zero, List.set_cons_succ])
  refine plan_step rfl (fun K hK => ?_)
  rw [if_pos (by rfl)]
  go_simp
  have hd : Below w1.heap.size w1 w1.drew := (Below.refl _ _).drew
  refine (toFont_any lo hi _ f w1.drew (V1.out.below (B := w1.heap.size) (by omega) hd) (by show hi ≤ w1.heap.size; omega) HS.out).mono ?_
  rintro e w2 ⟨vs, rfl, hO, hb'⟩
  have hb := undrew hb'
  clear hb' hd
  obtain ⟨As, cs, Bs, ds, rfl⟩ := fontFormF hO.font HSZ HNZ HMZ
  have s2 : w1.heap.size ≤ w2.heap.size := hb.size
  have P2 := Lib.hid (P1.out.below hb (by omega))
  have Q2 := Lib.hid (Q1.out.below hb (by omega))
  have T2 := Lib.hid (T1.out.trans (hb.mono (by omega)))
  have V2 := Lib.hid (V1.out.below (by omega) hb)
  clear P1 Q1 T1 V1
  clear hb
  have yP_2 : w.heap.size < w2.heap.size := by omega
  have yQ_2 : (w.heap.size + 1) < w2.heap.size := by omega
  have S02 := Lib.hid (hO)
  clear hO
  refine hK.out _ _ ⟨P2.out.threeF, Q2.out.threeF⟩ ?_
  clear hK K
  refine plan_step rfl (fun K hK => ?_)
  rw [if_pos (by rfl)]
  go_simp
  refine (toMeasure_any W t k w2).mono ?_
  rintro e w3 ⟨rfl, hb⟩
  have s3 : w2.heap.size ≤ w3.heap.size := hb.size
  have P3 := Lib.hid (P2.out.below hb (by omega))
  have Q3 := Lib.hid (Q2.out.below hb (by omega))
  have T3 := Lib.hid (T2.out.trans (hb.mono (by omega)))
  have V3 := Lib.hid (V2.out.below (by omega) hb)
  have S03 := Lib.hid (S02.out.below hb)
  clear P2 Q2 T2 V2 S02
  clear hb
  have yP_3 : w.heap.size < w3.heap.size := by omega
  have yQ_3 : (w.heap.size + 1) < w3.heap.size := by omega
  refine hK.out _ _ ⟨P3.out.threeF, Q3.out.threeF⟩ ?_
  clear hK K
  refine plan_step rfl (fun K hK => ?_)
  rw [if_pos (by rfl)]
  go_simp
  refine (specGal_any _ _ _ f W t k tx w3 S03.out.font (by omega) HS.out (by omega)).mono ?_
  rintro e w4 ⟨u, rfl, hO, hb⟩
  rw [HRe.out] at hO
  rw [Hok.out]
  obtain ⟨Au, cu, rfl, -, -, -, -⟩ := hO.form
  have Ut := fun k hk => World.ownsRow.lt hO k hk
  rw [HN.out] at Ut hO ⊢
  have s4 : w3.heap.size ≤ w4.heap.size := hb.size
  have P4 := Lib.hid (P3.out.below hb (by omega))
  have Q4 := Lib.hid (Q3.out.below hb (by omega))
  have T4 := Lib.hid (T3.out.trans (hb.mono (by omega)))
  have V4 := Lib.hid (V3.out.below (by omega) hb)
  have S04 := Lib.hid (S03.out.below hb)
  clear P3 Q3 T3 V3 S03
  clear hb
  have yP_4 : w.heap.size < w4.heap.size := by omega
  have yQ_4 : (w.heap.size + 1) < w4.heap.size := by omega
  have U4 := Lib.hid (hO)
  clear hO
  refine hK.out _ _ ⟨P4.out.threeF, Q4.out.threeF⟩ ?_
  clear hK K
  refine plan_quiet rfl (by rfl) (v := ?_) ?_ ?_; rotate_left; (intro w1 hSw; obtain ⟨⟨h0, h1, h2⟩, ⟨h3, h4, h5⟩⟩ := hSw; go_simp; try (with_reducible rfl)); (try simp only [Act.put, List.setIfInBounds_toArray, List.set_cons_zero, List.set_cons_succ])
  refine plan_quiet rfl (by rfl) (v := ?_) ?_ ?_; rotate_left; (intro w1 hSw; obtain ⟨⟨h0, h1, h2⟩, ⟨h3, h4, h5⟩⟩ := hSw; go_simp; try (with_reducible rfl)); (try simp only [Act.put, List.setIfInBounds_toArray, List.set_cons_zero, List.set_cons_succ])
  refine plan_quiet rfl (by rfl) (v := ?_) ?_ ?_; rotate_left; (intro w1 hSw; obtain ⟨⟨h0, h1, h2⟩, ⟨h3, h4, h5⟩⟩ := hSw; go_simp; try (with_reducible rfl)); (try simp only [Act.put, List.setIfInBounds_toArray, List.set_cons_zero, List.set_cons_succ])
  refine plan_quiet rfl (by rfl) (v := ?_) ?_ ?_; rotate_left; (intro w1 hSw; obtain ⟨⟨h0, h1, h2⟩, ⟨h3, h4, h5⟩⟩ := hSw; go_simp; try (with_reducible rfl)); (try simp only [Act.put, List.setIfInBounds_toArray, List.set_cons_zero, List.set_cons_succ])
  refine plan_quiet rfl (by rfl) (v := ?_) ?_ ?_; rotate_left; (intro w1 hSw; obtain ⟨⟨h0, h1, h2⟩, ⟨h3, h4, h5⟩⟩ := hSw; go_simp; try (with_reducible rfl)); (try simp only [Act.put, List.setIfInBounds_toArray, List.set_cons_zero, List.set_cons_succ])
  refine plan_end ?_
  obtain ⟨Pc0, Pc1, Pc2⟩ := P4.out.threeF
  obtain ⟨Qc0, Qc1, Qc2⟩ := Q4.out.threeF
  clear S04
  go_wp2_with fail
  refine (toFont_any lo hi _ f w4 V4.out (by omega) HS.out).mono ?_
  rintro e w5 ⟨vx, rfl, hO, hb⟩
  obtain ⟨Ax, cx, Bx, dx, rfl⟩ := fontFormF hO.font HSZ HNZ HMZ
  clear Pc0 Pc1 Pc2
  clear Qc0 Qc1 Qc2
  have s5 : w4.heap.size ≤ w5.heap.size := hb.size
  have P5 := Lib.hid (P4.out.below hb (by omega))
  have Q5 := Lib.hid (Q4.out.below hb (by omega))
  have T5 := Lib.hid (T4.out.trans (hb.mono (by omega)))
  have V5 := Lib.hid (V4.out.below (by omega) hb)
  have U5 := Lib.hid (U4.out.below hb)
  clear P4 Q4 T4 V4 U4
  clear hb
  have yP_5 : w.heap.size < w5.heap.size := by omega
  have yQ_5 : (w.heap.size + 1) < w5.heap.size := by omega
  have X5 := Lib.hid (hO)
  clear hO
  obtain ⟨Pc0, Pc1, Pc2⟩ := P5.out.threeF
  obtain ⟨Qc0, Qc1, Qc2⟩ := Q5.out.threeF
  go_wp2_with fail
  obtain ⟨w6, hw, hb, hz, hK⟩ := mxWorld w5 #[.string s, .slice Ax n cx, .slice Bx m dx] 25
  rw [hw]
  clear hw hz
  clear Pc0 Pc1 Pc2
  clear Qc0 Qc1 Qc2
  have s6 : w5.heap.size ≤ w6.heap.size := hb.size
  have P6 := Lib.hid (P5.out.below hb (by omega))
  have Q6 := Lib.hid (Q5.out.below hb (by omega))
  have T6 := Lib.hid (T5.out.trans (hb.mono (by omega)))
  have V6 := Lib.hid (V5.out.below (by omega) hb)
  have U6 := Lib.hid (U5.out.below hb)
  have X6 := Lib.hid (X5.out.below hb)
  clear P5 Q5 T5 V5 U5 X5
  clear hb
  have yP_6 : w.heap.size < w6.heap.size := by omega
  have yQ_6 : (w.heap.size + 1) < w6.heap.size := by omega
  have J6 := Lib.hid (hK)
  have yJ : w5.heap.size < w6.heap.size := hK.lt
  clear hK
  obtain ⟨Pc0, Pc1, Pc2⟩ := P6.out.threeF
  obtain ⟨Qc0, Qc1, Qc2⟩ := Q6.out.threeF
  obtain ⟨Jc0, Jc1, Jc2⟩ := J6.out.threeF
  go_wp2_with fail
  refine wp_region_plan (.take 0 (.take 1 (.take 3 (.one 2 (.one 4 (.take 5 (.take 6 (.take 7 (.take 8 (.take 9 .done)))))))))) (fun w' => (w'.cell? ⟨w5.heap.size, 0, none⟩ = some (.string s) ∧ w'.cell? ⟨w5.heap.size, 1, none⟩ = some (.slice Ax n cx) ∧ w'.cell? ⟨w5.heap.size, 2, none⟩ = some (.slice Bx m dx)) ∧ (w'.cell? ⟨(w.heap.size + 1), 0, none⟩ = some (.int .i64 W) ∧ w'.cell? ⟨(w.heap.size + 1), 1, none⟩ = some (.int .i64 t) ∧ w'.cell? ⟨(w.heap.size + 1), 2, none⟩ = some (.int .i64 k))) (by kernel_rfl) (by kernel_rfl) (by kernel_rfl) (by intro c a d v w h; cases d <;> exact h) ⟨J6.out.threeF, Q6.out.threeF⟩ ?_
  clear Pc0 Pc1 Pc2
  clear Qc0 Qc1 Qc2
  clear Jc0 Jc1 Jc2
  refine plan_quiet rfl (by rfl) (v := ?_) ?_ ?_; rotate_left; (intro w1 hSw; obtain ⟨⟨h0, h1, h2⟩, ⟨h3, h4, h5⟩⟩ := hSw; go_simp; try (with_reducible rfl)); (try simp only [Act.put, List.setIfInBounds_toArray, List.set_cons_zero, List.set_cons_succ])
  refine plan_quiet rfl (by rfl) (v := ?_) ?_ ?_; rotate_left; (intro w1 hSw; obtain ⟨⟨h0, h1, h2⟩, ⟨h3, h4, h5⟩⟩ := hSw; go_simp; try (with_reducible rfl)); (try simp only [Act.put, List.setIfInBounds_toArray, List.set_cons_zero, List.set_cons_succ])
  refine plan_quiet rfl (by rfl) (v := ?_) ?_ ?_; rotate_left; (intro w1 hSw; obtain ⟨⟨h0, h1, h2⟩, ⟨h3, h4, h5⟩⟩ := hSw; go_simp; try (with_reducible rfl)); (try simp only [Act.put, List.setIfInBounds_toArray, List.set_cons_zero, List.set_cons_succ])
  refine plan_step rfl (fun K hK => ?_)
  rw [if_pos (by rfl)]
  go_simp
  have hd : Below w6.heap.size w6 w6.drew := (Below.refl _ _).drew
  refine (toMeasure_any W t k w6.drew).mono ?_
  rintro e w7 ⟨rfl, hb'⟩
  have hb := undrew hb'
  clear hb' hd
  have s7 : w6.heap.size ≤ w7.heap.size := hb.size
  have P7 := Lib.hid (P6.out.below hb (by omega))
  have Q7 := Lib.hid (Q6.out.below hb (by omega))
  have T7 := Lib.hid (T6.out.trans (hb.mono (by omega)))
  have V7 := Lib.hid (V6.out.below (by omega) hb)
  have U7 := Lib.hid (U6.out.below hb)
  have X7 := Lib.hid (X6.out.below hb)
  have J7 := Lib.hid (J6.out.below hb (by omega))
  clear P6 Q6 T6 V6 U6 X6 J6
  clear hb
  have yP_7 : w.heap.size < w7.heap.size := by omega
  have yQ_7 : (w.heap.size + 1) < w7.heap.size := by omega
  have yJ_7 : w5.heap.size < w7.heap.size := by omega
  refine hK.out _ _ ⟨J7.out.threeF, Q7.out.threeF⟩ ?_
  clear hK K
  refine plan_step rfl (fun K hK => ?_)
  rw [if_pos (by rfl)]
  go_simp
  refine (implGal_any _ _ _ f W t k tx w7 X7.out.font (by omega) HS.out (by omega)).mono ?_
  rintro e w8 ⟨u, rfl, hO, hb⟩
  rw [HRe.out] at hO
  rw [Hok.out]
  obtain ⟨Ag, cg, rfl, -, -, -, -⟩ := hO.form
  have Gt := fun k hk => World.ownsRow.lt hO k hk
  rw [HN.out] at Gt hO ⊢
  have s8 : w7.heap.size ≤ w8.heap.size := hb.size
  have P8 := Lib.hid (P7.out.below hb (by omega))
  have Q8 := Lib.hid (Q7.out.below hb (by omega))
  have T8 := Lib.hid (T7.out.trans (hb.mono (by omega)))
  have V8 := Lib.hid (V7.out.below (by omega) hb)
  have U8 := Lib.hid (U7.out.below hb)
  have X8 := Lib.hid (X7.out.below hb)
  have J8 := Lib.hid (J7.out.below hb (by omega))
  clear P7 Q7 T7 V7 U7 X7 J7
  clear hb
  have yP_8 : w.heap.size < w8.heap.size := by omega
  have yQ_8 : (w.heap.size + 1) < w8.heap.size := by omega
  have yJ_8 : w5.heap.size < w8.heap.size := by omega
  have G8 := Lib.hid (hO)
  clear hO
  refine hK.out _ _ ⟨J8.out.threeF, Q8.out.threeF⟩ ?_
  clear hK K
  refine plan_quiet rfl (by rfl) (v := ?_) ?_ ?_; rotate_left; (intro w1 hSw; obtain ⟨⟨h0, h1, h2⟩, ⟨h3, h4, h5⟩⟩ := hSw; go_simp; try (with_reducible rfl)); (try simp only [Act.put, List.setIfInBounds_toArray, List.set_cons_zero, List.set_cons_succ])
  refine plan_quiet rfl (by rfl) (v := ?_) ?_ ?_; rotate_left; (intro w1 hSw; obtain ⟨⟨h0, h1, h2⟩, ⟨h3, h4, h5⟩⟩ := hSw; go_simp; try (with_reducible rfl)); (try simp only [Act.put, List.setIfInBounds_toArray, List.set_cons_zero, List.set_cons_succ])
  refine plan_quiet rfl (by rfl) (v := ?_) ?_ ?_; rotate_left; (intro w1 hSw; obtain ⟨⟨h0, h1, h2⟩, ⟨h3, h4, h5⟩⟩ := hSw; go_simp; try (with_reducible rfl)); (try simp only [Act.put, List.setIfInBounds_toArray, List.set_cons_zero, List.set_cons_succ])
  refine plan_quiet rfl (by rfl) (v := ?_) ?_ ?_; rotate_left; (intro w1 hSw; obtain ⟨⟨h0, h1, h2⟩, ⟨h3, h4, h5⟩⟩ := hSw; go_simp; try (with_reducible rfl)); (try simp only [Act.put, List.setIfInBounds_toArray, List.set_cons_zero, List.set_cons_succ])
  refine plan_quiet rfl (by rfl) (v := ?_) ?_ ?_; rotate_left; (intro w1 hSw; obtain ⟨⟨h0, h1, h2⟩, ⟨h3, h4, h5⟩⟩ := hSw; go_simp; try (with_reducible rfl)); (try simp only [Act.put, List.setIfInBounds_toArray, List.set_cons_zero, List.set_cons_succ])
  refine plan_end ?_
  obtain ⟨Pc0, Pc1, Pc2⟩ := P8.out.threeF
  obtain ⟨Qc0, Qc1, Qc2⟩ := Q8.out.threeF
  obtain ⟨Jc0, Jc1, Jc2⟩ := J8.out.threeF
  go_wp2_with fail
  refine (eqStringS_t _ _ _ _ _ R w8 HN.out hn20 (owns_read G8.out) (owns_read U8.out)).mono ?_
  rintro e w9 ⟨rfl, hb⟩
  clear Pc0 Pc1 Pc2
  clear Qc0 Qc1 Qc2
  clear Jc0 Jc1 Jc2
  have s9 : w8.heap.size ≤ w9.heap.size := hb.size
  have P9 := Lib.hid (P8.out.below hb (by omega))
  have Q9 := Lib.hid (Q8.out.below hb (by omega))
  have T9 := Lib.hid (T8.out.trans (hb.mono (by omega)))
  have V9 := Lib.hid (V8.out.below (by omega) hb)
  have U9 := Lib.hid (U8.out.below hb)
  have X9 := Lib.hid (X8.out.below hb)
  have J9 := Lib.hid (J8.out.below hb (by omega))
  have G9 := Lib.hid (G8.out.below hb)
  clear P8 Q8 T8 V8 U8 X8 J8 G8
  clear hb
  have yP_9 : w.heap.size < w9.heap.size := by omega
  have yQ_9 : (w.heap.size + 1) < w9.heap.size := by omega
  have yJ_9 : w5.heap.size < w9.heap.size := by omega
  obtain ⟨Pc0, Pc1, Pc2⟩ := P9.out.threeF
  obtain ⟨Qc0, Qc1, Qc2⟩ := Q9.out.threeF
  obtain ⟨Jc0, Jc1, Jc2⟩ := J9.out.threeF
  go_wp2_with fail
  refine wp_region_plan (.take 0 (.take 1 (.one 2 (.one 3 (.one 4 .done))))) (fun w' => (w'.cell? ⟨w5.heap.size, 0, none⟩ = some (.string s) ∧ w'.cell? ⟨w5.heap.size, 1, none⟩ = some (.slice Ax n cx) ∧ w'.cell? ⟨w5.heap.size, 2, none⟩ = some (.slice Bx m dx)) ∧ (w'.cell? ⟨w.heap.size, 0, none⟩ = some (.string s) ∧ w'.cell? ⟨w.heap.size, 1, none⟩ = some (.slice A n c) ∧ w'.cell? ⟨w.heap.size, 2, none⟩ = some (.slice B m d))) (by kernel_rfl) (by kernel_rfl) (by kernel_rfl) (by intro c a d v w h; cases d <;> exact h) ⟨J9.out.threeF, P9.out.threeF⟩ ?_
  clear Pc0 Pc1 Pc2
  clear Qc0 Qc1 Qc2
  clear Jc0 Jc1 Jc2
  refine plan_quiet rfl (by rfl) (v := ?_) ?_ ?_; rotate_left; (intro w1 hSw; obtain ⟨⟨h0, h1, h2⟩, ⟨h3, h4, h5⟩⟩ := hSw; go_simp; try (with_reducible rfl)); (try simp only [Act.put, List.setIfInBounds_toArray, List.set_cons_zero, List.set_cons_succ])
  refine plan_quiet rfl (by rfl) (v := ?_) ?_ ?_; rotate_left; (intro w1 hSw; obtain ⟨⟨h0, h1, h2⟩, ⟨h3, h4, h5⟩⟩ := hSw; go_simp; try (with_reducible rfl)); (try simp only [Act.put, List.setIfInBounds_toArray, List.set_cons_zero, List.set_cons_succ])
  refine plan_step rfl (fun K hK => ?_)
  rw [if_pos (by rfl)]
  go_simp
  have hd : Below w9.heap.size w9 w9.drew := (Below.refl _ _).drew
  refine (toFont_any lo hi _ f w9.drew (V9.out.below (B := w9.heap.size) (by omega) hd) (by show hi ≤ w9.heap.size; omega) HS.out).mono ?_
  rintro e w10 ⟨vz, rfl, hO, hb'⟩
  have hb := undrew hb'
  clear hb' hd
  obtain ⟨Az, cz, Bz, dz, rfl⟩ := fontFormF hO.font HSZ HNZ HMZ
  have s10 : w9.heap.size ≤ w10.heap.size := hb.size
  have P10 := Lib.hid (P9.out.below hb (by omega))
  have Q10 := Lib.hid (Q9.out.below hb (by omega))
  have T10 := Lib.hid (T9.out.trans (hb.mono (by omega)))
  have V10 := Lib.hid (V9.out.below (by omega) hb)
  have U10 := Lib.hid (U9.out.below hb)
  have X10 := Lib.hid (X9.out.below hb)
  have J10 := Lib.hid (J9.out.below hb (by omega))
  have G10 := Lib.hid (G9.out.below hb)
  clear P9 Q9 T9 V9 U9 X9 J9 G9
  clear hb
  have yP_10 : w.heap.size < w10.heap.size := by omega
  have yQ_10 : (w.heap.size + 1) < w10.heap.size := by omega
  have yJ_10 : w5.heap.size < w10.heap.size := by omega
  have Z10 := Lib.hid (hO)
  clear hO
  refine hK.out _ _ ⟨J10.out.threeF, P10.out.threeF⟩ ?_
  clear hK K
  refine plan_step rfl (fun K hK => ?_)
  rw [if_pos (by rfl)]
  go_simp
  refine (eqFont_same _ _ _ _ _ _ f w10 X10.out.font Z10.out.font (by omega) (by omega) HS.out).mono ?_
  rintro e w11 ⟨rfl, hb⟩
  have s11 : w10.heap.size ≤ w11.heap.size := hb.size
  have P11 := Lib.hid (P10.out.below hb (by omega))
  have Q11 := Lib.hid (Q10.out.below hb (by omega))
  have T11 := Lib.hid (T10.out.trans (hb.mono (by omega)))
  have V11 := Lib.hid (V10.out.below (by omega) hb)
  have U11 := Lib.hid (U10.out.below hb)
  have X11 := Lib.hid (X10.out.below hb)
  have J11 := Lib.hid (J10.out.below hb (by omega))
  have G11 := Lib.hid (G10.out.below hb)
  have Z11 := Lib.hid (Z10.out.below hb)
  clear P10 Q10 T10 V10 U10 X10 J10 G10 Z10
  clear hb
  have yP_11 : w.heap.size < w11.heap.size := by omega
  have yQ_11 : (w.heap.size + 1) < w11.heap.size := by omega
  have yJ_11 : w5.heap.size < w11.heap.size := by omega
  refine hK.out _ _ ⟨J11.out.threeF, P11.out.threeF⟩ ?_
  clear hK K
  refine plan_step rfl (fun K hK => ?_)
  rw [if_pos (by rfl)]
  go_simp
  refine hK.out _ _ ⟨J11.out.threeF, P11.out.threeF⟩ ?_
  clear hK K
  refine plan_end ?_
  obtain ⟨Pc0, Pc1, Pc2⟩ := P11.out.threeF
  obtain ⟨Qc0, Qc1, Qc2⟩ := Q11.out.threeF
  obtain ⟨Jc0, Jc1, Jc2⟩ := J11.out.threeF
  clear Z11
  have hm1 : decide (1 + (n : Int) + (m : Int) < 0) = false := decide_eq_false (by omega)
  go_wp2_with fail
  refine (markFont_wide _ _ _ f 1 w11 X11.out (by omega) (by omega) HS.out (by omega) (by omega)).mono ?_
  rintro e w12 ⟨rfl, hc⟩
  rw [HNZ.out, HMZ.out]
  clear X11
  clear Pc0 Pc1 Pc2
  clear Qc0 Qc1 Qc2
  clear Jc0 Jc1 Jc2
  have s12 : w11.heap.size ≤ w12.heap.size := hc.size
  have P12 := Lib.hid (P11.out.chg hc (by omega))
  have Q12 := Lib.hid (Q11.out.chg hc (by omega))
  have T12 := Lib.hid (T11.out.trans ((hc.below (by omega)).mono (by omega)))
  have V12 := Lib.hid (V11.out.chg hc (by omega) (by omega))
  have U12 := Lib.hid (chg_ownS hc U11.out (fun x hx => by have := Ut x hx; omega))
  have J12 := Lib.hid (J11.out.chg hc (by omega))
  have G12 := Lib.hid (chg_ownS hc G11.out (fun x hx => by have := Gt x hx; omega))
  clear P11 Q11 T11 V11 U11 J11 G11
  clear hc
  have yP_12 : w.heap.size < w12.heap.size := by omega
  have yQ_12 : (w.heap.size + 1) < w12.heap.size := by omega
  have yJ_12 : w5.heap.size < w12.heap.size := by omega
  obtain ⟨Pc0, Pc1, Pc2⟩ := P12.out.threeF
  obtain ⟨Qc0, Qc1, Qc2⟩ := Q12.out.threeF
  obtain ⟨Jc0, Jc1, Jc2⟩ := J12.out.threeF
  go_wp2_with fail
  refine (eqStringS_t _ _ _ _ _ R w12 HN.out hn20 (owns_read G12.out) (owns_read U12.out)).mono ?_
  rintro e w13 ⟨rfl, hb⟩
  clear Pc0 Pc1 Pc2
  clear Qc0 Qc1 Qc2
  clear Jc0 Jc1 Jc2
  have s13 : w12.heap.size ≤ w13.heap.size := hb.size
  have P13 := Lib.hid (P12.out.below hb (by omega))
  have Q13 := Lib.hid (Q12.out.below hb (by omega))
  have T13 := Lib.hid (T12.out.trans (hb.mono (by omega)))
  have V13 := Lib.hid (V12.out.below (by omega) hb)
  have U13 := Lib.hid (U12.out.below hb)
  have J13 := Lib.hid (J12.out.below hb (by omega))
  have G13 := Lib.hid (G12.out.below hb)
  clear P12 Q12 T12 V12 U12 J12 G12
  clear hb
  have yP_13 : w.heap.size < w13.heap.size := by omega
  have yQ_13 : (w.heap.size + 1) < w13.heap.size := by omega
  have yJ_13 : w5.heap.size < w13.heap.size := by omega
  obtain ⟨Pc0, Pc1, Pc2⟩ := P13.out.threeF
  obtain ⟨Qc0, Qc1, Qc2⟩ := Q13.out.threeF
  obtain ⟨Jc0, Jc1, Jc2⟩ := J13.out.threeF
  obtain ⟨k3, hk3⟩ : ∃ x, 1 + nn = x := ⟨_, rfl⟩
  have HK3 := Lib.hid hk3
  have hk39 : k3 ≤ 1048577 := by omega
  clear hk3
  go_wp2_with fail
  refine (markS1 _ _ _ w0.heap.size R w13 HN.out hn20 (by omega) (owns_base G13.out (by omega))).mono ?_
  rintro e w14 ⟨rfl, hO, hg⟩
  rw [HK3.out]
  have hc := Chg.of_grown hg Gt
  clear hg
  clear G13
  clear Pc0 Pc1 Pc2
  clear Qc0 Qc1 Qc2
  clear Jc0 Jc1 Jc2
  have s14 : w13.heap.size ≤ w14.heap.size := hc.size
  have P14 := Lib.hid (P13.out.chg hc (by omega))
  have Q14 := Lib.hid (Q13.out.chg hc (by omega))
  have T14 := Lib.hid (T13.out.trans ((hc.below (by omega)).mono (by omega)))
  have V14 := Lib.hid (V13.out.chg hc (by omega) (by omega))
  have U14 := Lib.hid (chg_ownS hc U13.out (fun x hx => by have := Ut x hx; omega))
  have J14 := Lib.hid (J13.out.chg hc (by omega))
  clear P13 Q13 T13 V13 U13 J13
  clear hc
  have yP_14 : w.heap.size < w14.heap.size := by omega
  have yQ_14 : (w.heap.size + 1) < w14.heap.size := by omega
  have yJ_14 : w5.heap.size < w14.heap.size := by omega
  have H14 := Lib.hid (hO)
  clear hO
  obtain ⟨Pc0, Pc1, Pc2⟩ := P14.out.threeF
  obtain ⟨Qc0, Qc1, Qc2⟩ := Q14.out.threeF
  obtain ⟨Jc0, Jc1, Jc2⟩ := J14.out.threeF
  have Ht := Gt
  have hm2 : decide ((k3 : Int) < 0) = false := decide_eq_false (by omega)
  have hne2 : ((k3 : Int) != (k3 : Int)) = false := by simp
  go_wp2_with fail
  refine (heldS1 _ _ _ w14 hn20 (owns_read H14.out)).mono ?_
  rintro e w15 ⟨rfl, hb⟩
  rw [HK3.out]
  clear Pc0 Pc1 Pc2
  clear Qc0 Qc1 Qc2
  clear Jc0 Jc1 Jc2
  have s15 : w14.heap.size ≤ w15.heap.size := hb.size
  have P15 := Lib.hid (P14.out.below hb (by omega))
  have Q15 := Lib.hid (Q14.out.below hb (by omega))
  have T15 := Lib.hid (T14.out.trans (hb.mono (by omega)))
  have V15 := Lib.hid (V14.out.below (by omega) hb)
  have U15 := Lib.hid (U14.out.below hb)
  have J15 := Lib.hid (J14.out.below hb (by omega))
  have H15 := Lib.hid (H14.out.below hb)
  clear P14 Q14 T14 V14 U14 J14 H14
  clear hb
  have yP_15 : w.heap.size < w15.heap.size := by omega
  have yQ_15 : (w.heap.size + 1) < w15.heap.size := by omega
  have yJ_15 : w5.heap.size < w15.heap.size := by omega
  obtain ⟨Pc0, Pc1, Pc2⟩ := P15.out.threeF
  obtain ⟨Qc0, Qc1, Qc2⟩ := Q15.out.threeF
  obtain ⟨Jc0, Jc1, Jc2⟩ := J15.out.threeF
  go_wp2_with fail
  refine wp_region_plan (.take 0 (.take 2 (.take 4 (.one 1 (.one 3 (.one 5 (.take 6 (.take 7 (.take 8 (.take 9 (.take 10 .done))))))))))) (fun w' => (w'.cell? ⟨w.heap.size, 0, none⟩ = some (.string s) ∧ w'.cell? ⟨w.heap.size, 1, none⟩ = some (.slice A n c) ∧ w'.cell? ⟨w.heap.size, 2, none⟩ = some (.slice B m d)) ∧ (w'.cell? ⟨(w.heap.size + 1), 0, none⟩ = some (.int .i64 W) ∧ w'.cell? ⟨(w.heap.size + 1), 1, none⟩ = some (.int .i64 t) ∧ w'.cell? ⟨(w.heap.size + 1), 2, none⟩ = some (.int .i64 k))) (by kernel_rfl) (by kernel_rfl) (by kernel_rfl) (by intro c a d v w h; cases d <;> exact h) ⟨P15.out.threeF, Q15.out.threeF⟩ ?_
  clear Pc0 Pc1 Pc2
  clear Qc0 Qc1 Qc2
  clear Jc0 Jc1 Jc2
  refine plan_quiet rfl (by rfl) (v := ?_) ?_ ?_; rotate_left; (intro w1 hSw; obtain ⟨⟨h0, h1, h2⟩, ⟨h3, h4, h5⟩⟩ := hSw; go_simp; try (with_reducible rfl)); (try simp only [Act.put, List.setIfInBounds_toArray, List.set_cons_zero, List.set_cons_succ])
  refine plan_quiet rfl (by rfl) (v := ?_) ?_ ?_; rotate_left; (intro w1 hSw; obtain ⟨⟨h0, h1, h2⟩, ⟨h3, h4, h5⟩⟩ := hSw; go_simp; try (with_reducible rfl)); (try simp only [Act.put, List.setIfInBounds_toArray, List.set_cons_zero, List.set_cons_succ])
  refine plan_quiet rfl (by rfl) (v := ?_) ?_ ?_; rotate_left; (intro w1 hSw; obtain ⟨⟨h0, h1, h2⟩, ⟨h3, h4, h5⟩⟩ := hSw; go_simp; try (with_reducible rfl)); (try simp only [Act.put, List.setIfInBounds_toArray, List.set_cons_zero, List.set_cons_succ])
  refine plan_step rfl (fun K hK => ?_)
  rw [if_pos (by rfl)]
  go_simp
  have hd : Below w15.heap.size w15 w15.drew := (Below.refl _ _).drew
  refine (toFont_any lo hi _ f w15.drew (V15.out.below (B := w15.heap.size) (by omega) hd) (by show hi ≤ w15.heap.size; omega) HS.out).mono ?_
  rintro e w16 ⟨vq, rfl, hO, hb'⟩
  have hb := undrew hb'
  clear hb' hd
  obtain ⟨Aq, cq, Bq, dq, rfl⟩ := fontFormF hO.font HSZ HNZ HMZ
  have s16 : w15.heap.size ≤ w16.heap.size := hb.size
  have P16 := Lib.hid (P15.out.below hb (by omega))
  have Q16 := Lib.hid (Q15.out.below hb (by omega))
  have T16 := Lib.hid (T15.out.trans (hb.mono (by omega)))
  have V16 := Lib.hid (V15.out.below (by omega) hb)
  have U16 := Lib.hid (U15.out.below hb)
  have J16 := Lib.hid (J15.out.below hb (by omega))
  have H16 := Lib.hid (H15.out.below hb)
  clear P15 Q15 T15 V15 U15 J15 H15
  clear hb
  have yP_16 : w.heap.size < w16.heap.size := by omega
  have yQ_16 : (w.heap.size + 1) < w16.heap.size := by omega
  have yJ_16 : w5.heap.size < w16.heap.size := by omega
  have S016 := Lib.hid (hO)
  clear hO
  refine hK.out _ _ ⟨P16.out.threeF, Q16.out.threeF⟩ ?_
  clear hK K
  refine plan_step rfl (fun K hK => ?_)
  rw [if_pos (by rfl)]
  go_simp
  refine (toMeasure_any W t k w16).mono ?_
  rintro e w17 ⟨rfl, hb⟩
  have s17 : w16.heap.size ≤ w17.heap.size := hb.size
  have P17 := Lib.hid (P16.out.below hb (by omega))
  have Q17 := Lib.hid (Q16.out.below hb (by omega))
  have T17 := Lib.hid (T16.out.trans (hb.mono (by omega)))
  have V17 := Lib.hid (V16.out.below (by omega) hb)
  have U17 := Lib.hid (U16.out.below hb)
  have J17 := Lib.hid (J16.out.below hb (by omega))
  have H17 := Lib.hid (H16.out.below hb)
  have S017 := Lib.hid (S016.out.below hb)
  clear P16 Q16 T16 V16 U16 J16 H16 S016
  clear hb
  have yP_17 : w.heap.size < w17.heap.size := by omega
  have yQ_17 : (w.heap.size + 1) < w17.heap.size := by omega
  have yJ_17 : w5.heap.size < w17.heap.size := by omega
  refine hK.out _ _ ⟨P17.out.threeF, Q17.out.threeF⟩ ?_
  clear hK K
  refine plan_step rfl (fun K hK => ?_)
  rw [if_pos (by rfl)]
  go_simp
  refine (implGal_any _ _ _ f W t k tx w17 S017.out.font (by omega) HS.out (by omega)).mono ?_
  rintro e w18 ⟨u, rfl, hO, hb⟩
  rw [HRe.out] at hO
  rw [Hok.out]
  obtain ⟨Ah, ch, rfl, -, -, -, -⟩ := hO.form
  have Et := fun k hk => World.ownsRow.lt hO k hk
  rw [HN.out] at Et hO ⊢
  have s18 : w17.heap.size ≤ w18.heap.size := hb.size
  have P18 := Lib.hid (P17.out.below hb (by omega))
  have Q18 := Lib.hid (Q17.out.below hb (by omega))
  have T18 := Lib.hid (T17.out.trans (hb.mono (by omega)))
  have V18 := Lib.hid (V17.out.below (by omega) hb)
  have U18 := Lib.hid (U17.out.below hb)
  have J18 := Lib.hid (J17.out.below hb (by omega))
  have H18 := Lib.hid (H17.out.below hb)
  have S018 := Lib.hid (S017.out.below hb)
  clear P17 Q17 T17 V17 U17 J17 H17 S017
  clear hb
  have yP_18 : w.heap.size < w18.heap.size := by omega
  have yQ_18 : (w.heap.size + 1) < w18.heap.size := by omega
  have yJ_18 : w5.heap.size < w18.heap.size := by omega
  have E18 := Lib.hid (hO)
  clear hO
  refine hK.out _ _ ⟨P18.out.threeF, Q18.out.threeF⟩ ?_
  clear hK K
  refine plan_quiet rfl (by rfl) (v := ?_) ?_ ?_; rotate_left; (intro w1 hSw; obtain ⟨⟨h0, h1, h2⟩, ⟨h3, h4, h5⟩⟩ := hSw; go_simp; try (with_reducible rfl)); (try simp only [Act.put, List.setIfInBounds_toArray, List.set_cons_zero, List.set_cons_succ])
  refine plan_quiet rfl (by rfl) (v := ?_) ?_ ?_; rotate_left; (intro w1 hSw; obtain ⟨⟨h0, h1, h2⟩, ⟨h3, h4, h5⟩⟩ := hSw; go_simp; try (with_reducible rfl)); (try simp only [Act.put, List.setIfInBounds_toArray, List.set_cons_zero, List.set_cons_succ])
  refine plan_quiet rfl (by rfl) (v := ?_) ?_ ?_; rotate_left; (intro w1 hSw; obtain ⟨⟨h0, h1, h2⟩, ⟨h3, h4, h5⟩⟩ := hSw; go_simp; try (with_reducible rfl)); (try simp only [Act.put, List.setIfInBounds_toArray, List.set_cons_zero, List.set_cons_succ])
  refine plan_quiet rfl (by rfl) (v := ?_) ?_ ?_; rotate_left; (intro w1 hSw; obtain ⟨⟨h0, h1, h2⟩, ⟨h3, h4, h5⟩⟩ := hSw; go_simp; try (with_reducible rfl)); (try simp only [Act.put, List.setIfInBounds_toArray, List.set_cons_zero, List.set_cons_succ])
  refine plan_quiet rfl (by rfl) (v := ?_) ?_ ?_; rotate_left; (intro w1 hSw; obtain ⟨⟨h0, h1, h2⟩, ⟨h3, h4, h5⟩⟩ := hSw; go_simp; try (with_reducible rfl)); (try simp only [Act.put, List.setIfInBounds_toArray, List.set_cons_zero, List.set_cons_succ])
  refine plan_end ?_
  obtain ⟨Pc0, Pc1, Pc2⟩ := P18.out.threeF
  obtain ⟨Qc0, Qc1, Qc2⟩ := Q18.out.threeF
  obtain ⟨Jc0, Jc1, Jc2⟩ := J18.out.threeF
  clear S018
  go_wp2_with fail
  refine (eqStringS_t _ _ _ _ _ R w18 HN.out hn20 (owns_read E18.out) (owns_read U18.out)).mono ?_
  rintro e w19 ⟨rfl, hb⟩
  clear Pc0 Pc1 Pc2
  clear Qc0 Qc1 Qc2
  clear Jc0 Jc1 Jc2
  have s19 : w18.heap.size ≤ w19.heap.size := hb.size
  have P19 := Lib.hid (P18.out.below hb (by omega))
  have Q19 := Lib.hid (Q18.out.below hb (by omega))
  have T19 := Lib.hid (T18.out.trans (hb.mono (by omega)))
  have V19 := Lib.hid (V18.out.below (by omega) hb)
  have U19 := Lib.hid (U18.out.below hb)
  have J19 := Lib.hid (J18.out.below hb (by omega))
  have H19 := Lib.hid (H18.out.below hb)
  have E19 := Lib.hid (E18.out.below hb)
  clear P18 Q18 T18 V18 U18 J18 H18 E18
  clear hb
  have yP_19 : w.heap.size < w19.heap.size := by omega
  have yQ_19 : (w.heap.size + 1) < w19.heap.size := by omega
  have yJ_19 : w5.heap.size < w19.heap.size := by omega
  obtain ⟨Pc0, Pc1, Pc2⟩ := P19.out.threeF
  obtain ⟨Qc0, Qc1, Qc2⟩ := Q19.out.threeF
  obtain ⟨Jc0, Jc1, Jc2⟩ := J19.out.threeF
  go_wp2_with fail
  refine (heldS1 _ _ _ w19 hn20 (owns_read H19.out)).mono ?_
  rintro e w20 ⟨rfl, hb⟩
  rw [HK3.out]
  clear Pc0 Pc1 Pc2
  clear Qc0 Qc1 Qc2
  clear Jc0 Jc1 Jc2
  have s20 : w19.heap.size ≤ w20.heap.size := hb.size
  have P20 := Lib.hid (P19.out.below hb (by omega))
  have Q20 := Lib.hid (Q19.out.below hb (by omega))
  have T20 := Lib.hid (T19.out.trans (hb.mono (by omega)))
  have V20 := Lib.hid (V19.out.below (by omega) hb)
  have U20 := Lib.hid (U19.out.below hb)
  have J20 := Lib.hid (J19.out.below hb (by omega))
  have H20 := Lib.hid (H19.out.below hb)
  have E20 := Lib.hid (E19.out.below hb)
  clear P19 Q19 T19 V19 U19 J19 H19 E19
  clear hb
  have yP_20 : w.heap.size < w20.heap.size := by omega
  have yQ_20 : (w.heap.size + 1) < w20.heap.size := by omega
  have yJ_20 : w5.heap.size < w20.heap.size := by omega
  obtain ⟨Pc0, Pc1, Pc2⟩ := P20.out.threeF
  obtain ⟨Qc0, Qc1, Qc2⟩ := Q20.out.threeF
  obtain ⟨Jc0, Jc1, Jc2⟩ := J20.out.threeF
  go_wp2
  go_ret
  exact ⟨rfl, T20.out⟩
end Go.Proofs.Ytobakeahbgodbaa
