/-
  The exact law of GalleyOk: its walk. No condition.
-/
import Derived.Test.YtobakeahbgodbaaPkI
import Derived.Test.YtobakeahbgodbaaPkE
import Derived.Test.YtobakeahbgodbaaPkG
import Derived.Test.YtobakeahbgodbaaPkH
import Derived.Test.YtobakeahbgodbaaPkF
import Derived.Test.YtobakeahbgodbaaPkD
import Derived.Test.YtobakeahbgodbaaPkA
namespace Go.Proofs.Ytobakeahbgodbaa
open Go.RowKit
set_option linter.unusedVariables false

set_option maxRecDepth 100000 in
set_option maxHeartbeats 6400000 in
theorem fnExactGalleyOk_walk (lo hi : Nat) (v : Value) (f : Fnt) (ms : Msr) (A1 : Option Addr) (n1 c1 : Nat) (ss : List ByteArray) (w : World) (h : FontV w lo hi v f) (hhi : hi ≤ w.heap.size) (hn1 : ss.length = n1) (hm1 : n1 ≤ maxLen) (h1 : Strs w A1 ss) (wf1 : ∀ s ∈ ss, s.size ≤ maxLen) :
    Calls Try.prog 8 #[v, .agg #[.int .i64 ms.w, .int .i64 ms.t, .int .i64 ms.k], .slice A1 n1 c1] w fun e w' => e = .returned (.bool true) ∧ Below w.heap.size w w' := by
  obtain ⟨W, t, k⟩ := ms
  have N1 := Lib.hid hn1; have WF1 := Lib.hid wf1
  obtain ⟨s, hs0⟩ : ∃ s, f.s = s := ⟨_, rfl⟩
  obtain ⟨n, hn⟩ : ∃ n, f.ws.length = n := ⟨_, rfl⟩
  obtain ⟨m, hm⟩ : ∃ m, f.cs.length = m := ⟨_, rfl⟩
  have HSZ := Lib.hid hs0; have HNZ := Lib.hid hn; have HMZ := Lib.hid hm
  obtain ⟨A, c, B, d, rfl⟩ := fontFormF h HSZ HNZ HMZ
  obtain ⟨wa, hwa, hba, hza, Ka⟩ := mxWorld w #[.string s, .slice A n c, .slice B m d] 62
  obtain ⟨w0, hw0, hb0, hz0, K0⟩ := mxWorld wa #[.int .i64 W, .int .i64 t, .int .i64 k] 63
  have T0 := Lib.hid (hba.trans (hb0.mono (B' := w.heap.size) (by omega))); have P0 := Lib.hid (Ka.below hb0 (by omega)); have V0 := Lib.hid (h.below hhi T0.out)
  rw [hza] at K0 hz0
  have Q0 := Lib.hid K0
  have s0 : w.heap.size + 1 < w0.heap.size := by omega
  have I0 := Lib.hid ((StrsB.of h1).keep (Nat.le_refl _) T0.out)
  clear h1 hn1 wf1
  clear h hba hb0 hz0 Ka K0 hs0 hn hm
  obtain ⟨Pc0, Pc1, Pc2⟩ := P0.out.threeF
  obtain ⟨Qc0, Qc1, Qc2⟩ := Q0.out.threeF
  by_cases hbig : (1048576 : Int) < f.big
  · have Hk := Lib.hid (takeOff_bad hbig)
    go_enter Try.func8, Try.ntmps8
    go_wp2_with fail
    clear hwa hw0 hza
    refine (szFont_any lo hi _ f _ w0 V0.out (by omega) (by omega)).mono ?_
    rintro e w1 ⟨rfl, hb1⟩
    rw [Hk.out]
    have T1 := Lib.hid (T0.out.trans (hb1.mono (by omega)))
    clear hb1 Pc0 Pc1 Pc2 Qc0 Qc1 Qc2
    go_wp2
    go_ret
    exact ⟨rfl, T1.out⟩
  have Hk := Lib.hid (takeOff_good hbig)
  have HS := Lib.hid (big_small hbig)
  have hk0 : decide (1048576 - (f.big : Int) < 0) = false := decide_eq_false (by omega)
  have hl0 : 0 ≤ 1048576 - (f.big : Int) := by omega
  have hl1 : 1048576 - (f.big : Int) ≤ 1048576 := by omega
  obtain ⟨left, hleft⟩ : ∃ x, 1048576 - (f.big : Int) = x := ⟨_, rfl⟩
  rw [hleft] at Hk hk0 hl0 hl1
  obtain ⟨q, hq⟩ : ∃ x, szI left ss = x := ⟨_, rfl⟩
  have HQ := Lib.hid hq
  clear hq hleft
  by_cases hq0 : q < 0
  · go_enter Try.func8, Try.ntmps8
    go_wp2_with fail
    clear hwa hw0 hza
    refine (szFont_any lo hi _ f _ w0 V0.out (by omega) (by omega)).mono ?_
    rintro e w1 ⟨rfl, hb1⟩
    rw [Hk.out]
    have T1 := Lib.hid (T0.out.trans (hb1.mono (by omega)))
    have I1 := Lib.hid (I0.out.keep (by omega) hb1)
    clear hb1 Pc0 Pc1 Pc2 Qc0 Qc1 Qc2
    go_wp2_with fail
    refine (szStringS_any _ _ _ ss left _ N1.out hm1 I1.out.ints WF1.out hl0 hl1).mono ?_
    rintro e w' ⟨rfl, rfl⟩
    rw [HQ.out]
    go_wp2
    go_ret
    exact ⟨rfl, T1.out⟩
  have HZ : Hid (szL ss ≤ 1048576) := by
    show _ ≤ _
    have := szI_good (left := left) (ss := ss) (by rw [HQ.out]; omega)
    omega
  have hn1b : n1 ≤ 1048576 := by have h := HZ.out; unfold szL at h; rw [N1.out] at h; omega
  go_enter Try.func8, Try.ntmps8
  go_wp2_with fail
  clear hwa hw0 hza
  refine (szFont_any lo hi _ f _ w0 V0.out (by omega) (by omega)).mono ?_
  rintro e w1 ⟨rfl, hb⟩
  rw [Hk.out]
  clear Pc0 Pc1 Pc2
  clear Qc0 Qc1 Qc2
  have s1 : w0.heap.size ≤ w1.heap.size := hb.size
  have P1 := Lib.hid (P0.out.below hb (by omega))
  have Q1 := Lib.hid (Q0.out.below hb (by omega))
  have T1 := Lib.hid (T0.out.trans (hb.mono (by omega)))
  have V1 := Lib.hid (V0.out.below (by omega) hb)
  have I1 := Lib.hid (I0.out.keep (by omega) hb)
  clear P0 Q0 T0 V0 I0
  clear hb
  have yP_1 : w.heap.size < w1.heap.size := by omega
  have yQ_1 : (w.heap.size + 1) < w1.heap.size := by omega
  obtain ⟨Pc0, Pc1, Pc2⟩ := P1.out.threeF
  obtain ⟨Qc0, Qc1, Qc2⟩ := Q1.out.threeF
  go_wp2_with fail
  refine (szStringS_any _ _ _ ss left _ N1.out hm1 I1.out.ints WF1.out hl0 hl1).mono ?_
  rintro e w' ⟨rfl, rfl⟩
  rw [HQ.out]
  obtain ⟨R, hR⟩ : ∃ x, galB f ⟨W, t, k⟩ ss = x := ⟨_, rfl⟩
  have HRe := Lib.hid hR
  clear hR
  have hne : (R != R) = false := by simp
  go_wp2_with fail
  refine wp_region_plan (.take 0 (.take 2 (.take 4 (.one 1 (.one 3 (.one 5 (.one 6 (.take 7 .done)))))))) (fun w' => (w'.cell? ⟨w.heap.size, 0, none⟩ = some (.string s) ∧ w'.cell? ⟨w.heap.size, 1, none⟩ = some (.slice A n c) ∧ w'.cell? ⟨w.heap.size, 2, none⟩ = some (.slice B m d)) ∧ (w'.cell? ⟨(w.heap.size + 1), 0, none⟩ = some (.int .i64 W) ∧ w'.cell? ⟨(w.heap.size + 1), 1, none⟩ = some (.int .i64 t) ∧ w'.cell? ⟨(w.heap.size + 1), 2, none⟩ = some (.int .i64 k))) (by kernel_rfl) (by kernel_rfl) (by kernel_rfl) (by intro c a d v w h; cases d <;> exact h) ⟨P1.out.threeF, Q1.out.threeF⟩ ?_
  clear Pc0 Pc1 Pc2
  clear Qc0 Qc1 Qc2
  refine plan_quiet rfl (by rfl) (v := ?_) ?_ ?_; rotate_left; (intro w1 hSw; obtain ⟨⟨h0, h1, h2⟩, ⟨h3, h4, h5⟩⟩ := hSw; go_simp; try (with_reducible rfl)); (try simp only [Act.put, List.setIfInBounds_toArray, List.set_cons_zero, List.set_cons_succ])
  refine plan_quiet rfl (by rfl) (v := ?_) ?_ ?_; rotate_left; (intro w1 hSw; obtain ⟨⟨h0, h1, h2⟩, ⟨h3, h4, h5⟩⟩ := hSw; go_simp; try (with_reducible rfl)); (try simp only [Act.put, List.setIfInBounds_toArray, List.set_cons_zero, List.set_cons_succ])
  refine plan_quiet rfl (by rfl) (v := ?_) ?_ ?_; rotate_left; (intro w1 hSw; obtain ⟨⟨h0, h1, h2⟩, ⟨h3, h4, h5⟩⟩ := hSw; go_simp; try (with_reducible rfl)); (try simp only [Act.put, List.setIfInBounds_toArray, List.set_cons_zero, List.set_cons_succ])
  refine plan_step rfl (fun K hK => ?_)
  rw [if_pos (by rfl)]
  go_simp
  have hd : Below w1.heap.size w1 w1.drew := (Below.refl _ _).drew
  refine (toFont_any lo hi _ f w1.drew (V1.out.below (B := w1.heap.size) (by omega) hd) (by show hi ≤ w1.heap.size; omega) HS.out).mono ?_
  rintro e w2 ⟨vs, rfl, hO, hb'⟩
  have hb := undrew hb'
  clear hb' hd
  obtain ⟨As, cs, Bs, ds, rfl⟩ := fontFormF hO.font HSZ HNZ HMZ
  have s2 : w1.heap.size ≤ w2.heap.size := hb.size
  have P2 := Lib.hid (P1.out.below hb (by omega))
  have Q2 := Lib.hid (Q1.out.below hb (by omega))
  have T2 := Lib.hid (T1.out.trans (hb.mono (by omega)))
  have V2 := Lib.hid (V1.out.below (by omega) hb)
  have I2 := Lib.hid (I1.out.keep (by omega) hb)
  clear P1 Q1 T1 V1 I1
  clear hb
  have yP_2 : w.heap.size < w2.heap.size := by omega
  have yQ_2 : (w.heap.size + 1) < w2.heap.size := by omega
  have S02 := Lib.hid (hO)
  clear hO
  refine hK.out _ _ ⟨P2.out.threeF, Q2.out.threeF⟩ ?_
  clear hK K
  refine plan_step rfl (fun K hK => ?_)
  rw [if_pos (by rfl)]
  go_simp
  refine (toMeasure_any W t k w2).mono ?_
  rintro e w3 ⟨rfl, hb⟩
  have s3 : w2.heap.size ≤ w3.heap.size := hb.size
  have P3 := Lib.hid (P2.out.below hb (by omega))
  have Q3 := Lib.hid (Q2.out.below hb (by omega))
  have T3 := Lib.hid (T2.out.trans (hb.mono (by omega)))
  have V3 := Lib.hid (V2.out.below (by omega) hb)
  have I3 := Lib.hid (I2.out.keep (by omega) hb)
  have S03 := Lib.hid (S02.out.below hb)
  clear P2 Q2 T2 V2 I2 S02
  clear hb
  have yP_3 : w.heap.size < w3.heap.size := by omega
  have yQ_3 : (w.heap.size + 1) < w3.heap.size := by omega
  refine hK.out _ _ ⟨P3.out.threeF, Q3.out.threeF⟩ ?_
  clear hK K
  refine plan_step rfl (fun K hK => ?_)
  rw [if_pos (by rfl)]
  go_simp
  refine (toStringS_o _ _ _ ss w3 N1.out hn1b I3.out.ints).mono ?_
  rintro e w4 ⟨Ay, cy, rfl, hO, h1y, h2y, hb⟩
  have Y0t := fun k hk => World.ownsRow.lt hO k hk
  have s4 : w3.heap.size ≤ w4.heap.size := hb.size
  have P4 := Lib.hid (P3.out.below hb (by omega))
  have Q4 := Lib.hid (Q3.out.below hb (by omega))
  have T4 := Lib.hid (T3.out.trans (hb.mono (by omega)))
  have V4 := Lib.hid (V3.out.below (by omega) hb)
  have I4 := Lib.hid (I3.out.keep (by omega) hb)
  have S04 := Lib.hid (S03.out.below hb)
  clear P3 Q3 T3 V3 I3 S03
  clear hb
  have yP_4 : w.heap.size < w4.heap.size := by omega
  have yQ_4 : (w.heap.size + 1) < w4.heap.size := by omega
  have Y04 := Lib.hid (hO)
  clear hO
  refine hK.out _ _ ⟨P4.out.threeF, Q4.out.threeF⟩ ?_
  clear hK K
  refine plan_step rfl (fun K hK => ?_)
  rw [if_pos (by rfl)]
  go_simp
  refine (specGalOk_any _ _ _ f W t k _ _ _ ss w4 S04.out.font (by omega) HS.out N1.out HZ.out (owns_read Y04.out)).mono ?_
  rintro e w5 ⟨rfl, hb⟩
  rw [HRe.out]
  have s5 : w4.heap.size ≤ w5.heap.size := hb.size
  have P5 := Lib.hid (P4.out.below hb (by omega))
  have Q5 := Lib.hid (Q4.out.below hb (by omega))
  have T5 := Lib.hid (T4.out.trans (hb.mono (by omega)))
  have V5 := Lib.hid (V4.out.below (by omega) hb)
  have I5 := Lib.hid (I4.out.keep (by omega) hb)
  have S05 := Lib.hid (S04.out.below hb)
  have Y05 := Lib.hid (Y04.out.below hb)
  clear P4 Q4 T4 V4 I4 S04 Y04
  clear hb
  have yP_5 : w.heap.size < w5.heap.size := by omega
  have yQ_5 : (w.heap.size + 1) < w5.heap.size := by omega
  refine hK.out _ _ ⟨P5.out.threeF, Q5.out.threeF⟩ ?_
  clear hK K
  refine plan_quiet rfl (by rfl) (v := ?_) ?_ ?_; rotate_left; (intro w1 hSw; obtain ⟨⟨h0, h1, h2⟩, ⟨h3, h4, h5⟩⟩ := hSw; go_simp; try (with_reducible rfl)); (try simp only [Act.put, List.setIfInBounds_toArray, List.set_cons_zero, List.set_cons_succ])
  refine plan_end ?_
  obtain ⟨Pc0, Pc1, Pc2⟩ := P5.out.threeF
  obtain ⟨Qc0, Qc1, Qc2⟩ := Q5.out.threeF
  clear S05
  clear Y05
  go_wp2_with fail
  refine (toFont_any lo hi _ f w5 V5.out (by omega) HS.out).mono ?_
  rintro e w6 ⟨vx, rfl, hO, hb⟩
  obtain ⟨Ax, cx, Bx, dx, rfl⟩ := fontFormF hO.font HSZ HNZ HMZ
  clear Pc0 Pc1 Pc2
  clear Qc0 Qc1 Qc2
  have s6 : w5.heap.size ≤ w6.heap.size := hb.size
  have P6 := Lib.hid (P5.out.below hb (by omega))
  have Q6 := Lib.hid (Q5.out.below hb (by omega))
  have T6 := Lib.hid (T5.out.trans (hb.mono (by omega)))
  have V6 := Lib.hid (V5.out.below (by omega) hb)
  have I6 := Lib.hid (I5.out.keep (by omega) hb)
  clear P5 Q5 T5 V5 I5
  clear hb
  have yP_6 : w.heap.size < w6.heap.size := by omega
  have yQ_6 : (w.heap.size + 1) < w6.heap.size := by omega
  have X6 := Lib.hid (hO)
  clear hO
  obtain ⟨Pc0, Pc1, Pc2⟩ := P6.out.threeF
  obtain ⟨Qc0, Qc1, Qc2⟩ := Q6.out.threeF
  go_wp2_with fail
  obtain ⟨w7, hw, hb, hz, hK⟩ := mxWorld w6 #[.string s, .slice Ax n cx, .slice Bx m dx] 25
  rw [hw]
  clear hw hz
  clear Pc0 Pc1 Pc2
  clear Qc0 Qc1 Qc2
  have s7 : w6.heap.size ≤ w7.heap.size := hb.size
  have P7 := Lib.hid (P6.out.below hb (by omega))
  have Q7 := Lib.hid (Q6.out.below hb (by omega))
  have T7 := Lib.hid (T6.out.trans (hb.mono (by omega)))
  have V7 := Lib.hid (V6.out.below (by omega) hb)
  have I7 := Lib.hid (I6.out.keep (by omega) hb)
  have X7 := Lib.hid (X6.out.below hb)
  clear P6 Q6 T6 V6 I6 X6
  clear hb
  have yP_7 : w.heap.size < w7.heap.size := by omega
  have yQ_7 : (w.heap.size + 1) < w7.heap.size := by omega
  have J7 := Lib.hid (hK)
  have yJ : w6.heap.size < w7.heap.size := hK.lt
  clear hK
  obtain ⟨Pc0, Pc1, Pc2⟩ := P7.out.threeF
  obtain ⟨Qc0, Qc1, Qc2⟩ := Q7.out.threeF
  obtain ⟨Jc0, Jc1, Jc2⟩ := J7.out.threeF
  go_wp2_with fail
  refine (toStringS_o _ _ _ ss w7 N1.out hn1b I7.out.ints).mono ?_
  rintro e w8 ⟨Av, cv, rfl, hO, h1v, h2v, hb⟩
  have Dt := fun k hk => World.ownsRow.lt hO k hk
  clear Pc0 Pc1 Pc2
  clear Qc0 Qc1 Qc2
  clear Jc0 Jc1 Jc2
  have s8 : w7.heap.size ≤ w8.heap.size := hb.size
  have P8 := Lib.hid (P7.out.below hb (by omega))
  have Q8 := Lib.hid (Q7.out.below hb (by omega))
  have T8 := Lib.hid (T7.out.trans (hb.mono (by omega)))
  have V8 := Lib.hid (V7.out.below (by omega) hb)
  have I8 := Lib.hid (I7.out.keep (by omega) hb)
  have X8 := Lib.hid (X7.out.below hb)
  have J8 := Lib.hid (J7.out.below hb (by omega))
  clear P7 Q7 T7 V7 I7 X7 J7
  clear hb
  have yP_8 : w.heap.size < w8.heap.size := by omega
  have yQ_8 : (w.heap.size + 1) < w8.heap.size := by omega
  have yJ_8 : w6.heap.size < w8.heap.size := by omega
  have D8 := Lib.hid (hO)
  clear hO
  obtain ⟨Pc0, Pc1, Pc2⟩ := P8.out.threeF
  obtain ⟨Qc0, Qc1, Qc2⟩ := Q8.out.threeF
  obtain ⟨Jc0, Jc1, Jc2⟩ := J8.out.threeF
  go_wp2_with fail
  refine wp_region_plan (.take 0 (.take 1 (.take 3 (.one 2 (.one 4 (.take 5 .done)))))) (fun w' => (w'.cell? ⟨w6.heap.size, 0, none⟩ = some (.string s) ∧ w'.cell? ⟨w6.heap.size, 1, none⟩ = some (.slice Ax n cx) ∧ w'.cell? ⟨w6.heap.size, 2, none⟩ = some (.slice Bx m dx)) ∧ (w'.cell? ⟨(w.heap.size + 1), 0, none⟩ = some (.int .i64 W) ∧ w'.cell? ⟨(w.heap.size + 1), 1, none⟩ = some (.int .i64 t) ∧ w'.cell? ⟨(w.heap.size + 1), 2, none⟩ = some (.int .i64 k))) (by kernel_rfl) (by kernel_rfl) (by kernel_rfl) (by intro c a d v w h; cases d <;> exact h) ⟨J8.out.threeF, Q8.out.threeF⟩ ?_
  clear Pc0 Pc1 Pc2
  clear Qc0 Qc1 Qc2
  clear Jc0 Jc1 Jc2
  refine plan_quiet rfl (by rfl) (v := ?_) ?_ ?_; rotate_left; (intro w1 hSw; obtain ⟨⟨h0, h1, h2⟩, ⟨h3, h4, h5⟩⟩ := hSw; go_simp; try (with_reducible rfl)); (try simp only [Act.put, List.setIfInBounds_toArray, List.set_cons_zero, List.set_cons_succ])
  refine plan_quiet rfl (by rfl) (v := ?_) ?_ ?_; rotate_left; (intro w1 hSw; obtain ⟨⟨h0, h1, h2⟩, ⟨h3, h4, h5⟩⟩ := hSw; go_simp; try (with_reducible rfl)); (try simp only [Act.put, List.setIfInBounds_toArray, List.set_cons_zero, List.set_cons_succ])
  refine plan_quiet rfl (by rfl) (v := ?_) ?_ ?_; rotate_left; (intro w1 hSw; obtain ⟨⟨h0, h1, h2⟩, ⟨h3, h4, h5⟩⟩ := hSw; go_simp; try (with_reducible rfl)); (try simp only [Act.put, List.setIfInBounds_toArray, List.set_cons_zero, List.set_cons_succ])
  refine plan_step rfl (fun K hK => ?_)
  rw [if_pos (by rfl)]
  go_simp
  have hd : Below w8.heap.size w8 w8.drew := (Below.refl _ _).drew
  refine (toMeasure_any W t k w8.drew).mono ?_
  rintro e w9 ⟨rfl, hb'⟩
  have hb := undrew hb'
  clear hb' hd
  have s9 : w8.heap.size ≤ w9.heap.size := hb.size
  have P9 := Lib.hid (P8.out.below hb (by omega))
  have Q9 := Lib.hid (Q8.out.below hb (by omega))
  have T9 := Lib.hid (T8.out.trans (hb.mono (by omega)))
  have V9 := Lib.hid (V8.out.below (by omega) hb)
  have I9 := Lib.hid (I8.out.keep (by omega) hb)
  have X9 := Lib.hid (X8.out.below hb)
  have J9 := Lib.hid (J8.out.below hb (by omega))
  have D9 := Lib.hid (D8.out.below hb)
  clear P8 Q8 T8 V8 I8 X8 J8 D8
  clear hb
  have yP_9 : w.heap.size < w9.heap.size := by omega
  have yQ_9 : (w.heap.size + 1) < w9.heap.size := by omega
  have yJ_9 : w6.heap.size < w9.heap.size := by omega
  refine hK.out _ _ ⟨J9.out.threeF, Q9.out.threeF⟩ ?_
  clear hK K
  refine plan_step rfl (fun K hK => ?_)
  rw [if_pos (by rfl)]
  go_simp
  refine (implGalOk_any _ _ _ _ f W t k _ _ _ ss w9 X9.out.font (by omega) HS.out N1.out HZ.out D9.out).mono ?_
  rintro e w10 ⟨rfl, hb⟩
  rw [HRe.out]
  have s10 : w9.heap.size ≤ w10.heap.size := hb.size
  have P10 := Lib.hid (P9.out.below hb (by omega))
  have Q10 := Lib.hid (Q9.out.below hb (by omega))
  have T10 := Lib.hid (T9.out.trans (hb.mono (by omega)))
  have V10 := Lib.hid (V9.out.below (by omega) hb)
  have I10 := Lib.hid (I9.out.keep (by omega) hb)
  have X10 := Lib.hid (X9.out.below hb)
  have J10 := Lib.hid (J9.out.below hb (by omega))
  have D10 := Lib.hid (D9.out.below hb)
  clear P9 Q9 T9 V9 I9 X9 J9 D9
  clear hb
  have yP_10 : w.heap.size < w10.heap.size := by omega
  have yQ_10 : (w.heap.size + 1) < w10.heap.size := by omega
  have yJ_10 : w6.heap.size < w10.heap.size := by omega
  refine hK.out _ _ ⟨J10.out.threeF, Q10.out.threeF⟩ ?_
  clear hK K
  refine plan_quiet rfl (by rfl) (v := ?_) ?_ ?_; rotate_left; (intro w1 hSw; obtain ⟨⟨h0, h1, h2⟩, ⟨h3, h4, h5⟩⟩ := hSw; go_simp; try (with_reducible rfl)); (try simp only [Act.put, List.setIfInBounds_toArray, List.set_cons_zero, List.set_cons_succ])
  refine plan_end ?_
  obtain ⟨Pc0, Pc1, Pc2⟩ := P10.out.threeF
  obtain ⟨Qc0, Qc1, Qc2⟩ := Q10.out.threeF
  obtain ⟨Jc0, Jc1, Jc2⟩ := J10.out.threeF
  go_wp2_with fail
  refine wp_region_plan (.take 0 (.take 1 (.one 2 (.one 3 (.one 4 .done))))) (fun w' => (w'.cell? ⟨w6.heap.size, 0, none⟩ = some (.string s) ∧ w'.cell? ⟨w6.heap.size, 1, none⟩ = some (.slice Ax n cx) ∧ w'.cell? ⟨w6.heap.size, 2, none⟩ = some (.slice Bx m dx)) ∧ (w'.cell? ⟨w.heap.size, 0, none⟩ = some (.string s) ∧ w'.cell? ⟨w.heap.size, 1, none⟩ = some (.slice A n c) ∧ w'.cell? ⟨w.heap.size, 2, none⟩ = some (.slice B m d))) (by kernel_rfl) (by kernel_rfl) (by kernel_rfl) (by intro c a d v w h; cases d <;> exact h) ⟨J10.out.threeF, P10.out.threeF⟩ ?_
  clear Pc0 Pc1 Pc2
  clear Qc0 Qc1 Qc2
  clear Jc0 Jc1 Jc2
  refine plan_quiet rfl (by rfl) (v := ?_) ?_ ?_; rotate_left; (intro w1 hSw; obtain ⟨⟨h0, h1, h2⟩, ⟨h3, h4, h5⟩⟩ := hSw; go_simp; try (with_reducible rfl)); (try simp only [Act.put, List.setIfInBounds_toArray, List.set_cons_zero, List.set_cons_succ])
  refine plan_quiet rfl (by rfl) (v := ?_) ?_ ?_; rotate_left; (intro w1 hSw; obtain ⟨⟨h0, h1, h2⟩, ⟨h3, h4, h5⟩⟩ := hSw; go_simp; try (with_reducible rfl)); (try simp only [Act.put, List.setIfInBounds_toArray, List.set_cons_zero, List.set_cons_succ])
  refine plan_step rfl (fun K hK => ?_)
  rw [if_pos (by rfl)]
  go_simp
  have hd : Below w10.heap.size w10 w10.drew := (Below.refl _ _).drew
  refine (toFont_any lo hi _ f w10.drew (V10.out.below (B := w10.heap.size) (by omega) hd) (by show hi ≤ w10.heap.size; omega) HS.out).mono ?_
  rintro e w11 ⟨vz, rfl, hO, hb'⟩
  have hb := undrew hb'
  clear hb' hd
  obtain ⟨Az, cz, Bz, dz, rfl⟩ := fontFormF hO.font HSZ HNZ HMZ
  have s11 : w10.heap.size ≤ w11.heap.size := hb.size
  have P11 := Lib.hid (P10.out.below hb (by omega))
  have Q11 := Lib.hid (Q10.out.below hb (by omega))
  have T11 := Lib.hid (T10.out.trans (hb.mono (by omega)))
  have V11 := Lib.hid (V10.out.below (by omega) hb)
  have I11 := Lib.hid (I10.out.keep (by omega) hb)
  have X11 := Lib.hid (X10.out.below hb)
  have J11 := Lib.hid (J10.out.below hb (by omega))
  have D11 := Lib.hid (D10.out.below hb)
  clear P10 Q10 T10 V10 I10 X10 J10 D10
  clear hb
  have yP_11 : w.heap.size < w11.heap.size := by omega
  have yQ_11 : (w.heap.size + 1) < w11.heap.size := by omega
  have yJ_11 : w6.heap.size < w11.heap.size := by omega
  have Z11 := Lib.hid (hO)
  clear hO
  refine hK.out _ _ ⟨J11.out.threeF, P11.out.threeF⟩ ?_
  clear hK K
  refine plan_step rfl (fun K hK => ?_)
  rw [if_pos (by rfl)]
  go_simp
  refine (eqFont_same _ _ _ _ _ _ f w11 X11.out.font Z11.out.font (by omega) (by omega) HS.out).mono ?_
  rintro e w12 ⟨rfl, hb⟩
  have s12 : w11.heap.size ≤ w12.heap.size := hb.size
  have P12 := Lib.hid (P11.out.below hb (by omega))
  have Q12 := Lib.hid (Q11.out.below hb (by omega))
  have T12 := Lib.hid (T11.out.trans (hb.mono (by omega)))
  have V12 := Lib.hid (V11.out.below (by omega) hb)
  have I12 := Lib.hid (I11.out.keep (by omega) hb)
  have X12 := Lib.hid (X11.out.below hb)
  have J12 := Lib.hid (J11.out.below hb (by omega))
  have D12 := Lib.hid (D11.out.below hb)
  have Z12 := Lib.hid (Z11.out.below hb)
  clear P11 Q11 T11 V11 I11 X11 J11 D11 Z11
  clear hb
  have yP_12 : w.heap.size < w12.heap.size := by omega
  have yQ_12 : (w.heap.size + 1) < w12.heap.size := by omega
  have yJ_12 : w6.heap.size < w12.heap.size := by omega
  refine hK.out _ _ ⟨J12.out.threeF, P12.out.threeF⟩ ?_
  clear hK K
  refine plan_step rfl (fun K hK => ?_)
  rw [if_pos (by rfl)]
  go_simp
  refine hK.out _ _ ⟨J12.out.threeF, P12.out.threeF⟩ ?_
  clear hK K
  refine plan_end ?_
  obtain ⟨Pc0, Pc1, Pc2⟩ := P12.out.threeF
  obtain ⟨Qc0, Qc1, Qc2⟩ := Q12.out.threeF
  obtain ⟨Jc0, Jc1, Jc2⟩ := J12.out.threeF
  clear Z12
  go_wp2_with fail
  refine (toStringS_o _ _ _ ss w12 N1.out hn1b I12.out.ints).mono ?_
  rintro e w13 ⟨Au, cu, rfl, hO, h1u, h2u, hb⟩
  have Et := fun k hk => World.ownsRow.lt hO k hk
  clear Pc0 Pc1 Pc2
  clear Qc0 Qc1 Qc2
  clear Jc0 Jc1 Jc2
  have s13 : w12.heap.size ≤ w13.heap.size := hb.size
  have P13 := Lib.hid (P12.out.below hb (by omega))
  have Q13 := Lib.hid (Q12.out.below hb (by omega))
  have T13 := Lib.hid (T12.out.trans (hb.mono (by omega)))
  have V13 := Lib.hid (V12.out.below (by omega) hb)
  have I13 := Lib.hid (I12.out.keep (by omega) hb)
  have X13 := Lib.hid (X12.out.below hb)
  have J13 := Lib.hid (J12.out.below hb (by omega))
  have D13 := Lib.hid (D12.out.below hb)
  clear P12 Q12 T12 V12 I12 X12 J12 D12
  clear hb
  have yP_13 : w.heap.size < w13.heap.size := by omega
  have yQ_13 : (w.heap.size + 1) < w13.heap.size := by omega
  have yJ_13 : w6.heap.size < w13.heap.size := by omega
  have E13 := Lib.hid (hO)
  clear hO
  obtain ⟨Pc0, Pc1, Pc2⟩ := P13.out.threeF
  obtain ⟨Qc0, Qc1, Qc2⟩ := Q13.out.threeF
  obtain ⟨Jc0, Jc1, Jc2⟩ := J13.out.threeF
  go_wp2_with fail
  refine (eqStringS_t _ _ _ _ _ ss w13 N1.out hn1b (owns_read D13.out) (owns_read E13.out)).mono ?_
  rintro e w14 ⟨rfl, hb⟩
  clear Pc0 Pc1 Pc2
  clear Qc0 Qc1 Qc2
  clear Jc0 Jc1 Jc2
  have s14 : w13.heap.size ≤ w14.heap.size := hb.size
  have P14 := Lib.hid (P13.out.below hb (by omega))
  have Q14 := Lib.hid (Q13.out.below hb (by omega))
  have T14 := Lib.hid (T13.out.trans (hb.mono (by omega)))
  have V14 := Lib.hid (V13.out.below (by omega) hb)
  have I14 := Lib.hid (I13.out.keep (by omega) hb)
  have X14 := Lib.hid (X13.out.below hb)
  have J14 := Lib.hid (J13.out.below hb (by omega))
  have D14 := Lib.hid (D13.out.below hb)
  have E14 := Lib.hid (E13.out.below hb)
  clear P13 Q13 T13 V13 I13 X13 J13 D13 E13
  clear hb
  have yP_14 : w.heap.size < w14.heap.size := by omega
  have yQ_14 : (w.heap.size + 1) < w14.heap.size := by omega
  have yJ_14 : w6.heap.size < w14.heap.size := by omega
  obtain ⟨Pc0, Pc1, Pc2⟩ := P14.out.threeF
  obtain ⟨Qc0, Qc1, Qc2⟩ := Q14.out.threeF
  obtain ⟨Jc0, Jc1, Jc2⟩ := J14.out.threeF
  go_wp2
  go_ret
  exact ⟨rfl, T14.out⟩
end Go.Proofs.Ytobakeahbgodbaa
