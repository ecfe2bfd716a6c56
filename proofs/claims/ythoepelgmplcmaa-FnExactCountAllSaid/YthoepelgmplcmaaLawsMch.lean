/-
  The exact law of MachineOk: its walk. No condition.
-/
import Derived.Test.YthoepelgmplcmaaMchJ
import Derived.Test.YthoepelgmplcmaaMchK
namespace Go.Proofs.Ythoepelgmplcmaa
open Go.RowKit
set_option linter.unusedVariables false

theorem MchV.drew {w : World} {lo hi : Nat} {v : Value} {X : Mch} (h : MchV w lo hi v X) : MchV w.drew lo hi v X := by
  obtain ⟨A, c, A2, d, M, e, L, lc, T, tc, hv, hp⟩ := h
  exact ⟨A, c, A2, d, M, e, L, lc, T, tc, hv, hp.keep (fun p _ _ => rfl)⟩
set_option maxRecDepth 100000 in
set_option maxHeartbeats 6400000 in
theorem fnExactMachineOk_walk (lo hi : Nat) (v : Value) (X : Mch) (w : World) (h : MchV w lo hi v X) (hhi : hi ≤ w.heap.size) (wf : WfX X) :
    Calls Try.prog 6 #[v] w fun e w' => e = .returned (.bool true) ∧ Below w.heap.size w w' := by
  obtain ⟨s, A, n, c, B, m, d, M, q, e, sp, W, t, k, L, l, f, T, r, g, rfl⟩ := h.form
  have HWf := Lib.hid wf
  obtain ⟨w0, hw0, hb0, hz0, K0⟩ := mxWorld w #[.string s, .slice A n c, .slice B m d, .slice M q e, .int .i64 sp, .int .i64 W, .int .i64 t, .int .i64 k, .slice L l f, .slice T r g] 56
  have P0 := Lib.hid K0; have T0 := Lib.hid hb0; have V0 := Lib.hid (h.below hhi hb0)
  have s0 : w.heap.size < w0.heap.size := K0.lt
  obtain ⟨Pc0, Pc1, Pc2, Pc3, Pc4, Pc5, Pc6, Pc7, Pc8, Pc9⟩ := P0.out.ten
  clear h hb0 hz0 K0 wf
  by_cases hbig : (1048576 : Int) < X.big
  · have Hk := Lib.hid (takeOff_bad hbig)
    go_enter Try.func6, Try.ntmps6
    go_wp2_with fail
    clear hw0
    refine (szMachine_any lo hi _ X _ w0 V0.out (by omega) (by omega) (by omega)).mono ?_
    rintro e w1 ⟨rfl, hb1⟩
    rw [Hk.out]
    have T1 := Lib.hid (T0.out.trans (hb1.mono (by omega)))
    clear hb1 Pc0 Pc1 Pc2 Pc3 Pc4 Pc5 Pc6 Pc7 Pc8 Pc9
    go_wp2
    go_ret
    exact ⟨rfl, T1.out⟩
  have Hk := Lib.hid (takeOff_good hbig)
  have hb20 : X.big ≤ 1048576 := by omega
  have HS := Lib.hid (big_smallX hb20)
  have hk0 : decide (1048576 - (X.big : Int) < 0) = false := decide_eq_false (by omega)
  go_enter Try.func6, Try.ntmps6
  go_wp2_with fail
  clear hw0
  refine (szMachine_any lo hi _ X _ w0 V0.out (by omega) (by omega) (by omega)).mono ?_
  rintro e w1 ⟨rfl, hb⟩
  rw [Hk.out]
  clear Pc0 Pc1 Pc2 Pc3 Pc4 Pc5 Pc6 Pc7 Pc8 Pc9
  have s1 : w0.heap.size ≤ w1.heap.size := hb.size
  have P1 := Lib.hid (P0.out.below hb (by omega))
  have T1 := Lib.hid (T0.out.trans (hb.mono (by omega)))
  have V1 := Lib.hid (V0.out.below (by omega) hb)
  clear P0 T0 V0
  clear hb
  obtain ⟨Pc0, Pc1, Pc2, Pc3, Pc4, Pc5, Pc6, Pc7, Pc8, Pc9⟩ := P1.out.ten
  go_wp2_with fail
  refine (toMachine_any lo hi _ X w1 V1.out (by omega) HS.out).mono ?_
  rintro e w2 ⟨vs, rfl, hO, hb⟩
  obtain ⟨ss, As, ns, cs, Bs, ms, ds, Ms, qs, es, sps, Ws, ts, ks, Ls, ls, fs, Ts, rs, gs, rfl⟩ := hO.reads.form
  clear Pc0 Pc1 Pc2 Pc3 Pc4 Pc5 Pc6 Pc7 Pc8 Pc9
  have s2 : w1.heap.size ≤ w2.heap.size := hb.size
  have P2 := Lib.hid (P1.out.below hb (by omega))
  have T2 := Lib.hid (T1.out.trans (hb.mono (by omega)))
  have V2 := Lib.hid (V1.out.below (by omega) hb)
  clear P1 T1 V1
  clear hb
  have S2 := Lib.hid (hO)
  obtain ⟨Pc0, Pc1, Pc2, Pc3, Pc4, Pc5, Pc6, Pc7, Pc8, Pc9⟩ := P2.out.ten
  clear hO
  go_wp2_with fail
  refine (specMachine_any _ _ _ X w2 S2.out.reads (by omega) HS.out).mono ?_
  rintro e w3 ⟨rfl, hb⟩
  clear Pc0 Pc1 Pc2 Pc3 Pc4 Pc5 Pc6 Pc7 Pc8 Pc9
  have s3 : w2.heap.size ≤ w3.heap.size := hb.size
  have P3 := Lib.hid (P2.out.below hb (by omega))
  have T3 := Lib.hid (T2.out.trans (hb.mono (by omega)))
  have V3 := Lib.hid (V2.out.below (by omega) hb)
  have S3 := Lib.hid (S2.out.below hb)
  clear P2 T2 V2 S2
  clear hb
  obtain ⟨Pc0, Pc1, Pc2, Pc3, Pc4, Pc5, Pc6, Pc7, Pc8, Pc9⟩ := P3.out.ten
  clear S3
  obtain ⟨rr, hrr⟩ : ∃ x, machB X = x := ⟨_, rfl⟩
  have Hrr := Lib.hid hrr
  rw [hrr]
  clear hrr
  have hne : (rr != rr) = false := by simp
  go_wp2_with fail
  refine (toMachine_any lo hi _ X w3 V3.out (by omega) HS.out).mono ?_
  rintro e w4 ⟨vx, rfl, hO, hb⟩
  obtain ⟨sx, Ax, nx, cx, Bx, mx, dx, Mx, qx, ex, spx, Wx, tx, kx, Lx, lx, fx, Tx, rx, gx, rfl⟩ := hO.reads.form
  clear Pc0 Pc1 Pc2 Pc3 Pc4 Pc5 Pc6 Pc7 Pc8 Pc9
  have s4 : w3.heap.size ≤ w4.heap.size := hb.size
  have P4 := Lib.hid (P3.out.below hb (by omega))
  have T4 := Lib.hid (T3.out.trans (hb.mono (by omega)))
  have V4 := Lib.hid (V3.out.below (by omega) hb)
  clear P3 T3 V3
  clear hb
  have X4 := Lib.hid (hO)
  obtain ⟨Pc0, Pc1, Pc2, Pc3, Pc4, Pc5, Pc6, Pc7, Pc8, Pc9⟩ := P4.out.ten
  clear hO
  go_wp2_with fail
  obtain ⟨w5, hw, hb, hz, hK⟩ := mxWorld w4 #[.string sx, .slice Ax nx cx, .slice Bx mx dx, .slice Mx qx ex, .int .i64 spx, .int .i64 Wx, .int .i64 tx, .int .i64 kx, .slice Lx lx fx, .slice Tx rx gx] 61
  rw [hw]
  clear hw hz
  clear Pc0 Pc1 Pc2 Pc3 Pc4 Pc5 Pc6 Pc7 Pc8 Pc9
  have s5 : w4.heap.size ≤ w5.heap.size := hb.size
  have P5 := Lib.hid (P4.out.below hb (by omega))
  have T5 := Lib.hid (T4.out.trans (hb.mono (by omega)))
  have V5 := Lib.hid (V4.out.below (by omega) hb)
  have X5 := Lib.hid (X4.out.below hb)
  clear P4 T4 V4 X4
  clear hb
  have J5 := Lib.hid (hK)
  have yJ : w4.heap.size < w5.heap.size := hK.lt
  clear hK
  obtain ⟨Pc0, Pc1, Pc2, Pc3, Pc4, Pc5, Pc6, Pc7, Pc8, Pc9⟩ := P5.out.ten
  obtain ⟨Jc0, Jc1, Jc2, Jc3, Jc4, Jc5, Jc6, Jc7, Jc8, Jc9⟩ := J5.out.ten
  refine (implMachine_any _ _ _ X w5 X5.out.reads (by omega) HS.out HWf.out).mono ?_
  rintro e w6 ⟨rfl, hb⟩
  rw [Hrr.out]
  clear Pc0 Pc1 Pc2 Pc3 Pc4 Pc5 Pc6 Pc7 Pc8 Pc9
  clear Jc0 Jc1 Jc2 Jc3 Jc4 Jc5 Jc6 Jc7 Jc8 Jc9
  have s6 : w5.heap.size ≤ w6.heap.size := hb.size
  have P6 := Lib.hid (P5.out.below hb (by omega))
  have T6 := Lib.hid (T5.out.trans (hb.mono (by omega)))
  have V6 := Lib.hid (V5.out.below (by omega) hb)
  have X6 := Lib.hid (X5.out.below hb)
  have J6 := Lib.hid (J5.out.below hb (by omega))
  clear P5 T5 V5 X5 J5
  clear hb
  obtain ⟨Pc0, Pc1, Pc2, Pc3, Pc4, Pc5, Pc6, Pc7, Pc8, Pc9⟩ := P6.out.ten
  obtain ⟨Jc0, Jc1, Jc2, Jc3, Jc4, Jc5, Jc6, Jc7, Jc8, Jc9⟩ := J6.out.ten
  go_wp2_with fail
  refine wp_region_plan (.take 0 (.take 1 (.one 2 (.one 3 (.one 4 .done))))) (fun w' => (w'.cell? ⟨w4.heap.size, 0, none⟩ = some (.string sx) ∧ w'.cell? ⟨w4.heap.size, 1, none⟩ = some (.slice Ax nx cx) ∧ w'.cell? ⟨w4.heap.size, 2, none⟩ = some (.slice Bx mx dx) ∧ w'.cell? ⟨w4.heap.size, 3, none⟩ = some (.slice Mx qx ex) ∧ w'.cell? ⟨w4.heap.size, 4, none⟩ = some (.int .i64 spx) ∧ w'.cell? ⟨w4.heap.size, 5, none⟩ = some (.int .i64 Wx) ∧ w'.cell? ⟨w4.heap.size, 6, none⟩ = some (.int .i64 tx) ∧ w'.cell? ⟨w4.heap.size, 7, none⟩ = some (.int .i64 kx) ∧ w'.cell? ⟨w4.heap.size, 8, none⟩ = some (.slice Lx lx fx) ∧ w'.cell? ⟨w4.heap.size, 9, none⟩ = some (.slice Tx rx gx)) ∧ (w'.cell? ⟨w.heap.size, 0, none⟩ = some (.string s) ∧ w'.cell? ⟨w.heap.size, 1, none⟩ = some (.slice A n c) ∧ w'.cell? ⟨w.heap.size, 2, none⟩ = some (.slice B m d) ∧ w'.cell? ⟨w.heap.size, 3, none⟩ = some (.slice M q e) ∧ w'.cell? ⟨w.heap.size, 4, none⟩ = some (.int .i64 sp) ∧ w'.cell? ⟨w.heap.size, 5, none⟩ = some (.int .i64 W) ∧ w'.cell? ⟨w.heap.size, 6, none⟩ = some (.int .i64 t) ∧ w'.cell? ⟨w.heap.size, 7, none⟩ = some (.int .i64 k) ∧ w'.cell? ⟨w.heap.size, 8, none⟩ = some (.slice L l f) ∧ w'.cell? ⟨w.heap.size, 9, none⟩ = some (.slice T r g))) (by kernel_rfl) (by kernel_rfl) (by kernel_rfl) (by intro c a d v w h; cases d <;> exact h) ⟨J6.out.ten, P6.out.ten⟩ ?_
  clear Pc0 Pc1 Pc2 Pc3 Pc4 Pc5 Pc6 Pc7 Pc8 Pc9
  clear Jc0 Jc1 Jc2 Jc3 Jc4 Jc5 Jc6 Jc7 Jc8 Jc9
  refine plan_quiet rfl (by rfl) (v := ?_) ?_ ?_; rotate_left; (intro w1 hSw; obtain ⟨⟨h0, h1, h2, h3, h4, h5, h6, h7, h8, h9⟩, ⟨h0', h1', h2', h3', h4', h5', h6', h7', h8', h9'⟩⟩ := hSw; go_simp; try (with_reducible rfl)); (try simp only [Act.put, List.setIfInBounds_toArray, List.set_cons_zero, List.set_cons_succ])
  refine plan_quiet rfl (by rfl) (v := ?_) ?_ ?_; rotate_left; (intro w1 hSw; obtain ⟨⟨h0, h1, h2, h3, h4, h5, h6, h7, h8, h9⟩, ⟨h0', h1', h2', h3', h4', h5', h6', h7', h8', h9'⟩⟩ := hSw; go_simp; try (with_reducible rfl)); (try simp only [Act.put, List.setIfInBounds_toArray, List.set_cons_zero, List.set_cons_succ])
  refine plan_step rfl (fun K hK => ?_)
  rw [if_pos (by rfl)]
  go_simp
  refine (toMachine_any lo hi _ X w6.drew (MchV.drew V6.out) (by show hi ≤ w6.heap.size; omega) HS.out).mono ?_
  rintro e w7 ⟨vz, rfl, hO, hb'⟩
  have hb := undrew hb'
  clear hb'
  obtain ⟨sz, Az, nz, cz, Bz, mz, dz, Mz, qz, ez, spz, Wz, tz, kz, Lz, lz, fz, Tz, rz, gz, rfl⟩ := hO.reads.form
  have s7 : w6.heap.size ≤ w7.heap.size := hb.size
  have P7 := Lib.hid (P6.out.below hb (by omega))
  have T7 := Lib.hid (T6.out.trans (hb.mono (by omega)))
  have V7 := Lib.hid (V6.out.below (by omega) hb)
  have X7 := Lib.hid (X6.out.below hb)
  have J7 := Lib.hid (J6.out.below hb (by omega))
  clear P6 T6 V6 X6 J6
  clear hb
  have Z7 := Lib.hid (hO)
  clear hO
  refine hK.out _ _ ⟨J7.out.ten, P7.out.ten⟩ ?_
  clear hK K
  refine plan_step rfl (fun K hK => ?_)
  rw [if_pos (by rfl)]
  go_simp
  refine (eqMachine_same _ _ _ _ _ _ X w7 X7.out.reads Z7.out.reads (by omega) (by omega) HS.out).mono ?_
  rintro e w8 ⟨rfl, hb⟩
  have s8 : w7.heap.size ≤ w8.heap.size := hb.size
  have P8 := Lib.hid (P7.out.below hb (by omega))
  have T8 := Lib.hid (T7.out.trans (hb.mono (by omega)))
  have V8 := Lib.hid (V7.out.below (by omega) hb)
  have X8 := Lib.hid (X7.out.below hb)
  have J8 := Lib.hid (J7.out.below hb (by omega))
  have Z8 := Lib.hid (Z7.out.below hb)
  clear P7 T7 V7 X7 J7 Z7
  clear hb
  refine hK.out _ _ ⟨J8.out.ten, P8.out.ten⟩ ?_
  clear hK K
  refine plan_step rfl (fun K hK => ?_)
  rw [if_pos (by rfl)]
  go_simp
  refine hK.out _ _ ⟨J8.out.ten, P8.out.ten⟩ ?_
  clear hK K
  refine plan_end ?_
  clear Z8
  obtain ⟨Pc0, Pc1, Pc2, Pc3, Pc4, Pc5, Pc6, Pc7, Pc8, Pc9⟩ := P8.out.ten
  obtain ⟨Jc0, Jc1, Jc2, Jc3, Jc4, Jc5, Jc6, Jc7, Jc8, Jc9⟩ := J8.out.ten
  go_wp2
  go_ret
  exact ⟨rfl, T8.out⟩
end Go.Proofs.Ythoepelgmplcmaa
