/-
  The exact law of DeskOk: its walk. No condition.
-/
import Derived.Test.YtobakeahbgodbaaGreatDskO
import Derived.Test.YtobakeahbgodbaaGreatPkH
import Derived.Test.YtobakeahbgodbaaGreatPkD
import Derived.Test.YtobakeahbgodbaaGreatPkA
import Derived.Test.YtobakeahbgodbaaGreatPkG
namespace Go.Proofs.YtobakeahbgodbaaGreat
open Go.RowKit
set_option linter.unusedVariables false

theorem MchV.drewD {w : World} {lo hi : Nat} {v : Value} {X : Mch} (h : MchV w lo hi v X) : MchV w.drew lo hi v X := by
  obtain ⟨A, c, A2, d, M, e, L, lc, T, tc, hv, hp⟩ := h
  exact ⟨A, c, A2, d, M, e, L, lc, T, tc, hv, hp.keep (fun p _ _ => rfl)⟩
theorem dszI_good {X : Mch} {g : List ByteArray} (h : ¬ dszI X g < 0) : X.big ≤ 1048576 ∧ szL g ≤ 1048576 := by
  unfold dszI at h
  split at h
  · omega
  · have := szI_good (left := 1048576 - (X.big : Int)) (ss := g) (by omega)
    omega
set_option maxRecDepth 100000 in
set_option maxHeartbeats 6400000 in
theorem fnExactDeskOk_walk (lo hi : Nat) (v : Value) (X : Mch) (G : Option Addr) (ng cg : Nat) (gs : List ByteArray) (w : World) (h : MchV w lo hi v X) (hhi : hi ≤ w.heap.size) (wfx : WfX X) (hn : gs.length = ng) (hm : ng ≤ maxLen) (hg : Strs w G gs) (wfg : ∀ s ∈ gs, s.size ≤ maxLen) :
    Calls Tryz.prog 5 #[dvg v (.slice G ng cg)] w fun e w' => e = .returned (.bool true) ∧ Below w.heap.size w w' := by
  obtain ⟨s, A, n, c, B, m, d, M, q, e, sp, W, t, k, L, l, f, T, r, g, rfl⟩ := h.formD
  have HWf := Lib.hid wfx; have Hn := Lib.hid hn; have WF := Lib.hid wfg
  show Calls _ _ #[.agg #[.string s, .slice A n c, .slice B m d, .slice M q e, .int .i64 sp, .int .i64 W, .int .i64 t, .int .i64 k, .slice L l f, .slice T r g, .slice G ng cg]] _ _
  obtain ⟨w0, hw0, hb0, hz0, K0⟩ := mxWorld w #[.string s, .slice A n c, .slice B m d, .slice M q e, .int .i64 sp, .int .i64 W, .int .i64 t, .int .i64 k, .slice L l f, .slice T r g, .slice G ng cg] 55
  have P0 := Lib.hid K0; have T0 := Lib.hid hb0; have V0 := Lib.hid (h.below hhi hb0); have I0 := Lib.hid ((StrsB.of hg).keep (Nat.le_refl _) hb0)
  have s0 : w.heap.size < w0.heap.size := K0.lt
  clear h hb0 hz0 K0 wfx hn hg wfg
  obtain ⟨Pc0, Pc1, Pc2, Pc3, Pc4, Pc5, Pc6, Pc7, Pc8, Pc9, Pc10⟩ := P0.out.elev
  obtain ⟨Z, hZ⟩ : ∃ x, dszI X gs = x := ⟨_, rfl⟩
  have HZ := Lib.hid hZ
  have C0 := Lib.hid (fun (hh : Hid (¬ Z < 0)) => dszI_good (X := X) (g := gs) (by rw [hZ]; exact hh.out))
  clear hZ
  by_cases hZ0 : Z < 0
  · go_enter Tryz.func5, Tryz.ntmps5
    go_wp2_with fail
    clear hw0
    refine (szDesk_any lo hi _ X G ng cg gs w0 V0.out (by omega) Hn.out hm I0.out.ints WF.out).mono ?_
    rintro e w1 ⟨rfl, hb1⟩
    rw [HZ.out]
    have T1 := Lib.hid (T0.out.trans (hb1.mono (by omega)))
    clear hb1 Pc0 Pc1 Pc2 Pc3 Pc4 Pc5 Pc6 Pc7 Pc8 Pc9 Pc10
    go_wp2
    go_ret
    exact ⟨rfl, T1.out⟩
  obtain ⟨hb20, hsz⟩ := C0.out hZ0
  have HS := Lib.hid (big_smallX hb20); have HSz := Lib.hid hsz
  have hn1b : ng ≤ 1048576 := by have h : gs.length ≤ szL gs := (by rw [szL_eq]; omega); rw [Hn.out] at h; omega
  clear C0 hsz
  go_enter Tryz.func5, Tryz.ntmps5
  go_wp2_with fail
  clear hw0
  refine (szDesk_any lo hi _ X G ng cg gs w0 V0.out (by omega) Hn.out hm I0.out.ints WF.out).mono ?_
  rintro e w1 ⟨rfl, hb⟩
  rw [HZ.out]
  clear Pc0 Pc1 Pc2 Pc3 Pc4 Pc5 Pc6 Pc7 Pc8 Pc9 Pc10
  have s1 : w0.heap.size ≤ w1.heap.size := hb.size
  have P1 := Lib.hid (P0.out.below hb (by omega))
  have T1 := Lib.hid (T0.out.trans (hb.mono (by omega)))
  have V1 := Lib.hid (V0.out.below (by omega) hb)
  have I1 := Lib.hid (I0.out.keep (by omega) hb)
  clear P0 T0 V0 I0
  clear hb
  have yP_1 : w.heap.size < w1.heap.size := by omega
  obtain ⟨Pc0, Pc1, Pc2, Pc3, Pc4, Pc5, Pc6, Pc7, Pc8, Pc9, Pc10⟩ := P1.out.elev
  obtain ⟨R, hR⟩ : ∃ x, dskB X gs = x := ⟨_, rfl⟩
  have HRe := Lib.hid hR
  clear hR
  have hne : (R != R) = false := by simp
  go_wp2_with fail
  refine (toDesk_any lo hi _ X G ng cg gs w1 V1.out (by omega) HS.out Hn.out hn1b I1.out.ints).mono ?_
  rintro e w2 ⟨vv, Gv, cgv, bv, rfl, hX, hO, hb1v, hb2v, hc1v, hc2v, hb⟩
  obtain ⟨sv, Av, nv, cv, Bv, mv, dv, Mv, qv, ev, spv, Wv, tv, kv, Lv, lv, fv, Tv, rv, gv, rfl⟩ := hX.reads.form
  rw [dvg_eq]
  clear Pc0 Pc1 Pc2 Pc3 Pc4 Pc5 Pc6 Pc7 Pc8 Pc9 Pc10
  have s2 : w1.heap.size ≤ w2.heap.size := hb.size
  have P2 := Lib.hid (P1.out.below hb (by omega))
  have T2 := Lib.hid (T1.out.trans (hb.mono (by omega)))
  have V2 := Lib.hid (V1.out.below (by omega) hb)
  have I2 := Lib.hid (I1.out.keep (by omega) hb)
  clear P1 T1 V1 I1
  clear hb
  have yP_2 : w.heap.size < w2.heap.size := by omega
  have S2 := Lib.hid hX; have Sg2 := Lib.hid hO; have Sgt := fun k hk => World.ownsRow.lt hO k hk
  clear hX hO
  obtain ⟨Pc0, Pc1, Pc2, Pc3, Pc4, Pc5, Pc6, Pc7, Pc8, Pc9, Pc10⟩ := P2.out.elev
  go_wp2_with fail
  refine (specDeskOk_any _ _ (.agg #[.string sv, .slice Av nv cv, .slice Bv mv dv, .slice Mv qv ev, .int .i64 spv, .int .i64 Wv, .int .i64 tv, .int .i64 kv, .slice Lv lv fv, .slice Tv rv gv]) X Gv ng cgv gs w2 S2.out.reads (by omega) HS.out Hn.out HSz.out (owns_read Sg2.out)).mono ?_
  rintro e w3 ⟨rfl, hb⟩
  rw [HRe.out]
  clear Pc0 Pc1 Pc2 Pc3 Pc4 Pc5 Pc6 Pc7 Pc8 Pc9 Pc10
  have s3 : w2.heap.size ≤ w3.heap.size := hb.size
  have P3 := Lib.hid (P2.out.below hb (by omega))
  have T3 := Lib.hid (T2.out.trans (hb.mono (by omega)))
  have V3 := Lib.hid (V2.out.below (by omega) hb)
  have I3 := Lib.hid (I2.out.keep (by omega) hb)
  have S3 := Lib.hid (S2.out.below hb)
  have Sg3 := Lib.hid (Sg2.out.below hb)
  clear P2 T2 V2 I2 S2 Sg2
  clear hb
  have yP_3 : w.heap.size < w3.heap.size := by omega
  obtain ⟨Pc0, Pc1, Pc2, Pc3, Pc4, Pc5, Pc6, Pc7, Pc8, Pc9, Pc10⟩ := P3.out.elev
  clear S3
  clear Sg3
  go_wp2_with fail
  refine (toDesk_any lo hi _ X G ng cg gs w3 V3.out (by omega) HS.out Hn.out hn1b I3.out.ints).mono ?_
  rintro e w4 ⟨vx, Gx, cgx, bx, rfl, hX, hO, hb1x, hb2x, hc1x, hc2x, hb⟩
  obtain ⟨sx, Ax, nx, cx, Bx, mx, dx, Mx, qx, ex, spx, Wx, tx, kx, Lx, lx, fx, Tx, rx, gx, rfl⟩ := hX.reads.form
  rw [dvg_eq]
  clear Pc0 Pc1 Pc2 Pc3 Pc4 Pc5 Pc6 Pc7 Pc8 Pc9 Pc10
  have s4 : w3.heap.size ≤ w4.heap.size := hb.size
  have P4 := Lib.hid (P3.out.below hb (by omega))
  have T4 := Lib.hid (T3.out.trans (hb.mono (by omega)))
  have V4 := Lib.hid (V3.out.below (by omega) hb)
  have I4 := Lib.hid (I3.out.keep (by omega) hb)
  clear P3 T3 V3 I3
  clear hb
  have yP_4 : w.heap.size < w4.heap.size := by omega
  have X4 := Lib.hid hX; have Xg4 := Lib.hid hO; have Xgt := fun k hk => World.ownsRow.lt hO k hk
  clear hX hO
  obtain ⟨Pc0, Pc1, Pc2, Pc3, Pc4, Pc5, Pc6, Pc7, Pc8, Pc9, Pc10⟩ := P4.out.elev
  go_wp2_with fail
  obtain ⟨w5, hw, hb, hz, hK⟩ := mxWorld w4 #[.string sx, .slice Ax nx cx, .slice Bx mx dx, .slice Mx qx ex, .int .i64 spx, .int .i64 Wx, .int .i64 tx, .int .i64 kx, .slice Lx lx fx, .slice Tx rx gx, .slice Gx ng cgx] 63
  rw [hw]
  clear hw hz
  clear Pc0 Pc1 Pc2 Pc3 Pc4 Pc5 Pc6 Pc7 Pc8 Pc9 Pc10
  have s5 : w4.heap.size ≤ w5.heap.size := hb.size
  have P5 := Lib.hid (P4.out.below hb (by omega))
  have T5 := Lib.hid (T4.out.trans (hb.mono (by omega)))
  have V5 := Lib.hid (V4.out.below (by omega) hb)
  have I5 := Lib.hid (I4.out.keep (by omega) hb)
  have X5 := Lib.hid (X4.out.below hb)
  have Xg5 := Lib.hid (Xg4.out.below hb)
  clear P4 T4 V4 I4 X4 Xg4
  clear hb
  have yP_5 : w.heap.size < w5.heap.size := by omega
  have J5 := Lib.hid (hK)
  have yJ : w4.heap.size < w5.heap.size := hK.lt
  clear hK
  obtain ⟨Pc0, Pc1, Pc2, Pc3, Pc4, Pc5, Pc6, Pc7, Pc8, Pc9, Pc10⟩ := P5.out.elev
  obtain ⟨Jc0, Jc1, Jc2, Jc3, Jc4, Jc5, Jc6, Jc7, Jc8, Jc9, Jc10⟩ := J5.out.elev
  refine (implDeskOk_any _ _ (.agg #[.string sx, .slice Ax nx cx, .slice Bx mx dx, .slice Mx qx ex, .int .i64 spx, .int .i64 Wx, .int .i64 tx, .int .i64 kx, .slice Lx lx fx, .slice Tx rx gx]) X Gx ng cgx _ gs w5 X5.out.reads (by omega) HS.out HWf.out Hn.out HSz.out Xg5.out).mono ?_
  rintro e w6 ⟨rfl, hb⟩
  rw [HRe.out]
  clear Pc0 Pc1 Pc2 Pc3 Pc4 Pc5 Pc6 Pc7 Pc8 Pc9 Pc10
  clear Jc0 Jc1 Jc2 Jc3 Jc4 Jc5 Jc6 Jc7 Jc8 Jc9 Jc10
  have s6 : w5.heap.size ≤ w6.heap.size := hb.size
  have P6 := Lib.hid (P5.out.below hb (by omega))
  have T6 := Lib.hid (T5.out.trans (hb.mono (by omega)))
  have V6 := Lib.hid (V5.out.below (by omega) hb)
  have I6 := Lib.hid (I5.out.keep (by omega) hb)
  have X6 := Lib.hid (X5.out.below hb)
  have Xg6 := Lib.hid (Xg5.out.below hb)
  have J6 := Lib.hid (J5.out.below hb (by omega))
  clear P5 T5 V5 I5 X5 Xg5 J5
  clear hb
  have yP_6 : w.heap.size < w6.heap.size := by omega
  have yJ_6 : w4.heap.size < w6.heap.size := by omega
  obtain ⟨Pc0, Pc1, Pc2, Pc3, Pc4, Pc5, Pc6, Pc7, Pc8, Pc9, Pc10⟩ := P6.out.elev
  obtain ⟨Jc0, Jc1, Jc2, Jc3, Jc4, Jc5, Jc6, Jc7, Jc8, Jc9, Jc10⟩ := J6.out.elev
  go_wp2_with fail
  refine wp_region_plan (.take 0 (.take 1 (.one 2 (.one 3 (.one 4 .done))))) (fun w' => (w'.cell? ⟨w4.heap.size, 0, none⟩ = some (.string sx) ∧ w'.cell? ⟨w4.heap.size, 1, none⟩ = some (.slice Ax nx cx) ∧ w'.cell? ⟨w4.heap.size, 2, none⟩ = some (.slice Bx mx dx) ∧ w'.cell? ⟨w4.heap.size, 3, none⟩ = some (.slice Mx qx ex) ∧ w'.cell? ⟨w4.heap.size, 4, none⟩ = some (.int .i64 spx) ∧ w'.cell? ⟨w4.heap.size, 5, none⟩ = some (.int .i64 Wx) ∧ w'.cell? ⟨w4.heap.size, 6, none⟩ = some (.int .i64 tx) ∧ w'.cell? ⟨w4.heap.size, 7, none⟩ = some (.int .i64 kx) ∧ w'.cell? ⟨w4.heap.size, 8, none⟩ = some (.slice Lx lx fx) ∧ w'.cell? ⟨w4.heap.size, 9, none⟩ = some (.slice Tx rx gx) ∧ w'.cell? ⟨w4.heap.size, 10, none⟩ = some (.slice Gx ng cgx)) ∧ (w'.cell? ⟨w.heap.size, 0, none⟩ = some (.string s) ∧ w'.cell? ⟨w.heap.size, 1, none⟩ = some (.slice A n c) ∧ w'.cell? ⟨w.heap.size, 2, none⟩ = some (.slice B m d) ∧ w'.cell? ⟨w.heap.size, 3, none⟩ = some (.slice M q e) ∧ w'.cell? ⟨w.heap.size, 4, none⟩ = some (.int .i64 sp) ∧ w'.cell? ⟨w.heap.size, 5, none⟩ = some (.int .i64 W) ∧ w'.cell? ⟨w.heap.size, 6, none⟩ = some (.int .i64 t) ∧ w'.cell? ⟨w.heap.size, 7, none⟩ = some (.int .i64 k) ∧ w'.cell? ⟨w.heap.size, 8, none⟩ = some (.slice L l f) ∧ w'.cell? ⟨w.heap.size, 9, none⟩ = some (.slice T r g) ∧ w'.cell? ⟨w.heap.size, 10, none⟩ = some (.slice G ng cg))) (by kernel_rfl) (by kernel_rfl) (by kernel_rfl) (by intro c a d v w h; cases d <;> exact h) ⟨J6.out.elev, P6.out.elev⟩ ?_
  clear Pc0 Pc1 Pc2 Pc3 Pc4 Pc5 Pc6 Pc7 Pc8 Pc9 Pc10
  clear Jc0 Jc1 Jc2 Jc3 Jc4 Jc5 Jc6 Jc7 Jc8 Jc9 Jc10
  refine plan_quiet rfl (by rfl) (v := ?_) ?_ ?_; rotate_left; (intro w1 hSw; obtain ⟨⟨h0, h1, h2, h3, h4, h5, h6, h7, h8, h9, h10⟩, ⟨h11, h12, h13, h14, h15, h16, h17, h18, h19, h20, h21⟩⟩ := hSw; go_simp; try (with_reducible rfl)); (try simp only [Act.put, List.setIfInBounds_toArray, List.set_cons_zero, List.set_cons_succ])
  refine plan_quiet rfl (by rfl) (v := ?_) ?_ ?_; rotate_left; (intro w1 hSw; obtain ⟨⟨h0, h1, h2, h3, h4, h5, h6, h7, h8, h9, h10⟩, ⟨h11, h12, h13, h14, h15, h16, h17, h18, h19, h20, h21⟩⟩ := hSw; go_simp; try (with_reducible rfl)); (try simp only [Act.put, List.setIfInBounds_toArray, List.set_cons_zero, List.set_cons_succ])
  refine plan_step rfl (fun K hK => ?_)
  rw [if_pos (by rfl)]
  go_simp
  refine (toDesk_any lo hi _ X G ng cg gs w6.drew (MchV.drewD V6.out) (by show hi ≤ w6.heap.size; omega) HS.out Hn.out hn1b (Strs.drew I6.out.ints)).mono ?_
  rintro e w7 ⟨vz, Gz, cgz, bz, rfl, hX, hO, hb1z, hb2z, hc1z, hc2z, hb'⟩
  have hb := undrew hb'
  clear hb'
  obtain ⟨sz, Az, nz, cz, Bz, mz, dz, Mz, qz, ez, spz, Wz, tz, kz, Lz, lz, fz, Tz, rz, gz, rfl⟩ := hX.reads.form
  rw [dvg_eq]
  have s7 : w6.heap.size ≤ w7.heap.size := hb.size
  have P7 := Lib.hid (P6.out.below hb (by omega))
  have T7 := Lib.hid (T6.out.trans (hb.mono (by omega)))
  have V7 := Lib.hid (V6.out.below (by omega) hb)
  have I7 := Lib.hid (I6.out.keep (by omega) hb)
  have X7 := Lib.hid (X6.out.below hb)
  have Xg7 := Lib.hid (Xg6.out.below hb)
  have J7 := Lib.hid (J6.out.below hb (by omega))
  clear P6 T6 V6 I6 X6 Xg6 J6
  clear hb
  have yP_7 : w.heap.size < w7.heap.size := by omega
  have yJ_7 : w4.heap.size < w7.heap.size := by omega
  have Z7 := Lib.hid hX; have Zg7 := Lib.hid hO; have Zgt := fun k hk => World.ownsRow.lt hO k hk
  clear hX hO
  refine hK.out _ _ ⟨J7.out.elev, P7.out.elev⟩ ?_
  clear hK K
  refine plan_step rfl (fun K hK => ?_)
  rw [if_pos (by rfl)]
  go_simp
  refine (eqDeskG_same _ _ _ _ (.agg #[.string sx, .slice Ax nx cx, .slice Bx mx dx, .slice Mx qx ex, .int .i64 spx, .int .i64 Wx, .int .i64 tx, .int .i64 kx, .slice Lx lx fx, .slice Tx rx gx]) (.agg #[.string sz, .slice Az nz cz, .slice Bz mz dz, .slice Mz qz ez, .int .i64 spz, .int .i64 Wz, .int .i64 tz, .int .i64 kz, .slice Lz lz fz, .slice Tz rz gz]) X Gx Gz ng cgx cgz gs w7 X7.out.reads Z7.out.reads (by omega) (by omega) HS.out Hn.out hn1b (owns_read Xg7.out) (owns_read Zg7.out)).mono ?_
  rintro e w8 ⟨rfl, hb⟩
  have s8 : w7.heap.size ≤ w8.heap.size := hb.size
  have P8 := Lib.hid (P7.out.below hb (by omega))
  have T8 := Lib.hid (T7.out.trans (hb.mono (by omega)))
  have V8 := Lib.hid (V7.out.below (by omega) hb)
  have I8 := Lib.hid (I7.out.keep (by omega) hb)
  have X8 := Lib.hid (X7.out.below hb)
  have Xg8 := Lib.hid (Xg7.out.below hb)
  have J8 := Lib.hid (J7.out.below hb (by omega))
  have Z8 := Lib.hid (Z7.out.below hb)
  have Zg8 := Lib.hid (Zg7.out.below hb)
  clear P7 T7 V7 I7 X7 Xg7 J7 Z7 Zg7
  clear hb
  have yP_8 : w.heap.size < w8.heap.size := by omega
  have yJ_8 : w4.heap.size < w8.heap.size := by omega
  refine hK.out _ _ ⟨J8.out.elev, P8.out.elev⟩ ?_
  clear hK K
  refine plan_step rfl (fun K hK => ?_)
  rw [if_pos (by rfl)]
  go_simp
  refine hK.out _ _ ⟨J8.out.elev, P8.out.elev⟩ ?_
  clear hK K
  refine plan_end ?_
  go_wp2
  go_ret
  exact ⟨rfl, T8.out⟩
end Go.Proofs.YtobakeahbgodbaaGreat
