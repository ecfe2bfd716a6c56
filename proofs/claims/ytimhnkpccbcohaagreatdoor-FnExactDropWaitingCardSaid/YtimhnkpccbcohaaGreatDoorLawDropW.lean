/-
  The exact law of DropWaiting: its walk. Conditions: errFull reads as laid.
-/
import Derived.Test.YtimhnkpccbcohaaGreatDoorDropWI
import Derived.Test.YtimhnkpccbcohaaGreatDoorDropWS
import Derived.Test.YtimhnkpccbcohaaGreatDoorLawsMch
import Derived.Test.YtimhnkpccbcohaaGreatDoorPkA
namespace Go.Proofs.YtimhnkpccbcohaaGreatDoor
open Go.RowKit Go.Conc
set_option linter.unusedVariables false
set_option linter.unusedSimpArgs false

theorem dropX_lim (X : Mch) (most : Int) : (dropXX X most).big ≤ 1048575 := by
  cases h : dropXOk X most
  · rw [(dropX_off h).1]; exact zeroX_big
  · rw [(dropX_on h).1]
    unfold dropXOk at h
    rw [Bool.and_eq_true] at h
    obtain ⟨b1, b2, b3, b4, b5⟩ := mach_big h.1
    obtain ⟨hmg, -, hwt, hwa, -, -, -⟩ := machB_parts h.1
    have hm := (drop_end X most).mag hmg (fun x hx => List.all_eq_true.1 hwa x hx)
    exact big_lim b1 (by rw [dropMs_len]; exact b2) (fun xs hx => magB_20 hm xs hx) b4 (by show (X.wt.drop _).length ≤ 240; rw [List.length_drop]; omega)
set_option maxRecDepth 100000 in
set_option maxHeartbeats 6400000 in
theorem fnExactDropWaiting_walk (lo hi : Nat) (v : Value) (X : Mch) (mo : Int) (w : World) (h : MchV w lo hi v X) (hhi : hi ≤ w.heap.size) (wf : WfX X) (wfmo : (Lit.int .i64 mo).wf = true) (b : Addr) (hg : w.cell? ⟨0, 0, none⟩ = some (.iface 192 (.pointer (some b)))) :
    Calls Tryz.prog 3 #[v, .int .i64 mo] w fun e w' => e = .returned (.bool true) ∧ Below w.heap.size w w' := by
  obtain ⟨s, A, n, c, B, m, d, M, q, e, sp, W, t, k, L, l, f, T, r, g, rfl⟩ := h.form
  have HWf := Lib.hid wf
  obtain ⟨w0, hw0, hb0, hz0, K0⟩ := mxWorld w #[.string s, .slice A n c, .slice B m d, .slice M q e, .int .i64 sp, .int .i64 W, .int .i64 t, .int .i64 k, .slice L l f, .slice T r g] 30
  have P0 := Lib.hid K0; have T0 := Lib.hid hb0; have V0 := Lib.hid (h.below hhi hb0)
  have s0 : w.heap.size < w0.heap.size := K0.lt
  obtain ⟨Pc0, Pc1, Pc2, Pc3, Pc4, Pc5, Pc6, Pc7, Pc8, Pc9⟩ := P0.out.ten
  have hgx1 : 0 < w.heap.size := World.block_lt_of_cell? _ _ hg
  have C1_0 : Hid (w0.cell? ⟨0, 0, none⟩ = some (.iface 192 (.pointer (some b)))) := (hb0.cell (p := ⟨0, 0, none⟩) (by show 0 < _; exact hgx1)).trans hg
  have HWm := Lib.hid wfmo
  clear h hb0 hz0 K0 wf hg wfmo
  by_cases hbig : (1048576 : Int) < X.big
  · have Hk := Lib.hid (takeOff_bad hbig)
    go_enter Tryz.func3, Tryz.ntmps3
    go_wp2_with fail
    clear hw0
    refine (szMachine_any lo hi _ X _ w0 V0.out (by omega) (by omega) (by omega)).mono ?_
    rintro e w1 ⟨rfl, hb1⟩
    rw [Hk.out]
    have T1 := Lib.hid (T0.out.trans (hb1.mono (by omega)))
    clear hb1 Pc0 Pc1 Pc2 Pc3 Pc4 Pc5 Pc6 Pc7 Pc8 Pc9
    go_wp2
    go_ret
    exact ⟨rfl, T1.out⟩
  have Hk := Lib.hid (takeOff_good hbig)
  have hb20 : X.big ≤ 1048576 := by omega
  have HS := Lib.hid (big_smallX hb20)
  have hk0 : decide (1048576 - (X.big : Int) < 0) = false := decide_eq_false (by omega)
  go_enter Tryz.func3, Tryz.ntmps3
  go_wp2_with fail
  clear hw0
  refine (szMachine_any lo hi _ X _ w0 V0.out (by omega) (by omega) (by omega)).mono ?_
  rintro e w1 ⟨rfl, hb⟩
  rw [Hk.out]
  clear Pc0 Pc1 Pc2 Pc3 Pc4 Pc5 Pc6 Pc7 Pc8 Pc9
  have s1 : w0.heap.size ≤ w1.heap.size := hb.size
  have P1 := Lib.hid (P0.out.below hb (by omega))
  have T1 := Lib.hid (T0.out.trans (hb.mono (by omega)))
  have V1 := Lib.hid (V0.out.below (by omega) hb)
  have C1_1 := Lib.hid ((hb.cell (World.block_lt_of_cell? _ _ C1_0.out)).trans C1_0.out)
  clear P0 T0 V0 C1_0
  clear hb
  have yP_1 : w.heap.size < w1.heap.size := by omega
  obtain ⟨Pc0, Pc1, Pc2, Pc3, Pc4, Pc5, Pc6, Pc7, Pc8, Pc9⟩ := P1.out.ten
  obtain ⟨Y, hY⟩ : ∃ x, dropXX X mo = x := ⟨_, rfl⟩
  obtain ⟨nn, hnn⟩ : ∃ x, dropXN X mo = x := ⟨_, rfl⟩
  have hYb := dropX_lim X mo
  rw [hY] at hYb
  have HSY := Lib.hid (big_smallX (X := Y) (by omega))
  have HY := Lib.hid hY; have HN := Lib.hid hnn
  clear hY hnn
  have hne : (nn != nn) = false := by simp
  go_wp2_with fail
  refine (toMachine_any lo hi _ X w1 V1.out (by omega) HS.out).mono ?_
  rintro e w2 ⟨vs, rfl, hO, hb⟩
  obtain ⟨ss, As, ns, cs, Bs, ms, ds, Ms, qs, es, sps, Ws, ts, ks, Ls, ls, fs, Ts, rs, gs, rfl⟩ := hO.reads.form
  clear Pc0 Pc1 Pc2 Pc3 Pc4 Pc5 Pc6 Pc7 Pc8 Pc9
  have s2 : w1.heap.size ≤ w2.heap.size := hb.size
  have P2 := Lib.hid (P1.out.below hb (by omega))
  have T2 := Lib.hid (T1.out.trans (hb.mono (by omega)))
  have V2 := Lib.hid (V1.out.below (by omega) hb)
  have C1_2 := Lib.hid ((hb.cell (World.block_lt_of_cell? _ _ C1_1.out)).trans C1_1.out)
  clear P1 T1 V1 C1_1
  clear hb
  have yP_2 : w.heap.size < w2.heap.size := by omega
  have S2 := Lib.hid (hO)
  obtain ⟨Pc0, Pc1, Pc2, Pc3, Pc4, Pc5, Pc6, Pc7, Pc8, Pc9⟩ := P2.out.ten
  clear hO
  go_wp2_with fail
  refine (specDropW_any _ _ _ X mo w2 S2.out.reads (by omega) HS.out HWf.out HWm.out).mono ?_
  rintro e w3 ⟨v', rfl, hO, hb⟩
  rw [HY.out] at hO
  rw [HN.out]
  obtain ⟨su, Au, nu, cu, Bu, mu, du, Mu, qu, eu, spu, Wu, tu, ku, Lu, lu, fu, Tu, ru, gu, rfl⟩ := hO.form
  clear Pc0 Pc1 Pc2 Pc3 Pc4 Pc5 Pc6 Pc7 Pc8 Pc9
  have s3 : w2.heap.size ≤ w3.heap.size := hb.size
  have P3 := Lib.hid (P2.out.below hb (by omega))
  have T3 := Lib.hid (T2.out.trans (hb.mono (by omega)))
  have V3 := Lib.hid (V2.out.below (by omega) hb)
  have C1_3 := Lib.hid ((hb.cell (World.block_lt_of_cell? _ _ C1_2.out)).trans C1_2.out)
  have S3 := Lib.hid (S2.out.below hb)
  clear P2 T2 V2 C1_2 S2
  clear hb
  have yP_3 : w.heap.size < w3.heap.size := by omega
  have U3 := Lib.hid (hO)
  obtain ⟨Pc0, Pc1, Pc2, Pc3, Pc4, Pc5, Pc6, Pc7, Pc8, Pc9⟩ := P3.out.ten
  clear hO
  clear S3
  go_wp2_with fail
  obtain ⟨w4, hw, hb, hz, hK⟩ := mxWorld w3 #[.string su, .slice Au nu cu, .slice Bu mu du, .slice Mu qu eu, .int .i64 spu, .int .i64 Wu, .int .i64 tu, .int .i64 ku, .slice Lu lu fu, .slice Tu ru gu] 37
  rw [hw]
  clear hw hz
  clear Pc0 Pc1 Pc2 Pc3 Pc4 Pc5 Pc6 Pc7 Pc8 Pc9
  have s4 : w3.heap.size ≤ w4.heap.size := hb.size
  have P4 := Lib.hid (P3.out.below hb (by omega))
  have T4 := Lib.hid (T3.out.trans (hb.mono (by omega)))
  have V4 := Lib.hid (V3.out.below (by omega) hb)
  have C1_4 := Lib.hid ((hb.cell (World.block_lt_of_cell? _ _ C1_3.out)).trans C1_3.out)
  have U4 := Lib.hid (U3.out.below (by omega) hb)
  clear P3 T3 V3 C1_3 U3
  clear hb
  have yP_4 : w.heap.size < w4.heap.size := by omega
  have BU4 := Lib.hid (hK)
  have yBU : w3.heap.size < w4.heap.size := hK.lt
  clear hK
  obtain ⟨Pc0, Pc1, Pc2, Pc3, Pc4, Pc5, Pc6, Pc7, Pc8, Pc9⟩ := P4.out.ten
  obtain ⟨BUc0, BUc1, BUc2, BUc3, BUc4, BUc5, BUc6, BUc7, BUc8, BUc9⟩ := BU4.out.ten
  refine (toMachine_any lo hi _ X w4 V4.out (by omega) HS.out).mono ?_
  rintro e w5 ⟨vx, rfl, hO, hb⟩
  obtain ⟨sx, Ax, nx, cx, Bx, mx, dx, Mx, qx, ex, spx, Wx, tx, kx, Lx, lx, fx, Tx, rx, gx, rfl⟩ := hO.reads.form
  clear Pc0 Pc1 Pc2 Pc3 Pc4 Pc5 Pc6 Pc7 Pc8 Pc9
  clear BUc0 BUc1 BUc2 BUc3 BUc4 BUc5 BUc6 BUc7 BUc8 BUc9
  have s5 : w4.heap.size ≤ w5.heap.size := hb.size
  have P5 := Lib.hid (P4.out.below hb (by omega))
  have T5 := Lib.hid (T4.out.trans (hb.mono (by omega)))
  have V5 := Lib.hid (V4.out.below (by omega) hb)
  have C1_5 := Lib.hid ((hb.cell (World.block_lt_of_cell? _ _ C1_4.out)).trans C1_4.out)
  have U5 := Lib.hid (U4.out.below (by omega) hb)
  have BU5 := Lib.hid (BU4.out.below hb (by omega))
  clear P4 T4 V4 C1_4 U4 BU4
  clear hb
  have yP_5 : w.heap.size < w5.heap.size := by omega
  have yBU_5 : w3.heap.size < w5.heap.size := by omega
  have X5 := Lib.hid (hO)
  obtain ⟨Pc0, Pc1, Pc2, Pc3, Pc4, Pc5, Pc6, Pc7, Pc8, Pc9⟩ := P5.out.ten
  obtain ⟨BUc0, BUc1, BUc2, BUc3, BUc4, BUc5, BUc6, BUc7, BUc8, BUc9⟩ := BU5.out.ten
  clear hO
  go_wp2_with fail
  obtain ⟨w6, hw, hb, hz, hK⟩ := mxWorld w5 #[.string sx, .slice Ax nx cx, .slice Bx mx dx, .slice Mx qx ex, .int .i64 spx, .int .i64 Wx, .int .i64 tx, .int .i64 kx, .slice Lx lx fx, .slice Tx rx gx] 37
  rw [hw]
  clear hw hz
  clear Pc0 Pc1 Pc2 Pc3 Pc4 Pc5 Pc6 Pc7 Pc8 Pc9
  clear BUc0 BUc1 BUc2 BUc3 BUc4 BUc5 BUc6 BUc7 BUc8 BUc9
  have s6 : w5.heap.size ≤ w6.heap.size := hb.size
  have P6 := Lib.hid (P5.out.below hb (by omega))
  have T6 := Lib.hid (T5.out.trans (hb.mono (by omega)))
  have V6 := Lib.hid (V5.out.below (by omega) hb)
  have C1_6 := Lib.hid ((hb.cell (World.block_lt_of_cell? _ _ C1_5.out)).trans C1_5.out)
  have U6 := Lib.hid (U5.out.below (by omega) hb)
  have BU6 := Lib.hid (BU5.out.below hb (by omega))
  have X6 := Lib.hid (X5.out.below hb)
  clear P5 T5 V5 C1_5 U5 BU5 X5
  clear hb
  have yP_6 : w.heap.size < w6.heap.size := by omega
  have yBU_6 : w3.heap.size < w6.heap.size := by omega
  have J6 := Lib.hid (hK)
  have yJ : w5.heap.size < w6.heap.size := hK.lt
  clear hK
  obtain ⟨Pc0, Pc1, Pc2, Pc3, Pc4, Pc5, Pc6, Pc7, Pc8, Pc9⟩ := P6.out.ten
  obtain ⟨BUc0, BUc1, BUc2, BUc3, BUc4, BUc5, BUc6, BUc7, BUc8, BUc9⟩ := BU6.out.ten
  obtain ⟨Jc0, Jc1, Jc2, Jc3, Jc4, Jc5, Jc6, Jc7, Jc8, Jc9⟩ := J6.out.ten
  refine (implDropW_any _ _ _ X mo w6 X6.out.reads (by omega) HS.out HWf.out HWm.out b C1_6.out).mono ?_
  rintro e w7 ⟨v', rfl, hO, hb⟩
  rw [HY.out] at hO
  rw [HN.out]
  obtain ⟨sg, Ag, ng, cg, Bg, mg, dg, Mg, qg, eg, spg, Wg, tg, kg, Lg, lg, fg, Tg, rg, gg, rfl⟩ := hO.reads.form
  clear Pc0 Pc1 Pc2 Pc3 Pc4 Pc5 Pc6 Pc7 Pc8 Pc9
  clear BUc0 BUc1 BUc2 BUc3 BUc4 BUc5 BUc6 BUc7 BUc8 BUc9
  clear Jc0 Jc1 Jc2 Jc3 Jc4 Jc5 Jc6 Jc7 Jc8 Jc9
  have s7 : w6.heap.size ≤ w7.heap.size := hb.size
  have P7 := Lib.hid (P6.out.below hb (by omega))
  have T7 := Lib.hid (T6.out.trans (hb.mono (by omega)))
  have V7 := Lib.hid (V6.out.below (by omega) hb)
  have C1_7 := Lib.hid ((hb.cell (World.block_lt_of_cell? _ _ C1_6.out)).trans C1_6.out)
  have U7 := Lib.hid (U6.out.below (by omega) hb)
  have BU7 := Lib.hid (BU6.out.below hb (by omega))
  have X7 := Lib.hid (X6.out.below hb)
  have J7 := Lib.hid (J6.out.below hb (by omega))
  clear P6 T6 V6 C1_6 U6 BU6 X6 J6
  clear hb
  have yP_7 : w.heap.size < w7.heap.size := by omega
  have yBU_7 : w3.heap.size < w7.heap.size := by omega
  have yJ_7 : w5.heap.size < w7.heap.size := by omega
  have G7 := Lib.hid (hO)
  obtain ⟨Pc0, Pc1, Pc2, Pc3, Pc4, Pc5, Pc6, Pc7, Pc8, Pc9⟩ := P7.out.ten
  obtain ⟨BUc0, BUc1, BUc2, BUc3, BUc4, BUc5, BUc6, BUc7, BUc8, BUc9⟩ := BU7.out.ten
  obtain ⟨Jc0, Jc1, Jc2, Jc3, Jc4, Jc5, Jc6, Jc7, Jc8, Jc9⟩ := J7.out.ten
  clear hO
  go_wp2_with fail
  obtain ⟨w8, hw, hb, hz, hK⟩ := mxWorld w7 #[.string sg, .slice Ag ng cg, .slice Bg mg dg, .slice Mg qg eg, .int .i64 spg, .int .i64 Wg, .int .i64 tg, .int .i64 kg, .slice Lg lg fg, .slice Tg rg gg] 37
  rw [hw]
  clear hw hz
  clear Pc0 Pc1 Pc2 Pc3 Pc4 Pc5 Pc6 Pc7 Pc8 Pc9
  clear BUc0 BUc1 BUc2 BUc3 BUc4 BUc5 BUc6 BUc7 BUc8 BUc9
  clear Jc0 Jc1 Jc2 Jc3 Jc4 Jc5 Jc6 Jc7 Jc8 Jc9
  have s8 : w7.heap.size ≤ w8.heap.size := hb.size
  have P8 := Lib.hid (P7.out.below hb (by omega))
  have T8 := Lib.hid (T7.out.trans (hb.mono (by omega)))
  have V8 := Lib.hid (V7.out.below (by omega) hb)
  have C1_8 := Lib.hid ((hb.cell (World.block_lt_of_cell? _ _ C1_7.out)).trans C1_7.out)
  have U8 := Lib.hid (U7.out.below (by omega) hb)
  have BU8 := Lib.hid (BU7.out.below hb (by omega))
  have X8 := Lib.hid (X7.out.below hb)
  have J8 := Lib.hid (J7.out.below hb (by omega))
  have G8 := Lib.hid (G7.out.below hb)
  clear P7 T7 V7 C1_7 U7 BU7 X7 J7 G7
  clear hb
  have yP_8 : w.heap.size < w8.heap.size := by omega
  have yBU_8 : w3.heap.size < w8.heap.size := by omega
  have yJ_8 : w5.heap.size < w8.heap.size := by omega
  have BG8 := Lib.hid (hK)
  have yBG : w7.heap.size < w8.heap.size := hK.lt
  clear hK
  obtain ⟨Pc0, Pc1, Pc2, Pc3, Pc4, Pc5, Pc6, Pc7, Pc8, Pc9⟩ := P8.out.ten
  obtain ⟨BUc0, BUc1, BUc2, BUc3, BUc4, BUc5, BUc6, BUc7, BUc8, BUc9⟩ := BU8.out.ten
  obtain ⟨Jc0, Jc1, Jc2, Jc3, Jc4, Jc5, Jc6, Jc7, Jc8, Jc9⟩ := J8.out.ten
  obtain ⟨BGc0, BGc1, BGc2, BGc3, BGc4, BGc5, BGc6, BGc7, BGc8, BGc9⟩ := BG8.out.ten
  refine (eqMachine_same _ _ _ _ _ _ Y w8 G8.out.reads U8.out (by omega) (by omega) HSY.out).mono ?_
  rintro e w9 ⟨rfl, hb⟩
  clear Pc0 Pc1 Pc2 Pc3 Pc4 Pc5 Pc6 Pc7 Pc8 Pc9
  clear BUc0 BUc1 BUc2 BUc3 BUc4 BUc5 BUc6 BUc7 BUc8 BUc9
  clear Jc0 Jc1 Jc2 Jc3 Jc4 Jc5 Jc6 Jc7 Jc8 Jc9
  clear BGc0 BGc1 BGc2 BGc3 BGc4 BGc5 BGc6 BGc7 BGc8 BGc9
  have s9 : w8.heap.size ≤ w9.heap.size := hb.size
  have P9 := Lib.hid (P8.out.below hb (by omega))
  have T9 := Lib.hid (T8.out.trans (hb.mono (by omega)))
  have V9 := Lib.hid (V8.out.below (by omega) hb)
  have C1_9 := Lib.hid ((hb.cell (World.block_lt_of_cell? _ _ C1_8.out)).trans C1_8.out)
  have U9 := Lib.hid (U8.out.below (by omega) hb)
  have BU9 := Lib.hid (BU8.out.below hb (by omega))
  have X9 := Lib.hid (X8.out.below hb)
  have J9 := Lib.hid (J8.out.below hb (by omega))
  have G9 := Lib.hid (G8.out.below hb)
  have BG9 := Lib.hid (BG8.out.below hb (by omega))
  clear P8 T8 V8 C1_8 U8 BU8 X8 J8 G8 BG8
  clear hb
  have yP_9 : w.heap.size < w9.heap.size := by omega
  have yBU_9 : w3.heap.size < w9.heap.size := by omega
  have yJ_9 : w5.heap.size < w9.heap.size := by omega
  have yBG_9 : w7.heap.size < w9.heap.size := by omega
  obtain ⟨Pc0, Pc1, Pc2, Pc3, Pc4, Pc5, Pc6, Pc7, Pc8, Pc9⟩ := P9.out.ten
  obtain ⟨BUc0, BUc1, BUc2, BUc3, BUc4, BUc5, BUc6, BUc7, BUc8, BUc9⟩ := BU9.out.ten
  obtain ⟨Jc0, Jc1, Jc2, Jc3, Jc4, Jc5, Jc6, Jc7, Jc8, Jc9⟩ := J9.out.ten
  obtain ⟨BGc0, BGc1, BGc2, BGc3, BGc4, BGc5, BGc6, BGc7, BGc8, BGc9⟩ := BG9.out.ten
  go_wp2_with fail
  refine wp_region_plan (.take 0 (.take 1 (.one 2 (.one 3 (.one 4 .done))))) (fun w' => (w'.cell? ⟨w5.heap.size, 0, none⟩ = some (.string sx) ∧ w'.cell? ⟨w5.heap.size, 1, none⟩ = some (.slice Ax nx cx) ∧ w'.cell? ⟨w5.heap.size, 2, none⟩ = some (.slice Bx mx dx) ∧ w'.cell? ⟨w5.heap.size, 3, none⟩ = some (.slice Mx qx ex) ∧ w'.cell? ⟨w5.heap.size, 4, none⟩ = some (.int .i64 spx) ∧ w'.cell? ⟨w5.heap.size, 5, none⟩ = some (.int .i64 Wx) ∧ w'.cell? ⟨w5.heap.size, 6, none⟩ = some (.int .i64 tx) ∧ w'.cell? ⟨w5.heap.size, 7, none⟩ = some (.int .i64 kx) ∧ w'.cell? ⟨w5.heap.size, 8, none⟩ = some (.slice Lx lx fx) ∧ w'.cell? ⟨w5.heap.size, 9, none⟩ = some (.slice Tx rx gx)) ∧ (w'.cell? ⟨w.heap.size, 0, none⟩ = some (.string s) ∧ w'.cell? ⟨w.heap.size, 1, none⟩ = some (.slice A n c) ∧ w'.cell? ⟨w.heap.size, 2, none⟩ = some (.slice B m d) ∧ w'.cell? ⟨w.heap.size, 3, none⟩ = some (.slice M q e) ∧ w'.cell? ⟨w.heap.size, 4, none⟩ = some (.int .i64 sp) ∧ w'.cell? ⟨w.heap.size, 5, none⟩ = some (.int .i64 W) ∧ w'.cell? ⟨w.heap.size, 6, none⟩ = some (.int .i64 t) ∧ w'.cell? ⟨w.heap.size, 7, none⟩ = some (.int .i64 k) ∧ w'.cell? ⟨w.heap.size, 8, none⟩ = some (.slice L l f) ∧ w'.cell? ⟨w.heap.size, 9, none⟩ = some (.slice T r g))) (by kernel_rfl) (by kernel_rfl) (by kernel_rfl) (by intro c a d v w h; cases d <;> exact h) ⟨J9.out.ten, P9.out.ten⟩ ?_
  clear Pc0 Pc1 Pc2 Pc3 Pc4 Pc5 Pc6 Pc7 Pc8 Pc9
  clear BUc0 BUc1 BUc2 BUc3 BUc4 BUc5 BUc6 BUc7 BUc8 BUc9
  clear Jc0 Jc1 Jc2 Jc3 Jc4 Jc5 Jc6 Jc7 Jc8 Jc9
  clear BGc0 BGc1 BGc2 BGc3 BGc4 BGc5 BGc6 BGc7 BGc8 BGc9
  refine plan_quiet rfl (by rfl) (v := ?_) ?_ ?_; rotate_left; (intro w1 hSw; obtain ⟨⟨h0, h1, h2, h3, h4, h5, h6, h7, h8, h9⟩, ⟨h0', h1', h2', h3', h4', h5', h6', h7', h8', h9'⟩⟩ := hSw; go_simp; try (with_reducible rfl)); (try simp only [Act.put, List.setIfInBounds_toArray, List.set_cons_zero, List.set_cons_succ])
  refine plan_quiet rfl (by rfl) (v := ?_) ?_ ?_; rotate_left; (intro w1 hSw; obtain ⟨⟨h0, h1, h2, h3, h4, h5, h6, h7, h8, h9⟩, ⟨h0', h1', h2', h3', h4', h5', h6', h7', h8', h9'⟩⟩ := hSw; go_simp; try (with_reducible rfl)); (try simp only [Act.put, List.setIfInBounds_toArray, List.set_cons_zero, List.set_cons_succ])
  refine plan_step rfl (fun K hK => ?_)
  rw [if_pos (by rfl)]
  go_simp
  refine (toMachine_any lo hi _ X w9.drew (MchV.drew V9.out) (by show hi ≤ w9.heap.size; omega) HS.out).mono ?_
  rintro e w10 ⟨vz, rfl, hO, hb'⟩
  have hb := undrew hb'
  clear hb'
  obtain ⟨sz, Az, nz, cz, Bz, mz, dz, Mz, qz, ez, spz, Wz, tz, kz, Lz, lz, fz, Tz, rz, gz, rfl⟩ := hO.reads.form
  have s10 : w9.heap.size ≤ w10.heap.size := hb.size
  have P10 := Lib.hid (P9.out.below hb (by omega))
  have T10 := Lib.hid (T9.out.trans (hb.mono (by omega)))
  have V10 := Lib.hid (V9.out.below (by omega) hb)
  have C1_10 := Lib.hid ((hb.cell (World.block_lt_of_cell? _ _ C1_9.out)).trans C1_9.out)
  have U10 := Lib.hid (U9.out.below (by omega) hb)
  have BU10 := Lib.hid (BU9.out.below hb (by omega))
  have X10 := Lib.hid (X9.out.below hb)
  have J10 := Lib.hid (J9.out.below hb (by omega))
  have G10 := Lib.hid (G9.out.below hb)
  have BG10 := Lib.hid (BG9.out.below hb (by omega))
  clear P9 T9 V9 C1_9 U9 BU9 X9 J9 G9 BG9
  clear hb
  have yP_10 : w.heap.size < w10.heap.size := by omega
  have yBU_10 : w3.heap.size < w10.heap.size := by omega
  have yJ_10 : w5.heap.size < w10.heap.size := by omega
  have yBG_10 : w7.heap.size < w10.heap.size := by omega
  have Z10 := Lib.hid (hO)
  clear hO
  refine hK.out _ _ ⟨J10.out.ten, P10.out.ten⟩ ?_
  clear hK K
  refine plan_step rfl (fun K hK => ?_)
  rw [if_pos (by rfl)]
  go_simp
  refine (eqMachine_same _ _ _ _ _ _ X w10 X10.out.reads Z10.out.reads (by omega) (by omega) HS.out).mono ?_
  rintro e w11 ⟨rfl, hb⟩
  have s11 : w10.heap.size ≤ w11.heap.size := hb.size
  have P11 := Lib.hid (P10.out.below hb (by omega))
  have T11 := Lib.hid (T10.out.trans (hb.mono (by omega)))
  have V11 := Lib.hid (V10.out.below (by omega) hb)
  have C1_11 := Lib.hid ((hb.cell (World.block_lt_of_cell? _ _ C1_10.out)).trans C1_10.out)
  have U11 := Lib.hid (U10.out.below (by omega) hb)
  have BU11 := Lib.hid (BU10.out.below hb (by omega))
  have X11 := Lib.hid (X10.out.below hb)
  have J11 := Lib.hid (J10.out.below hb (by omega))
  have G11 := Lib.hid (G10.out.below hb)
  have BG11 := Lib.hid (BG10.out.below hb (by omega))
  have Z11 := Lib.hid (Z10.out.below hb)
  clear P10 T10 V10 C1_10 U10 BU10 X10 J10 G10 BG10 Z10
  clear hb
  have yP_11 : w.heap.size < w11.heap.size := by omega
  have yBU_11 : w3.heap.size < w11.heap.size := by omega
  have yJ_11 : w5.heap.size < w11.heap.size := by omega
  have yBG_11 : w7.heap.size < w11.heap.size := by omega
  refine hK.out _ _ ⟨J11.out.ten, P11.out.ten⟩ ?_
  clear hK K
  refine plan_step rfl (fun K hK => ?_)
  rw [if_pos (by rfl)]
  go_simp
  refine hK.out _ _ ⟨J11.out.ten, P11.out.ten⟩ ?_
  clear hK K
  refine plan_end ?_
  clear Z11
  obtain ⟨Pc0, Pc1, Pc2, Pc3, Pc4, Pc5, Pc6, Pc7, Pc8, Pc9⟩ := P11.out.ten
  obtain ⟨BUc0, BUc1, BUc2, BUc3, BUc4, BUc5, BUc6, BUc7, BUc8, BUc9⟩ := BU11.out.ten
  obtain ⟨Jc0, Jc1, Jc2, Jc3, Jc4, Jc5, Jc6, Jc7, Jc8, Jc9⟩ := J11.out.ten
  obtain ⟨BGc0, BGc1, BGc2, BGc3, BGc4, BGc5, BGc6, BGc7, BGc8, BGc9⟩ := BG11.out.ten
  have hm1 : decide (1 + (X.marks : Int) < 0) = false := decide_eq_false (by omega)
  go_wp2_with fail
  refine (markMachine_any _ _ _ X 1 w11 X11.out (by omega) hb20 (by omega) (by omega)).mono ?_
  rintro e w12 ⟨rfl, hX, hc⟩
  clear X11
  clear Pc0 Pc1 Pc2 Pc3 Pc4 Pc5 Pc6 Pc7 Pc8 Pc9
  clear BUc0 BUc1 BUc2 BUc3 BUc4 BUc5 BUc6 BUc7 BUc8 BUc9
  clear Jc0 Jc1 Jc2 Jc3 Jc4 Jc5 Jc6 Jc7 Jc8 Jc9
  clear BGc0 BGc1 BGc2 BGc3 BGc4 BGc5 BGc6 BGc7 BGc8 BGc9
  have s12 : w11.heap.size ≤ w12.heap.size := hc.size
  have P12 := Lib.hid (P11.out.chg hc (by omega))
  have T12 := Lib.hid (T11.out.trans ((hc.below (by omega)).mono (by omega)))
  have V12 := Lib.hid (V11.out.chg hc (by omega) (by omega))
  have C1_12 := Lib.hid ((hc.cell (World.block_lt_of_cell? _ _ C1_11.out) (by have := hgx1; simp only; omega)).trans C1_11.out)
  have U12 := Lib.hid (U11.out.chg hc (by omega) (by omega))
  have BU12 := Lib.hid (BU11.out.chg hc (by omega))
  have J12 := Lib.hid (J11.out.chg hc (by omega))
  have G12 := Lib.hid (G11.out.chg hc (by unfold Off; omega))
  have BG12 := Lib.hid (BG11.out.chg hc (by omega))
  clear P11 T11 V11 C1_11 U11 BU11 J11 G11 BG11
  clear hc
  have yP_12 : w.heap.size < w12.heap.size := by omega
  have yBU_12 : w3.heap.size < w12.heap.size := by omega
  have yJ_12 : w5.heap.size < w12.heap.size := by omega
  have yBG_12 : w7.heap.size < w12.heap.size := by omega
  clear hX
  obtain ⟨Pc0, Pc1, Pc2, Pc3, Pc4, Pc5, Pc6, Pc7, Pc8, Pc9⟩ := P12.out.ten
  obtain ⟨BUc0, BUc1, BUc2, BUc3, BUc4, BUc5, BUc6, BUc7, BUc8, BUc9⟩ := BU12.out.ten
  obtain ⟨Jc0, Jc1, Jc2, Jc3, Jc4, Jc5, Jc6, Jc7, Jc8, Jc9⟩ := J12.out.ten
  obtain ⟨BGc0, BGc1, BGc2, BGc3, BGc4, BGc5, BGc6, BGc7, BGc8, BGc9⟩ := BG12.out.ten
  go_wp2_with fail
  refine (eqMachine_same _ _ _ _ _ _ Y w12 G12.out.reads U12.out (by omega) (by omega) HSY.out).mono ?_
  rintro e w13 ⟨rfl, hb⟩
  clear Pc0 Pc1 Pc2 Pc3 Pc4 Pc5 Pc6 Pc7 Pc8 Pc9
  clear BUc0 BUc1 BUc2 BUc3 BUc4 BUc5 BUc6 BUc7 BUc8 BUc9
  clear Jc0 Jc1 Jc2 Jc3 Jc4 Jc5 Jc6 Jc7 Jc8 Jc9
  clear BGc0 BGc1 BGc2 BGc3 BGc4 BGc5 BGc6 BGc7 BGc8 BGc9
  have s13 : w12.heap.size ≤ w13.heap.size := hb.size
  have P13 := Lib.hid (P12.out.below hb (by omega))
  have T13 := Lib.hid (T12.out.trans (hb.mono (by omega)))
  have V13 := Lib.hid (V12.out.below (by omega) hb)
  have C1_13 := Lib.hid ((hb.cell (World.block_lt_of_cell? _ _ C1_12.out)).trans C1_12.out)
  have U13 := Lib.hid (U12.out.below (by omega) hb)
  have BU13 := Lib.hid (BU12.out.below hb (by omega))
  have J13 := Lib.hid (J12.out.below hb (by omega))
  have G13 := Lib.hid (G12.out.below hb)
  have BG13 := Lib.hid (BG12.out.below hb (by omega))
  clear P12 T12 V12 C1_12 U12 BU12 J12 G12 BG12
  clear hb
  have yP_13 : w.heap.size < w13.heap.size := by omega
  have yBU_13 : w3.heap.size < w13.heap.size := by omega
  have yJ_13 : w5.heap.size < w13.heap.size := by omega
  have yBG_13 : w7.heap.size < w13.heap.size := by omega
  obtain ⟨Pc0, Pc1, Pc2, Pc3, Pc4, Pc5, Pc6, Pc7, Pc8, Pc9⟩ := P13.out.ten
  obtain ⟨BUc0, BUc1, BUc2, BUc3, BUc4, BUc5, BUc6, BUc7, BUc8, BUc9⟩ := BU13.out.ten
  obtain ⟨Jc0, Jc1, Jc2, Jc3, Jc4, Jc5, Jc6, Jc7, Jc8, Jc9⟩ := J13.out.ten
  obtain ⟨BGc0, BGc1, BGc2, BGc3, BGc4, BGc5, BGc6, BGc7, BGc8, BGc9⟩ := BG13.out.ten
  have hm2 : decide (1 + (Y.marks : Int) < 0) = false := decide_eq_false (by omega)
  have hne2 : ((1 + (Y.marks : Int)) != (1 + (Y.marks : Int))) = false := by simp
  go_wp2_with fail
  refine (markMachineT_any _ _ _ Y 1 w13 G13.out (by omega) (by omega) (by omega) (by omega)).mono ?_
  rintro e w14 ⟨rfl, hX, hc⟩
  clear G13
  clear Pc0 Pc1 Pc2 Pc3 Pc4 Pc5 Pc6 Pc7 Pc8 Pc9
  clear BUc0 BUc1 BUc2 BUc3 BUc4 BUc5 BUc6 BUc7 BUc8 BUc9
  clear Jc0 Jc1 Jc2 Jc3 Jc4 Jc5 Jc6 Jc7 Jc8 Jc9
  clear BGc0 BGc1 BGc2 BGc3 BGc4 BGc5 BGc6 BGc7 BGc8 BGc9
  have s14 : w13.heap.size ≤ w14.heap.size := hc.size
  have P14 := Lib.hid (P13.out.chg hc (by omega))
  have T14 := Lib.hid (T13.out.trans ((hc.below (by omega)).mono (by omega)))
  have V14 := Lib.hid (V13.out.chg hc (by omega) (by omega))
  have C1_14 := Lib.hid ((hc.cell (World.block_lt_of_cell? _ _ C1_13.out) (by have := hgx1; simp only; omega)).trans C1_13.out)
  have U14 := Lib.hid (U13.out.chg hc (by omega) (by omega))
  have BU14 := Lib.hid (BU13.out.chg hc (by omega))
  have J14 := Lib.hid (J13.out.chg hc (by omega))
  have BG14 := Lib.hid (BG13.out.chg hc (by omega))
  clear P13 T13 V13 C1_13 U13 BU13 J13 BG13
  clear hc
  have yP_14 : w.heap.size < w14.heap.size := by omega
  have yBU_14 : w3.heap.size < w14.heap.size := by omega
  have yJ_14 : w5.heap.size < w14.heap.size := by omega
  have yBG_14 : w7.heap.size < w14.heap.size := by omega
  have H14 := Lib.hid (hX)
  clear hX
  obtain ⟨Pc0, Pc1, Pc2, Pc3, Pc4, Pc5, Pc6, Pc7, Pc8, Pc9⟩ := P14.out.ten
  obtain ⟨BUc0, BUc1, BUc2, BUc3, BUc4, BUc5, BUc6, BUc7, BUc8, BUc9⟩ := BU14.out.ten
  obtain ⟨Jc0, Jc1, Jc2, Jc3, Jc4, Jc5, Jc6, Jc7, Jc8, Jc9⟩ := J14.out.ten
  obtain ⟨BGc0, BGc1, BGc2, BGc3, BGc4, BGc5, BGc6, BGc7, BGc8, BGc9⟩ := BG14.out.ten
  go_wp2_with fail
  refine (heldMachine_any _ _ _ Y 1 w14 H14.out.reads (by omega) hYb (by omega) (by omega)).mono ?_
  rintro e w15 ⟨rfl, hb⟩
  clear Pc0 Pc1 Pc2 Pc3 Pc4 Pc5 Pc6 Pc7 Pc8 Pc9
  clear BUc0 BUc1 BUc2 BUc3 BUc4 BUc5 BUc6 BUc7 BUc8 BUc9
  clear Jc0 Jc1 Jc2 Jc3 Jc4 Jc5 Jc6 Jc7 Jc8 Jc9
  clear BGc0 BGc1 BGc2 BGc3 BGc4 BGc5 BGc6 BGc7 BGc8 BGc9
  have s15 : w14.heap.size ≤ w15.heap.size := hb.size
  have P15 := Lib.hid (P14.out.below hb (by omega))
  have T15 := Lib.hid (T14.out.trans (hb.mono (by omega)))
  have V15 := Lib.hid (V14.out.below (by omega) hb)
  have C1_15 := Lib.hid ((hb.cell (World.block_lt_of_cell? _ _ C1_14.out)).trans C1_14.out)
  have U15 := Lib.hid (U14.out.below (by omega) hb)
  have BU15 := Lib.hid (BU14.out.below hb (by omega))
  have J15 := Lib.hid (J14.out.below hb (by omega))
  have BG15 := Lib.hid (BG14.out.below hb (by omega))
  have H15 := Lib.hid (H14.out.below hb)
  clear P14 T14 V14 C1_14 U14 BU14 J14 BG14 H14
  clear hb
  have yP_15 : w.heap.size < w15.heap.size := by omega
  have yBU_15 : w3.heap.size < w15.heap.size := by omega
  have yJ_15 : w5.heap.size < w15.heap.size := by omega
  have yBG_15 : w7.heap.size < w15.heap.size := by omega
  obtain ⟨Pc0, Pc1, Pc2, Pc3, Pc4, Pc5, Pc6, Pc7, Pc8, Pc9⟩ := P15.out.ten
  obtain ⟨BUc0, BUc1, BUc2, BUc3, BUc4, BUc5, BUc6, BUc7, BUc8, BUc9⟩ := BU15.out.ten
  obtain ⟨Jc0, Jc1, Jc2, Jc3, Jc4, Jc5, Jc6, Jc7, Jc8, Jc9⟩ := J15.out.ten
  obtain ⟨BGc0, BGc1, BGc2, BGc3, BGc4, BGc5, BGc6, BGc7, BGc8, BGc9⟩ := BG15.out.ten
  go_wp2_with fail
  refine (toMachine_any lo hi _ X w15 V15.out (by omega) HS.out).mono ?_
  rintro e w16 ⟨vq, rfl, hO, hb⟩
  obtain ⟨sq, Aq, nq, cq, Bq, mq, dq, Mq, qq, eq, spq, Wq, tq, kq, Lq, lq, fq, Tq, rq, gq, rfl⟩ := hO.reads.form
  clear Pc0 Pc1 Pc2 Pc3 Pc4 Pc5 Pc6 Pc7 Pc8 Pc9
  clear BUc0 BUc1 BUc2 BUc3 BUc4 BUc5 BUc6 BUc7 BUc8 BUc9
  clear Jc0 Jc1 Jc2 Jc3 Jc4 Jc5 Jc6 Jc7 Jc8 Jc9
  clear BGc0 BGc1 BGc2 BGc3 BGc4 BGc5 BGc6 BGc7 BGc8 BGc9
  have s16 : w15.heap.size ≤ w16.heap.size := hb.size
  have P16 := Lib.hid (P15.out.below hb (by omega))
  have T16 := Lib.hid (T15.out.trans (hb.mono (by omega)))
  have V16 := Lib.hid (V15.out.below (by omega) hb)
  have C1_16 := Lib.hid ((hb.cell (World.block_lt_of_cell? _ _ C1_15.out)).trans C1_15.out)
  have U16 := Lib.hid (U15.out.below (by omega) hb)
  have BU16 := Lib.hid (BU15.out.below hb (by omega))
  have J16 := Lib.hid (J15.out.below hb (by omega))
  have BG16 := Lib.hid (BG15.out.below hb (by omega))
  have H16 := Lib.hid (H15.out.below hb)
  clear P15 T15 V15 C1_15 U15 BU15 J15 BG15 H15
  clear hb
  have yP_16 : w.heap.size < w16.heap.size := by omega
  have yBU_16 : w3.heap.size < w16.heap.size := by omega
  have yJ_16 : w5.heap.size < w16.heap.size := by omega
  have yBG_16 : w7.heap.size < w16.heap.size := by omega
  have S16 := Lib.hid (hO)
  obtain ⟨Pc0, Pc1, Pc2, Pc3, Pc4, Pc5, Pc6, Pc7, Pc8, Pc9⟩ := P16.out.ten
  obtain ⟨BUc0, BUc1, BUc2, BUc3, BUc4, BUc5, BUc6, BUc7, BUc8, BUc9⟩ := BU16.out.ten
  obtain ⟨Jc0, Jc1, Jc2, Jc3, Jc4, Jc5, Jc6, Jc7, Jc8, Jc9⟩ := J16.out.ten
  obtain ⟨BGc0, BGc1, BGc2, BGc3, BGc4, BGc5, BGc6, BGc7, BGc8, BGc9⟩ := BG16.out.ten
  clear hO
  go_wp2_with fail
  refine (implDropW_any _ _ _ X mo w16 S16.out.reads (by omega) HS.out HWf.out HWm.out b C1_16.out).mono ?_
  rintro e w17 ⟨v', rfl, hO, hb⟩
  rw [HY.out] at hO
  rw [HN.out]
  obtain ⟨sh, Ah, nh, ch, Bh, mh, dh, Mh, qh, eh, sph, Wh, th, kh, Lh, lh, fh, Th, rh, gh, rfl⟩ := hO.reads.form
  clear Pc0 Pc1 Pc2 Pc3 Pc4 Pc5 Pc6 Pc7 Pc8 Pc9
  clear BUc0 BUc1 BUc2 BUc3 BUc4 BUc5 BUc6 BUc7 BUc8 BUc9
  clear Jc0 Jc1 Jc2 Jc3 Jc4 Jc5 Jc6 Jc7 Jc8 Jc9
  clear BGc0 BGc1 BGc2 BGc3 BGc4 BGc5 BGc6 BGc7 BGc8 BGc9
  have s17 : w16.heap.size ≤ w17.heap.size := hb.size
  have P17 := Lib.hid (P16.out.below hb (by omega))
  have T17 := Lib.hid (T16.out.trans (hb.mono (by omega)))
  have V17 := Lib.hid (V16.out.below (by omega) hb)
  have C1_17 := Lib.hid ((hb.cell (World.block_lt_of_cell? _ _ C1_16.out)).trans C1_16.out)
  have U17 := Lib.hid (U16.out.below (by omega) hb)
  have BU17 := Lib.hid (BU16.out.below hb (by omega))
  have J17 := Lib.hid (J16.out.below hb (by omega))
  have BG17 := Lib.hid (BG16.out.below hb (by omega))
  have H17 := Lib.hid (H16.out.below hb)
  have S17 := Lib.hid (S16.out.below hb)
  clear P16 T16 V16 C1_16 U16 BU16 J16 BG16 H16 S16
  clear hb
  have yP_17 : w.heap.size < w17.heap.size := by omega
  have yBU_17 : w3.heap.size < w17.heap.size := by omega
  have yJ_17 : w5.heap.size < w17.heap.size := by omega
  have yBG_17 : w7.heap.size < w17.heap.size := by omega
  have E17 := Lib.hid (hO)
  obtain ⟨Pc0, Pc1, Pc2, Pc3, Pc4, Pc5, Pc6, Pc7, Pc8, Pc9⟩ := P17.out.ten
  obtain ⟨BUc0, BUc1, BUc2, BUc3, BUc4, BUc5, BUc6, BUc7, BUc8, BUc9⟩ := BU17.out.ten
  obtain ⟨Jc0, Jc1, Jc2, Jc3, Jc4, Jc5, Jc6, Jc7, Jc8, Jc9⟩ := J17.out.ten
  obtain ⟨BGc0, BGc1, BGc2, BGc3, BGc4, BGc5, BGc6, BGc7, BGc8, BGc9⟩ := BG17.out.ten
  clear hO
  clear S17
  go_wp2_with fail
  obtain ⟨w18, hw, hb, hz, hK⟩ := mxWorld w17 #[.string sh, .slice Ah nh ch, .slice Bh mh dh, .slice Mh qh eh, .int .i64 sph, .int .i64 Wh, .int .i64 th, .int .i64 kh, .slice Lh lh fh, .slice Th rh gh] 37
  rw [hw]
  clear hw hz
  clear Pc0 Pc1 Pc2 Pc3 Pc4 Pc5 Pc6 Pc7 Pc8 Pc9
  clear BUc0 BUc1 BUc2 BUc3 BUc4 BUc5 BUc6 BUc7 BUc8 BUc9
  clear Jc0 Jc1 Jc2 Jc3 Jc4 Jc5 Jc6 Jc7 Jc8 Jc9
  clear BGc0 BGc1 BGc2 BGc3 BGc4 BGc5 BGc6 BGc7 BGc8 BGc9
  have s18 : w17.heap.size ≤ w18.heap.size := hb.size
  have P18 := Lib.hid (P17.out.below hb (by omega))
  have T18 := Lib.hid (T17.out.trans (hb.mono (by omega)))
  have V18 := Lib.hid (V17.out.below (by omega) hb)
  have C1_18 := Lib.hid ((hb.cell (World.block_lt_of_cell? _ _ C1_17.out)).trans C1_17.out)
  have U18 := Lib.hid (U17.out.below (by omega) hb)
  have BU18 := Lib.hid (BU17.out.below hb (by omega))
  have J18 := Lib.hid (J17.out.below hb (by omega))
  have BG18 := Lib.hid (BG17.out.below hb (by omega))
  have H18 := Lib.hid (H17.out.below hb)
  have E18 := Lib.hid (E17.out.below hb)
  clear P17 T17 V17 C1_17 U17 BU17 J17 BG17 H17 E17
  clear hb
  have yP_18 : w.heap.size < w18.heap.size := by omega
  have yBU_18 : w3.heap.size < w18.heap.size := by omega
  have yJ_18 : w5.heap.size < w18.heap.size := by omega
  have yBG_18 : w7.heap.size < w18.heap.size := by omega
  have BE18 := Lib.hid (hK)
  have yBE : w17.heap.size < w18.heap.size := hK.lt
  clear hK
  obtain ⟨Pc0, Pc1, Pc2, Pc3, Pc4, Pc5, Pc6, Pc7, Pc8, Pc9⟩ := P18.out.ten
  obtain ⟨BUc0, BUc1, BUc2, BUc3, BUc4, BUc5, BUc6, BUc7, BUc8, BUc9⟩ := BU18.out.ten
  obtain ⟨Jc0, Jc1, Jc2, Jc3, Jc4, Jc5, Jc6, Jc7, Jc8, Jc9⟩ := J18.out.ten
  obtain ⟨BGc0, BGc1, BGc2, BGc3, BGc4, BGc5, BGc6, BGc7, BGc8, BGc9⟩ := BG18.out.ten
  obtain ⟨BEc0, BEc1, BEc2, BEc3, BEc4, BEc5, BEc6, BEc7, BEc8, BEc9⟩ := BE18.out.ten
  refine (eqMachine_same _ _ _ _ _ _ Y w18 E18.out.reads U18.out (by omega) (by omega) HSY.out).mono ?_
  rintro e w19 ⟨rfl, hb⟩
  clear Pc0 Pc1 Pc2 Pc3 Pc4 Pc5 Pc6 Pc7 Pc8 Pc9
  clear BUc0 BUc1 BUc2 BUc3 BUc4 BUc5 BUc6 BUc7 BUc8 BUc9
  clear Jc0 Jc1 Jc2 Jc3 Jc4 Jc5 Jc6 Jc7 Jc8 Jc9
  clear BGc0 BGc1 BGc2 BGc3 BGc4 BGc5 BGc6 BGc7 BGc8 BGc9
  clear BEc0 BEc1 BEc2 BEc3 BEc4 BEc5 BEc6 BEc7 BEc8 BEc9
  have s19 : w18.heap.size ≤ w19.heap.size := hb.size
  have P19 := Lib.hid (P18.out.below hb (by omega))
  have T19 := Lib.hid (T18.out.trans (hb.mono (by omega)))
  have V19 := Lib.hid (V18.out.below (by omega) hb)
  have C1_19 := Lib.hid ((hb.cell (World.block_lt_of_cell? _ _ C1_18.out)).trans C1_18.out)
  have U19 := Lib.hid (U18.out.below (by omega) hb)
  have BU19 := Lib.hid (BU18.out.below hb (by omega))
  have J19 := Lib.hid (J18.out.below hb (by omega))
  have BG19 := Lib.hid (BG18.out.below hb (by omega))
  have H19 := Lib.hid (H18.out.below hb)
  have E19 := Lib.hid (E18.out.below hb)
  have BE19 := Lib.hid (BE18.out.below hb (by omega))
  clear P18 T18 V18 C1_18 U18 BU18 J18 BG18 H18 E18 BE18
  clear hb
  have yP_19 : w.heap.size < w19.heap.size := by omega
  have yBU_19 : w3.heap.size < w19.heap.size := by omega
  have yJ_19 : w5.heap.size < w19.heap.size := by omega
  have yBG_19 : w7.heap.size < w19.heap.size := by omega
  have yBE_19 : w17.heap.size < w19.heap.size := by omega
  obtain ⟨Pc0, Pc1, Pc2, Pc3, Pc4, Pc5, Pc6, Pc7, Pc8, Pc9⟩ := P19.out.ten
  obtain ⟨BUc0, BUc1, BUc2, BUc3, BUc4, BUc5, BUc6, BUc7, BUc8, BUc9⟩ := BU19.out.ten
  obtain ⟨Jc0, Jc1, Jc2, Jc3, Jc4, Jc5, Jc6, Jc7, Jc8, Jc9⟩ := J19.out.ten
  obtain ⟨BGc0, BGc1, BGc2, BGc3, BGc4, BGc5, BGc6, BGc7, BGc8, BGc9⟩ := BG19.out.ten
  obtain ⟨BEc0, BEc1, BEc2, BEc3, BEc4, BEc5, BEc6, BEc7, BEc8, BEc9⟩ := BE19.out.ten
  go_wp2_with fail
  refine (heldMachine_any _ _ _ Y 1 w19 H19.out.reads (by omega) hYb (by omega) (by omega)).mono ?_
  rintro e w20 ⟨rfl, hb⟩
  clear Pc0 Pc1 Pc2 Pc3 Pc4 Pc5 Pc6 Pc7 Pc8 Pc9
  clear BUc0 BUc1 BUc2 BUc3 BUc4 BUc5 BUc6 BUc7 BUc8 BUc9
  clear Jc0 Jc1 Jc2 Jc3 Jc4 Jc5 Jc6 Jc7 Jc8 Jc9
  clear BGc0 BGc1 BGc2 BGc3 BGc4 BGc5 BGc6 BGc7 BGc8 BGc9
  clear BEc0 BEc1 BEc2 BEc3 BEc4 BEc5 BEc6 BEc7 BEc8 BEc9
  have s20 : w19.heap.size ≤ w20.heap.size := hb.size
  have P20 := Lib.hid (P19.out.below hb (by omega))
  have T20 := Lib.hid (T19.out.trans (hb.mono (by omega)))
  have V20 := Lib.hid (V19.out.below (by omega) hb)
  have C1_20 := Lib.hid ((hb.cell (World.block_lt_of_cell? _ _ C1_19.out)).trans C1_19.out)
  have U20 := Lib.hid (U19.out.below (by omega) hb)
  have BU20 := Lib.hid (BU19.out.below hb (by omega))
  have J20 := Lib.hid (J19.out.below hb (by omega))
  have BG20 := Lib.hid (BG19.out.below hb (by omega))
  have H20 := Lib.hid (H19.out.below hb)
  have E20 := Lib.hid (E19.out.below hb)
  have BE20 := Lib.hid (BE19.out.below hb (by omega))
  clear P19 T19 V19 C1_19 U19 BU19 J19 BG19 H19 E19 BE19
  clear hb
  have yP_20 : w.heap.size < w20.heap.size := by omega
  have yBU_20 : w3.heap.size < w20.heap.size := by omega
  have yJ_20 : w5.heap.size < w20.heap.size := by omega
  have yBG_20 : w7.heap.size < w20.heap.size := by omega
  have yBE_20 : w17.heap.size < w20.heap.size := by omega
  obtain ⟨Pc0, Pc1, Pc2, Pc3, Pc4, Pc5, Pc6, Pc7, Pc8, Pc9⟩ := P20.out.ten
  obtain ⟨BUc0, BUc1, BUc2, BUc3, BUc4, BUc5, BUc6, BUc7, BUc8, BUc9⟩ := BU20.out.ten
  obtain ⟨Jc0, Jc1, Jc2, Jc3, Jc4, Jc5, Jc6, Jc7, Jc8, Jc9⟩ := J20.out.ten
  obtain ⟨BGc0, BGc1, BGc2, BGc3, BGc4, BGc5, BGc6, BGc7, BGc8, BGc9⟩ := BG20.out.ten
  obtain ⟨BEc0, BEc1, BEc2, BEc3, BEc4, BEc5, BEc6, BEc7, BEc8, BEc9⟩ := BE20.out.ten
  go_wp2
  go_ret
  exact ⟨rfl, T20.out⟩
end Go.Proofs.YtimhnkpccbcohaaGreatDoor
