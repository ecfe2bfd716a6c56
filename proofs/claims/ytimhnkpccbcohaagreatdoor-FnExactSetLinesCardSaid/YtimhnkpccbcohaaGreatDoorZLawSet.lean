/-
 The exact law of SetLines: its walk. Conditions: the listed errors read as laid.
-/
import Derived.Test.YtimhnkpccbcohaaGreatDoorZSetS
import Derived.Test.YtimhnkpccbcohaaGreatDoorZSzS
import Derived.Test.YtimhnkpccbcohaaGreatDoorZLawsMchG
import Derived.Test.YtimhnkpccbcohaaGreatDoorZPkA
namespace Go.Proofs.YtimhnkpccbcohaaGreatDoor
open Go.RowKit Go.Conc
set_option linter.unusedVariables false
set_option linter.unusedSimpArgs false

theorem sets_lim {X : Mch} {ls : List ByteArray} (hm : machB X = true → WfX X) : (setsX X ls).big ≤ 1048575 ∧ (setsX X ls).marks ≤ 4000 ∧ (setsT X ls).length ≤ ls.length := by
 have hz : zeroX.big ≤ 1048575 ∧ zeroX.marks ≤ 4000 := ⟨zeroX_big, by simp [zeroX, Mch.marks, tot]⟩
 cases h : machB X with
 | false => rw [(sets_no h).2.1, (sets_no h).2.2]; exact ⟨hz.1, hz.2, Nat.zero_le _⟩
 | true =>
  cases hg : setGo ls X with
  | none => rw [(sets_none hg).2.1, (sets_none hg).2.2]; exact ⟨hz.1, hz.2, Nat.zero_le _⟩
  | some p =>
   obtain ⟨Y, ts⟩ := p
   rw [(sets_some h hg).2.1, (sets_some h hg).2.2]
   obtain ⟨h1, h2, h3⟩ := setGo_mach h (hm h) hg
   obtain ⟨b1, b2, b3, b4, b5⟩ := mach_big h1
   have h6 := tot_lim b3
   refine ⟨big_lim b1 b2 b3 b4 b5, ?_, by omega⟩
   unfold Mch.marks
   unfold Fnt.big at b1
   omega
theorem marks_big (X : Mch) : X.marks ≤ 2 * X.big := by
 unfold Mch.marks Mch.big Fnt.big magBig
 omega
set_option maxRecDepth 100000 in
set_option maxHeartbeats 6400000 in
theorem fnExactSetLines_walk (lo hi : Nat) (v : Value) (X : Mch) (A1 : Option Addr) (n1 c1 : Nat) (ls9 : List ByteArray) (w : World) (h : MchV w lo hi v X) (hhi : hi ≤ w.heap.size) (wf : WfX X) (hn1 : ls9.length = n1) (hm1 : n1 ≤ maxLen) (h1 : Strs w A1 ls9) (wf1 : ∀ s ∈ ls9, s.size ≤ maxLen) (z : SErr) (hz : SErrAt w w.heap.size z) :
  Calls Tryz.prog 6 #[v, .slice A1 n1 c1] w fun e w' => e = .returned (.bool true) ∧ Below w.heap.size w w' := by
 obtain ⟨s, A, n, c, B, m, d, M, q, e, sp, W, t, k, L, l, f, T, r, g, rfl⟩ := h.form
 have HWf := Lib.hid wf
 obtain ⟨w0, hw0, hb0, hz0, K0⟩ := mxWorld w #[.string s, .slice A n c, .slice B m d, .slice M q e, .int .i64 sp, .int .i64 W, .int .i64 t, .int .i64 k, .slice L l f, .slice T r g] 30
 have P0 := Lib.hid K0; have T0 := Lib.hid hb0; have V0 := Lib.hid (h.below hhi hb0)
 have s0 : w.heap.size < w0.heap.size := K0.lt
 obtain ⟨Pc0, Pc1, Pc2, Pc3, Pc4, Pc5, Pc6, Pc7, Pc8, Pc9⟩ := P0.out.ten
 have E_0 : Hid (SErrAt w0 w.heap.size z) := hz.below hb0 (Nat.le_refl _)
 have H1 := Lib.hid h1; have N1 := Lib.hid hn1; have WF1 := Lib.hid wf1
 clear h hb0 hz0 K0 wf hz h1 hn1 wf1
 by_cases hbig : (1048576 : Int) < X.big
 ·have Hk := Lib.hid (takeOff_bad hbig)
  go_enter Tryz.func6, Tryz.ntmps6
  go_wp2_with fail
  clear hw0
  refine (szMachine_any lo hi _ X _ w0 V0.out (by omega) (by omega) (by omega)).mono ?_
  rintro e w1 ⟨rfl, hb1⟩
  rw [Hk.out]
  have T1 := Lib.hid (T0.out.trans (hb1.mono (by omega)))
  clear hb1 Pc0 Pc1 Pc2 Pc3 Pc4 Pc5 Pc6 Pc7 Pc8 Pc9
  go_wp2
  go_ret
  exact ⟨rfl, T1.out⟩
 have Hk := Lib.hid (takeOff_good hbig)
 have hb20 : X.big ≤ 1048576 := by omega
 have hl0 : 0 ≤ 1048576 - (X.big : Int) := by omega
 have hl1 : 1048576 - (X.big : Int) ≤ 1048576 := by omega
 obtain ⟨left, hleft⟩ : ∃ x, 1048576 - (X.big : Int) = x := ⟨_, rfl⟩
 have hk0 : decide (1048576 - (X.big : Int) < 0) = false := decide_eq_false (by omega)
 rw [hleft] at Hk hk0 hl0 hl1
 obtain ⟨q9, hq⟩ : ∃ x, szI left ls9 = x := ⟨_, rfl⟩
 have HQ := Lib.hid hq
 clear hq
 by_cases hq0 : q9 < 0
 ·have hq1 : decide (q9 < 0) = true := decide_eq_true hq0
  go_enter Tryz.func6, Tryz.ntmps6
  go_wp2_with fail
  clear hw0
  refine (szMachine_any lo hi _ X _ w0 V0.out (by omega) (by omega) (by omega)).mono ?_
  rintro e w1 ⟨rfl, hb1⟩
  rw [Hk.out]
  have T1 := Lib.hid (T0.out.trans (hb1.mono (by omega)))
  clear hb1 Pc0 Pc1 Pc2 Pc3 Pc4 Pc5 Pc6 Pc7 Pc8 Pc9
  go_wp2_with fail
  refine (szStringS_any _ _ _ ls9 left _ N1.out hm1 (H1.out.below T1.out) WF1.out hl0 hl1).mono ?_
  rintro e w' ⟨rfl, rfl⟩
  rw [HQ.out]
  go_wp2
  go_ret
  exact ⟨rfl, T1.out⟩
 have hq1 : decide (q9 < 0) = false := decide_eq_false hq0
 have hn20 : n1 + X.big ≤ 1048576 := by
  have := szI_good (left := left) (ss := ls9) (by rw [HQ.out]; omega)
  unfold szL at this
  rw [N1.out] at this
  omega
 have hn1b : n1 ≤ 1048576 := by omega
 clear hleft
 have HS := Lib.hid (big_smallX hb20)
 go_enter Tryz.func6, Tryz.ntmps6
 go_wp2_with fail
 clear hw0
 refine (szMachine_any lo hi _ X _ w0 V0.out (by omega) (by omega) (by omega)).mono ?_
 rintro e w1 ⟨rfl, hb⟩
 rw [Hk.out]
 clear Pc0 Pc1 Pc2 Pc3 Pc4 Pc5 Pc6 Pc7 Pc8 Pc9
 have s1 : w0.heap.size ≤ w1.heap.size := hb.size
 have P1 := Lib.hid (P0.out.below hb (by omega))
 have T1 := Lib.hid (T0.out.trans (hb.mono (by omega)))
 have V1 := Lib.hid (V0.out.below (by omega) hb)
 have E_1 := Lib.hid (E_0.out.below hb (by omega))
 clear P0 T0 V0 E_0
 clear hb
 have yP_1 : w.heap.size < w1.heap.size := by omega
 obtain ⟨Pc0, Pc1, Pc2, Pc3, Pc4, Pc5, Pc6, Pc7, Pc8, Pc9⟩ := P1.out.ten
 go_wp2_with fail
 refine (szStringS_any _ _ _ ls9 left _ N1.out hm1 (Strs.below H1.out T1.out) WF1.out hl0 hl1).mono ?_
 rintro e w' ⟨rfl, rfl⟩
 rw [HQ.out]
 obtain ⟨Y, hY⟩ : ∃ x, setsX X ls9 = x := ⟨_, rfl⟩
 obtain ⟨zs, hzs⟩ : ∃ x, setsT X ls9 = x := ⟨_, rfl⟩
 obtain ⟨ok, hok⟩ : ∃ x, setsOk X ls9 = x := ⟨_, rfl⟩
 obtain ⟨hYb, hYm, hZl⟩ := sets_lim (X := X) (ls := ls9) (fun _ => HWf.out)
 rw [hY] at hYb hYm
 rw [hzs, N1.out] at hZl
 obtain ⟨nn, hnn⟩ : ∃ x, zs.length = x := ⟨_, rfl⟩
 rw [hnn] at hZl
 have HSY := Lib.hid (big_smallX (X := Y) (by omega))
 have HY := Lib.hid hY; have Hzs := Lib.hid hzs; have Hok := Lib.hid hok; have HN := Lib.hid hnn
 clear hY hzs hok hnn
 have hne1 : (ok != ok) = false := by simp
 have hmb := marks_big X
 go_wp2_with fail
 refine (toMachine_any lo hi _ X w1 V1.out (by omega) HS.out).mono ?_
 rintro e w2 ⟨vs, rfl, hO, hb⟩
 obtain ⟨ss, As, ns, cs, Bs, ms, ds, Ms, qs, es, sps, Ws, ts, ks, Ls, ls, fs, Ts, rs, gs, rfl⟩ := hO.reads.form
 clear Pc0 Pc1 Pc2 Pc3 Pc4 Pc5 Pc6 Pc7 Pc8 Pc9
 have s2 : w1.heap.size ≤ w2.heap.size := hb.size
 have P2 := Lib.hid (P1.out.below hb (by omega))
 have T2 := Lib.hid (T1.out.trans (hb.mono (by omega)))
 have V2 := Lib.hid (V1.out.below (by omega) hb)
 have E_2 := Lib.hid (E_1.out.below hb (by omega))
 clear P1 T1 V1 E_1
 clear hb
 have yP_2 : w.heap.size < w2.heap.size := by omega
 have S2 := Lib.hid (hO)
 obtain ⟨Pc0, Pc1, Pc2, Pc3, Pc4, Pc5, Pc6, Pc7, Pc8, Pc9⟩ := P2.out.ten
 clear hO
 go_wp2_with fail
 refine (toStringS_o A1 n1 c1 ls9 w2 N1.out hn1b (Strs.below H1.out T2.out)).mono ?_
 rintro e w3 ⟨Ea, xa, rfl, hO, -, -, hb⟩
 have At := owns_top hO
 clear Pc0 Pc1 Pc2 Pc3 Pc4 Pc5 Pc6 Pc7 Pc8 Pc9
 have s3 : w2.heap.size ≤ w3.heap.size := hb.size
 have P3 := Lib.hid (P2.out.below hb (by omega))
 have T3 := Lib.hid (T2.out.trans (hb.mono (by omega)))
 have V3 := Lib.hid (V2.out.below (by omega) hb)
 have E_3 := Lib.hid (E_2.out.below hb (by omega))
 have S3 := Lib.hid (S2.out.below hb)
 clear P2 T2 V2 E_2 S2
 clear hb
 have yP_3 : w.heap.size < w3.heap.size := by omega
 have A3 := Lib.hid (hO)
 obtain ⟨Pc0, Pc1, Pc2, Pc3, Pc4, Pc5, Pc6, Pc7, Pc8, Pc9⟩ := P3.out.ten
 clear hO
 go_wp2_with fail
 refine (specSet_any _ _ _ X _ n1 _ ls9 w3 S3.out.reads (by omega) HS.out HWf.out N1.out hn1b (owns_read A3.out) WF1.out).mono ?_
 rintro e w4 ⟨v', vp, rfl, hO, hU, hb⟩
 rw [HY.out] at hO
 rw [Hzs.out] at hU
 rw [Hok.out]
 obtain ⟨su, Au, nu, cu, Bu, mu, du, Mu, qu, eu, spu, Wu, tu, ku, Lu, lu, fu, Tu, ru, gu, rfl⟩ := hO.form
 obtain ⟨Eu, xu, rfl, -, -, -, -⟩ := hU.form
 rw [HN.out] at hU
 rw [HN.out]
 have Rt := owns_top hU
 clear Pc0 Pc1 Pc2 Pc3 Pc4 Pc5 Pc6 Pc7 Pc8 Pc9
 have s4 : w3.heap.size ≤ w4.heap.size := hb.size
 have P4 := Lib.hid (P3.out.below hb (by omega))
 have T4 := Lib.hid (T3.out.trans (hb.mono (by omega)))
 have V4 := Lib.hid (V3.out.below (by omega) hb)
 have E_4 := Lib.hid (E_3.out.below hb (by omega))
 have S4 := Lib.hid (S3.out.below hb)
 have A4 := Lib.hid (A3.out.below hb)
 clear P3 T3 V3 E_3 S3 A3
 clear hb
 have yP_4 : w.heap.size < w4.heap.size := by omega
 have U4 := Lib.hid (hO)
 have R4 := Lib.hid (hU)
 obtain ⟨Pc0, Pc1, Pc2, Pc3, Pc4, Pc5, Pc6, Pc7, Pc8, Pc9⟩ := P4.out.ten
 clear hO hU
 clear S4
 clear A4
 go_wp2_with fail
 obtain ⟨w5, hw, hb, hz, hK⟩ := mxWorld w4 #[.string su, .slice Au nu cu, .slice Bu mu du, .slice Mu qu eu, .int .i64 spu, .int .i64 Wu, .int .i64 tu, .int .i64 ku, .slice Lu lu fu, .slice Tu ru gu] 37
 rw [hw]
 clear hw hz
 clear Pc0 Pc1 Pc2 Pc3 Pc4 Pc5 Pc6 Pc7 Pc8 Pc9
 have s5 : w4.heap.size ≤ w5.heap.size := hb.size
 have P5 := Lib.hid (P4.out.below hb (by omega))
 have T5 := Lib.hid (T4.out.trans (hb.mono (by omega)))
 have V5 := Lib.hid (V4.out.below (by omega) hb)
 have E_5 := Lib.hid (E_4.out.below hb (by omega))
 have U5 := Lib.hid (U4.out.below (by omega) hb)
 have R5 := Lib.hid (R4.out.below hb)
 clear P4 T4 V4 E_4 U4 R4
 clear hb
 have yP_5 : w.heap.size < w5.heap.size := by omega
 have BU5 := Lib.hid (hK)
 have yBU : w4.heap.size < w5.heap.size := hK.lt
 clear hK
 obtain ⟨Pc0, Pc1, Pc2, Pc3, Pc4, Pc5, Pc6, Pc7, Pc8, Pc9⟩ := P5.out.ten
 obtain ⟨BUc0, BUc1, BUc2, BUc3, BUc4, BUc5, BUc6, BUc7, BUc8, BUc9⟩ := BU5.out.ten
 refine (toMachine_any lo hi _ X w5 V5.out (by omega) HS.out).mono ?_
 rintro e w6 ⟨vx, rfl, hO, hb⟩
 obtain ⟨sx, Ax, nx, cx, Bx, mx, dx, Mx, qx, ex, spx, Wx, tx, kx, Lx, lx, fx, Tx, rx, gx, rfl⟩ := hO.reads.form
 clear Pc0 Pc1 Pc2 Pc3 Pc4 Pc5 Pc6 Pc7 Pc8 Pc9
 clear BUc0 BUc1 BUc2 BUc3 BUc4 BUc5 BUc6 BUc7 BUc8 BUc9
 have s6 : w5.heap.size ≤ w6.heap.size := hb.size
 have P6 := Lib.hid (P5.out.below hb (by omega))
 have T6 := Lib.hid (T5.out.trans (hb.mono (by omega)))
 have V6 := Lib.hid (V5.out.below (by omega) hb)
 have E_6 := Lib.hid (E_5.out.below hb (by omega))
 have U6 := Lib.hid (U5.out.below (by omega) hb)
 have R6 := Lib.hid (R5.out.below hb)
 have BU6 := Lib.hid (BU5.out.below hb (by omega))
 clear P5 T5 V5 E_5 U5 R5 BU5
 clear hb
 have yP_6 : w.heap.size < w6.heap.size := by omega
 have yBU_6 : w4.heap.size < w6.heap.size := by omega
 have X6 := Lib.hid (hO)
 obtain ⟨Pc0, Pc1, Pc2, Pc3, Pc4, Pc5, Pc6, Pc7, Pc8, Pc9⟩ := P6.out.ten
 obtain ⟨BUc0, BUc1, BUc2, BUc3, BUc4, BUc5, BUc6, BUc7, BUc8, BUc9⟩ := BU6.out.ten
 clear hO
 go_wp2_with fail
 obtain ⟨w7, hw, hb, hz, hK⟩ := mxWorld w6 #[.string sx, .slice Ax nx cx, .slice Bx mx dx, .slice Mx qx ex, .int .i64 spx, .int .i64 Wx, .int .i64 tx, .int .i64 kx, .slice Lx lx fx, .slice Tx rx gx] 37
 rw [hw]
 clear hw hz
 clear Pc0 Pc1 Pc2 Pc3 Pc4 Pc5 Pc6 Pc7 Pc8 Pc9
 clear BUc0 BUc1 BUc2 BUc3 BUc4 BUc5 BUc6 BUc7 BUc8 BUc9
 have s7 : w6.heap.size ≤ w7.heap.size := hb.size
 have P7 := Lib.hid (P6.out.below hb (by omega))
 have T7 := Lib.hid (T6.out.trans (hb.mono (by omega)))
 have V7 := Lib.hid (V6.out.below (by omega) hb)
 have E_7 := Lib.hid (E_6.out.below hb (by omega))
 have U7 := Lib.hid (U6.out.below (by omega) hb)
 have R7 := Lib.hid (R6.out.below hb)
 have BU7 := Lib.hid (BU6.out.below hb (by omega))
 have X7 := Lib.hid (X6.out.below hb)
 clear P6 T6 V6 E_6 U6 R6 BU6 X6
 clear hb
 have yP_7 : w.heap.size < w7.heap.size := by omega
 have yBU_7 : w4.heap.size < w7.heap.size := by omega
 have J7 := Lib.hid (hK)
 have yJ : w6.heap.size < w7.heap.size := hK.lt
 clear hK
 obtain ⟨Pc0, Pc1, Pc2, Pc3, Pc4, Pc5, Pc6, Pc7, Pc8, Pc9⟩ := P7.out.ten
 obtain ⟨BUc0, BUc1, BUc2, BUc3, BUc4, BUc5, BUc6, BUc7, BUc8, BUc9⟩ := BU7.out.ten
 obtain ⟨Jc0, Jc1, Jc2, Jc3, Jc4, Jc5, Jc6, Jc7, Jc8, Jc9⟩ := J7.out.ten
 refine (toStringS_o A1 n1 c1 ls9 w7 N1.out hn1b (Strs.below H1.out T7.out)).mono ?_
 rintro e w8 ⟨Eb, xb, rfl, hO, -, -, hb⟩
 have Bt := owns_top hO
 clear Pc0 Pc1 Pc2 Pc3 Pc4 Pc5 Pc6 Pc7 Pc8 Pc9
 clear BUc0 BUc1 BUc2 BUc3 BUc4 BUc5 BUc6 BUc7 BUc8 BUc9
 clear Jc0 Jc1 Jc2 Jc3 Jc4 Jc5 Jc6 Jc7 Jc8 Jc9
 have s8 : w7.heap.size ≤ w8.heap.size := hb.size
 have P8 := Lib.hid (P7.out.below hb (by omega))
 have T8 := Lib.hid (T7.out.trans (hb.mono (by omega)))
 have V8 := Lib.hid (V7.out.below (by omega) hb)
 have E_8 := Lib.hid (E_7.out.below hb (by omega))
 have U8 := Lib.hid (U7.out.below (by omega) hb)
 have R8 := Lib.hid (R7.out.below hb)
 have BU8 := Lib.hid (BU7.out.below hb (by omega))
 have X8 := Lib.hid (X7.out.below hb)
 have J8 := Lib.hid (J7.out.below hb (by omega))
 clear P7 T7 V7 E_7 U7 R7 BU7 X7 J7
 clear hb
 have yP_8 : w.heap.size < w8.heap.size := by omega
 have yBU_8 : w4.heap.size < w8.heap.size := by omega
 have yJ_8 : w6.heap.size < w8.heap.size := by omega
 have B8 := Lib.hid (hO)
 obtain ⟨Pc0, Pc1, Pc2, Pc3, Pc4, Pc5, Pc6, Pc7, Pc8, Pc9⟩ := P8.out.ten
 obtain ⟨BUc0, BUc1, BUc2, BUc3, BUc4, BUc5, BUc6, BUc7, BUc8, BUc9⟩ := BU8.out.ten
 obtain ⟨Jc0, Jc1, Jc2, Jc3, Jc4, Jc5, Jc6, Jc7, Jc8, Jc9⟩ := J8.out.ten
 clear hO
 go_wp2_with fail
 refine (implSet_any _ _ _ X _ n1 _ ls9 w8 X8.out.reads (by omega) HS.out HWf.out N1.out hn1b (owns_read B8.out) WF1.out z (E_8.out.wide (by omega))).mono ?_
 rintro e w9 ⟨v', vp, rfl, hO, hU, hb⟩
 rw [HY.out] at hO
 rw [Hzs.out] at hU
 rw [Hok.out]
 obtain ⟨sg, Ag, ng, cg, Bg, mg, dg, Mg, qg, eg, spg, Wg, tg, kg, Lg, lg, fg, Tg, rg, gg, rfl⟩ := hO.mch.reads.form
 obtain ⟨Eg, xg, rfl, -, -, -, -⟩ := hU.form
 rw [HN.out] at hU hO
 rw [HN.out]
 have Qt := owns_top hU
 clear Pc0 Pc1 Pc2 Pc3 Pc4 Pc5 Pc6 Pc7 Pc8 Pc9
 clear BUc0 BUc1 BUc2 BUc3 BUc4 BUc5 BUc6 BUc7 BUc8 BUc9
 clear Jc0 Jc1 Jc2 Jc3 Jc4 Jc5 Jc6 Jc7 Jc8 Jc9
 have s9 : w8.heap.size ≤ w9.heap.size := hb.size
 have P9 := Lib.hid (P8.out.below hb (by omega))
 have T9 := Lib.hid (T8.out.trans (hb.mono (by omega)))
 have V9 := Lib.hid (V8.out.below (by omega) hb)
 have E_9 := Lib.hid (E_8.out.below hb (by omega))
 have U9 := Lib.hid (U8.out.below (by omega) hb)
 have R9 := Lib.hid (R8.out.below hb)
 have BU9 := Lib.hid (BU8.out.below hb (by omega))
 have X9 := Lib.hid (X8.out.below hb)
 have J9 := Lib.hid (J8.out.below hb (by omega))
 have B9 := Lib.hid (B8.out.below hb)
 clear P8 T8 V8 E_8 U8 R8 BU8 X8 J8 B8
 clear hb
 have yP_9 : w.heap.size < w9.heap.size := by omega
 have yBU_9 : w4.heap.size < w9.heap.size := by omega
 have yJ_9 : w6.heap.size < w9.heap.size := by omega
 have G9 := Lib.hid (hO)
 have Q9 := Lib.hid (hU)
 obtain ⟨Pc0, Pc1, Pc2, Pc3, Pc4, Pc5, Pc6, Pc7, Pc8, Pc9⟩ := P9.out.ten
 obtain ⟨BUc0, BUc1, BUc2, BUc3, BUc4, BUc5, BUc6, BUc7, BUc8, BUc9⟩ := BU9.out.ten
 obtain ⟨Jc0, Jc1, Jc2, Jc3, Jc4, Jc5, Jc6, Jc7, Jc8, Jc9⟩ := J9.out.ten
 clear hO hU
 go_wp2_with fail
 obtain ⟨w10, hw, hb, hz, hK⟩ := mxWorld w9 #[.string sg, .slice Ag ng cg, .slice Bg mg dg, .slice Mg qg eg, .int .i64 spg, .int .i64 Wg, .int .i64 tg, .int .i64 kg, .slice Lg lg fg, .slice Tg rg gg] 37
 rw [hw]
 clear hw hz
 clear Pc0 Pc1 Pc2 Pc3 Pc4 Pc5 Pc6 Pc7 Pc8 Pc9
 clear BUc0 BUc1 BUc2 BUc3 BUc4 BUc5 BUc6 BUc7 BUc8 BUc9
 clear Jc0 Jc1 Jc2 Jc3 Jc4 Jc5 Jc6 Jc7 Jc8 Jc9
 have s10 : w9.heap.size ≤ w10.heap.size := hb.size
 have P10 := Lib.hid (P9.out.below hb (by omega))
 have T10 := Lib.hid (T9.out.trans (hb.mono (by omega)))
 have V10 := Lib.hid (V9.out.below (by omega) hb)
 have E_10 := Lib.hid (E_9.out.below hb (by omega))
 have U10 := Lib.hid (U9.out.below (by omega) hb)
 have R10 := Lib.hid (R9.out.below hb)
 have BU10 := Lib.hid (BU9.out.below hb (by omega))
 have X10 := Lib.hid (X9.out.below hb)
 have J10 := Lib.hid (J9.out.below hb (by omega))
 have B10 := Lib.hid (B9.out.below hb)
 have G10 := Lib.hid (G9.out.below hb)
 have Q10 := Lib.hid (Q9.out.below hb)
 clear P9 T9 V9 E_9 U9 R9 BU9 X9 J9 B9 G9 Q9
 clear hb
 have yP_10 : w.heap.size < w10.heap.size := by omega
 have yBU_10 : w4.heap.size < w10.heap.size := by omega
 have yJ_10 : w6.heap.size < w10.heap.size := by omega
 have BG10 := Lib.hid (hK)
 have yBG : w9.heap.size < w10.heap.size := hK.lt
 clear hK
 obtain ⟨Pc0, Pc1, Pc2, Pc3, Pc4, Pc5, Pc6, Pc7, Pc8, Pc9⟩ := P10.out.ten
 obtain ⟨BUc0, BUc1, BUc2, BUc3, BUc4, BUc5, BUc6, BUc7, BUc8, BUc9⟩ := BU10.out.ten
 obtain ⟨Jc0, Jc1, Jc2, Jc3, Jc4, Jc5, Jc6, Jc7, Jc8, Jc9⟩ := J10.out.ten
 obtain ⟨BGc0, BGc1, BGc2, BGc3, BGc4, BGc5, BGc6, BGc7, BGc8, BGc9⟩ := BG10.out.ten
 refine (eqMachine_same _ _ _ _ _ _ Y w10 G10.out.mch.reads U10.out (by omega) (by omega) HSY.out).mono ?_
 rintro e w11 ⟨rfl, hb⟩
 clear Pc0 Pc1 Pc2 Pc3 Pc4 Pc5 Pc6 Pc7 Pc8 Pc9
 clear BUc0 BUc1 BUc2 BUc3 BUc4 BUc5 BUc6 BUc7 BUc8 BUc9
 clear Jc0 Jc1 Jc2 Jc3 Jc4 Jc5 Jc6 Jc7 Jc8 Jc9
 clear BGc0 BGc1 BGc2 BGc3 BGc4 BGc5 BGc6 BGc7 BGc8 BGc9
 have s11 : w10.heap.size ≤ w11.heap.size := hb.size
 have P11 := Lib.hid (P10.out.below hb (by omega))
 have T11 := Lib.hid (T10.out.trans (hb.mono (by omega)))
 have V11 := Lib.hid (V10.out.below (by omega) hb)
 have E_11 := Lib.hid (E_10.out.below hb (by omega))
 have U11 := Lib.hid (U10.out.below (by omega) hb)
 have R11 := Lib.hid (R10.out.below hb)
 have BU11 := Lib.hid (BU10.out.below hb (by omega))
 have X11 := Lib.hid (X10.out.below hb)
 have J11 := Lib.hid (J10.out.below hb (by omega))
 have B11 := Lib.hid (B10.out.below hb)
 have G11 := Lib.hid (G10.out.below hb)
 have Q11 := Lib.hid (Q10.out.below hb)
 have BG11 := Lib.hid (BG10.out.below hb (by omega))
 clear P10 T10 V10 E_10 U10 R10 BU10 X10 J10 B10 G10 Q10 BG10
 clear hb
 have yP_11 : w.heap.size < w11.heap.size := by omega
 have yBU_11 : w4.heap.size < w11.heap.size := by omega
 have yJ_11 : w6.heap.size < w11.heap.size := by omega
 have yBG_11 : w9.heap.size < w11.heap.size := by omega
 obtain ⟨Pc0, Pc1, Pc2, Pc3, Pc4, Pc5, Pc6, Pc7, Pc8, Pc9⟩ := P11.out.ten
 obtain ⟨BUc0, BUc1, BUc2, BUc3, BUc4, BUc5, BUc6, BUc7, BUc8, BUc9⟩ := BU11.out.ten
 obtain ⟨Jc0, Jc1, Jc2, Jc3, Jc4, Jc5, Jc6, Jc7, Jc8, Jc9⟩ := J11.out.ten
 obtain ⟨BGc0, BGc1, BGc2, BGc3, BGc4, BGc5, BGc6, BGc7, BGc8, BGc9⟩ := BG11.out.ten
 go_wp2_with fail
 refine (eqStringS_t _ _ _ _ _ zs w11 HN.out (by omega) (owns_read Q11.out) (owns_read R11.out)).mono ?_
 rintro e w12 ⟨rfl, hb⟩
 clear Pc0 Pc1 Pc2 Pc3 Pc4 Pc5 Pc6 Pc7 Pc8 Pc9
 clear BUc0 BUc1 BUc2 BUc3 BUc4 BUc5 BUc6 BUc7 BUc8 BUc9
 clear Jc0 Jc1 Jc2 Jc3 Jc4 Jc5 Jc6 Jc7 Jc8 Jc9
 clear BGc0 BGc1 BGc2 BGc3 BGc4 BGc5 BGc6 BGc7 BGc8 BGc9
 have s12 : w11.heap.size ≤ w12.heap.size := hb.size
 have P12 := Lib.hid (P11.out.below hb (by omega))
 have T12 := Lib.hid (T11.out.trans (hb.mono (by omega)))
 have V12 := Lib.hid (V11.out.below (by omega) hb)
 have E_12 := Lib.hid (E_11.out.below hb (by omega))
 have U12 := Lib.hid (U11.out.below (by omega) hb)
 have R12 := Lib.hid (R11.out.below hb)
 have BU12 := Lib.hid (BU11.out.below hb (by omega))
 have X12 := Lib.hid (X11.out.below hb)
 have J12 := Lib.hid (J11.out.below hb (by omega))
 have B12 := Lib.hid (B11.out.below hb)
 have G12 := Lib.hid (G11.out.below hb)
 have Q12 := Lib.hid (Q11.out.below hb)
 have BG12 := Lib.hid (BG11.out.below hb (by omega))
 clear P11 T11 V11 E_11 U11 R11 BU11 X11 J11 B11 G11 Q11 BG11
 clear hb
 have yP_12 : w.heap.size < w12.heap.size := by omega
 have yBU_12 : w4.heap.size < w12.heap.size := by omega
 have yJ_12 : w6.heap.size < w12.heap.size := by omega
 have yBG_12 : w9.heap.size < w12.heap.size := by omega
 obtain ⟨Pc0, Pc1, Pc2, Pc3, Pc4, Pc5, Pc6, Pc7, Pc8, Pc9⟩ := P12.out.ten
 obtain ⟨BUc0, BUc1, BUc2, BUc3, BUc4, BUc5, BUc6, BUc7, BUc8, BUc9⟩ := BU12.out.ten
 obtain ⟨Jc0, Jc1, Jc2, Jc3, Jc4, Jc5, Jc6, Jc7, Jc8, Jc9⟩ := J12.out.ten
 obtain ⟨BGc0, BGc1, BGc2, BGc3, BGc4, BGc5, BGc6, BGc7, BGc8, BGc9⟩ := BG12.out.ten
 go_wp2_with fail
 refine wp_region_plan (.take 0 (.take 1 (.one 2 (.one 3 (.one 4 .done))))) (fun w' => (w'.cell? ⟨w6.heap.size, 0, none⟩ = some (.string sx) ∧ w'.cell? ⟨w6.heap.size, 1, none⟩ = some (.slice Ax nx cx) ∧ w'.cell? ⟨w6.heap.size, 2, none⟩ = some (.slice Bx mx dx) ∧ w'.cell? ⟨w6.heap.size, 3, none⟩ = some (.slice Mx qx ex) ∧ w'.cell? ⟨w6.heap.size, 4, none⟩ = some (.int .i64 spx) ∧ w'.cell? ⟨w6.heap.size, 5, none⟩ = some (.int .i64 Wx) ∧ w'.cell? ⟨w6.heap.size, 6, none⟩ = some (.int .i64 tx) ∧ w'.cell? ⟨w6.heap.size, 7, none⟩ = some (.int .i64 kx) ∧ w'.cell? ⟨w6.heap.size, 8, none⟩ = some (.slice Lx lx fx) ∧ w'.cell? ⟨w6.heap.size, 9, none⟩ = some (.slice Tx rx gx)) ∧ (w'.cell? ⟨w.heap.size, 0, none⟩ = some (.string s) ∧ w'.cell? ⟨w.heap.size, 1, none⟩ = some (.slice A n c) ∧ w'.cell? ⟨w.heap.size, 2, none⟩ = some (.slice B m d) ∧ w'.cell? ⟨w.heap.size, 3, none⟩ = some (.slice M q e) ∧ w'.cell? ⟨w.heap.size, 4, none⟩ = some (.int .i64 sp) ∧ w'.cell? ⟨w.heap.size, 5, none⟩ = some (.int .i64 W) ∧ w'.cell? ⟨w.heap.size, 6, none⟩ = some (.int .i64 t) ∧ w'.cell? ⟨w.heap.size, 7, none⟩ = some (.int .i64 k) ∧ w'.cell? ⟨w.heap.size, 8, none⟩ = some (.slice L l f) ∧ w'.cell? ⟨w.heap.size, 9, none⟩ = some (.slice T r g))) (by kernel_rfl) (by kernel_rfl) (by kernel_rfl) (by intro c a d v w h; cases d <;> exact h) ⟨J12.out.ten, P12.out.ten⟩ ?_
 clear Pc0 Pc1 Pc2 Pc3 Pc4 Pc5 Pc6 Pc7 Pc8 Pc9
 clear BUc0 BUc1 BUc2 BUc3 BUc4 BUc5 BUc6 BUc7 BUc8 BUc9
 clear Jc0 Jc1 Jc2 Jc3 Jc4 Jc5 Jc6 Jc7 Jc8 Jc9
 clear BGc0 BGc1 BGc2 BGc3 BGc4 BGc5 BGc6 BGc7 BGc8 BGc9
 iterate 2 (refine plan_quiet rfl (by rfl) (v := ?_) ?_ ?_; rotate_left; (intro w1 hSw; obtain ⟨⟨h0, h1, h2, h3, h4, h5, h6, h7, h8, h9⟩, ⟨h0', h1', h2', h3', h4', h5', h6', h7', h8', h9'⟩⟩ := hSw; go_simp; try (with_reducible rfl)); (try simp only [Act.put, List.setIfInBounds_toArray, List.set_cons_zero, List.set_cons_succ]))
 refine plan_step rfl (fun K hK => ?_)
 rw [if_pos (by rfl)]
 go_simp
 refine (toMachine_any lo hi _ X w12.drew (MchV.drew V12.out) (by show hi ≤ w12.heap.size; omega) HS.out).mono ?_
 rintro e w13 ⟨vz, rfl, hO, hb'⟩
 have hb := undrew hb'
 clear hb'
 obtain ⟨sz, Az, nz, cz, Bz, mz, dz, Mz, qz, ez, spz, Wz, tz, kz, Lz, lz, fz, Tz, rz, gz, rfl⟩ := hO.reads.form
 have s13 : w12.heap.size ≤ w13.heap.size := hb.size
 have P13 := Lib.hid (P12.out.below hb (by omega))
 have T13 := Lib.hid (T12.out.trans (hb.mono (by omega)))
 have V13 := Lib.hid (V12.out.below (by omega) hb)
 have E_13 := Lib.hid (E_12.out.below hb (by omega))
 have U13 := Lib.hid (U12.out.below (by omega) hb)
 have R13 := Lib.hid (R12.out.below hb)
 have BU13 := Lib.hid (BU12.out.below hb (by omega))
 have X13 := Lib.hid (X12.out.below hb)
 have J13 := Lib.hid (J12.out.below hb (by omega))
 have B13 := Lib.hid (B12.out.below hb)
 have G13 := Lib.hid (G12.out.below hb)
 have Q13 := Lib.hid (Q12.out.below hb)
 have BG13 := Lib.hid (BG12.out.below hb (by omega))
 clear P12 T12 V12 E_12 U12 R12 BU12 X12 J12 B12 G12 Q12 BG12
 clear hb
 have yP_13 : w.heap.size < w13.heap.size := by omega
 have yBU_13 : w4.heap.size < w13.heap.size := by omega
 have yJ_13 : w6.heap.size < w13.heap.size := by omega
 have yBG_13 : w9.heap.size < w13.heap.size := by omega
 have Z13 := Lib.hid (hO)
 clear hO
 refine hK.out _ _ ⟨J13.out.ten, P13.out.ten⟩ ?_
 clear hK K
 refine plan_step rfl (fun K hK => ?_)
 rw [if_pos (by rfl)]
 go_simp
 refine (eqMachine_same _ _ _ _ _ _ X w13 X13.out.reads Z13.out.reads (by omega) (by omega) HS.out).mono ?_
 rintro e w14 ⟨rfl, hb⟩
 have s14 : w13.heap.size ≤ w14.heap.size := hb.size
 have P14 := Lib.hid (P13.out.below hb (by omega))
 have T14 := Lib.hid (T13.out.trans (hb.mono (by omega)))
 have V14 := Lib.hid (V13.out.below (by omega) hb)
 have E_14 := Lib.hid (E_13.out.below hb (by omega))
 have U14 := Lib.hid (U13.out.below (by omega) hb)
 have R14 := Lib.hid (R13.out.below hb)
 have BU14 := Lib.hid (BU13.out.below hb (by omega))
 have X14 := Lib.hid (X13.out.below hb)
 have J14 := Lib.hid (J13.out.below hb (by omega))
 have B14 := Lib.hid (B13.out.below hb)
 have G14 := Lib.hid (G13.out.below hb)
 have Q14 := Lib.hid (Q13.out.below hb)
 have BG14 := Lib.hid (BG13.out.below hb (by omega))
 have Z14 := Lib.hid (Z13.out.below hb)
 clear P13 T13 V13 E_13 U13 R13 BU13 X13 J13 B13 G13 Q13 BG13 Z13
 clear hb
 have yP_14 : w.heap.size < w14.heap.size := by omega
 have yBU_14 : w4.heap.size < w14.heap.size := by omega
 have yJ_14 : w6.heap.size < w14.heap.size := by omega
 have yBG_14 : w9.heap.size < w14.heap.size := by omega
 refine hK.out _ _ ⟨J14.out.ten, P14.out.ten⟩ ?_
 clear hK K
 refine plan_step rfl (fun K hK => ?_)
 rw [if_pos (by rfl)]
 go_simp
 refine hK.out _ _ ⟨J14.out.ten, P14.out.ten⟩ ?_
 clear hK K
 refine plan_end ?_
 clear Z14
 obtain ⟨Pc0, Pc1, Pc2, Pc3, Pc4, Pc5, Pc6, Pc7, Pc8, Pc9⟩ := P14.out.ten
 obtain ⟨BUc0, BUc1, BUc2, BUc3, BUc4, BUc5, BUc6, BUc7, BUc8, BUc9⟩ := BU14.out.ten
 obtain ⟨Jc0, Jc1, Jc2, Jc3, Jc4, Jc5, Jc6, Jc7, Jc8, Jc9⟩ := J14.out.ten
 obtain ⟨BGc0, BGc1, BGc2, BGc3, BGc4, BGc5, BGc6, BGc7, BGc8, BGc9⟩ := BG14.out.ten
 go_wp2_with fail
 refine (toStringS_o A1 n1 c1 ls9 w14 N1.out hn1b (Strs.below H1.out T14.out)).mono ?_
 rintro e w15 ⟨Ec, xc, rfl, hO, -, -, hb⟩
 have Ct := owns_top hO
 clear Pc0 Pc1 Pc2 Pc3 Pc4 Pc5 Pc6 Pc7 Pc8 Pc9
 clear BUc0 BUc1 BUc2 BUc3 BUc4 BUc5 BUc6 BUc7 BUc8 BUc9
 clear Jc0 Jc1 Jc2 Jc3 Jc4 Jc5 Jc6 Jc7 Jc8 Jc9
 clear BGc0 BGc1 BGc2 BGc3 BGc4 BGc5 BGc6 BGc7 BGc8 BGc9
 have s15 : w14.heap.size ≤ w15.heap.size := hb.size
 have P15 := Lib.hid (P14.out.below hb (by omega))
 have T15 := Lib.hid (T14.out.trans (hb.mono (by omega)))
 have V15 := Lib.hid (V14.out.below (by omega) hb)
 have E_15 := Lib.hid (E_14.out.below hb (by omega))
 have U15 := Lib.hid (U14.out.below (by omega) hb)
 have R15 := Lib.hid (R14.out.below hb)
 have BU15 := Lib.hid (BU14.out.below hb (by omega))
 have X15 := Lib.hid (X14.out.below hb)
 have J15 := Lib.hid (J14.out.below hb (by omega))
 have B15 := Lib.hid (B14.out.below hb)
 have G15 := Lib.hid (G14.out.below hb)
 have Q15 := Lib.hid (Q14.out.below hb)
 have BG15 := Lib.hid (BG14.out.below hb (by omega))
 clear P14 T14 V14 E_14 U14 R14 BU14 X14 J14 B14 G14 Q14 BG14
 clear hb
 have yP_15 : w.heap.size < w15.heap.size := by omega
 have yBU_15 : w4.heap.size < w15.heap.size := by omega
 have yJ_15 : w6.heap.size < w15.heap.size := by omega
 have yBG_15 : w9.heap.size < w15.heap.size := by omega
 have C15 := Lib.hid (hO)
 obtain ⟨Pc0, Pc1, Pc2, Pc3, Pc4, Pc5, Pc6, Pc7, Pc8, Pc9⟩ := P15.out.ten
 obtain ⟨BUc0, BUc1, BUc2, BUc3, BUc4, BUc5, BUc6, BUc7, BUc8, BUc9⟩ := BU15.out.ten
 obtain ⟨Jc0, Jc1, Jc2, Jc3, Jc4, Jc5, Jc6, Jc7, Jc8, Jc9⟩ := J15.out.ten
 obtain ⟨BGc0, BGc1, BGc2, BGc3, BGc4, BGc5, BGc6, BGc7, BGc8, BGc9⟩ := BG15.out.ten
 clear hO
 go_wp2_with fail
 refine (eqStringS_t _ _ _ _ _ ls9 w15 N1.out (by omega) (owns_read B15.out) (owns_read C15.out)).mono ?_
 rintro e w16 ⟨rfl, hb⟩
 clear Pc0 Pc1 Pc2 Pc3 Pc4 Pc5 Pc6 Pc7 Pc8 Pc9
 clear BUc0 BUc1 BUc2 BUc3 BUc4 BUc5 BUc6 BUc7 BUc8 BUc9
 clear Jc0 Jc1 Jc2 Jc3 Jc4 Jc5 Jc6 Jc7 Jc8 Jc9
 clear BGc0 BGc1 BGc2 BGc3 BGc4 BGc5 BGc6 BGc7 BGc8 BGc9
 have s16 : w15.heap.size ≤ w16.heap.size := hb.size
 have P16 := Lib.hid (P15.out.below hb (by omega))
 have T16 := Lib.hid (T15.out.trans (hb.mono (by omega)))
 have V16 := Lib.hid (V15.out.below (by omega) hb)
 have E_16 := Lib.hid (E_15.out.below hb (by omega))
 have U16 := Lib.hid (U15.out.below (by omega) hb)
 have R16 := Lib.hid (R15.out.below hb)
 have BU16 := Lib.hid (BU15.out.below hb (by omega))
 have X16 := Lib.hid (X15.out.below hb)
 have J16 := Lib.hid (J15.out.below hb (by omega))
 have B16 := Lib.hid (B15.out.below hb)
 have G16 := Lib.hid (G15.out.below hb)
 have Q16 := Lib.hid (Q15.out.below hb)
 have BG16 := Lib.hid (BG15.out.below hb (by omega))
 have C16 := Lib.hid (C15.out.below hb)
 clear P15 T15 V15 E_15 U15 R15 BU15 X15 J15 B15 G15 Q15 BG15 C15
 clear hb
 have yP_16 : w.heap.size < w16.heap.size := by omega
 have yBU_16 : w4.heap.size < w16.heap.size := by omega
 have yJ_16 : w6.heap.size < w16.heap.size := by omega
 have yBG_16 : w9.heap.size < w16.heap.size := by omega
 obtain ⟨Pc0, Pc1, Pc2, Pc3, Pc4, Pc5, Pc6, Pc7, Pc8, Pc9⟩ := P16.out.ten
 obtain ⟨BUc0, BUc1, BUc2, BUc3, BUc4, BUc5, BUc6, BUc7, BUc8, BUc9⟩ := BU16.out.ten
 obtain ⟨Jc0, Jc1, Jc2, Jc3, Jc4, Jc5, Jc6, Jc7, Jc8, Jc9⟩ := J16.out.ten
 obtain ⟨BGc0, BGc1, BGc2, BGc3, BGc4, BGc5, BGc6, BGc7, BGc8, BGc9⟩ := BG16.out.ten
 clear C16
 have hm1 : decide (1 + (X.marks : Int) < 0) = false := decide_eq_false (by omega)
 go_wp2_with fail
 refine (markMachine_any _ _ _ X 1 w16 X16.out (by omega) hb20 (by omega) (by omega)).mono ?_
 rintro e w17 ⟨rfl, hX, hc⟩
 clear X16
 clear Pc0 Pc1 Pc2 Pc3 Pc4 Pc5 Pc6 Pc7 Pc8 Pc9
 clear BUc0 BUc1 BUc2 BUc3 BUc4 BUc5 BUc6 BUc7 BUc8 BUc9
 clear Jc0 Jc1 Jc2 Jc3 Jc4 Jc5 Jc6 Jc7 Jc8 Jc9
 clear BGc0 BGc1 BGc2 BGc3 BGc4 BGc5 BGc6 BGc7 BGc8 BGc9
 have s17 : w16.heap.size ≤ w17.heap.size := hc.size
 have P17 := Lib.hid (P16.out.chg hc (by omega))
 have T17 := Lib.hid (T16.out.trans ((hc.below (by omega)).mono (by omega)))
 have V17 := Lib.hid (V16.out.chg hc (by omega) (by omega))
 have E_17 := Lib.hid (E_16.out.below (hc.below (by omega)) (by omega))
 have U17 := Lib.hid (U16.out.chg hc (by omega) (by omega))
 have R17 := Lib.hid (chg_ownS hc R16.out (fun x hx => by have := Rt x hx; omega))
 have BU17 := Lib.hid (BU16.out.chg hc (by omega))
 have J17 := Lib.hid (J16.out.chg hc (by omega))
 have B17 := Lib.hid (chg_ownS hc B16.out (fun x hx => by have := Bt x hx; omega))
 have G17 := Lib.hid (G16.out.chg hc (by unfold Off; omega))
 have Q17 := Lib.hid (chg_ownS hc Q16.out (fun x hx => by have := Qt x hx; omega))
 have BG17 := Lib.hid (BG16.out.chg hc (by omega))
 clear P16 T16 V16 E_16 U16 R16 BU16 J16 B16 G16 Q16 BG16
 clear hc
 have yP_17 : w.heap.size < w17.heap.size := by omega
 have yBU_17 : w4.heap.size < w17.heap.size := by omega
 have yJ_17 : w6.heap.size < w17.heap.size := by omega
 have yBG_17 : w9.heap.size < w17.heap.size := by omega
 clear hX
 obtain ⟨Pc0, Pc1, Pc2, Pc3, Pc4, Pc5, Pc6, Pc7, Pc8, Pc9⟩ := P17.out.ten
 obtain ⟨BUc0, BUc1, BUc2, BUc3, BUc4, BUc5, BUc6, BUc7, BUc8, BUc9⟩ := BU17.out.ten
 obtain ⟨Jc0, Jc1, Jc2, Jc3, Jc4, Jc5, Jc6, Jc7, Jc8, Jc9⟩ := J17.out.ten
 obtain ⟨BGc0, BGc1, BGc2, BGc3, BGc4, BGc5, BGc6, BGc7, BGc8, BGc9⟩ := BG17.out.ten
 go_wp2_with fail
 rw [show (1 + (X.marks : Int)) = ((1 + X.marks : Nat) : Int) from by push_cast; rfl]
 refine (markStringS_any _ n1 _ _ (1 + X.marks) ls9 w17 N1.out hn1b (by omega) (by omega) (by omega) B17.out).mono ?_
 rintro e w18 ⟨rfl, -, hg⟩
 have hc : Chg w7.heap.size w8.heap.size w17 w18 := Chg.of_grown hg (fun g hq => Bt g hq)
 clear hg
 clear B17
 clear Pc0 Pc1 Pc2 Pc3 Pc4 Pc5 Pc6 Pc7 Pc8 Pc9
 clear BUc0 BUc1 BUc2 BUc3 BUc4 BUc5 BUc6 BUc7 BUc8 BUc9
 clear Jc0 Jc1 Jc2 Jc3 Jc4 Jc5 Jc6 Jc7 Jc8 Jc9
 clear BGc0 BGc1 BGc2 BGc3 BGc4 BGc5 BGc6 BGc7 BGc8 BGc9
 have s18 : w17.heap.size ≤ w18.heap.size := hc.size
 have P18 := Lib.hid (P17.out.chg hc (by omega))
 have T18 := Lib.hid (T17.out.trans ((hc.below (by omega)).mono (by omega)))
 have V18 := Lib.hid (V17.out.chg hc (by omega) (by omega))
 have E_18 := Lib.hid (E_17.out.below (hc.below (by omega)) (by omega))
 have U18 := Lib.hid (U17.out.chg hc (by omega) (by omega))
 have R18 := Lib.hid (chg_ownS hc R17.out (fun x hx => by have := Rt x hx; omega))
 have BU18 := Lib.hid (BU17.out.chg hc (by omega))
 have J18 := Lib.hid (J17.out.chg hc (by omega))
 have G18 := Lib.hid (G17.out.chg hc (by unfold Off; omega))
 have Q18 := Lib.hid (chg_ownS hc Q17.out (fun x hx => by have := Qt x hx; omega))
 have BG18 := Lib.hid (BG17.out.chg hc (by omega))
 clear P17 T17 V17 E_17 U17 R17 BU17 J17 G17 Q17 BG17
 clear hc
 have yP_18 : w.heap.size < w18.heap.size := by omega
 have yBU_18 : w4.heap.size < w18.heap.size := by omega
 have yJ_18 : w6.heap.size < w18.heap.size := by omega
 have yBG_18 : w9.heap.size < w18.heap.size := by omega
 obtain ⟨Pc0, Pc1, Pc2, Pc3, Pc4, Pc5, Pc6, Pc7, Pc8, Pc9⟩ := P18.out.ten
 obtain ⟨BUc0, BUc1, BUc2, BUc3, BUc4, BUc5, BUc6, BUc7, BUc8, BUc9⟩ := BU18.out.ten
 obtain ⟨Jc0, Jc1, Jc2, Jc3, Jc4, Jc5, Jc6, Jc7, Jc8, Jc9⟩ := J18.out.ten
 obtain ⟨BGc0, BGc1, BGc2, BGc3, BGc4, BGc5, BGc6, BGc7, BGc8, BGc9⟩ := BG18.out.ten
 rw [show (((1 + X.marks + n1 : Nat) : Int)) = 1 + (X.marks : Int) + (n1 : Int) from by push_cast; rfl]
 have hm3 : decide (1 + (X.marks : Int) + (n1 : Int) < 0) = false := decide_eq_false (by omega)
 go_wp2_with fail
 refine (eqMachine_same _ _ _ _ _ _ Y w18 G18.out.mch.reads U18.out (by omega) (by omega) HSY.out).mono ?_
 rintro e w19 ⟨rfl, hb⟩
 clear Pc0 Pc1 Pc2 Pc3 Pc4 Pc5 Pc6 Pc7 Pc8 Pc9
 clear BUc0 BUc1 BUc2 BUc3 BUc4 BUc5 BUc6 BUc7 BUc8 BUc9
 clear Jc0 Jc1 Jc2 Jc3 Jc4 Jc5 Jc6 Jc7 Jc8 Jc9
 clear BGc0 BGc1 BGc2 BGc3 BGc4 BGc5 BGc6 BGc7 BGc8 BGc9
 have s19 : w18.heap.size ≤ w19.heap.size := hb.size
 have P19 := Lib.hid (P18.out.below hb (by omega))
 have T19 := Lib.hid (T18.out.trans (hb.mono (by omega)))
 have V19 := Lib.hid (V18.out.below (by omega) hb)
 have E_19 := Lib.hid (E_18.out.below hb (by omega))
 have U19 := Lib.hid (U18.out.below (by omega) hb)
 have R19 := Lib.hid (R18.out.below hb)
 have BU19 := Lib.hid (BU18.out.below hb (by omega))
 have J19 := Lib.hid (J18.out.below hb (by omega))
 have G19 := Lib.hid (G18.out.below hb)
 have Q19 := Lib.hid (Q18.out.below hb)
 have BG19 := Lib.hid (BG18.out.below hb (by omega))
 clear P18 T18 V18 E_18 U18 R18 BU18 J18 G18 Q18 BG18
 clear hb
 have yP_19 : w.heap.size < w19.heap.size := by omega
 have yBU_19 : w4.heap.size < w19.heap.size := by omega
 have yJ_19 : w6.heap.size < w19.heap.size := by omega
 have yBG_19 : w9.heap.size < w19.heap.size := by omega
 obtain ⟨Pc0, Pc1, Pc2, Pc3, Pc4, Pc5, Pc6, Pc7, Pc8, Pc9⟩ := P19.out.ten
 obtain ⟨BUc0, BUc1, BUc2, BUc3, BUc4, BUc5, BUc6, BUc7, BUc8, BUc9⟩ := BU19.out.ten
 obtain ⟨Jc0, Jc1, Jc2, Jc3, Jc4, Jc5, Jc6, Jc7, Jc8, Jc9⟩ := J19.out.ten
 obtain ⟨BGc0, BGc1, BGc2, BGc3, BGc4, BGc5, BGc6, BGc7, BGc8, BGc9⟩ := BG19.out.ten
 go_wp2_with fail
 refine (eqStringS_t _ _ _ _ _ zs w19 HN.out (by omega) (owns_read Q19.out) (owns_read R19.out)).mono ?_
 rintro e w20 ⟨rfl, hb⟩
 clear Pc0 Pc1 Pc2 Pc3 Pc4 Pc5 Pc6 Pc7 Pc8 Pc9
 clear BUc0 BUc1 BUc2 BUc3 BUc4 BUc5 BUc6 BUc7 BUc8 BUc9
 clear Jc0 Jc1 Jc2 Jc3 Jc4 Jc5 Jc6 Jc7 Jc8 Jc9
 clear BGc0 BGc1 BGc2 BGc3 BGc4 BGc5 BGc6 BGc7 BGc8 BGc9
 have s20 : w19.heap.size ≤ w20.heap.size := hb.size
 have P20 := Lib.hid (P19.out.below hb (by omega))
 have T20 := Lib.hid (T19.out.trans (hb.mono (by omega)))
 have V20 := Lib.hid (V19.out.below (by omega) hb)
 have E_20 := Lib.hid (E_19.out.below hb (by omega))
 have U20 := Lib.hid (U19.out.below (by omega) hb)
 have R20 := Lib.hid (R19.out.below hb)
 have BU20 := Lib.hid (BU19.out.below hb (by omega))
 have J20 := Lib.hid (J19.out.below hb (by omega))
 have G20 := Lib.hid (G19.out.below hb)
 have Q20 := Lib.hid (Q19.out.below hb)
 have BG20 := Lib.hid (BG19.out.below hb (by omega))
 clear P19 T19 V19 E_19 U19 R19 BU19 J19 G19 Q19 BG19
 clear hb
 have yP_20 : w.heap.size < w20.heap.size := by omega
 have yBU_20 : w4.heap.size < w20.heap.size := by omega
 have yJ_20 : w6.heap.size < w20.heap.size := by omega
 have yBG_20 : w9.heap.size < w20.heap.size := by omega
 obtain ⟨Pc0, Pc1, Pc2, Pc3, Pc4, Pc5, Pc6, Pc7, Pc8, Pc9⟩ := P20.out.ten
 obtain ⟨BUc0, BUc1, BUc2, BUc3, BUc4, BUc5, BUc6, BUc7, BUc8, BUc9⟩ := BU20.out.ten
 obtain ⟨Jc0, Jc1, Jc2, Jc3, Jc4, Jc5, Jc6, Jc7, Jc8, Jc9⟩ := J20.out.ten
 obtain ⟨BGc0, BGc1, BGc2, BGc3, BGc4, BGc5, BGc6, BGc7, BGc8, BGc9⟩ := BG20.out.ten
 have hm2 : decide (1 + (Y.marks : Int) < 0) = false := decide_eq_false (by omega)
 go_wp2_with fail
 refine (markMachineYA_any _ _ _ _ Y 1 w20 G20.out (fun g hg => (owns_top Q20.out g hg).2) (by omega) (by omega) (by omega) (by omega)).mono ?_
 rintro e w21 ⟨rfl, hX, hc, hk9⟩
 have HQ21 := Lib.hid (Q20.out.stay hk9)
 clear hk9
 clear G20
 clear Q20
 clear Pc0 Pc1 Pc2 Pc3 Pc4 Pc5 Pc6 Pc7 Pc8 Pc9
 clear BUc0 BUc1 BUc2 BUc3 BUc4 BUc5 BUc6 BUc7 BUc8 BUc9
 clear Jc0 Jc1 Jc2 Jc3 Jc4 Jc5 Jc6 Jc7 Jc8 Jc9
 clear BGc0 BGc1 BGc2 BGc3 BGc4 BGc5 BGc6 BGc7 BGc8 BGc9
 have s21 : w20.heap.size ≤ w21.heap.size := hc.size
 have P21 := Lib.hid (P20.out.chg hc (by omega))
 have T21 := Lib.hid (T20.out.trans ((hc.below (by omega)).mono (by omega)))
 have V21 := Lib.hid (V20.out.chg hc (by omega) (by omega))
 have E_21 := Lib.hid (E_20.out.below (hc.below (by omega)) (by omega))
 have U21 := Lib.hid (U20.out.chg hc (by omega) (by omega))
 have R21 := Lib.hid (chg_ownS hc R20.out (fun x hx => by have := Rt x hx; omega))
 have BU21 := Lib.hid (BU20.out.chg hc (by omega))
 have J21 := Lib.hid (J20.out.chg hc (by omega))
 have BG21 := Lib.hid (BG20.out.chg hc (by omega))
 clear P20 T20 V20 E_20 U20 R20 BU20 J20 BG20
 clear hc
 have yP_21 : w.heap.size < w21.heap.size := by omega
 have yBU_21 : w4.heap.size < w21.heap.size := by omega
 have yJ_21 : w6.heap.size < w21.heap.size := by omega
 have yBG_21 : w9.heap.size < w21.heap.size := by omega
 have G21 := Lib.hid (hX)
 have Q21 := HQ21
 clear HQ21 hX
 obtain ⟨Pc0, Pc1, Pc2, Pc3, Pc4, Pc5, Pc6, Pc7, Pc8, Pc9⟩ := P21.out.ten
 obtain ⟨BUc0, BUc1, BUc2, BUc3, BUc4, BUc5, BUc6, BUc7, BUc8, BUc9⟩ := BU21.out.ten
 obtain ⟨Jc0, Jc1, Jc2, Jc3, Jc4, Jc5, Jc6, Jc7, Jc8, Jc9⟩ := J21.out.ten
 obtain ⟨BGc0, BGc1, BGc2, BGc3, BGc4, BGc5, BGc6, BGc7, BGc8, BGc9⟩ := BG21.out.ten
 go_wp2_with fail
 rw [show (1 + (Y.marks : Int)) = ((1 + Y.marks : Nat) : Int) from by push_cast; rfl]
 refine (markStringS_any _ nn _ _ (1 + Y.marks) zs w21 HN.out (by omega) (by omega) (by omega) (by omega) Q21.out).mono ?_
 rintro e w22 ⟨rfl, hU, hg⟩
 have HG22 := Lib.hid (G21.out.row hg)
 have hc : Chg w8.heap.size w9.heap.size w21 w22 := Chg.of_grown hg (fun g hq => Qt g hq)
 clear hg
 clear G21
 clear Q21
 clear Pc0 Pc1 Pc2 Pc3 Pc4 Pc5 Pc6 Pc7 Pc8 Pc9
 clear BUc0 BUc1 BUc2 BUc3 BUc4 BUc5 BUc6 BUc7 BUc8 BUc9
 clear Jc0 Jc1 Jc2 Jc3 Jc4 Jc5 Jc6 Jc7 Jc8 Jc9
 clear BGc0 BGc1 BGc2 BGc3 BGc4 BGc5 BGc6 BGc7 BGc8 BGc9
 have s22 : w21.heap.size ≤ w22.heap.size := hc.size
 have P22 := Lib.hid (P21.out.chg hc (by omega))
 have T22 := Lib.hid (T21.out.trans ((hc.below (by omega)).mono (by omega)))
 have V22 := Lib.hid (V21.out.chg hc (by omega) (by omega))
 have E_22 := Lib.hid (E_21.out.below (hc.below (by omega)) (by omega))
 have U22 := Lib.hid (U21.out.chg hc (by omega) (by omega))
 have R22 := Lib.hid (chg_ownS hc R21.out (fun x hx => by have := Rt x hx; omega))
 have BU22 := Lib.hid (BU21.out.chg hc (by omega))
 have J22 := Lib.hid (J21.out.chg hc (by omega))
 have BG22 := Lib.hid (BG21.out.chg hc (by omega))
 clear P21 T21 V21 E_21 U21 R21 BU21 J21 BG21
 clear hc
 have yP_22 : w.heap.size < w22.heap.size := by omega
 have yBU_22 : w4.heap.size < w22.heap.size := by omega
 have yJ_22 : w6.heap.size < w22.heap.size := by omega
 have yBG_22 : w9.heap.size < w22.heap.size := by omega
 have Q22 := Lib.hid (hU)
 have G22 := HG22
 clear HG22 hU
 obtain ⟨Pc0, Pc1, Pc2, Pc3, Pc4, Pc5, Pc6, Pc7, Pc8, Pc9⟩ := P22.out.ten
 obtain ⟨BUc0, BUc1, BUc2, BUc3, BUc4, BUc5, BUc6, BUc7, BUc8, BUc9⟩ := BU22.out.ten
 obtain ⟨Jc0, Jc1, Jc2, Jc3, Jc4, Jc5, Jc6, Jc7, Jc8, Jc9⟩ := J22.out.ten
 obtain ⟨BGc0, BGc1, BGc2, BGc3, BGc4, BGc5, BGc6, BGc7, BGc8, BGc9⟩ := BG22.out.ten
 rw [show (((1 + Y.marks + nn : Nat) : Int)) = 1 + (Y.marks : Int) + (nn : Int) from by push_cast; rfl]
 have hm4 : decide (1 + (Y.marks : Int) + (nn : Int) < 0) = false := decide_eq_false (by omega)
 have hne2 : ((1 + (Y.marks : Int) + (nn : Int)) != (1 + (Y.marks : Int) + (nn : Int))) = false := by simp
 go_wp2_with fail
 refine (heldMachine_any _ _ _ Y 1 w22 G22.out.mch.reads (by omega) hYb (by omega) (by omega)).mono ?_
 rintro e w23 ⟨rfl, hb⟩
 clear Pc0 Pc1 Pc2 Pc3 Pc4 Pc5 Pc6 Pc7 Pc8 Pc9
 clear BUc0 BUc1 BUc2 BUc3 BUc4 BUc5 BUc6 BUc7 BUc8 BUc9
 clear Jc0 Jc1 Jc2 Jc3 Jc4 Jc5 Jc6 Jc7 Jc8 Jc9
 clear BGc0 BGc1 BGc2 BGc3 BGc4 BGc5 BGc6 BGc7 BGc8 BGc9
 have s23 : w22.heap.size ≤ w23.heap.size := hb.size
 have P23 := Lib.hid (P22.out.below hb (by omega))
 have T23 := Lib.hid (T22.out.trans (hb.mono (by omega)))
 have V23 := Lib.hid (V22.out.below (by omega) hb)
 have E_23 := Lib.hid (E_22.out.below hb (by omega))
 have U23 := Lib.hid (U22.out.below (by omega) hb)
 have R23 := Lib.hid (R22.out.below hb)
 have BU23 := Lib.hid (BU22.out.below hb (by omega))
 have J23 := Lib.hid (J22.out.below hb (by omega))
 have BG23 := Lib.hid (BG22.out.below hb (by omega))
 have Q23 := Lib.hid (Q22.out.below hb)
 have G23 := Lib.hid (G22.out.below hb)
 clear P22 T22 V22 E_22 U22 R22 BU22 J22 BG22 Q22 G22
 clear hb
 have yP_23 : w.heap.size < w23.heap.size := by omega
 have yBU_23 : w4.heap.size < w23.heap.size := by omega
 have yJ_23 : w6.heap.size < w23.heap.size := by omega
 have yBG_23 : w9.heap.size < w23.heap.size := by omega
 obtain ⟨Pc0, Pc1, Pc2, Pc3, Pc4, Pc5, Pc6, Pc7, Pc8, Pc9⟩ := P23.out.ten
 obtain ⟨BUc0, BUc1, BUc2, BUc3, BUc4, BUc5, BUc6, BUc7, BUc8, BUc9⟩ := BU23.out.ten
 obtain ⟨Jc0, Jc1, Jc2, Jc3, Jc4, Jc5, Jc6, Jc7, Jc8, Jc9⟩ := J23.out.ten
 obtain ⟨BGc0, BGc1, BGc2, BGc3, BGc4, BGc5, BGc6, BGc7, BGc8, BGc9⟩ := BG23.out.ten
 go_wp2_with fail
 rw [show (1 + (Y.marks : Int)) = ((1 + Y.marks : Nat) : Int) from by push_cast; rfl]
 refine (heldStringS_any _ nn _ (1 + Y.marks) w23 (by omega) (by omega) (by omega) (owns_read Q23.out)).mono ?_
 rintro e w24 ⟨rfl, hb⟩
 rw [show (((1 + Y.marks + nn : Nat) : Int)) = 1 + (Y.marks : Int) + (nn : Int) from by push_cast; rfl]
 clear Pc0 Pc1 Pc2 Pc3 Pc4 Pc5 Pc6 Pc7 Pc8 Pc9
 clear BUc0 BUc1 BUc2 BUc3 BUc4 BUc5 BUc6 BUc7 BUc8 BUc9
 clear Jc0 Jc1 Jc2 Jc3 Jc4 Jc5 Jc6 Jc7 Jc8 Jc9
 clear BGc0 BGc1 BGc2 BGc3 BGc4 BGc5 BGc6 BGc7 BGc8 BGc9
 have s24 : w23.heap.size ≤ w24.heap.size := hb.size
 have P24 := Lib.hid (P23.out.below hb (by omega))
 have T24 := Lib.hid (T23.out.trans (hb.mono (by omega)))
 have V24 := Lib.hid (V23.out.below (by omega) hb)
 have E_24 := Lib.hid (E_23.out.below hb (by omega))
 have U24 := Lib.hid (U23.out.below (by omega) hb)
 have R24 := Lib.hid (R23.out.below hb)
 have BU24 := Lib.hid (BU23.out.below hb (by omega))
 have J24 := Lib.hid (J23.out.below hb (by omega))
 have BG24 := Lib.hid (BG23.out.below hb (by omega))
 have Q24 := Lib.hid (Q23.out.below hb)
 have G24 := Lib.hid (G23.out.below hb)
 clear P23 T23 V23 E_23 U23 R23 BU23 J23 BG23 Q23 G23
 clear hb
 have yP_24 : w.heap.size < w24.heap.size := by omega
 have yBU_24 : w4.heap.size < w24.heap.size := by omega
 have yJ_24 : w6.heap.size < w24.heap.size := by omega
 have yBG_24 : w9.heap.size < w24.heap.size := by omega
 obtain ⟨Pc0, Pc1, Pc2, Pc3, Pc4, Pc5, Pc6, Pc7, Pc8, Pc9⟩ := P24.out.ten
 obtain ⟨BUc0, BUc1, BUc2, BUc3, BUc4, BUc5, BUc6, BUc7, BUc8, BUc9⟩ := BU24.out.ten
 obtain ⟨Jc0, Jc1, Jc2, Jc3, Jc4, Jc5, Jc6, Jc7, Jc8, Jc9⟩ := J24.out.ten
 obtain ⟨BGc0, BGc1, BGc2, BGc3, BGc4, BGc5, BGc6, BGc7, BGc8, BGc9⟩ := BG24.out.ten
 go_wp2_with fail
 refine (toMachine_any lo hi _ X w24 V24.out (by omega) HS.out).mono ?_
 rintro e w25 ⟨vq, rfl, hO, hb⟩
 obtain ⟨sq, Aq, nq, cq, Bq, mq, dq, Mq, qq, eq, spq, Wq, tq, kq, Lq, lq, fq, Tq, rq, gq, rfl⟩ := hO.reads.form
 clear Pc0 Pc1 Pc2 Pc3 Pc4 Pc5 Pc6 Pc7 Pc8 Pc9
 clear BUc0 BUc1 BUc2 BUc3 BUc4 BUc5 BUc6 BUc7 BUc8 BUc9
 clear Jc0 Jc1 Jc2 Jc3 Jc4 Jc5 Jc6 Jc7 Jc8 Jc9
 clear BGc0 BGc1 BGc2 BGc3 BGc4 BGc5 BGc6 BGc7 BGc8 BGc9
 have s25 : w24.heap.size ≤ w25.heap.size := hb.size
 have P25 := Lib.hid (P24.out.below hb (by omega))
 have T25 := Lib.hid (T24.out.trans (hb.mono (by omega)))
 have V25 := Lib.hid (V24.out.below (by omega) hb)
 have E_25 := Lib.hid (E_24.out.below hb (by omega))
 have U25 := Lib.hid (U24.out.below (by omega) hb)
 have R25 := Lib.hid (R24.out.below hb)
 have BU25 := Lib.hid (BU24.out.below hb (by omega))
 have J25 := Lib.hid (J24.out.below hb (by omega))
 have BG25 := Lib.hid (BG24.out.below hb (by omega))
 have Q25 := Lib.hid (Q24.out.below hb)
 have G25 := Lib.hid (G24.out.below hb)
 clear P24 T24 V24 E_24 U24 R24 BU24 J24 BG24 Q24 G24
 clear hb
 have yP_25 : w.heap.size < w25.heap.size := by omega
 have yBU_25 : w4.heap.size < w25.heap.size := by omega
 have yJ_25 : w6.heap.size < w25.heap.size := by omega
 have yBG_25 : w9.heap.size < w25.heap.size := by omega
 have S25 := Lib.hid (hO)
 obtain ⟨Pc0, Pc1, Pc2, Pc3, Pc4, Pc5, Pc6, Pc7, Pc8, Pc9⟩ := P25.out.ten
 obtain ⟨BUc0, BUc1, BUc2, BUc3, BUc4, BUc5, BUc6, BUc7, BUc8, BUc9⟩ := BU25.out.ten
 obtain ⟨Jc0, Jc1, Jc2, Jc3, Jc4, Jc5, Jc6, Jc7, Jc8, Jc9⟩ := J25.out.ten
 obtain ⟨BGc0, BGc1, BGc2, BGc3, BGc4, BGc5, BGc6, BGc7, BGc8, BGc9⟩ := BG25.out.ten
 clear hO
 go_wp2_with fail
 refine (toStringS_o A1 n1 c1 ls9 w25 N1.out hn1b (Strs.below H1.out T25.out)).mono ?_
 rintro e w26 ⟨Ed, xd, rfl, hO, -, -, hb⟩
 have At := owns_top hO
 clear Pc0 Pc1 Pc2 Pc3 Pc4 Pc5 Pc6 Pc7 Pc8 Pc9
 clear BUc0 BUc1 BUc2 BUc3 BUc4 BUc5 BUc6 BUc7 BUc8 BUc9
 clear Jc0 Jc1 Jc2 Jc3 Jc4 Jc5 Jc6 Jc7 Jc8 Jc9
 clear BGc0 BGc1 BGc2 BGc3 BGc4 BGc5 BGc6 BGc7 BGc8 BGc9
 have s26 : w25.heap.size ≤ w26.heap.size := hb.size
 have P26 := Lib.hid (P25.out.below hb (by omega))
 have T26 := Lib.hid (T25.out.trans (hb.mono (by omega)))
 have V26 := Lib.hid (V25.out.below (by omega) hb)
 have E_26 := Lib.hid (E_25.out.below hb (by omega))
 have U26 := Lib.hid (U25.out.below (by omega) hb)
 have R26 := Lib.hid (R25.out.below hb)
 have BU26 := Lib.hid (BU25.out.below hb (by omega))
 have J26 := Lib.hid (J25.out.below hb (by omega))
 have BG26 := Lib.hid (BG25.out.below hb (by omega))
 have Q26 := Lib.hid (Q25.out.below hb)
 have G26 := Lib.hid (G25.out.below hb)
 have S26 := Lib.hid (S25.out.below hb)
 clear P25 T25 V25 E_25 U25 R25 BU25 J25 BG25 Q25 G25 S25
 clear hb
 have yP_26 : w.heap.size < w26.heap.size := by omega
 have yBU_26 : w4.heap.size < w26.heap.size := by omega
 have yJ_26 : w6.heap.size < w26.heap.size := by omega
 have yBG_26 : w9.heap.size < w26.heap.size := by omega
 have A26 := Lib.hid (hO)
 obtain ⟨Pc0, Pc1, Pc2, Pc3, Pc4, Pc5, Pc6, Pc7, Pc8, Pc9⟩ := P26.out.ten
 obtain ⟨BUc0, BUc1, BUc2, BUc3, BUc4, BUc5, BUc6, BUc7, BUc8, BUc9⟩ := BU26.out.ten
 obtain ⟨Jc0, Jc1, Jc2, Jc3, Jc4, Jc5, Jc6, Jc7, Jc8, Jc9⟩ := J26.out.ten
 obtain ⟨BGc0, BGc1, BGc2, BGc3, BGc4, BGc5, BGc6, BGc7, BGc8, BGc9⟩ := BG26.out.ten
 clear hO
 go_wp2_with fail
 refine (implSet_any _ _ _ X _ n1 _ ls9 w26 S26.out.reads (by omega) HS.out HWf.out N1.out hn1b (owns_read A26.out) WF1.out z (E_26.out.wide (by omega))).mono ?_
 rintro e w27 ⟨v', vp, rfl, hO, hU, hb⟩
 rw [HY.out] at hO
 rw [Hzs.out] at hU
 rw [Hok.out]
 obtain ⟨sh, Ah, nh, ch, Bh, mh, dh, Mh, qh, eh, sph, Wh, th, kh, Lh, lh, fh, Th, rh, gh, rfl⟩ := hO.mch.reads.form
 obtain ⟨Eh, xh, rfl, -, -, -, -⟩ := hU.form
 rw [HN.out] at hU hO
 rw [HN.out]
 have Kt := owns_top hU
 clear Pc0 Pc1 Pc2 Pc3 Pc4 Pc5 Pc6 Pc7 Pc8 Pc9
 clear BUc0 BUc1 BUc2 BUc3 BUc4 BUc5 BUc6 BUc7 BUc8 BUc9
 clear Jc0 Jc1 Jc2 Jc3 Jc4 Jc5 Jc6 Jc7 Jc8 Jc9
 clear BGc0 BGc1 BGc2 BGc3 BGc4 BGc5 BGc6 BGc7 BGc8 BGc9
 have s27 : w26.heap.size ≤ w27.heap.size := hb.size
 have P27 := Lib.hid (P26.out.below hb (by omega))
 have T27 := Lib.hid (T26.out.trans (hb.mono (by omega)))
 have V27 := Lib.hid (V26.out.below (by omega) hb)
 have E_27 := Lib.hid (E_26.out.below hb (by omega))
 have U27 := Lib.hid (U26.out.below (by omega) hb)
 have R27 := Lib.hid (R26.out.below hb)
 have BU27 := Lib.hid (BU26.out.below hb (by omega))
 have J27 := Lib.hid (J26.out.below hb (by omega))
 have BG27 := Lib.hid (BG26.out.below hb (by omega))
 have Q27 := Lib.hid (Q26.out.below hb)
 have G27 := Lib.hid (G26.out.below hb)
 have S27 := Lib.hid (S26.out.below hb)
 have A27 := Lib.hid (A26.out.below hb)
 clear P26 T26 V26 E_26 U26 R26 BU26 J26 BG26 Q26 G26 S26 A26
 clear hb
 have yP_27 : w.heap.size < w27.heap.size := by omega
 have yBU_27 : w4.heap.size < w27.heap.size := by omega
 have yJ_27 : w6.heap.size < w27.heap.size := by omega
 have yBG_27 : w9.heap.size < w27.heap.size := by omega
 have W27 := Lib.hid (hO)
 have K27 := Lib.hid (hU)
 obtain ⟨Pc0, Pc1, Pc2, Pc3, Pc4, Pc5, Pc6, Pc7, Pc8, Pc9⟩ := P27.out.ten
 obtain ⟨BUc0, BUc1, BUc2, BUc3, BUc4, BUc5, BUc6, BUc7, BUc8, BUc9⟩ := BU27.out.ten
 obtain ⟨Jc0, Jc1, Jc2, Jc3, Jc4, Jc5, Jc6, Jc7, Jc8, Jc9⟩ := J27.out.ten
 obtain ⟨BGc0, BGc1, BGc2, BGc3, BGc4, BGc5, BGc6, BGc7, BGc8, BGc9⟩ := BG27.out.ten
 clear hO hU
 clear S27
 clear A27
 go_wp2_with fail
 obtain ⟨w28, hw, hb, hz, hK⟩ := mxWorld w27 #[.string sh, .slice Ah nh ch, .slice Bh mh dh, .slice Mh qh eh, .int .i64 sph, .int .i64 Wh, .int .i64 th, .int .i64 kh, .slice Lh lh fh, .slice Th rh gh] 37
 rw [hw]
 clear hw hz
 clear Pc0 Pc1 Pc2 Pc3 Pc4 Pc5 Pc6 Pc7 Pc8 Pc9
 clear BUc0 BUc1 BUc2 BUc3 BUc4 BUc5 BUc6 BUc7 BUc8 BUc9
 clear Jc0 Jc1 Jc2 Jc3 Jc4 Jc5 Jc6 Jc7 Jc8 Jc9
 clear BGc0 BGc1 BGc2 BGc3 BGc4 BGc5 BGc6 BGc7 BGc8 BGc9
 have s28 : w27.heap.size ≤ w28.heap.size := hb.size
 have P28 := Lib.hid (P27.out.below hb (by omega))
 have T28 := Lib.hid (T27.out.trans (hb.mono (by omega)))
 have V28 := Lib.hid (V27.out.below (by omega) hb)
 have E_28 := Lib.hid (E_27.out.below hb (by omega))
 have U28 := Lib.hid (U27.out.below (by omega) hb)
 have R28 := Lib.hid (R27.out.below hb)
 have BU28 := Lib.hid (BU27.out.below hb (by omega))
 have J28 := Lib.hid (J27.out.below hb (by omega))
 have BG28 := Lib.hid (BG27.out.below hb (by omega))
 have Q28 := Lib.hid (Q27.out.below hb)
 have G28 := Lib.hid (G27.out.below hb)
 have W28 := Lib.hid (W27.out.below hb)
 have K28 := Lib.hid (K27.out.below hb)
 clear P27 T27 V27 E_27 U27 R27 BU27 J27 BG27 Q27 G27 W27 K27
 clear hb
 have yP_28 : w.heap.size < w28.heap.size := by omega
 have yBU_28 : w4.heap.size < w28.heap.size := by omega
 have yJ_28 : w6.heap.size < w28.heap.size := by omega
 have yBG_28 : w9.heap.size < w28.heap.size := by omega
 have BE28 := Lib.hid (hK)
 have yBE : w27.heap.size < w28.heap.size := hK.lt
 clear hK
 obtain ⟨Pc0, Pc1, Pc2, Pc3, Pc4, Pc5, Pc6, Pc7, Pc8, Pc9⟩ := P28.out.ten
 obtain ⟨BUc0, BUc1, BUc2, BUc3, BUc4, BUc5, BUc6, BUc7, BUc8, BUc9⟩ := BU28.out.ten
 obtain ⟨Jc0, Jc1, Jc2, Jc3, Jc4, Jc5, Jc6, Jc7, Jc8, Jc9⟩ := J28.out.ten
 obtain ⟨BGc0, BGc1, BGc2, BGc3, BGc4, BGc5, BGc6, BGc7, BGc8, BGc9⟩ := BG28.out.ten
 obtain ⟨BEc0, BEc1, BEc2, BEc3, BEc4, BEc5, BEc6, BEc7, BEc8, BEc9⟩ := BE28.out.ten
 refine (eqMachine_same _ _ _ _ _ _ Y w28 W28.out.mch.reads U28.out (by omega) (by omega) HSY.out).mono ?_
 rintro e w29 ⟨rfl, hb⟩
 clear Pc0 Pc1 Pc2 Pc3 Pc4 Pc5 Pc6 Pc7 Pc8 Pc9
 clear BUc0 BUc1 BUc2 BUc3 BUc4 BUc5 BUc6 BUc7 BUc8 BUc9
 clear Jc0 Jc1 Jc2 Jc3 Jc4 Jc5 Jc6 Jc7 Jc8 Jc9
 clear BGc0 BGc1 BGc2 BGc3 BGc4 BGc5 BGc6 BGc7 BGc8 BGc9
 clear BEc0 BEc1 BEc2 BEc3 BEc4 BEc5 BEc6 BEc7 BEc8 BEc9
 have s29 : w28.heap.size ≤ w29.heap.size := hb.size
 have P29 := Lib.hid (P28.out.below hb (by omega))
 have T29 := Lib.hid (T28.out.trans (hb.mono (by omega)))
 have V29 := Lib.hid (V28.out.below (by omega) hb)
 have E_29 := Lib.hid (E_28.out.below hb (by omega))
 have U29 := Lib.hid (U28.out.below (by omega) hb)
 have R29 := Lib.hid (R28.out.below hb)
 have BU29 := Lib.hid (BU28.out.below hb (by omega))
 have J29 := Lib.hid (J28.out.below hb (by omega))
 have BG29 := Lib.hid (BG28.out.below hb (by omega))
 have Q29 := Lib.hid (Q28.out.below hb)
 have G29 := Lib.hid (G28.out.below hb)
 have W29 := Lib.hid (W28.out.below hb)
 have K29 := Lib.hid (K28.out.below hb)
 have BE29 := Lib.hid (BE28.out.below hb (by omega))
 clear P28 T28 V28 E_28 U28 R28 BU28 J28 BG28 Q28 G28 W28 K28 BE28
 clear hb
 have yP_29 : w.heap.size < w29.heap.size := by omega
 have yBU_29 : w4.heap.size < w29.heap.size := by omega
 have yJ_29 : w6.heap.size < w29.heap.size := by omega
 have yBG_29 : w9.heap.size < w29.heap.size := by omega
 have yBE_29 : w27.heap.size < w29.heap.size := by omega
 obtain ⟨Pc0, Pc1, Pc2, Pc3, Pc4, Pc5, Pc6, Pc7, Pc8, Pc9⟩ := P29.out.ten
 obtain ⟨BUc0, BUc1, BUc2, BUc3, BUc4, BUc5, BUc6, BUc7, BUc8, BUc9⟩ := BU29.out.ten
 obtain ⟨Jc0, Jc1, Jc2, Jc3, Jc4, Jc5, Jc6, Jc7, Jc8, Jc9⟩ := J29.out.ten
 obtain ⟨BGc0, BGc1, BGc2, BGc3, BGc4, BGc5, BGc6, BGc7, BGc8, BGc9⟩ := BG29.out.ten
 obtain ⟨BEc0, BEc1, BEc2, BEc3, BEc4, BEc5, BEc6, BEc7, BEc8, BEc9⟩ := BE29.out.ten
 go_wp2_with fail
 refine (eqStringS_t _ _ _ _ _ zs w29 HN.out (by omega) (owns_read K29.out) (owns_read R29.out)).mono ?_
 rintro e w30 ⟨rfl, hb⟩
 clear Pc0 Pc1 Pc2 Pc3 Pc4 Pc5 Pc6 Pc7 Pc8 Pc9
 clear BUc0 BUc1 BUc2 BUc3 BUc4 BUc5 BUc6 BUc7 BUc8 BUc9
 clear Jc0 Jc1 Jc2 Jc3 Jc4 Jc5 Jc6 Jc7 Jc8 Jc9
 clear BGc0 BGc1 BGc2 BGc3 BGc4 BGc5 BGc6 BGc7 BGc8 BGc9
 clear BEc0 BEc1 BEc2 BEc3 BEc4 BEc5 BEc6 BEc7 BEc8 BEc9
 have s30 : w29.heap.size ≤ w30.heap.size := hb.size
 have P30 := Lib.hid (P29.out.below hb (by omega))
 have T30 := Lib.hid (T29.out.trans (hb.mono (by omega)))
 have V30 := Lib.hid (V29.out.below (by omega) hb)
 have E_30 := Lib.hid (E_29.out.below hb (by omega))
 have U30 := Lib.hid (U29.out.below (by omega) hb)
 have R30 := Lib.hid (R29.out.below hb)
 have BU30 := Lib.hid (BU29.out.below hb (by omega))
 have J30 := Lib.hid (J29.out.below hb (by omega))
 have BG30 := Lib.hid (BG29.out.below hb (by omega))
 have Q30 := Lib.hid (Q29.out.below hb)
 have G30 := Lib.hid (G29.out.below hb)
 have W30 := Lib.hid (W29.out.below hb)
 have K30 := Lib.hid (K29.out.below hb)
 have BE30 := Lib.hid (BE29.out.below hb (by omega))
 clear P29 T29 V29 E_29 U29 R29 BU29 J29 BG29 Q29 G29 W29 K29 BE29
 clear hb
 have yP_30 : w.heap.size < w30.heap.size := by omega
 have yBU_30 : w4.heap.size < w30.heap.size := by omega
 have yJ_30 : w6.heap.size < w30.heap.size := by omega
 have yBG_30 : w9.heap.size < w30.heap.size := by omega
 have yBE_30 : w27.heap.size < w30.heap.size := by omega
 obtain ⟨Pc0, Pc1, Pc2, Pc3, Pc4, Pc5, Pc6, Pc7, Pc8, Pc9⟩ := P30.out.ten
 obtain ⟨BUc0, BUc1, BUc2, BUc3, BUc4, BUc5, BUc6, BUc7, BUc8, BUc9⟩ := BU30.out.ten
 obtain ⟨Jc0, Jc1, Jc2, Jc3, Jc4, Jc5, Jc6, Jc7, Jc8, Jc9⟩ := J30.out.ten
 obtain ⟨BGc0, BGc1, BGc2, BGc3, BGc4, BGc5, BGc6, BGc7, BGc8, BGc9⟩ := BG30.out.ten
 obtain ⟨BEc0, BEc1, BEc2, BEc3, BEc4, BEc5, BEc6, BEc7, BEc8, BEc9⟩ := BE30.out.ten
 go_wp2_with fail
 refine (heldMachine_any _ _ _ Y 1 w30 G30.out.mch.reads (by omega) hYb (by omega) (by omega)).mono ?_
 rintro e w31 ⟨rfl, hb⟩
 clear Pc0 Pc1 Pc2 Pc3 Pc4 Pc5 Pc6 Pc7 Pc8 Pc9
 clear BUc0 BUc1 BUc2 BUc3 BUc4 BUc5 BUc6 BUc7 BUc8 BUc9
 clear Jc0 Jc1 Jc2 Jc3 Jc4 Jc5 Jc6 Jc7 Jc8 Jc9
 clear BGc0 BGc1 BGc2 BGc3 BGc4 BGc5 BGc6 BGc7 BGc8 BGc9
 clear BEc0 BEc1 BEc2 BEc3 BEc4 BEc5 BEc6 BEc7 BEc8 BEc9
 have s31 : w30.heap.size ≤ w31.heap.size := hb.size
 have P31 := Lib.hid (P30.out.below hb (by omega))
 have T31 := Lib.hid (T30.out.trans (hb.mono (by omega)))
 have V31 := Lib.hid (V30.out.below (by omega) hb)
 have E_31 := Lib.hid (E_30.out.below hb (by omega))
 have U31 := Lib.hid (U30.out.below (by omega) hb)
 have R31 := Lib.hid (R30.out.below hb)
 have BU31 := Lib.hid (BU30.out.below hb (by omega))
 have J31 := Lib.hid (J30.out.below hb (by omega))
 have BG31 := Lib.hid (BG30.out.below hb (by omega))
 have Q31 := Lib.hid (Q30.out.below hb)
 have G31 := Lib.hid (G30.out.below hb)
 have W31 := Lib.hid (W30.out.below hb)
 have K31 := Lib.hid (K30.out.below hb)
 have BE31 := Lib.hid (BE30.out.below hb (by omega))
 clear P30 T30 V30 E_30 U30 R30 BU30 J30 BG30 Q30 G30 W30 K30 BE30
 clear hb
 have yP_31 : w.heap.size < w31.heap.size := by omega
 have yBU_31 : w4.heap.size < w31.heap.size := by omega
 have yJ_31 : w6.heap.size < w31.heap.size := by omega
 have yBG_31 : w9.heap.size < w31.heap.size := by omega
 have yBE_31 : w27.heap.size < w31.heap.size := by omega
 obtain ⟨Pc0, Pc1, Pc2, Pc3, Pc4, Pc5, Pc6, Pc7, Pc8, Pc9⟩ := P31.out.ten
 obtain ⟨BUc0, BUc1, BUc2, BUc3, BUc4, BUc5, BUc6, BUc7, BUc8, BUc9⟩ := BU31.out.ten
 obtain ⟨Jc0, Jc1, Jc2, Jc3, Jc4, Jc5, Jc6, Jc7, Jc8, Jc9⟩ := J31.out.ten
 obtain ⟨BGc0, BGc1, BGc2, BGc3, BGc4, BGc5, BGc6, BGc7, BGc8, BGc9⟩ := BG31.out.ten
 obtain ⟨BEc0, BEc1, BEc2, BEc3, BEc4, BEc5, BEc6, BEc7, BEc8, BEc9⟩ := BE31.out.ten
 go_wp2_with fail
 rw [show (1 + (Y.marks : Int)) = ((1 + Y.marks : Nat) : Int) from by push_cast; rfl]
 refine (heldStringS_any _ nn _ (1 + Y.marks) w31 (by omega) (by omega) (by omega) (owns_read Q31.out)).mono ?_
 rintro e w32 ⟨rfl, hb⟩
 rw [show (((1 + Y.marks + nn : Nat) : Int)) = 1 + (Y.marks : Int) + (nn : Int) from by push_cast; rfl]
 clear Pc0 Pc1 Pc2 Pc3 Pc4 Pc5 Pc6 Pc7 Pc8 Pc9
 clear BUc0 BUc1 BUc2 BUc3 BUc4 BUc5 BUc6 BUc7 BUc8 BUc9
 clear Jc0 Jc1 Jc2 Jc3 Jc4 Jc5 Jc6 Jc7 Jc8 Jc9
 clear BGc0 BGc1 BGc2 BGc3 BGc4 BGc5 BGc6 BGc7 BGc8 BGc9
 clear BEc0 BEc1 BEc2 BEc3 BEc4 BEc5 BEc6 BEc7 BEc8 BEc9
 have s32 : w31.heap.size ≤ w32.heap.size := hb.size
 have P32 := Lib.hid (P31.out.below hb (by omega))
 have T32 := Lib.hid (T31.out.trans (hb.mono (by omega)))
 have V32 := Lib.hid (V31.out.below (by omega) hb)
 have E_32 := Lib.hid (E_31.out.below hb (by omega))
 have U32 := Lib.hid (U31.out.below (by omega) hb)
 have R32 := Lib.hid (R31.out.below hb)
 have BU32 := Lib.hid (BU31.out.below hb (by omega))
 have J32 := Lib.hid (J31.out.below hb (by omega))
 have BG32 := Lib.hid (BG31.out.below hb (by omega))
 have Q32 := Lib.hid (Q31.out.below hb)
 have G32 := Lib.hid (G31.out.below hb)
 have W32 := Lib.hid (W31.out.below hb)
 have K32 := Lib.hid (K31.out.below hb)
 have BE32 := Lib.hid (BE31.out.below hb (by omega))
 clear P31 T31 V31 E_31 U31 R31 BU31 J31 BG31 Q31 G31 W31 K31 BE31
 clear hb
 have yP_32 : w.heap.size < w32.heap.size := by omega
 have yBU_32 : w4.heap.size < w32.heap.size := by omega
 have yJ_32 : w6.heap.size < w32.heap.size := by omega
 have yBG_32 : w9.heap.size < w32.heap.size := by omega
 have yBE_32 : w27.heap.size < w32.heap.size := by omega
 obtain ⟨Pc0, Pc1, Pc2, Pc3, Pc4, Pc5, Pc6, Pc7, Pc8, Pc9⟩ := P32.out.ten
 obtain ⟨BUc0, BUc1, BUc2, BUc3, BUc4, BUc5, BUc6, BUc7, BUc8, BUc9⟩ := BU32.out.ten
 obtain ⟨Jc0, Jc1, Jc2, Jc3, Jc4, Jc5, Jc6, Jc7, Jc8, Jc9⟩ := J32.out.ten
 obtain ⟨BGc0, BGc1, BGc2, BGc3, BGc4, BGc5, BGc6, BGc7, BGc8, BGc9⟩ := BG32.out.ten
 obtain ⟨BEc0, BEc1, BEc2, BEc3, BEc4, BEc5, BEc6, BEc7, BEc8, BEc9⟩ := BE32.out.ten
 go_wp2
 go_ret
 exact ⟨rfl, T32.out⟩
end Go.Proofs.YtimhnkpccbcohaaGreatDoor
