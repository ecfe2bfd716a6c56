/-
  The exact law of CastLine: its walk. Conditions: errNoItems, errLoose, errTooMany read as laid.
-/
import Derived.Test.YtimhnkpccbcohaaGreatDoorCastT
import Derived.Test.YtimhnkpccbcohaaGreatDoorMchKA
import Derived.Test.YtimhnkpccbcohaaGreatDoorLawsMch
import Derived.Test.YtimhnkpccbcohaaGreatDoorPkA
namespace Go.Proofs.YtimhnkpccbcohaaGreatDoor
open Go.RowKit Go.Conc
set_option linter.unusedVariables false
set_option linter.unusedSimpArgs false

theorem MchA.row {w w' : World} {B hi : Nat} {v : Value} {X : Mch} {u : Value} (h : MchA w B hi v X u) (hg : w.grownBy w' u.ownBlock) : MchA w' B hi v X u := by
  cases hq : u.ownBlock with
  | none => exact h.chg (Chg.of_grown (lo := 0) (hi := 0) hg (fun g h9 => by rw [hq] at h9; cases h9)) (.inr (Nat.zero_le _))
  | some g =>
    have hc : Chg g (g + 1) w w' := Chg.of_grown hg (fun k h9 => by rw [hq] at h9; injection h9 with h9; omega)
    obtain ⟨A, c, A2, d, M, e, L, lc, T, tc, hs, f0, f1, g0, g1, l0, l1, t0, t1, h, ha⟩ := h
    obtain ⟨x1, x2, x3, x4⟩ := ha g hq
    refine ⟨A, c, A2, d, M, e, L, lc, T, tc, hs, f0, f1, g0, g1, l0, l1, t0, t1, ⟨h.v, h.font.chg hc x1, h.mag.chg hc (by unfold Off at x2; omega), h.line.chg hc (fun k hk => ?_), h.lineT, h.wait.chg hc (fun k hk => ?_), h.waitT, h.fg, h.fl, h.ft, h.gl, h.gt, h.lt, h.fi, h.gi, h.li, h.ti⟩, ha⟩
    · have := h.line.lt k hk; have := h.lineT k hk; unfold Off at x3; omega
    · have := h.wait.lt k hk; have := h.waitT k hk; unfold Off at x4; omega
theorem Own.stay {w w' : World} {B : Nat} {v : Value} {zs : List Int} (h : Own w B v zs) (hk : ∀ g, v.ownBlock = some g → w'.heap[g]? = w.heap[g]?) : Own w' B v zs := by
  obtain ⟨h1, h2⟩ := h
  refine ⟨h1, ?_⟩
  rcases h2 with h2 | ⟨g, cap, cur, e, h5, h6, h7⟩
  · exact .inl h2
  · exact .inr ⟨g, cap, cur, e, h5, (hk g (by rw [e]; rfl)).trans h6, h7⟩
theorem castX_lim (X : Mch) (rag : Bool) : (castX X rag).big ≤ 1048575 ∧ (castX X rag).marks ≤ 4000 ∧ (castP X rag).length ≤ 120 := by
  cases h : castOk X rag
  · obtain ⟨h1, h2, h3⟩ := cast_off h
    rw [h1, h3]
    exact ⟨zeroX_big, by simp [zeroX, Mch.marks, tot], by simp⟩
  · obtain ⟨h1, h2, h3⟩ := cast_on h
    rw [h1, h3]
    unfold castOk at h
    rw [Bool.and_eq_true] at h
    obtain ⟨b1, b2, b3, b4, b5⟩ := mach_big h.1
    have h4 : (mtsN X.ln).length ≤ X.ln.length := List.length_filter_le _ _
    have h5 : (clearX X).wt.length ≤ 360 := by show (X.wt ++ mtsN X.ln).length ≤ 360; rw [List.length_append]; omega
    have h6 := tot_lim b3
    have h7 : (itemsM X.f X.ln).length = X.ln.length := by unfold itemsM; rw [List.length_map]
    have h8 := placesL_len ⟨X.w, X.t, X.k⟩ (itemsM X.f X.ln)
    refine ⟨?_, ?_, by omega⟩
    · unfold Mch.big magBig
      show X.f.big + (X.ms.length + tot X.ms) + ([] : List Mat).length + (clearX X).wt.length ≤ _
      simp only [List.length_nil]
      omega
    · unfold Mch.marks
      show X.f.ws.length + X.f.cs.length + 2 * tot X.ms + 2 * ([] : List Mat).length + 2 * (clearX X).wt.length ≤ _
      unfold Fnt.big at b1
      simp only [List.length_nil]
      omega
set_option maxRecDepth 100000 in
set_option maxHeartbeats 6400000 in
theorem fnExactCastLine_walk (lo hi : Nat) (v : Value) (X : Mch) (rag : Bool) (w : World) (h : MchV w lo hi v X) (hhi : hi ≤ w.heap.size) (wf : WfX X) (a1 a2 : Addr) (ca1 ca2 : Array Value) (ta1 ta2 : TypeId) (hne : a1 ≠ a2) (hb1 : w.heap[a1.block]? = some (.cells ca1 ta1 (0, 0))) (hb2 : w.heap[a2.block]? = some (.cells ca2 ta2 (0, 0))) (hg1 : w.cell? ⟨3, 0, none⟩ = some (.iface 192 (.pointer (some a1)))) (hg2 : w.cell? ⟨1, 0, none⟩ = some (.iface 192 (.pointer (some a2)))) (ct9 : TypeId) (cu9 : Value) (hg3 : w.cell? ⟨4, 0, none⟩ = some (.iface ct9 cu9)) :
    Calls Tryz.prog 4 #[v, .bool rag] w fun e w' => e = .returned (.bool true) ∧ Below w.heap.size w w' := by
  obtain ⟨s, A, n, c, B, m, d, M, q, e, sp, W, t, k, L, l, f, T, r, g, rfl⟩ := h.form
  have HWf := Lib.hid wf
  obtain ⟨w0, hw0, hb0, hz0, K0⟩ := mxWorld w #[.string s, .slice A n c, .slice B m d, .slice M q e, .int .i64 sp, .int .i64 W, .int .i64 t, .int .i64 k, .slice L l f, .slice T r g] 30
  have P0 := Lib.hid K0; have T0 := Lib.hid hb0; have V0 := Lib.hid (h.below hhi hb0)
  have s0 : w.heap.size < w0.heap.size := K0.lt
  obtain ⟨Pc0, Pc1, Pc2, Pc3, Pc4, Pc5, Pc6, Pc7, Pc8, Pc9⟩ := P0.out.ten
  have hgx1 : 3 < w.heap.size := World.block_lt_of_cell? _ _ hg1
  have hgx2 : 1 < w.heap.size := World.block_lt_of_cell? _ _ hg2
  have hgx3 : 4 < w.heap.size := World.block_lt_of_cell? _ _ hg3
  have ha1 : a1.block < w.heap.size := (Array.getElem?_eq_some_iff.1 hb1).1
  have ha2 : a2.block < w.heap.size := (Array.getElem?_eq_some_iff.1 hb2).1
  have C1_0 : Hid (w0.cell? ⟨3, 0, none⟩ = some (.iface 192 (.pointer (some a1)))) := (hb0.cell (p := ⟨3, 0, none⟩) (by show 3 < _; exact hgx1)).trans hg1
  have C2_0 : Hid (w0.cell? ⟨1, 0, none⟩ = some (.iface 192 (.pointer (some a2)))) := (hb0.cell (p := ⟨1, 0, none⟩) (by show 1 < _; exact hgx2)).trans hg2
  have C3_0 : Hid (w0.cell? ⟨4, 0, none⟩ = some (.iface ct9 cu9)) := (hb0.cell (p := ⟨4, 0, none⟩) (by show 4 < _; exact hgx3)).trans hg3
  have B1_0 : Hid (w0.heap[a1.block]? = some (.cells ca1 ta1 (0, 0))) := (hb0.block a1.block ha1).trans hb1
  have B2_0 : Hid (w0.heap[a2.block]? = some (.cells ca2 ta2 (0, 0))) := (hb0.block a2.block ha2).trans hb2
  have HNE := Lib.hid hne
  clear h hb0 hz0 K0 wf hg1 hg2 hg3 hb1 hb2 hne
  by_cases hbig : (1048576 : Int) < X.big
  · have Hk := Lib.hid (takeOff_bad hbig)
    go_enter Tryz.func4, Tryz.ntmps4
    go_wp2_with fail
    clear hw0
    refine (szMachine_any lo hi _ X _ w0 V0.out (by omega) (by omega) (by omega)).mono ?_
    rintro e w1 ⟨rfl, hb1⟩
    rw [Hk.out]
    have T1 := Lib.hid (T0.out.trans (hb1.mono (by omega)))
    clear hb1 Pc0 Pc1 Pc2 Pc3 Pc4 Pc5 Pc6 Pc7 Pc8 Pc9
    go_wp2
    go_ret
    exact ⟨rfl, T1.out⟩
  have Hk := Lib.hid (takeOff_good hbig)
  have hb20 : X.big ≤ 1048576 := by omega
  have HS := Lib.hid (big_smallX hb20)
  have hk0 : decide (1048576 - (X.big : Int) < 0) = false := decide_eq_false (by omega)
  go_enter Tryz.func4, Tryz.ntmps4
  go_wp2_with fail
  clear hw0
  refine (szMachine_any lo hi _ X _ w0 V0.out (by omega) (by omega) (by omega)).mono ?_
  rintro e w1 ⟨rfl, hb⟩
  rw [Hk.out]
  clear Pc0 Pc1 Pc2 Pc3 Pc4 Pc5 Pc6 Pc7 Pc8 Pc9
  have s1 : w0.heap.size ≤ w1.heap.size := hb.size
  have P1 := Lib.hid (P0.out.below hb (by omega))
  have T1 := Lib.hid (T0.out.trans (hb.mono (by omega)))
  have V1 := Lib.hid (V0.out.below (by omega) hb)
  have C1_1 := Lib.hid ((hb.cell (World.block_lt_of_cell? _ _ C1_0.out)).trans C1_0.out)
  have C2_1 := Lib.hid ((hb.cell (World.block_lt_of_cell? _ _ C2_0.out)).trans C2_0.out)
  have C3_1 := Lib.hid ((hb.cell (World.block_lt_of_cell? _ _ C3_0.out)).trans C3_0.out)
  have B1_1 := Lib.hid ((hb.block a1.block (by have := ha1; omega)).trans B1_0.out)
  have B2_1 := Lib.hid ((hb.block a2.block (by have := ha2; omega)).trans B2_0.out)
  clear P0 T0 V0 C1_0 C2_0 C3_0 B1_0 B2_0
  clear hb
  have yP_1 : w.heap.size < w1.heap.size := by omega
  obtain ⟨Pc0, Pc1, Pc2, Pc3, Pc4, Pc5, Pc6, Pc7, Pc8, Pc9⟩ := P1.out.ten
  obtain ⟨Y, hY⟩ : ∃ x, castX X rag = x := ⟨_, rfl⟩
  obtain ⟨tt, htt⟩ : ∃ x, castT X rag = x := ⟨_, rfl⟩
  obtain ⟨zs, hzs⟩ : ∃ x, castP X rag = x := ⟨_, rfl⟩
  obtain ⟨ok, hok⟩ : ∃ x, castOk X rag = x := ⟨_, rfl⟩
  obtain ⟨hYb, hYm, hZl⟩ := castX_lim X rag
  rw [hY] at hYb hYm
  rw [hzs] at hZl
  obtain ⟨nn, hnn⟩ : ∃ x, zs.length = x := ⟨_, rfl⟩
  rw [hnn] at hZl
  have HSY := Lib.hid (big_smallX (X := Y) (by omega))
  have HY := Lib.hid hY; have Htt := Lib.hid htt; have Hzs := Lib.hid hzs; have Hok := Lib.hid hok; have HN := Lib.hid hnn
  clear hY htt hzs hok hnn
  have hne1 : (ok != ok) = false := by simp
  go_wp2_with fail
  refine (toMachine_any lo hi _ X w1 V1.out (by omega) HS.out).mono ?_
  rintro e w2 ⟨vs, rfl, hO, hb⟩
  obtain ⟨ss, As, ns, cs, Bs, ms, ds, Ms, qs, es, sps, Ws, ts, ks, Ls, ls, fs, Ts, rs, gs, rfl⟩ := hO.reads.form
  clear Pc0 Pc1 Pc2 Pc3 Pc4 Pc5 Pc6 Pc7 Pc8 Pc9
  have s2 : w1.heap.size ≤ w2.heap.size := hb.size
  have P2 := Lib.hid (P1.out.below hb (by omega))
  have T2 := Lib.hid (T1.out.trans (hb.mono (by omega)))
  have V2 := Lib.hid (V1.out.below (by omega) hb)
  have C1_2 := Lib.hid ((hb.cell (World.block_lt_of_cell? _ _ C1_1.out)).trans C1_1.out)
  have C2_2 := Lib.hid ((hb.cell (World.block_lt_of_cell? _ _ C2_1.out)).trans C2_1.out)
  have C3_2 := Lib.hid ((hb.cell (World.block_lt_of_cell? _ _ C3_1.out)).trans C3_1.out)
  have B1_2 := Lib.hid ((hb.block a1.block (by have := ha1; omega)).trans B1_1.out)
  have B2_2 := Lib.hid ((hb.block a2.block (by have := ha2; omega)).trans B2_1.out)
  clear P1 T1 V1 C1_1 C2_1 C3_1 B1_1 B2_1
  clear hb
  have yP_2 : w.heap.size < w2.heap.size := by omega
  have S2 := Lib.hid (hO)
  obtain ⟨Pc0, Pc1, Pc2, Pc3, Pc4, Pc5, Pc6, Pc7, Pc8, Pc9⟩ := P2.out.ten
  clear hO
  go_wp2_with fail
  refine (specCast_any _ _ _ X rag w2 S2.out.reads (by omega) HS.out).mono ?_
  rintro e w3 ⟨v', vp, rfl, hO, hU, hb⟩
  rw [HY.out] at hO
  rw [Hzs.out] at hU
  rw [Htt.out, Hok.out]
  obtain ⟨su, Au, nu, cu, Bu, mu, du, Mu, qu, eu, spu, Wu, tu, ku, Lu, lu, fu, Tu, ru, gu, rfl⟩ := hO.reads.form
  obtain ⟨Eu, xu, rfl, -, -, -, -⟩ := hU.form
  rw [HN.out] at hU ⊢
  clear Pc0 Pc1 Pc2 Pc3 Pc4 Pc5 Pc6 Pc7 Pc8 Pc9
  have s3 : w2.heap.size ≤ w3.heap.size := hb.size
  have P3 := Lib.hid (P2.out.below hb (by omega))
  have T3 := Lib.hid (T2.out.trans (hb.mono (by omega)))
  have V3 := Lib.hid (V2.out.below (by omega) hb)
  have C1_3 := Lib.hid ((hb.cell (World.block_lt_of_cell? _ _ C1_2.out)).trans C1_2.out)
  have C2_3 := Lib.hid ((hb.cell (World.block_lt_of_cell? _ _ C2_2.out)).trans C2_2.out)
  have C3_3 := Lib.hid ((hb.cell (World.block_lt_of_cell? _ _ C3_2.out)).trans C3_2.out)
  have B1_3 := Lib.hid ((hb.block a1.block (by have := ha1; omega)).trans B1_2.out)
  have B2_3 := Lib.hid ((hb.block a2.block (by have := ha2; omega)).trans B2_2.out)
  have S3 := Lib.hid (S2.out.below hb)
  clear P2 T2 V2 C1_2 C2_2 C3_2 B1_2 B2_2 S2
  clear hb
  have yP_3 : w.heap.size < w3.heap.size := by omega
  have U3 := Lib.hid (hO)
  have R3 := Lib.hid (hU)
  obtain ⟨Pc0, Pc1, Pc2, Pc3, Pc4, Pc5, Pc6, Pc7, Pc8, Pc9⟩ := P3.out.ten
  have Rt := fun k hk => World.ownsRow.lt hU k hk
  clear hO hU
  clear S3
  go_wp2_with fail
  obtain ⟨w4, hw, hb, hz, hK⟩ := mxWorld w3 #[.string su, .slice Au nu cu, .slice Bu mu du, .slice Mu qu eu, .int .i64 spu, .int .i64 Wu, .int .i64 tu, .int .i64 ku, .slice Lu lu fu, .slice Tu ru gu] 37
  rw [hw]
  clear hw hz
  clear Pc0 Pc1 Pc2 Pc3 Pc4 Pc5 Pc6 Pc7 Pc8 Pc9
  have s4 : w3.heap.size ≤ w4.heap.size := hb.size
  have P4 := Lib.hid (P3.out.below hb (by omega))
  have T4 := Lib.hid (T3.out.trans (hb.mono (by omega)))
  have V4 := Lib.hid (V3.out.below (by omega) hb)
  have C1_4 := Lib.hid ((hb.cell (World.block_lt_of_cell? _ _ C1_3.out)).trans C1_3.out)
  have C2_4 := Lib.hid ((hb.cell (World.block_lt_of_cell? _ _ C2_3.out)).trans C2_3.out)
  have C3_4 := Lib.hid ((hb.cell (World.block_lt_of_cell? _ _ C3_3.out)).trans C3_3.out)
  have B1_4 := Lib.hid ((hb.block a1.block (by have := ha1; omega)).trans B1_3.out)
  have B2_4 := Lib.hid ((hb.block a2.block (by have := ha2; omega)).trans B2_3.out)
  have U4 := Lib.hid (U3.out.below hb)
  have R4 := Lib.hid (R3.out.below hb)
  clear P3 T3 V3 C1_3 C2_3 C3_3 B1_3 B2_3 U3 R3
  clear hb
  have yP_4 : w.heap.size < w4.heap.size := by omega
  have BU4 := Lib.hid (hK)
  have yBU : w3.heap.size < w4.heap.size := hK.lt
  clear hK
  obtain ⟨Pc0, Pc1, Pc2, Pc3, Pc4, Pc5, Pc6, Pc7, Pc8, Pc9⟩ := P4.out.ten
  obtain ⟨BUc0, BUc1, BUc2, BUc3, BUc4, BUc5, BUc6, BUc7, BUc8, BUc9⟩ := BU4.out.ten
  refine (toMachine_any lo hi _ X w4 V4.out (by omega) HS.out).mono ?_
  rintro e w5 ⟨vx, rfl, hO, hb⟩
  obtain ⟨sx, Ax, nx, cx, Bx, mx, dx, Mx, qx, ex, spx, Wx, tx, kx, Lx, lx, fx, Tx, rx, gx, rfl⟩ := hO.reads.form
  clear Pc0 Pc1 Pc2 Pc3 Pc4 Pc5 Pc6 Pc7 Pc8 Pc9
  clear BUc0 BUc1 BUc2 BUc3 BUc4 BUc5 BUc6 BUc7 BUc8 BUc9
  have s5 : w4.heap.size ≤ w5.heap.size := hb.size
  have P5 := Lib.hid (P4.out.below hb (by omega))
  have T5 := Lib.hid (T4.out.trans (hb.mono (by omega)))
  have V5 := Lib.hid (V4.out.below (by omega) hb)
  have C1_5 := Lib.hid ((hb.cell (World.block_lt_of_cell? _ _ C1_4.out)).trans C1_4.out)
  have C2_5 := Lib.hid ((hb.cell (World.block_lt_of_cell? _ _ C2_4.out)).trans C2_4.out)
  have C3_5 := Lib.hid ((hb.cell (World.block_lt_of_cell? _ _ C3_4.out)).trans C3_4.out)
  have B1_5 := Lib.hid ((hb.block a1.block (by have := ha1; omega)).trans B1_4.out)
  have B2_5 := Lib.hid ((hb.block a2.block (by have := ha2; omega)).trans B2_4.out)
  have U5 := Lib.hid (U4.out.below hb)
  have R5 := Lib.hid (R4.out.below hb)
  have BU5 := Lib.hid (BU4.out.below hb (by omega))
  clear P4 T4 V4 C1_4 C2_4 C3_4 B1_4 B2_4 U4 R4 BU4
  clear hb
  have yP_5 : w.heap.size < w5.heap.size := by omega
  have yBU_5 : w3.heap.size < w5.heap.size := by omega
  have X5 := Lib.hid (hO)
  obtain ⟨Pc0, Pc1, Pc2, Pc3, Pc4, Pc5, Pc6, Pc7, Pc8, Pc9⟩ := P5.out.ten
  obtain ⟨BUc0, BUc1, BUc2, BUc3, BUc4, BUc5, BUc6, BUc7, BUc8, BUc9⟩ := BU5.out.ten
  clear hO
  go_wp2_with fail
  obtain ⟨w6, hw, hb, hz, hK⟩ := mxWorld w5 #[.string sx, .slice Ax nx cx, .slice Bx mx dx, .slice Mx qx ex, .int .i64 spx, .int .i64 Wx, .int .i64 tx, .int .i64 kx, .slice Lx lx fx, .slice Tx rx gx] 37
  rw [hw]
  clear hw hz
  clear Pc0 Pc1 Pc2 Pc3 Pc4 Pc5 Pc6 Pc7 Pc8 Pc9
  clear BUc0 BUc1 BUc2 BUc3 BUc4 BUc5 BUc6 BUc7 BUc8 BUc9
  have s6 : w5.heap.size ≤ w6.heap.size := hb.size
  have P6 := Lib.hid (P5.out.below hb (by omega))
  have T6 := Lib.hid (T5.out.trans (hb.mono (by omega)))
  have V6 := Lib.hid (V5.out.below (by omega) hb)
  have C1_6 := Lib.hid ((hb.cell (World.block_lt_of_cell? _ _ C1_5.out)).trans C1_5.out)
  have C2_6 := Lib.hid ((hb.cell (World.block_lt_of_cell? _ _ C2_5.out)).trans C2_5.out)
  have C3_6 := Lib.hid ((hb.cell (World.block_lt_of_cell? _ _ C3_5.out)).trans C3_5.out)
  have B1_6 := Lib.hid ((hb.block a1.block (by have := ha1; omega)).trans B1_5.out)
  have B2_6 := Lib.hid ((hb.block a2.block (by have := ha2; omega)).trans B2_5.out)
  have U6 := Lib.hid (U5.out.below hb)
  have R6 := Lib.hid (R5.out.below hb)
  have BU6 := Lib.hid (BU5.out.below hb (by omega))
  have X6 := Lib.hid (X5.out.below hb)
  clear P5 T5 V5 C1_5 C2_5 C3_5 B1_5 B2_5 U5 R5 BU5 X5
  clear hb
  have yP_6 : w.heap.size < w6.heap.size := by omega
  have yBU_6 : w3.heap.size < w6.heap.size := by omega
  have J6 := Lib.hid (hK)
  have yJ : w5.heap.size < w6.heap.size := hK.lt
  clear hK
  obtain ⟨Pc0, Pc1, Pc2, Pc3, Pc4, Pc5, Pc6, Pc7, Pc8, Pc9⟩ := P6.out.ten
  obtain ⟨BUc0, BUc1, BUc2, BUc3, BUc4, BUc5, BUc6, BUc7, BUc8, BUc9⟩ := BU6.out.ten
  obtain ⟨Jc0, Jc1, Jc2, Jc3, Jc4, Jc5, Jc6, Jc7, Jc8, Jc9⟩ := J6.out.ten
  refine (implCast_any _ _ _ X rag w6 X6.out.reads (by omega) HS.out HWf.out a1 a2 ca1 ca2 ta1 ta2 HNE.out B1_6.out B2_6.out C1_6.out C2_6.out ct9 cu9 C3_6.out (by omega)).mono ?_
  rintro e w7 ⟨v', vp, rfl, ⟨hb9, hO, hh9⟩, hU, hb⟩
  rw [HY.out] at hO
  rw [Hzs.out] at hU
  rw [Htt.out, Hok.out]
  obtain ⟨sg, Ag, ng, cg, Bg, mg, dg, Mg, qg, eg, spg, Wg, tg, kg, Lg, lg, fg, Tg, rg, gg, rfl⟩ := hO.mch.reads.form
  obtain ⟨Eg, xg, rfl, -, -, -, -⟩ := hU.form
  rw [HN.out] at hU hO ⊢
  clear Pc0 Pc1 Pc2 Pc3 Pc4 Pc5 Pc6 Pc7 Pc8 Pc9
  clear BUc0 BUc1 BUc2 BUc3 BUc4 BUc5 BUc6 BUc7 BUc8 BUc9
  clear Jc0 Jc1 Jc2 Jc3 Jc4 Jc5 Jc6 Jc7 Jc8 Jc9
  have s7 : w6.heap.size ≤ w7.heap.size := hb.size
  have P7 := Lib.hid (P6.out.below hb (by omega))
  have T7 := Lib.hid (T6.out.trans (hb.mono (by omega)))
  have V7 := Lib.hid (V6.out.below (by omega) hb)
  have C1_7 := Lib.hid ((hb.cell (World.block_lt_of_cell? _ _ C1_6.out)).trans C1_6.out)
  have C2_7 := Lib.hid ((hb.cell (World.block_lt_of_cell? _ _ C2_6.out)).trans C2_6.out)
  have C3_7 := Lib.hid ((hb.cell (World.block_lt_of_cell? _ _ C3_6.out)).trans C3_6.out)
  have B1_7 := Lib.hid ((hb.block a1.block (by have := ha1; omega)).trans B1_6.out)
  have B2_7 := Lib.hid ((hb.block a2.block (by have := ha2; omega)).trans B2_6.out)
  have U7 := Lib.hid (U6.out.below hb)
  have R7 := Lib.hid (R6.out.below hb)
  have BU7 := Lib.hid (BU6.out.below hb (by omega))
  have X7 := Lib.hid (X6.out.below hb)
  have J7 := Lib.hid (J6.out.below hb (by omega))
  clear P6 T6 V6 C1_6 C2_6 C3_6 B1_6 B2_6 U6 R6 BU6 X6 J6
  clear hb
  have yP_7 : w.heap.size < w7.heap.size := by omega
  have yBU_7 : w3.heap.size < w7.heap.size := by omega
  have yJ_7 : w5.heap.size < w7.heap.size := by omega
  have G7 := Lib.hid (hO)
  have Q7 := Lib.hid (hU)
  obtain ⟨Pc0, Pc1, Pc2, Pc3, Pc4, Pc5, Pc6, Pc7, Pc8, Pc9⟩ := P7.out.ten
  obtain ⟨BUc0, BUc1, BUc2, BUc3, BUc4, BUc5, BUc6, BUc7, BUc8, BUc9⟩ := BU7.out.ten
  obtain ⟨Jc0, Jc1, Jc2, Jc3, Jc4, Jc5, Jc6, Jc7, Jc8, Jc9⟩ := J7.out.ten
  have Qt := fun k hk => World.ownsRow.lt hU k hk
  obtain ⟨bG, hbG⟩ : ∃ x, hb9 = x := ⟨_, rfl⟩
  subst hbG
  clear hO hU
  go_wp2_with fail
  obtain ⟨w8, hw, hb, hz, hK⟩ := mxWorld w7 #[.string sg, .slice Ag ng cg, .slice Bg mg dg, .slice Mg qg eg, .int .i64 spg, .int .i64 Wg, .int .i64 tg, .int .i64 kg, .slice Lg lg fg, .slice Tg rg gg] 37
  rw [hw]
  clear hw hz
  clear Pc0 Pc1 Pc2 Pc3 Pc4 Pc5 Pc6 Pc7 Pc8 Pc9
  clear BUc0 BUc1 BUc2 BUc3 BUc4 BUc5 BUc6 BUc7 BUc8 BUc9
  clear Jc0 Jc1 Jc2 Jc3 Jc4 Jc5 Jc6 Jc7 Jc8 Jc9
  have s8 : w7.heap.size ≤ w8.heap.size := hb.size
  have P8 := Lib.hid (P7.out.below hb (by omega))
  have T8 := Lib.hid (T7.out.trans (hb.mono (by omega)))
  have V8 := Lib.hid (V7.out.below (by omega) hb)
  have C1_8 := Lib.hid ((hb.cell (World.block_lt_of_cell? _ _ C1_7.out)).trans C1_7.out)
  have C2_8 := Lib.hid ((hb.cell (World.block_lt_of_cell? _ _ C2_7.out)).trans C2_7.out)
  have C3_8 := Lib.hid ((hb.cell (World.block_lt_of_cell? _ _ C3_7.out)).trans C3_7.out)
  have B1_8 := Lib.hid ((hb.block a1.block (by have := ha1; omega)).trans B1_7.out)
  have B2_8 := Lib.hid ((hb.block a2.block (by have := ha2; omega)).trans B2_7.out)
  have U8 := Lib.hid (U7.out.below hb)
  have R8 := Lib.hid (R7.out.below hb)
  have BU8 := Lib.hid (BU7.out.below hb (by omega))
  have X8 := Lib.hid (X7.out.below hb)
  have J8 := Lib.hid (J7.out.below hb (by omega))
  have G8 := Lib.hid (G7.out.below hb)
  have Q8 := Lib.hid (Q7.out.below hb)
  clear P7 T7 V7 C1_7 C2_7 C3_7 B1_7 B2_7 U7 R7 BU7 X7 J7 G7 Q7
  clear hb
  have yP_8 : w.heap.size < w8.heap.size := by omega
  have yBU_8 : w3.heap.size < w8.heap.size := by omega
  have yJ_8 : w5.heap.size < w8.heap.size := by omega
  have BG8 := Lib.hid (hK)
  have yBG : w7.heap.size < w8.heap.size := hK.lt
  clear hK
  obtain ⟨Pc0, Pc1, Pc2, Pc3, Pc4, Pc5, Pc6, Pc7, Pc8, Pc9⟩ := P8.out.ten
  obtain ⟨BUc0, BUc1, BUc2, BUc3, BUc4, BUc5, BUc6, BUc7, BUc8, BUc9⟩ := BU8.out.ten
  obtain ⟨Jc0, Jc1, Jc2, Jc3, Jc4, Jc5, Jc6, Jc7, Jc8, Jc9⟩ := J8.out.ten
  obtain ⟨BGc0, BGc1, BGc2, BGc3, BGc4, BGc5, BGc6, BGc7, BGc8, BGc9⟩ := BG8.out.ten
  refine (eqMachine_same _ _ _ _ _ _ Y w8 G8.out.mch.reads U8.out.reads (by omega) (by omega) HSY.out).mono ?_
  rintro e w9 ⟨rfl, hb⟩
  clear Pc0 Pc1 Pc2 Pc3 Pc4 Pc5 Pc6 Pc7 Pc8 Pc9
  clear BUc0 BUc1 BUc2 BUc3 BUc4 BUc5 BUc6 BUc7 BUc8 BUc9
  clear Jc0 Jc1 Jc2 Jc3 Jc4 Jc5 Jc6 Jc7 Jc8 Jc9
  clear BGc0 BGc1 BGc2 BGc3 BGc4 BGc5 BGc6 BGc7 BGc8 BGc9
  have s9 : w8.heap.size ≤ w9.heap.size := hb.size
  have P9 := Lib.hid (P8.out.below hb (by omega))
  have T9 := Lib.hid (T8.out.trans (hb.mono (by omega)))
  have V9 := Lib.hid (V8.out.below (by omega) hb)
  have C1_9 := Lib.hid ((hb.cell (World.block_lt_of_cell? _ _ C1_8.out)).trans C1_8.out)
  have C2_9 := Lib.hid ((hb.cell (World.block_lt_of_cell? _ _ C2_8.out)).trans C2_8.out)
  have C3_9 := Lib.hid ((hb.cell (World.block_lt_of_cell? _ _ C3_8.out)).trans C3_8.out)
  have B1_9 := Lib.hid ((hb.block a1.block (by have := ha1; omega)).trans B1_8.out)
  have B2_9 := Lib.hid ((hb.block a2.block (by have := ha2; omega)).trans B2_8.out)
  have U9 := Lib.hid (U8.out.below hb)
  have R9 := Lib.hid (R8.out.below hb)
  have BU9 := Lib.hid (BU8.out.below hb (by omega))
  have X9 := Lib.hid (X8.out.below hb)
  have J9 := Lib.hid (J8.out.below hb (by omega))
  have G9 := Lib.hid (G8.out.below hb)
  have Q9 := Lib.hid (Q8.out.below hb)
  have BG9 := Lib.hid (BG8.out.below hb (by omega))
  clear P8 T8 V8 C1_8 C2_8 C3_8 B1_8 B2_8 U8 R8 BU8 X8 J8 G8 Q8 BG8
  clear hb
  have yP_9 : w.heap.size < w9.heap.size := by omega
  have yBU_9 : w3.heap.size < w9.heap.size := by omega
  have yJ_9 : w5.heap.size < w9.heap.size := by omega
  have yBG_9 : w7.heap.size < w9.heap.size := by omega
  obtain ⟨Pc0, Pc1, Pc2, Pc3, Pc4, Pc5, Pc6, Pc7, Pc8, Pc9⟩ := P9.out.ten
  obtain ⟨BUc0, BUc1, BUc2, BUc3, BUc4, BUc5, BUc6, BUc7, BUc8, BUc9⟩ := BU9.out.ten
  obtain ⟨Jc0, Jc1, Jc2, Jc3, Jc4, Jc5, Jc6, Jc7, Jc8, Jc9⟩ := J9.out.ten
  obtain ⟨BGc0, BGc1, BGc2, BGc3, BGc4, BGc5, BGc6, BGc7, BGc8, BGc9⟩ := BG9.out.ten
  go_wp2_with fail
  refine (eqIntS_t _ _ _ _ _ zs w9 HN.out (by omega) (own_intsQ Q9.out) (own_intsQ R9.out)).mono ?_
  rintro e w10 ⟨rfl, hb⟩
  clear Pc0 Pc1 Pc2 Pc3 Pc4 Pc5 Pc6 Pc7 Pc8 Pc9
  clear BUc0 BUc1 BUc2 BUc3 BUc4 BUc5 BUc6 BUc7 BUc8 BUc9
  clear Jc0 Jc1 Jc2 Jc3 Jc4 Jc5 Jc6 Jc7 Jc8 Jc9
  clear BGc0 BGc1 BGc2 BGc3 BGc4 BGc5 BGc6 BGc7 BGc8 BGc9
  have s10 : w9.heap.size ≤ w10.heap.size := hb.size
  have P10 := Lib.hid (P9.out.below hb (by omega))
  have T10 := Lib.hid (T9.out.trans (hb.mono (by omega)))
  have V10 := Lib.hid (V9.out.below (by omega) hb)
  have C1_10 := Lib.hid ((hb.cell (World.block_lt_of_cell? _ _ C1_9.out)).trans C1_9.out)
  have C2_10 := Lib.hid ((hb.cell (World.block_lt_of_cell? _ _ C2_9.out)).trans C2_9.out)
  have C3_10 := Lib.hid ((hb.cell (World.block_lt_of_cell? _ _ C3_9.out)).trans C3_9.out)
  have B1_10 := Lib.hid ((hb.block a1.block (by have := ha1; omega)).trans B1_9.out)
  have B2_10 := Lib.hid ((hb.block a2.block (by have := ha2; omega)).trans B2_9.out)
  have U10 := Lib.hid (U9.out.below hb)
  have R10 := Lib.hid (R9.out.below hb)
  have BU10 := Lib.hid (BU9.out.below hb (by omega))
  have X10 := Lib.hid (X9.out.below hb)
  have J10 := Lib.hid (J9.out.below hb (by omega))
  have G10 := Lib.hid (G9.out.below hb)
  have Q10 := Lib.hid (Q9.out.below hb)
  have BG10 := Lib.hid (BG9.out.below hb (by omega))
  clear P9 T9 V9 C1_9 C2_9 C3_9 B1_9 B2_9 U9 R9 BU9 X9 J9 G9 Q9 BG9
  clear hb
  have yP_10 : w.heap.size < w10.heap.size := by omega
  have yBU_10 : w3.heap.size < w10.heap.size := by omega
  have yJ_10 : w5.heap.size < w10.heap.size := by omega
  have yBG_10 : w7.heap.size < w10.heap.size := by omega
  obtain ⟨Pc0, Pc1, Pc2, Pc3, Pc4, Pc5, Pc6, Pc7, Pc8, Pc9⟩ := P10.out.ten
  obtain ⟨BUc0, BUc1, BUc2, BUc3, BUc4, BUc5, BUc6, BUc7, BUc8, BUc9⟩ := BU10.out.ten
  obtain ⟨Jc0, Jc1, Jc2, Jc3, Jc4, Jc5, Jc6, Jc7, Jc8, Jc9⟩ := J10.out.ten
  obtain ⟨BGc0, BGc1, BGc2, BGc3, BGc4, BGc5, BGc6, BGc7, BGc8, BGc9⟩ := BG10.out.ten
  go_wp2_with fail
  refine wp_region_plan (.take 0 (.take 1 (.one 2 (.one 3 (.one 4 .done))))) (fun w' => (w'.cell? ⟨w5.heap.size, 0, none⟩ = some (.string sx) ∧ w'.cell? ⟨w5.heap.size, 1, none⟩ = some (.slice Ax nx cx) ∧ w'.cell? ⟨w5.heap.size, 2, none⟩ = some (.slice Bx mx dx) ∧ w'.cell? ⟨w5.heap.size, 3, none⟩ = some (.slice Mx qx ex) ∧ w'.cell? ⟨w5.heap.size, 4, none⟩ = some (.int .i64 spx) ∧ w'.cell? ⟨w5.heap.size, 5, none⟩ = some (.int .i64 Wx) ∧ w'.cell? ⟨w5.heap.size, 6, none⟩ = some (.int .i64 tx) ∧ w'.cell? ⟨w5.heap.size, 7, none⟩ = some (.int .i64 kx) ∧ w'.cell? ⟨w5.heap.size, 8, none⟩ = some (.slice Lx lx fx) ∧ w'.cell? ⟨w5.heap.size, 9, none⟩ = some (.slice Tx rx gx)) ∧ (w'.cell? ⟨w.heap.size, 0, none⟩ = some (.string s) ∧ w'.cell? ⟨w.heap.size, 1, none⟩ = some (.slice A n c) ∧ w'.cell? ⟨w.heap.size, 2, none⟩ = some (.slice B m d) ∧ w'.cell? ⟨w.heap.size, 3, none⟩ = some (.slice M q e) ∧ w'.cell? ⟨w.heap.size, 4, none⟩ = some (.int .i64 sp) ∧ w'.cell? ⟨w.heap.size, 5, none⟩ = some (.int .i64 W) ∧ w'.cell? ⟨w.heap.size, 6, none⟩ = some (.int .i64 t) ∧ w'.cell? ⟨w.heap.size, 7, none⟩ = some (.int .i64 k) ∧ w'.cell? ⟨w.heap.size, 8, none⟩ = some (.slice L l f) ∧ w'.cell? ⟨w.heap.size, 9, none⟩ = some (.slice T r g))) (by kernel_rfl) (by kernel_rfl) (by kernel_rfl) (by intro c a d v w h; cases d <;> exact h) ⟨J10.out.ten, P10.out.ten⟩ ?_
  clear Pc0 Pc1 Pc2 Pc3 Pc4 Pc5 Pc6 Pc7 Pc8 Pc9
  clear BUc0 BUc1 BUc2 BUc3 BUc4 BUc5 BUc6 BUc7 BUc8 BUc9
  clear Jc0 Jc1 Jc2 Jc3 Jc4 Jc5 Jc6 Jc7 Jc8 Jc9
  clear BGc0 BGc1 BGc2 BGc3 BGc4 BGc5 BGc6 BGc7 BGc8 BGc9
  refine plan_quiet rfl (by rfl) (v := ?_) ?_ ?_; rotate_left; (intro w1 hSw; obtain ⟨⟨h0, h1, h2, h3, h4, h5, h6, h7, h8, h9⟩, ⟨h0', h1', h2', h3', h4', h5', h6', h7', h8', h9'⟩⟩ := hSw; go_simp; try (with_reducible rfl)); (try simp only [Act.put, List.setIfInBounds_toArray, List.set_cons_zero, List.set_cons_succ])
  refine plan_quiet rfl (by rfl) (v := ?_) ?_ ?_; rotate_left; (intro w1 hSw; obtain ⟨⟨h0, h1, h2, h3, h4, h5, h6, h7, h8, h9⟩, ⟨h0', h1', h2', h3', h4', h5', h6', h7', h8', h9'⟩⟩ := hSw; go_simp; try (with_reducible rfl)); (try simp only [Act.put, List.setIfInBounds_toArray, List.set_cons_zero, List.set_cons_succ])
  refine plan_step rfl (fun K hK => ?_)
  rw [if_pos (by rfl)]
  go_simp
  refine (toMachine_any lo hi _ X w10.drew (MchV.drew V10.out) (by show hi ≤ w10.heap.size; omega) HS.out).mono ?_
  rintro e w11 ⟨vz, rfl, hO, hb'⟩
  have hb := undrew hb'
  clear hb'
  obtain ⟨sz, Az, nz, cz, Bz, mz, dz, Mz, qz, ez, spz, Wz, tz, kz, Lz, lz, fz, Tz, rz, gz, rfl⟩ := hO.reads.form
  have s11 : w10.heap.size ≤ w11.heap.size := hb.size
  have P11 := Lib.hid (P10.out.below hb (by omega))
  have T11 := Lib.hid (T10.out.trans (hb.mono (by omega)))
  have V11 := Lib.hid (V10.out.below (by omega) hb)
  have C1_11 := Lib.hid ((hb.cell (World.block_lt_of_cell? _ _ C1_10.out)).trans C1_10.out)
  have C2_11 := Lib.hid ((hb.cell (World.block_lt_of_cell? _ _ C2_10.out)).trans C2_10.out)
  have C3_11 := Lib.hid ((hb.cell (World.block_lt_of_cell? _ _ C3_10.out)).trans C3_10.out)
  have B1_11 := Lib.hid ((hb.block a1.block (by have := ha1; omega)).trans B1_10.out)
  have B2_11 := Lib.hid ((hb.block a2.block (by have := ha2; omega)).trans B2_10.out)
  have U11 := Lib.hid (U10.out.below hb)
  have R11 := Lib.hid (R10.out.below hb)
  have BU11 := Lib.hid (BU10.out.below hb (by omega))
  have X11 := Lib.hid (X10.out.below hb)
  have J11 := Lib.hid (J10.out.below hb (by omega))
  have G11 := Lib.hid (G10.out.below hb)
  have Q11 := Lib.hid (Q10.out.below hb)
  have BG11 := Lib.hid (BG10.out.below hb (by omega))
  clear P10 T10 V10 C1_10 C2_10 C3_10 B1_10 B2_10 U10 R10 BU10 X10 J10 G10 Q10 BG10
  clear hb
  have yP_11 : w.heap.size < w11.heap.size := by omega
  have yBU_11 : w3.heap.size < w11.heap.size := by omega
  have yJ_11 : w5.heap.size < w11.heap.size := by omega
  have yBG_11 : w7.heap.size < w11.heap.size := by omega
  have Z11 := Lib.hid (hO)
  clear hO
  refine hK.out _ _ ⟨J11.out.ten, P11.out.ten⟩ ?_
  clear hK K
  refine plan_step rfl (fun K hK => ?_)
  rw [if_pos (by rfl)]
  go_simp
  refine (eqMachine_same _ _ _ _ _ _ X w11 X11.out.reads Z11.out.reads (by omega) (by omega) HS.out).mono ?_
  rintro e w12 ⟨rfl, hb⟩
  have s12 : w11.heap.size ≤ w12.heap.size := hb.size
  have P12 := Lib.hid (P11.out.below hb (by omega))
  have T12 := Lib.hid (T11.out.trans (hb.mono (by omega)))
  have V12 := Lib.hid (V11.out.below (by omega) hb)
  have C1_12 := Lib.hid ((hb.cell (World.block_lt_of_cell? _ _ C1_11.out)).trans C1_11.out)
  have C2_12 := Lib.hid ((hb.cell (World.block_lt_of_cell? _ _ C2_11.out)).trans C2_11.out)
  have C3_12 := Lib.hid ((hb.cell (World.block_lt_of_cell? _ _ C3_11.out)).trans C3_11.out)
  have B1_12 := Lib.hid ((hb.block a1.block (by have := ha1; omega)).trans B1_11.out)
  have B2_12 := Lib.hid ((hb.block a2.block (by have := ha2; omega)).trans B2_11.out)
  have U12 := Lib.hid (U11.out.below hb)
  have R12 := Lib.hid (R11.out.below hb)
  have BU12 := Lib.hid (BU11.out.below hb (by omega))
  have X12 := Lib.hid (X11.out.below hb)
  have J12 := Lib.hid (J11.out.below hb (by omega))
  have G12 := Lib.hid (G11.out.below hb)
  have Q12 := Lib.hid (Q11.out.below hb)
  have BG12 := Lib.hid (BG11.out.below hb (by omega))
  have Z12 := Lib.hid (Z11.out.below hb)
  clear P11 T11 V11 C1_11 C2_11 C3_11 B1_11 B2_11 U11 R11 BU11 X11 J11 G11 Q11 BG11 Z11
  clear hb
  have yP_12 : w.heap.size < w12.heap.size := by omega
  have yBU_12 : w3.heap.size < w12.heap.size := by omega
  have yJ_12 : w5.heap.size < w12.heap.size := by omega
  have yBG_12 : w7.heap.size < w12.heap.size := by omega
  refine hK.out _ _ ⟨J12.out.ten, P12.out.ten⟩ ?_
  clear hK K
  refine plan_step rfl (fun K hK => ?_)
  rw [if_pos (by rfl)]
  go_simp
  refine hK.out _ _ ⟨J12.out.ten, P12.out.ten⟩ ?_
  clear hK K
  refine plan_end ?_
  clear Z12
  obtain ⟨Pc0, Pc1, Pc2, Pc3, Pc4, Pc5, Pc6, Pc7, Pc8, Pc9⟩ := P12.out.ten
  obtain ⟨BUc0, BUc1, BUc2, BUc3, BUc4, BUc5, BUc6, BUc7, BUc8, BUc9⟩ := BU12.out.ten
  obtain ⟨Jc0, Jc1, Jc2, Jc3, Jc4, Jc5, Jc6, Jc7, Jc8, Jc9⟩ := J12.out.ten
  obtain ⟨BGc0, BGc1, BGc2, BGc3, BGc4, BGc5, BGc6, BGc7, BGc8, BGc9⟩ := BG12.out.ten
  have hm1 : decide (1 + (X.marks : Int) < 0) = false := decide_eq_false (by omega)
  go_wp2_with fail
  refine (markMachine_any _ _ _ X 1 w12 X12.out (by omega) hb20 (by omega) (by omega)).mono ?_
  rintro e w13 ⟨rfl, hX, hc⟩
  clear X12
  clear Pc0 Pc1 Pc2 Pc3 Pc4 Pc5 Pc6 Pc7 Pc8 Pc9
  clear BUc0 BUc1 BUc2 BUc3 BUc4 BUc5 BUc6 BUc7 BUc8 BUc9
  clear Jc0 Jc1 Jc2 Jc3 Jc4 Jc5 Jc6 Jc7 Jc8 Jc9
  clear BGc0 BGc1 BGc2 BGc3 BGc4 BGc5 BGc6 BGc7 BGc8 BGc9
  have s13 : w12.heap.size ≤ w13.heap.size := hc.size
  have P13 := Lib.hid (P12.out.chg hc (by omega))
  have T13 := Lib.hid (T12.out.trans ((hc.below (by omega)).mono (by omega)))
  have V13 := Lib.hid (V12.out.chg hc (by omega) (by omega))
  have C1_13 := Lib.hid ((hc.cell (World.block_lt_of_cell? _ _ C1_12.out) (by have := hgx1; simp only; omega)).trans C1_12.out)
  have C2_13 := Lib.hid ((hc.cell (World.block_lt_of_cell? _ _ C2_12.out) (by have := hgx2; simp only; omega)).trans C2_12.out)
  have C3_13 := Lib.hid ((hc.cell (World.block_lt_of_cell? _ _ C3_12.out) (by have := hgx3; simp only; omega)).trans C3_12.out)
  have B1_13 := Lib.hid ((hc.block a1.block (by have := ha1; omega) (by have := ha1; omega)).trans B1_12.out)
  have B2_13 := Lib.hid ((hc.block a2.block (by have := ha2; omega) (by have := ha2; omega)).trans B2_12.out)
  have U13 := Lib.hid (U12.out.chg hc (by unfold Off; omega))
  have R13 := Lib.hid (hc.own R12.out (fun x hx => by have := Rt x hx; omega))
  have BU13 := Lib.hid (BU12.out.chg hc (by omega))
  have J13 := Lib.hid (J12.out.chg hc (by omega))
  have G13 := Lib.hid (G12.out.chg hc (by unfold Off; omega))
  have Q13 := Lib.hid (hc.own Q12.out (fun x hx => by have := Qt x hx; omega))
  have BG13 := Lib.hid (BG12.out.chg hc (by omega))
  clear P12 T12 V12 C1_12 C2_12 C3_12 B1_12 B2_12 U12 R12 BU12 J12 G12 Q12 BG12
  clear hc
  have yP_13 : w.heap.size < w13.heap.size := by omega
  have yBU_13 : w3.heap.size < w13.heap.size := by omega
  have yJ_13 : w5.heap.size < w13.heap.size := by omega
  have yBG_13 : w7.heap.size < w13.heap.size := by omega
  clear hX
  obtain ⟨Pc0, Pc1, Pc2, Pc3, Pc4, Pc5, Pc6, Pc7, Pc8, Pc9⟩ := P13.out.ten
  obtain ⟨BUc0, BUc1, BUc2, BUc3, BUc4, BUc5, BUc6, BUc7, BUc8, BUc9⟩ := BU13.out.ten
  obtain ⟨Jc0, Jc1, Jc2, Jc3, Jc4, Jc5, Jc6, Jc7, Jc8, Jc9⟩ := J13.out.ten
  obtain ⟨BGc0, BGc1, BGc2, BGc3, BGc4, BGc5, BGc6, BGc7, BGc8, BGc9⟩ := BG13.out.ten
  go_wp2_with fail
  refine (eqMachine_same _ _ _ _ _ _ Y w13 G13.out.mch.reads U13.out.reads (by omega) (by omega) HSY.out).mono ?_
  rintro e w14 ⟨rfl, hb⟩
  clear Pc0 Pc1 Pc2 Pc3 Pc4 Pc5 Pc6 Pc7 Pc8 Pc9
  clear BUc0 BUc1 BUc2 BUc3 BUc4 BUc5 BUc6 BUc7 BUc8 BUc9
  clear Jc0 Jc1 Jc2 Jc3 Jc4 Jc5 Jc6 Jc7 Jc8 Jc9
  clear BGc0 BGc1 BGc2 BGc3 BGc4 BGc5 BGc6 BGc7 BGc8 BGc9
  have s14 : w13.heap.size ≤ w14.heap.size := hb.size
  have P14 := Lib.hid (P13.out.below hb (by omega))
  have T14 := Lib.hid (T13.out.trans (hb.mono (by omega)))
  have V14 := Lib.hid (V13.out.below (by omega) hb)
  have C1_14 := Lib.hid ((hb.cell (World.block_lt_of_cell? _ _ C1_13.out)).trans C1_13.out)
  have C2_14 := Lib.hid ((hb.cell (World.block_lt_of_cell? _ _ C2_13.out)).trans C2_13.out)
  have C3_14 := Lib.hid ((hb.cell (World.block_lt_of_cell? _ _ C3_13.out)).trans C3_13.out)
  have B1_14 := Lib.hid ((hb.block a1.block (by have := ha1; omega)).trans B1_13.out)
  have B2_14 := Lib.hid ((hb.block a2.block (by have := ha2; omega)).trans B2_13.out)
  have U14 := Lib.hid (U13.out.below hb)
  have R14 := Lib.hid (R13.out.below hb)
  have BU14 := Lib.hid (BU13.out.below hb (by omega))
  have J14 := Lib.hid (J13.out.below hb (by omega))
  have G14 := Lib.hid (G13.out.below hb)
  have Q14 := Lib.hid (Q13.out.below hb)
  have BG14 := Lib.hid (BG13.out.below hb (by omega))
  clear P13 T13 V13 C1_13 C2_13 C3_13 B1_13 B2_13 U13 R13 BU13 J13 G13 Q13 BG13
  clear hb
  have yP_14 : w.heap.size < w14.heap.size := by omega
  have yBU_14 : w3.heap.size < w14.heap.size := by omega
  have yJ_14 : w5.heap.size < w14.heap.size := by omega
  have yBG_14 : w7.heap.size < w14.heap.size := by omega
  obtain ⟨Pc0, Pc1, Pc2, Pc3, Pc4, Pc5, Pc6, Pc7, Pc8, Pc9⟩ := P14.out.ten
  obtain ⟨BUc0, BUc1, BUc2, BUc3, BUc4, BUc5, BUc6, BUc7, BUc8, BUc9⟩ := BU14.out.ten
  obtain ⟨Jc0, Jc1, Jc2, Jc3, Jc4, Jc5, Jc6, Jc7, Jc8, Jc9⟩ := J14.out.ten
  obtain ⟨BGc0, BGc1, BGc2, BGc3, BGc4, BGc5, BGc6, BGc7, BGc8, BGc9⟩ := BG14.out.ten
  go_wp2_with fail
  refine (eqIntS_t _ _ _ _ _ zs w14 HN.out (by omega) (own_intsQ Q14.out) (own_intsQ R14.out)).mono ?_
  rintro e w15 ⟨rfl, hb⟩
  clear Pc0 Pc1 Pc2 Pc3 Pc4 Pc5 Pc6 Pc7 Pc8 Pc9
  clear BUc0 BUc1 BUc2 BUc3 BUc4 BUc5 BUc6 BUc7 BUc8 BUc9
  clear Jc0 Jc1 Jc2 Jc3 Jc4 Jc5 Jc6 Jc7 Jc8 Jc9
  clear BGc0 BGc1 BGc2 BGc3 BGc4 BGc5 BGc6 BGc7 BGc8 BGc9
  have s15 : w14.heap.size ≤ w15.heap.size := hb.size
  have P15 := Lib.hid (P14.out.below hb (by omega))
  have T15 := Lib.hid (T14.out.trans (hb.mono (by omega)))
  have V15 := Lib.hid (V14.out.below (by omega) hb)
  have C1_15 := Lib.hid ((hb.cell (World.block_lt_of_cell? _ _ C1_14.out)).trans C1_14.out)
  have C2_15 := Lib.hid ((hb.cell (World.block_lt_of_cell? _ _ C2_14.out)).trans C2_14.out)
  have C3_15 := Lib.hid ((hb.cell (World.block_lt_of_cell? _ _ C3_14.out)).trans C3_14.out)
  have B1_15 := Lib.hid ((hb.block a1.block (by have := ha1; omega)).trans B1_14.out)
  have B2_15 := Lib.hid ((hb.block a2.block (by have := ha2; omega)).trans B2_14.out)
  have U15 := Lib.hid (U14.out.below hb)
  have R15 := Lib.hid (R14.out.below hb)
  have BU15 := Lib.hid (BU14.out.below hb (by omega))
  have J15 := Lib.hid (J14.out.below hb (by omega))
  have G15 := Lib.hid (G14.out.below hb)
  have Q15 := Lib.hid (Q14.out.below hb)
  have BG15 := Lib.hid (BG14.out.below hb (by omega))
  clear P14 T14 V14 C1_14 C2_14 C3_14 B1_14 B2_14 U14 R14 BU14 J14 G14 Q14 BG14
  clear hb
  have yP_15 : w.heap.size < w15.heap.size := by omega
  have yBU_15 : w3.heap.size < w15.heap.size := by omega
  have yJ_15 : w5.heap.size < w15.heap.size := by omega
  have yBG_15 : w7.heap.size < w15.heap.size := by omega
  obtain ⟨Pc0, Pc1, Pc2, Pc3, Pc4, Pc5, Pc6, Pc7, Pc8, Pc9⟩ := P15.out.ten
  obtain ⟨BUc0, BUc1, BUc2, BUc3, BUc4, BUc5, BUc6, BUc7, BUc8, BUc9⟩ := BU15.out.ten
  obtain ⟨Jc0, Jc1, Jc2, Jc3, Jc4, Jc5, Jc6, Jc7, Jc8, Jc9⟩ := J15.out.ten
  obtain ⟨BGc0, BGc1, BGc2, BGc3, BGc4, BGc5, BGc6, BGc7, BGc8, BGc9⟩ := BG15.out.ten
  have hm2 : decide (1 + (Y.marks : Int) < 0) = false := decide_eq_false (by omega)
  have hm3 : decide (1 + (Y.marks : Int) + (nn : Int) < 0) = false := decide_eq_false (by omega)
  have hne3 : ((1 + (Y.marks : Int) + (nn : Int)) != (1 + (Y.marks : Int) + (nn : Int))) = false := by simp
  go_wp2_with fail
  refine (markMachineA_any _ _ _ _ Y 1 w15 G15.out (fun k hk => by have := Qt k hk; omega) (by omega) (by omega) (by omega) (by omega)).mono ?_
  rintro e w16 ⟨rfl, hX, hc, hst⟩
  have hQ := Own.stay Q15.out hst
  clear hst
  clear G15
  clear Q15
  clear Pc0 Pc1 Pc2 Pc3 Pc4 Pc5 Pc6 Pc7 Pc8 Pc9
  clear BUc0 BUc1 BUc2 BUc3 BUc4 BUc5 BUc6 BUc7 BUc8 BUc9
  clear Jc0 Jc1 Jc2 Jc3 Jc4 Jc5 Jc6 Jc7 Jc8 Jc9
  clear BGc0 BGc1 BGc2 BGc3 BGc4 BGc5 BGc6 BGc7 BGc8 BGc9
  have s16 : w15.heap.size ≤ w16.heap.size := hc.size
  have P16 := Lib.hid (P15.out.chg hc (by omega))
  have T16 := Lib.hid (T15.out.trans ((hc.below (by omega)).mono (by omega)))
  have V16 := Lib.hid (V15.out.chg hc (by omega) (by omega))
  have C1_16 := Lib.hid ((hc.cell (World.block_lt_of_cell? _ _ C1_15.out) (by have := hgx1; simp only; omega)).trans C1_15.out)
  have C2_16 := Lib.hid ((hc.cell (World.block_lt_of_cell? _ _ C2_15.out) (by have := hgx2; simp only; omega)).trans C2_15.out)
  have C3_16 := Lib.hid ((hc.cell (World.block_lt_of_cell? _ _ C3_15.out) (by have := hgx3; simp only; omega)).trans C3_15.out)
  have B1_16 := Lib.hid ((hc.block a1.block (by have := ha1; omega) (by have := ha1; omega)).trans B1_15.out)
  have B2_16 := Lib.hid ((hc.block a2.block (by have := ha2; omega) (by have := ha2; omega)).trans B2_15.out)
  have U16 := Lib.hid (U15.out.chg hc (by unfold Off; omega))
  have R16 := Lib.hid (hc.own R15.out (fun x hx => by have := Rt x hx; omega))
  have BU16 := Lib.hid (BU15.out.chg hc (by omega))
  have J16 := Lib.hid (J15.out.chg hc (by omega))
  have BG16 := Lib.hid (BG15.out.chg hc (by omega))
  clear P15 T15 V15 C1_15 C2_15 C3_15 B1_15 B2_15 U15 R15 BU15 J15 BG15
  clear hc
  have yP_16 : w.heap.size < w16.heap.size := by omega
  have yBU_16 : w3.heap.size < w16.heap.size := by omega
  have yJ_16 : w5.heap.size < w16.heap.size := by omega
  have yBG_16 : w7.heap.size < w16.heap.size := by omega
  have H16 := Lib.hid (hX)
  have Q16 := Lib.hid (hQ)
  clear hX hQ
  obtain ⟨Pc0, Pc1, Pc2, Pc3, Pc4, Pc5, Pc6, Pc7, Pc8, Pc9⟩ := P16.out.ten
  obtain ⟨BUc0, BUc1, BUc2, BUc3, BUc4, BUc5, BUc6, BUc7, BUc8, BUc9⟩ := BU16.out.ten
  obtain ⟨Jc0, Jc1, Jc2, Jc3, Jc4, Jc5, Jc6, Jc7, Jc8, Jc9⟩ := J16.out.ten
  obtain ⟨BGc0, BGc1, BGc2, BGc3, BGc4, BGc5, BGc6, BGc7, BGc8, BGc9⟩ := BG16.out.ten
  go_wp2_with fail
  refine (markIntS_any _ _ (1 + (Y.marks : Int)) zs w16 (by omega) (by omega) (by rw [HN.out]; omega) Q16.out).mono ?_
  rintro e w17 ⟨rfl, hO, hg⟩
  rw [HN.out] at hO
  rw [HN.out]
  have hc := Chg.of_grown hg Qt
  have hX := H16.out.row hg
  clear hg
  clear Q16
  clear H16
  clear Pc0 Pc1 Pc2 Pc3 Pc4 Pc5 Pc6 Pc7 Pc8 Pc9
  clear BUc0 BUc1 BUc2 BUc3 BUc4 BUc5 BUc6 BUc7 BUc8 BUc9
  clear Jc0 Jc1 Jc2 Jc3 Jc4 Jc5 Jc6 Jc7 Jc8 Jc9
  clear BGc0 BGc1 BGc2 BGc3 BGc4 BGc5 BGc6 BGc7 BGc8 BGc9
  have s17 : w16.heap.size ≤ w17.heap.size := hc.size
  have P17 := Lib.hid (P16.out.chg hc (by omega))
  have T17 := Lib.hid (T16.out.trans ((hc.below (by omega)).mono (by omega)))
  have V17 := Lib.hid (V16.out.chg hc (by omega) (by omega))
  have C1_17 := Lib.hid ((hc.cell (World.block_lt_of_cell? _ _ C1_16.out) (by have := hgx1; simp only; omega)).trans C1_16.out)
  have C2_17 := Lib.hid ((hc.cell (World.block_lt_of_cell? _ _ C2_16.out) (by have := hgx2; simp only; omega)).trans C2_16.out)
  have C3_17 := Lib.hid ((hc.cell (World.block_lt_of_cell? _ _ C3_16.out) (by have := hgx3; simp only; omega)).trans C3_16.out)
  have B1_17 := Lib.hid ((hc.block a1.block (by have := ha1; omega) (by have := ha1; omega)).trans B1_16.out)
  have B2_17 := Lib.hid ((hc.block a2.block (by have := ha2; omega) (by have := ha2; omega)).trans B2_16.out)
  have U17 := Lib.hid (U16.out.chg hc (by unfold Off; omega))
  have R17 := Lib.hid (hc.own R16.out (fun x hx => by have := Rt x hx; omega))
  have BU17 := Lib.hid (BU16.out.chg hc (by omega))
  have J17 := Lib.hid (J16.out.chg hc (by omega))
  have BG17 := Lib.hid (BG16.out.chg hc (by omega))
  clear P16 T16 V16 C1_16 C2_16 C3_16 B1_16 B2_16 U16 R16 BU16 J16 BG16
  clear hc
  have yP_17 : w.heap.size < w17.heap.size := by omega
  have yBU_17 : w3.heap.size < w17.heap.size := by omega
  have yJ_17 : w5.heap.size < w17.heap.size := by omega
  have yBG_17 : w7.heap.size < w17.heap.size := by omega
  have H17 := Lib.hid (hX)
  have W17 := Lib.hid (hO)
  clear hX hO
  have Wt := Qt
  obtain ⟨Pc0, Pc1, Pc2, Pc3, Pc4, Pc5, Pc6, Pc7, Pc8, Pc9⟩ := P17.out.ten
  obtain ⟨BUc0, BUc1, BUc2, BUc3, BUc4, BUc5, BUc6, BUc7, BUc8, BUc9⟩ := BU17.out.ten
  obtain ⟨Jc0, Jc1, Jc2, Jc3, Jc4, Jc5, Jc6, Jc7, Jc8, Jc9⟩ := J17.out.ten
  obtain ⟨BGc0, BGc1, BGc2, BGc3, BGc4, BGc5, BGc6, BGc7, BGc8, BGc9⟩ := BG17.out.ten
  go_wp2_with fail
  refine (heldMachine_any _ _ _ Y 1 w17 H17.out.mch.reads (by omega) hYb (by omega) (by omega)).mono ?_
  rintro e w18 ⟨rfl, hb⟩
  clear Pc0 Pc1 Pc2 Pc3 Pc4 Pc5 Pc6 Pc7 Pc8 Pc9
  clear BUc0 BUc1 BUc2 BUc3 BUc4 BUc5 BUc6 BUc7 BUc8 BUc9
  clear Jc0 Jc1 Jc2 Jc3 Jc4 Jc5 Jc6 Jc7 Jc8 Jc9
  clear BGc0 BGc1 BGc2 BGc3 BGc4 BGc5 BGc6 BGc7 BGc8 BGc9
  have s18 : w17.heap.size ≤ w18.heap.size := hb.size
  have P18 := Lib.hid (P17.out.below hb (by omega))
  have T18 := Lib.hid (T17.out.trans (hb.mono (by omega)))
  have V18 := Lib.hid (V17.out.below (by omega) hb)
  have C1_18 := Lib.hid ((hb.cell (World.block_lt_of_cell? _ _ C1_17.out)).trans C1_17.out)
  have C2_18 := Lib.hid ((hb.cell (World.block_lt_of_cell? _ _ C2_17.out)).trans C2_17.out)
  have C3_18 := Lib.hid ((hb.cell (World.block_lt_of_cell? _ _ C3_17.out)).trans C3_17.out)
  have B1_18 := Lib.hid ((hb.block a1.block (by have := ha1; omega)).trans B1_17.out)
  have B2_18 := Lib.hid ((hb.block a2.block (by have := ha2; omega)).trans B2_17.out)
  have U18 := Lib.hid (U17.out.below hb)
  have R18 := Lib.hid (R17.out.below hb)
  have BU18 := Lib.hid (BU17.out.below hb (by omega))
  have J18 := Lib.hid (J17.out.below hb (by omega))
  have BG18 := Lib.hid (BG17.out.below hb (by omega))
  have H18 := Lib.hid (H17.out.below hb)
  have W18 := Lib.hid (W17.out.below hb)
  clear P17 T17 V17 C1_17 C2_17 C3_17 B1_17 B2_17 U17 R17 BU17 J17 BG17 H17 W17
  clear hb
  have yP_18 : w.heap.size < w18.heap.size := by omega
  have yBU_18 : w3.heap.size < w18.heap.size := by omega
  have yJ_18 : w5.heap.size < w18.heap.size := by omega
  have yBG_18 : w7.heap.size < w18.heap.size := by omega
  obtain ⟨Pc0, Pc1, Pc2, Pc3, Pc4, Pc5, Pc6, Pc7, Pc8, Pc9⟩ := P18.out.ten
  obtain ⟨BUc0, BUc1, BUc2, BUc3, BUc4, BUc5, BUc6, BUc7, BUc8, BUc9⟩ := BU18.out.ten
  obtain ⟨Jc0, Jc1, Jc2, Jc3, Jc4, Jc5, Jc6, Jc7, Jc8, Jc9⟩ := J18.out.ten
  obtain ⟨BGc0, BGc1, BGc2, BGc3, BGc4, BGc5, BGc6, BGc7, BGc8, BGc9⟩ := BG18.out.ten
  go_wp2_with fail
  refine (heldIntS_any _ nn _ (1 + (Y.marks : Int)) w18 (by omega) (by omega) (by omega) (own_intsQ W18.out)).mono ?_
  rintro e w' ⟨rfl, rfl⟩
  go_wp2_with fail
  refine (toMachine_any lo hi _ X w18 V18.out (by omega) HS.out).mono ?_
  rintro e w19 ⟨vq, rfl, hO, hb⟩
  obtain ⟨sq, Aq, nq, cq, Bq, mq, dq, Mq, qq, eq, spq, Wq, tq, kq, Lq, lq, fq, Tq, rq, gq, rfl⟩ := hO.reads.form
  clear Pc0 Pc1 Pc2 Pc3 Pc4 Pc5 Pc6 Pc7 Pc8 Pc9
  clear BUc0 BUc1 BUc2 BUc3 BUc4 BUc5 BUc6 BUc7 BUc8 BUc9
  clear Jc0 Jc1 Jc2 Jc3 Jc4 Jc5 Jc6 Jc7 Jc8 Jc9
  clear BGc0 BGc1 BGc2 BGc3 BGc4 BGc5 BGc6 BGc7 BGc8 BGc9
  have s19 : w18.heap.size ≤ w19.heap.size := hb.size
  have P19 := Lib.hid (P18.out.below hb (by omega))
  have T19 := Lib.hid (T18.out.trans (hb.mono (by omega)))
  have V19 := Lib.hid (V18.out.below (by omega) hb)
  have C1_19 := Lib.hid ((hb.cell (World.block_lt_of_cell? _ _ C1_18.out)).trans C1_18.out)
  have C2_19 := Lib.hid ((hb.cell (World.block_lt_of_cell? _ _ C2_18.out)).trans C2_18.out)
  have C3_19 := Lib.hid ((hb.cell (World.block_lt_of_cell? _ _ C3_18.out)).trans C3_18.out)
  have B1_19 := Lib.hid ((hb.block a1.block (by have := ha1; omega)).trans B1_18.out)
  have B2_19 := Lib.hid ((hb.block a2.block (by have := ha2; omega)).trans B2_18.out)
  have U19 := Lib.hid (U18.out.below hb)
  have R19 := Lib.hid (R18.out.below hb)
  have BU19 := Lib.hid (BU18.out.below hb (by omega))
  have J19 := Lib.hid (J18.out.below hb (by omega))
  have BG19 := Lib.hid (BG18.out.below hb (by omega))
  have H19 := Lib.hid (H18.out.below hb)
  have W19 := Lib.hid (W18.out.below hb)
  clear P18 T18 V18 C1_18 C2_18 C3_18 B1_18 B2_18 U18 R18 BU18 J18 BG18 H18 W18
  clear hb
  have yP_19 : w.heap.size < w19.heap.size := by omega
  have yBU_19 : w3.heap.size < w19.heap.size := by omega
  have yJ_19 : w5.heap.size < w19.heap.size := by omega
  have yBG_19 : w7.heap.size < w19.heap.size := by omega
  have S19 := Lib.hid (hO)
  obtain ⟨Pc0, Pc1, Pc2, Pc3, Pc4, Pc5, Pc6, Pc7, Pc8, Pc9⟩ := P19.out.ten
  obtain ⟨BUc0, BUc1, BUc2, BUc3, BUc4, BUc5, BUc6, BUc7, BUc8, BUc9⟩ := BU19.out.ten
  obtain ⟨Jc0, Jc1, Jc2, Jc3, Jc4, Jc5, Jc6, Jc7, Jc8, Jc9⟩ := J19.out.ten
  obtain ⟨BGc0, BGc1, BGc2, BGc3, BGc4, BGc5, BGc6, BGc7, BGc8, BGc9⟩ := BG19.out.ten
  clear hO
  go_wp2_with fail
  refine (implCast_any _ _ _ X rag w19 S19.out.reads (by omega) HS.out HWf.out a1 a2 ca1 ca2 ta1 ta2 HNE.out B1_19.out B2_19.out C1_19.out C2_19.out ct9 cu9 C3_19.out (by omega)).mono ?_
  rintro e w20 ⟨v', vp, rfl, ⟨hb9, hO, hh9⟩, hU, hb⟩
  rw [HY.out] at hO
  rw [Hzs.out] at hU
  rw [Htt.out, Hok.out]
  obtain ⟨sh, Ah, nh, ch, Bh, mh, dh, Mh, qh, eh, sph, Wh, th, kh, Lh, lh, fh, Th, rh, gh, rfl⟩ := hO.mch.reads.form
  obtain ⟨Eh, xh, rfl, -, -, -, -⟩ := hU.form
  rw [HN.out] at hU hO ⊢
  clear Pc0 Pc1 Pc2 Pc3 Pc4 Pc5 Pc6 Pc7 Pc8 Pc9
  clear BUc0 BUc1 BUc2 BUc3 BUc4 BUc5 BUc6 BUc7 BUc8 BUc9
  clear Jc0 Jc1 Jc2 Jc3 Jc4 Jc5 Jc6 Jc7 Jc8 Jc9
  clear BGc0 BGc1 BGc2 BGc3 BGc4 BGc5 BGc6 BGc7 BGc8 BGc9
  have s20 : w19.heap.size ≤ w20.heap.size := hb.size
  have P20 := Lib.hid (P19.out.below hb (by omega))
  have T20 := Lib.hid (T19.out.trans (hb.mono (by omega)))
  have V20 := Lib.hid (V19.out.below (by omega) hb)
  have C1_20 := Lib.hid ((hb.cell (World.block_lt_of_cell? _ _ C1_19.out)).trans C1_19.out)
  have C2_20 := Lib.hid ((hb.cell (World.block_lt_of_cell? _ _ C2_19.out)).trans C2_19.out)
  have C3_20 := Lib.hid ((hb.cell (World.block_lt_of_cell? _ _ C3_19.out)).trans C3_19.out)
  have B1_20 := Lib.hid ((hb.block a1.block (by have := ha1; omega)).trans B1_19.out)
  have B2_20 := Lib.hid ((hb.block a2.block (by have := ha2; omega)).trans B2_19.out)
  have U20 := Lib.hid (U19.out.below hb)
  have R20 := Lib.hid (R19.out.below hb)
  have BU20 := Lib.hid (BU19.out.below hb (by omega))
  have J20 := Lib.hid (J19.out.below hb (by omega))
  have BG20 := Lib.hid (BG19.out.below hb (by omega))
  have H20 := Lib.hid (H19.out.below hb)
  have W20 := Lib.hid (W19.out.below hb)
  have S20 := Lib.hid (S19.out.below hb)
  clear P19 T19 V19 C1_19 C2_19 C3_19 B1_19 B2_19 U19 R19 BU19 J19 BG19 H19 W19 S19
  clear hb
  have yP_20 : w.heap.size < w20.heap.size := by omega
  have yBU_20 : w3.heap.size < w20.heap.size := by omega
  have yJ_20 : w5.heap.size < w20.heap.size := by omega
  have yBG_20 : w7.heap.size < w20.heap.size := by omega
  have E20 := Lib.hid (hO)
  have D20 := Lib.hid (hU)
  obtain ⟨Pc0, Pc1, Pc2, Pc3, Pc4, Pc5, Pc6, Pc7, Pc8, Pc9⟩ := P20.out.ten
  obtain ⟨BUc0, BUc1, BUc2, BUc3, BUc4, BUc5, BUc6, BUc7, BUc8, BUc9⟩ := BU20.out.ten
  obtain ⟨Jc0, Jc1, Jc2, Jc3, Jc4, Jc5, Jc6, Jc7, Jc8, Jc9⟩ := J20.out.ten
  obtain ⟨BGc0, BGc1, BGc2, BGc3, BGc4, BGc5, BGc6, BGc7, BGc8, BGc9⟩ := BG20.out.ten
  have Dt := fun k hk => World.ownsRow.lt hU k hk
  obtain ⟨bE, hbE⟩ : ∃ x, hb9 = x := ⟨_, rfl⟩
  subst hbE
  clear hO hU
  clear S20
  go_wp2_with fail
  obtain ⟨w21, hw, hb, hz, hK⟩ := mxWorld w20 #[.string sh, .slice Ah nh ch, .slice Bh mh dh, .slice Mh qh eh, .int .i64 sph, .int .i64 Wh, .int .i64 th, .int .i64 kh, .slice Lh lh fh, .slice Th rh gh] 37
  rw [hw]
  clear hw hz
  clear Pc0 Pc1 Pc2 Pc3 Pc4 Pc5 Pc6 Pc7 Pc8 Pc9
  clear BUc0 BUc1 BUc2 BUc3 BUc4 BUc5 BUc6 BUc7 BUc8 BUc9
  clear Jc0 Jc1 Jc2 Jc3 Jc4 Jc5 Jc6 Jc7 Jc8 Jc9
  clear BGc0 BGc1 BGc2 BGc3 BGc4 BGc5 BGc6 BGc7 BGc8 BGc9
  have s21 : w20.heap.size ≤ w21.heap.size := hb.size
  have P21 := Lib.hid (P20.out.below hb (by omega))
  have T21 := Lib.hid (T20.out.trans (hb.mono (by omega)))
  have V21 := Lib.hid (V20.out.below (by omega) hb)
  have C1_21 := Lib.hid ((hb.cell (World.block_lt_of_cell? _ _ C1_20.out)).trans C1_20.out)
  have C2_21 := Lib.hid ((hb.cell (World.block_lt_of_cell? _ _ C2_20.out)).trans C2_20.out)
  have C3_21 := Lib.hid ((hb.cell (World.block_lt_of_cell? _ _ C3_20.out)).trans C3_20.out)
  have B1_21 := Lib.hid ((hb.block a1.block (by have := ha1; omega)).trans B1_20.out)
  have B2_21 := Lib.hid ((hb.block a2.block (by have := ha2; omega)).trans B2_20.out)
  have U21 := Lib.hid (U20.out.below hb)
  have R21 := Lib.hid (R20.out.below hb)
  have BU21 := Lib.hid (BU20.out.below hb (by omega))
  have J21 := Lib.hid (J20.out.below hb (by omega))
  have BG21 := Lib.hid (BG20.out.below hb (by omega))
  have H21 := Lib.hid (H20.out.below hb)
  have W21 := Lib.hid (W20.out.below hb)
  have E21 := Lib.hid (E20.out.below hb)
  have D21 := Lib.hid (D20.out.below hb)
  clear P20 T20 V20 C1_20 C2_20 C3_20 B1_20 B2_20 U20 R20 BU20 J20 BG20 H20 W20 E20 D20
  clear hb
  have yP_21 : w.heap.size < w21.heap.size := by omega
  have yBU_21 : w3.heap.size < w21.heap.size := by omega
  have yJ_21 : w5.heap.size < w21.heap.size := by omega
  have yBG_21 : w7.heap.size < w21.heap.size := by omega
  have BE21 := Lib.hid (hK)
  have yBE : w20.heap.size < w21.heap.size := hK.lt
  clear hK
  obtain ⟨Pc0, Pc1, Pc2, Pc3, Pc4, Pc5, Pc6, Pc7, Pc8, Pc9⟩ := P21.out.ten
  obtain ⟨BUc0, BUc1, BUc2, BUc3, BUc4, BUc5, BUc6, BUc7, BUc8, BUc9⟩ := BU21.out.ten
  obtain ⟨Jc0, Jc1, Jc2, Jc3, Jc4, Jc5, Jc6, Jc7, Jc8, Jc9⟩ := J21.out.ten
  obtain ⟨BGc0, BGc1, BGc2, BGc3, BGc4, BGc5, BGc6, BGc7, BGc8, BGc9⟩ := BG21.out.ten
  obtain ⟨BEc0, BEc1, BEc2, BEc3, BEc4, BEc5, BEc6, BEc7, BEc8, BEc9⟩ := BE21.out.ten
  refine (eqMachine_same _ _ _ _ _ _ Y w21 E21.out.mch.reads U21.out.reads (by omega) (by omega) HSY.out).mono ?_
  rintro e w22 ⟨rfl, hb⟩
  clear Pc0 Pc1 Pc2 Pc3 Pc4 Pc5 Pc6 Pc7 Pc8 Pc9
  clear BUc0 BUc1 BUc2 BUc3 BUc4 BUc5 BUc6 BUc7 BUc8 BUc9
  clear Jc0 Jc1 Jc2 Jc3 Jc4 Jc5 Jc6 Jc7 Jc8 Jc9
  clear BGc0 BGc1 BGc2 BGc3 BGc4 BGc5 BGc6 BGc7 BGc8 BGc9
  clear BEc0 BEc1 BEc2 BEc3 BEc4 BEc5 BEc6 BEc7 BEc8 BEc9
  have s22 : w21.heap.size ≤ w22.heap.size := hb.size
  have P22 := Lib.hid (P21.out.below hb (by omega))
  have T22 := Lib.hid (T21.out.trans (hb.mono (by omega)))
  have V22 := Lib.hid (V21.out.below (by omega) hb)
  have C1_22 := Lib.hid ((hb.cell (World.block_lt_of_cell? _ _ C1_21.out)).trans C1_21.out)
  have C2_22 := Lib.hid ((hb.cell (World.block_lt_of_cell? _ _ C2_21.out)).trans C2_21.out)
  have C3_22 := Lib.hid ((hb.cell (World.block_lt_of_cell? _ _ C3_21.out)).trans C3_21.out)
  have B1_22 := Lib.hid ((hb.block a1.block (by have := ha1; omega)).trans B1_21.out)
  have B2_22 := Lib.hid ((hb.block a2.block (by have := ha2; omega)).trans B2_21.out)
  have U22 := Lib.hid (U21.out.below hb)
  have R22 := Lib.hid (R21.out.below hb)
  have BU22 := Lib.hid (BU21.out.below hb (by omega))
  have J22 := Lib.hid (J21.out.below hb (by omega))
  have BG22 := Lib.hid (BG21.out.below hb (by omega))
  have H22 := Lib.hid (H21.out.below hb)
  have W22 := Lib.hid (W21.out.below hb)
  have E22 := Lib.hid (E21.out.below hb)
  have D22 := Lib.hid (D21.out.below hb)
  have BE22 := Lib.hid (BE21.out.below hb (by omega))
  clear P21 T21 V21 C1_21 C2_21 C3_21 B1_21 B2_21 U21 R21 BU21 J21 BG21 H21 W21 E21 D21 BE21
  clear hb
  have yP_22 : w.heap.size < w22.heap.size := by omega
  have yBU_22 : w3.heap.size < w22.heap.size := by omega
  have yJ_22 : w5.heap.size < w22.heap.size := by omega
  have yBG_22 : w7.heap.size < w22.heap.size := by omega
  have yBE_22 : w20.heap.size < w22.heap.size := by omega
  obtain ⟨Pc0, Pc1, Pc2, Pc3, Pc4, Pc5, Pc6, Pc7, Pc8, Pc9⟩ := P22.out.ten
  obtain ⟨BUc0, BUc1, BUc2, BUc3, BUc4, BUc5, BUc6, BUc7, BUc8, BUc9⟩ := BU22.out.ten
  obtain ⟨Jc0, Jc1, Jc2, Jc3, Jc4, Jc5, Jc6, Jc7, Jc8, Jc9⟩ := J22.out.ten
  obtain ⟨BGc0, BGc1, BGc2, BGc3, BGc4, BGc5, BGc6, BGc7, BGc8, BGc9⟩ := BG22.out.ten
  obtain ⟨BEc0, BEc1, BEc2, BEc3, BEc4, BEc5, BEc6, BEc7, BEc8, BEc9⟩ := BE22.out.ten
  go_wp2_with fail
  refine (eqIntS_t _ _ _ _ _ zs w22 HN.out (by omega) (own_intsQ D22.out) (own_intsQ R22.out)).mono ?_
  rintro e w23 ⟨rfl, hb⟩
  clear Pc0 Pc1 Pc2 Pc3 Pc4 Pc5 Pc6 Pc7 Pc8 Pc9
  clear BUc0 BUc1 BUc2 BUc3 BUc4 BUc5 BUc6 BUc7 BUc8 BUc9
  clear Jc0 Jc1 Jc2 Jc3 Jc4 Jc5 Jc6 Jc7 Jc8 Jc9
  clear BGc0 BGc1 BGc2 BGc3 BGc4 BGc5 BGc6 BGc7 BGc8 BGc9
  clear BEc0 BEc1 BEc2 BEc3 BEc4 BEc5 BEc6 BEc7 BEc8 BEc9
  have s23 : w22.heap.size ≤ w23.heap.size := hb.size
  have P23 := Lib.hid (P22.out.below hb (by omega))
  have T23 := Lib.hid (T22.out.trans (hb.mono (by omega)))
  have V23 := Lib.hid (V22.out.below (by omega) hb)
  have C1_23 := Lib.hid ((hb.cell (World.block_lt_of_cell? _ _ C1_22.out)).trans C1_22.out)
  have C2_23 := Lib.hid ((hb.cell (World.block_lt_of_cell? _ _ C2_22.out)).trans C2_22.out)
  have C3_23 := Lib.hid ((hb.cell (World.block_lt_of_cell? _ _ C3_22.out)).trans C3_22.out)
  have B1_23 := Lib.hid ((hb.block a1.block (by have := ha1; omega)).trans B1_22.out)
  have B2_23 := Lib.hid ((hb.block a2.block (by have := ha2; omega)).trans B2_22.out)
  have U23 := Lib.hid (U22.out.below hb)
  have R23 := Lib.hid (R22.out.below hb)
  have BU23 := Lib.hid (BU22.out.below hb (by omega))
  have J23 := Lib.hid (J22.out.below hb (by omega))
  have BG23 := Lib.hid (BG22.out.below hb (by omega))
  have H23 := Lib.hid (H22.out.below hb)
  have W23 := Lib.hid (W22.out.below hb)
  have E23 := Lib.hid (E22.out.below hb)
  have D23 := Lib.hid (D22.out.below hb)
  have BE23 := Lib.hid (BE22.out.below hb (by omega))
  clear P22 T22 V22 C1_22 C2_22 C3_22 B1_22 B2_22 U22 R22 BU22 J22 BG22 H22 W22 E22 D22 BE22
  clear hb
  have yP_23 : w.heap.size < w23.heap.size := by omega
  have yBU_23 : w3.heap.size < w23.heap.size := by omega
  have yJ_23 : w5.heap.size < w23.heap.size := by omega
  have yBG_23 : w7.heap.size < w23.heap.size := by omega
  have yBE_23 : w20.heap.size < w23.heap.size := by omega
  obtain ⟨Pc0, Pc1, Pc2, Pc3, Pc4, Pc5, Pc6, Pc7, Pc8, Pc9⟩ := P23.out.ten
  obtain ⟨BUc0, BUc1, BUc2, BUc3, BUc4, BUc5, BUc6, BUc7, BUc8, BUc9⟩ := BU23.out.ten
  obtain ⟨Jc0, Jc1, Jc2, Jc3, Jc4, Jc5, Jc6, Jc7, Jc8, Jc9⟩ := J23.out.ten
  obtain ⟨BGc0, BGc1, BGc2, BGc3, BGc4, BGc5, BGc6, BGc7, BGc8, BGc9⟩ := BG23.out.ten
  obtain ⟨BEc0, BEc1, BEc2, BEc3, BEc4, BEc5, BEc6, BEc7, BEc8, BEc9⟩ := BE23.out.ten
  go_wp2_with fail
  refine (heldMachine_any _ _ _ Y 1 w23 H23.out.mch.reads (by omega) hYb (by omega) (by omega)).mono ?_
  rintro e w24 ⟨rfl, hb⟩
  clear Pc0 Pc1 Pc2 Pc3 Pc4 Pc5 Pc6 Pc7 Pc8 Pc9
  clear BUc0 BUc1 BUc2 BUc3 BUc4 BUc5 BUc6 BUc7 BUc8 BUc9
  clear Jc0 Jc1 Jc2 Jc3 Jc4 Jc5 Jc6 Jc7 Jc8 Jc9
  clear BGc0 BGc1 BGc2 BGc3 BGc4 BGc5 BGc6 BGc7 BGc8 BGc9
  clear BEc0 BEc1 BEc2 BEc3 BEc4 BEc5 BEc6 BEc7 BEc8 BEc9
  have s24 : w23.heap.size ≤ w24.heap.size := hb.size
  have P24 := Lib.hid (P23.out.below hb (by omega))
  have T24 := Lib.hid (T23.out.trans (hb.mono (by omega)))
  have V24 := Lib.hid (V23.out.below (by omega) hb)
  have C1_24 := Lib.hid ((hb.cell (World.block_lt_of_cell? _ _ C1_23.out)).trans C1_23.out)
  have C2_24 := Lib.hid ((hb.cell (World.block_lt_of_cell? _ _ C2_23.out)).trans C2_23.out)
  have C3_24 := Lib.hid ((hb.cell (World.block_lt_of_cell? _ _ C3_23.out)).trans C3_23.out)
  have B1_24 := Lib.hid ((hb.block a1.block (by have := ha1; omega)).trans B1_23.out)
  have B2_24 := Lib.hid ((hb.block a2.block (by have := ha2; omega)).trans B2_23.out)
  have U24 := Lib.hid (U23.out.below hb)
  have R24 := Lib.hid (R23.out.below hb)
  have BU24 := Lib.hid (BU23.out.below hb (by omega))
  have J24 := Lib.hid (J23.out.below hb (by omega))
  have BG24 := Lib.hid (BG23.out.below hb (by omega))
  have H24 := Lib.hid (H23.out.below hb)
  have W24 := Lib.hid (W23.out.below hb)
  have E24 := Lib.hid (E23.out.below hb)
  have D24 := Lib.hid (D23.out.below hb)
  have BE24 := Lib.hid (BE23.out.below hb (by omega))
  clear P23 T23 V23 C1_23 C2_23 C3_23 B1_23 B2_23 U23 R23 BU23 J23 BG23 H23 W23 E23 D23 BE23
  clear hb
  have yP_24 : w.heap.size < w24.heap.size := by omega
  have yBU_24 : w3.heap.size < w24.heap.size := by omega
  have yJ_24 : w5.heap.size < w24.heap.size := by omega
  have yBG_24 : w7.heap.size < w24.heap.size := by omega
  have yBE_24 : w20.heap.size < w24.heap.size := by omega
  obtain ⟨Pc0, Pc1, Pc2, Pc3, Pc4, Pc5, Pc6, Pc7, Pc8, Pc9⟩ := P24.out.ten
  obtain ⟨BUc0, BUc1, BUc2, BUc3, BUc4, BUc5, BUc6, BUc7, BUc8, BUc9⟩ := BU24.out.ten
  obtain ⟨Jc0, Jc1, Jc2, Jc3, Jc4, Jc5, Jc6, Jc7, Jc8, Jc9⟩ := J24.out.ten
  obtain ⟨BGc0, BGc1, BGc2, BGc3, BGc4, BGc5, BGc6, BGc7, BGc8, BGc9⟩ := BG24.out.ten
  obtain ⟨BEc0, BEc1, BEc2, BEc3, BEc4, BEc5, BEc6, BEc7, BEc8, BEc9⟩ := BE24.out.ten
  go_wp2_with fail
  refine (heldIntS_any _ nn _ (1 + (Y.marks : Int)) w24 (by omega) (by omega) (by omega) (own_intsQ W24.out)).mono ?_
  rintro e w' ⟨rfl, rfl⟩
  go_wp2
  go_ret
  exact ⟨rfl, T24.out⟩
end Go.Proofs.YtimhnkpccbcohaaGreatDoor
