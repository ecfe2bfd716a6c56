/-
  KeyText of the program by contract. Conditions: lengths of at most 2^20; the four listed errors and errors.errorType read as laid.
-/
import Derived.Test.YtimhnkpccbcohaaGreatDoorKeyT
import Derived.Test.YtimhnkpccbcohaaGreatDoorAsK
import Derived.Test.YtimhnkpccbcohaaGreatDoorEngA
namespace Go.Proofs.YtimhnkpccbcohaaGreatDoor
open Go.RowKit Go.Conc
set_option linter.unusedVariables false
set_option linter.unusedSimpArgs false

theorem ErrsAt.below {w w' : World} {lo B : Nat} {e : Errs} (h : ErrsAt w lo e) (hb : Below B w w') (hB : lo ≤ B) : ErrsAt w' lo e :=
  ⟨(hb.cell (by have := h.fl; simp only; omega)).trans h.pf, (hb.cell (by have := h.bl; simp only; omega)).trans h.pb, (hb.cell (by have := h.el; simp only; omega)).trans h.pe, (hb.cell (by have := h.kl; simp only; omega)).trans h.pk, h.fl, h.bl, h.el, h.kl⟩
theorem ErrsAt.wide {w : World} {lo lo' : Nat} {e : Errs} (h : ErrsAt w lo e) (hB : lo ≤ lo') : ErrsAt w lo' e :=
  ⟨h.pf, h.pb, h.pe, h.pk, by have := h.fl; omega, by have := h.bl; omega, by have := h.el; omega, by have := h.kl; omega⟩
/-- the answer of KeyText -/
def KeyRes (X : Mch) (s : ByteArray) (n : Int) (Y : Mch) : Prop := (machB X = false ∧ n = -1 ∧ Y = zeroX) ∨ (machB X = true ∧ ∃ j : Nat, KeyEnd X s j ∧ n = j ∧ Y = keyN X s j)
theorem KeyRes.unique {X : Mch} {s : ByteArray} {n n' : Int} {Y Y' : Mch} (h : KeyRes X s n Y) (h' : KeyRes X s n' Y') : n = n' ∧ Y = Y' := by
  rcases h with ⟨h0, h1, h2⟩ | ⟨h0, j, h1, h2, h3⟩ <;> rcases h' with ⟨g0, g1, g2⟩ | ⟨g0, i, g1, g2, g3⟩
  · exact ⟨h1.trans g1.symm, h2.trans g2.symm⟩
  · rw [h0] at g0; cases g0
  · rw [h0] at g0; cases g0
  · obtain rfl := h1.unique g1
    exact ⟨h2.trans g2.symm, h3.trans g3.symm⟩
set_option maxRecDepth 100000 in
set_option maxHeartbeats 6400000 in
theorem implKey_no (lo hi0 : Nat) (v : Value) (X : Mch) (sx : ByteArray) (w : World) (h : MchV w lo hi0 v X) (hhi : hi0 ≤ w.heap.size) (hs : SmallX X) (wf : WfX X) (hsx : sx.size ≤ maxLen) (hm : machB X = false) :
    Calls Tryz.prog 20 #[v, .string sx] w fun e w' => ∃ v' n Y, e = .returned (.tuple #[v', .int .i64 n]) ∧ KeyRes X sx n Y ∧ MchY w' w.heap.size w'.heap.size v' Y ∧ Below w.heap.size w w' := by
  have HNO := Lib.hid hm
  obtain ⟨s, A, n, c, A2, m, d, M, q, e0, L, l, lc, T, r, tc, hv, -⟩ := h.parts
  rw [hv] at h ⊢
  clear hv
  obtain ⟨w0, hw0⟩ : ∃ x, w = x := ⟨_, rfl⟩
  have hww : w.heap.size = w0.heap.size := by rw [hw0]
  have HS := Lib.hid hs; have HWF := Lib.hid wf
  have T0 : Hid (Below w0.heap.size w0 w0) := Below.refl _ _
  have V0 : Hid (MchV w0 lo hi0 (.agg #[.string s, .slice A n c, .slice A2 m d, .slice M q e0, .int .i64 X.sp, .int .i64 X.w, .int .i64 X.t, .int .i64 X.k, .slice L l lc, .slice T r tc]) X) := by rw [← hw0]; exact h
  clear h hs wf
  obtain ⟨w1, hw1, hb1, hz1, hX1⟩ := mxWorld w0 #[.string s, .slice A n c, .slice A2 m d, .slice M q e0, .int .i64 X.sp, .int .i64 X.w, .int .i64 X.t, .int .i64 X.k, .slice L l lc, .slice T r tc] 37
  have T1 := Lib.hid (T0.out.trans (hb1.mono (by omega)))
  have V1 := Lib.hid (V0.out.below (by omega) hb1)
  have sz1 : w0.heap.size ≤ w1.heap.size := hb1.size
  clear T0 V0
  have P1 : Hid (Blk w1 (w0.heap.size) #[.string s, .slice A n c, .slice A2 m d, .slice M q e0, .int .i64 X.sp, .int .i64 X.w, .int .i64 X.t, .int .i64 X.k, .slice L l lc, .slice T r tc] 37) := by show Blk _ _ _ _; exact hX1
  obtain ⟨w2, hw2, hb2, hz2, hX2⟩ := mxWorld w1 #[.string ⟨#[]⟩, .slice none 0 0, .slice none 0 0, .slice none 0 0, .int .i64 0, .int .i64 0, .int .i64 0, .int .i64 0, .slice none 0 0, .slice none 0 0] 37
  have T2 := Lib.hid (T1.out.trans (hb2.mono (by omega)))
  have V2 := Lib.hid (V1.out.below (by omega) hb2)
  have P2 := Lib.hid (P1.out.below hb2 (by omega))
  have sz2 : w1.heap.size ≤ w2.heap.size := hb2.size
  clear T1 V1 P1
  have R2 : Hid (Blk w2 (w0.heap.size + 1) #[.string ⟨#[]⟩, .slice none 0 0, .slice none 0 0, .slice none 0 0, .int .i64 0, .int .i64 0, .int .i64 0, .int .i64 0, .slice none 0 0, .slice none 0 0] 37) := by show Blk _ _ _ _; rw [← hz1]; exact hX2
  rw [hz1] at hz2
  have p0 := cellOfBlk P2.out 0
  have p1 := cellOfBlk P2.out 1
  have p2 := cellOfBlk P2.out 2
  have p3 := cellOfBlk P2.out 3
  have p4 := cellOfBlk P2.out 4
  have p5 := cellOfBlk P2.out 5
  have p6 := cellOfBlk P2.out 6
  have p7 := cellOfBlk P2.out 7
  have p8 := cellOfBlk P2.out 8
  have p9 := cellOfBlk P2.out 9
  rw [hw0]
  go_enter Tryz.func20, Tryz.ntmps20
  go_wp2_with fail
  clear p0 p1 p2 p3 p4 p5 p6 p7 p8 p9
  refine (implMachine_any lo hi0 _ X w2 V2.out (by omega) HS.out HWF.out).mono ?_
  rintro e w3 ⟨rfl, hb3⟩
  have T3 := Lib.hid (T2.out.trans (hb3.mono (by omega)))
  have V3 := Lib.hid (V2.out.below (by omega) hb3)
  have P3 := Lib.hid (P2.out.below hb3 (by omega))
  have R3 := Lib.hid (R2.out.below hb3 (by omega))
  have sz3 : w2.heap.size ≤ w3.heap.size := hb3.size
  clear T2 V2 P2 R2
  rw [hm]
  have r0 := cellOfBlk R3.out 0
  have r1 := cellOfBlk R3.out 1
  have r2 := cellOfBlk R3.out 2
  have r3 := cellOfBlk R3.out 3
  have r4 := cellOfBlk R3.out 4
  have r5 := cellOfBlk R3.out 5
  have r6 := cellOfBlk R3.out 6
  have r7 := cellOfBlk R3.out 7
  have r8 := cellOfBlk R3.out 8
  have r9 := cellOfBlk R3.out 9
  have ff := R3.out.warm
  go_wp2
  have hR := R3.out.fill (.string ⟨#[]⟩) (.slice none 0 0) (.slice none 0 0) (.slice none 0 0) (.int .i64 0) (.int .i64 0) (.int .i64 0) (.int .i64 0) (.slice none 0 0) (.slice none 0 0)
  have hc9 := chg_ten w3 (w0.heap.size + 1) (.string ⟨#[]⟩) (.slice none 0 0) (.slice none 0 0) (.slice none 0 0) (.int .i64 0) (.int .i64 0) (.int .i64 0) (.int .i64 0) (.slice none 0 0) (.slice none 0 0)
  obtain ⟨w9, hw9⟩ : ∃ x, ((((((((((w3.setCell ⟨w0.heap.size + 1, 0, none⟩ (.string ⟨#[]⟩)).setCell ⟨w0.heap.size + 1, 1, none⟩ (.slice none 0 0)).setCell ⟨w0.heap.size + 1, 2, none⟩ (.slice none 0 0)).setCell ⟨w0.heap.size + 1, 3, none⟩ (.slice none 0 0)).setCell ⟨w0.heap.size + 1, 4, none⟩ (.int .i64 0)).setCell ⟨w0.heap.size + 1, 5, none⟩ (.int .i64 0)).setCell ⟨w0.heap.size + 1, 6, none⟩ (.int .i64 0)).setCell ⟨w0.heap.size + 1, 7, none⟩ (.int .i64 0)).setCell ⟨w0.heap.size + 1, 8, none⟩ (.slice none 0 0)).setCell ⟨w0.heap.size + 1, 9, none⟩ (.slice none 0 0)) = x := ⟨_, rfl⟩
  rw [hw9] at hR hc9
  (try rw [hw9])
  clear hw9 r0 r1 r2 r3 r4 r5 r6 r7 r8 r9
  have r0 := cellOfBlk hR 0
  have r1 := cellOfBlk hR 1
  have r2 := cellOfBlk hR 2
  have r3 := cellOfBlk hR 3
  have r4 := cellOfBlk hR 4
  have r5 := cellOfBlk hR 5
  have r6 := cellOfBlk hR 6
  have r7 := cellOfBlk hR 7
  have r8 := cellOfBlk hR 8
  have r9 := cellOfBlk hR 9
  (try simp only [Exit.inBlock, Exit.then])
  refine bodyPost_ret (v := .tuple #[.agg #[.string ⟨#[]⟩, .slice none 0 0, .slice none 0 0, .slice none 0 0, .int .i64 0, .int .i64 0, .int .i64 0, .int .i64 0, .slice none 0 0, .slice none 0 0], .int .i64 (-1)]) (by simp [results, Tryz.results20, go_sem, r0, r1, r2, r3, r4, r5, r6, r7, r8, r9]) rfl ?_
  exact ⟨_, _, _, rfl, .inl ⟨HNO.out, rfl, rfl⟩, ((zeroX_own w9 w0.heap.size).tailed).wide (Nat.le_refl _) (by have := hc9.size; omega), T3.out.trans ((hc9.below (by omega)).mono (by omega))⟩
set_option maxRecDepth 100000 in
set_option maxHeartbeats 6400000 in
theorem implKey_yes (lo hi0 : Nat) (v : Value) (X : Mch) (sx : ByteArray) (w : World) (h : MchV w lo hi0 v X) (hhi : hi0 ≤ w.heap.size) (hs : SmallX X) (wf : WfX X) (hsx : sx.size ≤ maxLen) (hm : machB X = true) (es : Errs) (hE : ErrsAt w w.heap.size es) (hH : ErrH w) :
    Calls Tryz.prog 20 #[v, .string sx] w fun e w' => ∃ v' n Y, e = .returned (.tuple #[v', .int .i64 n]) ∧ KeyRes X sx n Y ∧ MchY w' w.heap.size w'.heap.size v' Y ∧ Below w.heap.size w w' := by
  have HYES := Lib.hid hm
  have HF := Lib.hid (mach_facts hm)
  obtain ⟨hmg, -, -, -, -, -, -⟩ := machB_parts hm
  have hlim : ∀ xs ∈ X.ms, xs.length ≤ 20 := fun xs hx => magB_20 hmg xs hx
  have HLIM := Lib.hid hlim
  clear hmg hlim
  obtain ⟨s, A, n, c, A2, m, d, M, q, e0, L, l, lc, T, r, tc, hv, -⟩ := h.parts
  rw [hv] at h ⊢
  clear hv
  obtain ⟨w0, hw0⟩ : ∃ x, w = x := ⟨_, rfl⟩
  have hww : w.heap.size = w0.heap.size := by rw [hw0]
  have HS := Lib.hid hs; have HWF := Lib.hid wf
  have T0 : Hid (Below w0.heap.size w0 w0) := Below.refl _ _
  have V0 : Hid (MchV w0 lo hi0 (.agg #[.string s, .slice A n c, .slice A2 m d, .slice M q e0, .int .i64 X.sp, .int .i64 X.w, .int .i64 X.t, .int .i64 X.k, .slice L l lc, .slice T r tc]) X) := by rw [← hw0]; exact h
  rw [hw0] at hE hH
  have Z0 : Hid (ErrsAt w0 w0.heap.size es) := hE
  have H0 : Hid (ErrH w0) := hH
  have hHl : 2 < w0.heap.size := World.block_lt_of_cell? _ _ hH
  clear hE hH
  clear h hs wf
  obtain ⟨w1, hw1, hb1, hz1, hX1⟩ := mxWorld w0 #[.string s, .slice A n c, .slice A2 m d, .slice M q e0, .int .i64 X.sp, .int .i64 X.w, .int .i64 X.t, .int .i64 X.k, .slice L l lc, .slice T r tc] 37
  have T1 := Lib.hid (T0.out.trans (hb1.mono (by omega)))
  have V1 := Lib.hid (V0.out.below (by omega) hb1)
  have Z1 := Lib.hid (Z0.out.below hb1 (by omega))
  have H1 := Lib.hid ((hb1.cell (p := ⟨2, 0, none⟩) (by show 2 < _; omega)).trans H0.out)
  have sz1 : w0.heap.size ≤ w1.heap.size := hb1.size
  clear T0 V0 Z0 H0
  have P1 : Hid (Blk w1 (w0.heap.size) #[.string s, .slice A n c, .slice A2 m d, .slice M q e0, .int .i64 X.sp, .int .i64 X.w, .int .i64 X.t, .int .i64 X.k, .slice L l lc, .slice T r tc] 37) := by show Blk _ _ _ _; exact hX1
  obtain ⟨w2, hw2, hb2, hz2, hX2⟩ := mxWorld w1 #[.string ⟨#[]⟩, .slice none 0 0, .slice none 0 0, .slice none 0 0, .int .i64 0, .int .i64 0, .int .i64 0, .int .i64 0, .slice none 0 0, .slice none 0 0] 37
  have T2 := Lib.hid (T1.out.trans (hb2.mono (by omega)))
  have V2 := Lib.hid (V1.out.below (by omega) hb2)
  have Z2 := Lib.hid (Z1.out.below hb2 (by omega))
  have H2 := Lib.hid ((hb2.cell (p := ⟨2, 0, none⟩) (by show 2 < _; omega)).trans H1.out)
  have P2 := Lib.hid (P1.out.below hb2 (by omega))
  have sz2 : w1.heap.size ≤ w2.heap.size := hb2.size
  clear T1 V1 Z1 H1 P1
  have R2 : Hid (Blk w2 (w0.heap.size + 1) #[.string ⟨#[]⟩, .slice none 0 0, .slice none 0 0, .slice none 0 0, .int .i64 0, .int .i64 0, .int .i64 0, .int .i64 0, .slice none 0 0, .slice none 0 0] 37) := by show Blk _ _ _ _; rw [← hz1]; exact hX2
  rw [hz1] at hz2
  have p0 := cellOfBlk P2.out 0
  have p1 := cellOfBlk P2.out 1
  have p2 := cellOfBlk P2.out 2
  have p3 := cellOfBlk P2.out 3
  have p4 := cellOfBlk P2.out 4
  have p5 := cellOfBlk P2.out 5
  have p6 := cellOfBlk P2.out 6
  have p7 := cellOfBlk P2.out 7
  have p8 := cellOfBlk P2.out 8
  have p9 := cellOfBlk P2.out 9
  rw [hw0]
  go_enter Tryz.func20, Tryz.ntmps20
  go_wp2_with fail
  clear p0 p1 p2 p3 p4 p5 p6 p7 p8 p9
  refine (implMachine_any lo hi0 _ X w2 V2.out (by omega) HS.out HWF.out).mono ?_
  rintro e w3 ⟨rfl, hb3⟩
  have T3 := Lib.hid (T2.out.trans (hb3.mono (by omega)))
  have V3 := Lib.hid (V2.out.below (by omega) hb3)
  have Z3 := Lib.hid (Z2.out.below hb3 (by omega))
  have H3 := Lib.hid ((hb3.cell (p := ⟨2, 0, none⟩) (by show 2 < _; omega)).trans H2.out)
  have P3 := Lib.hid (P2.out.below hb3 (by omega))
  have R3 := Lib.hid (R2.out.below hb3 (by omega))
  have sz3 : w2.heap.size ≤ w3.heap.size := hb3.size
  clear T2 V2 Z2 H2 P2 R2
  rw [hm]
  have p0 := cellOfBlk P3.out 0
  have p1 := cellOfBlk P3.out 1
  have p2 := cellOfBlk P3.out 2
  have p3 := cellOfBlk P3.out 3
  have p4 := cellOfBlk P3.out 4
  have p5 := cellOfBlk P3.out 5
  have p6 := cellOfBlk P3.out 6
  have p7 := cellOfBlk P3.out 7
  have p8 := cellOfBlk P3.out 8
  have p9 := cellOfBlk P3.out 9
  go_wp2_with fail
  clear p0 p1 p2 p3 p4 p5 p6 p7 p8 p9
  refine (start_any lo hi0 _ X w3 V3.out (by omega) HS.out HLIM.out HF.out.1).mono ?_
  rintro e w4 ⟨E, vm, Bc, dc, B, hi, hs, km, b0, b1, rfl, hEO, hb4⟩
  have hEn := Lib.hid hEO.parts
  clear hEO
  have T4 := Lib.hid (T3.out.trans (hb4.mono (by omega)))
  have Z4 := Lib.hid (Z3.out.below hb4 (by omega))
  have H4 := Lib.hid ((hb4.cell (p := ⟨2, 0, none⟩) (by show 2 < _; omega)).trans H3.out)
  have P4 := Lib.hid (P3.out.below hb4 (by omega))
  have R4 := Lib.hid (R3.out.below hb4 (by omega))
  have sz4 : w3.heap.size ≤ w4.heap.size := hb4.size
  clear T3 V3 Z3 H3 P3 R3
  obtain ⟨A1, c1, A21, d1, M1, q1, e1, L1, lc1, T1, tc1, Bc1, dc1, B1, hi1, hs1, km1, f0, f1, l0, l1, t0, t1, p0, p1, hP⟩ := hEn.out
  have htp := hP.top; have htl := hP.low; have hq3 := hP.o3; have hq4 := hP.o4
  obtain ⟨hqB, hqE⟩ := hP.at_
  have E4 : Hid (EngT w4 w3.heap.size E X A1 c1 A21 d1 M1 q1 e1 L1 lc1 T1 tc1 Bc1 dc1 B1 hi1 hs1 km1 f0 f1 l0 l1 t0 t1 p0 p1) := hP.tailed
  clear hP hEn
  obtain ⟨w5, hw5, hb5, hz5, hX5⟩ := mxWorld w4 #[.int .i64 0, .nilIface] 93
  have T5 := Lib.hid (T4.out.trans (hb5.mono (by omega)))
  have Z5 := Lib.hid (Z4.out.below hb5 (by omega))
  have H5 := Lib.hid ((hb5.cell (p := ⟨2, 0, none⟩) (by show 2 < _; omega)).trans H4.out)
  have P5 := Lib.hid (P4.out.below hb5 (by omega))
  have R5 := Lib.hid (R4.out.below hb5 (by omega))
  have E5 := Lib.hid (E4.out.below hb5)
  have sz5 : w4.heap.size ≤ w5.heap.size := hb5.size
  clear T4 Z4 H4 P4 R4 E4
  have S5 : Hid (Blk w5 (w4.heap.size) #[.int .i64 0, .nilIface] 93) := by show Blk _ _ _ _; exact hX5
  go_wp2_with fail
  refine (engText_any w3.heap.size E X sx w5 E5.out hsx HYES.out es (Z5.out.wide (by omega))).mono ?_
  rintro e w6 ⟨v9, j9, rfl, hKE, hTE, ⟨L9, lc9, l09, l19, hX, hrel⟩, hb6, hel⟩
  have S6 : Hid (Blk w6 w4.heap.size #[.int .i64 0, .nilIface] 93) := (hel w4.heap.size (by omega) (by omega) (by omega) (by omega)).trans S5.out
  have hsS : w4.heap.size < w5.heap.size := S5.out.lt
  have T6 := Lib.hid (T5.out.trans (hb6.mono (by omega)))
  have Z6 := Lib.hid (Z5.out.below hb6 (by omega))
  have H6 := Lib.hid ((hb6.cell (p := ⟨2, 0, none⟩) (by show 2 < _; omega)).trans H5.out)
  have P6 := Lib.hid (P5.out.below hb6 (by omega))
  have R6 := Lib.hid (R5.out.below hb6 (by omega))
  have sz6 : w5.heap.size ≤ w6.heap.size := hb6.size
  clear T5 Z5 H5 P5 R5
  have hrel2 : l19 ≤ w4.heap.size ∨ w4.heap.size < l09 := by rcases hrel with ⟨h7, h8⟩ | h7 <;> omega
  have HX := Lib.hid hX; have HKE := Lib.hid hKE
  clear hX hrel hel hKE
  have HMK := Lib.hid (keyN_mach HYES.out j9 HKE.out.1)
  rcases hTE with ⟨hj9, rfl⟩ | ⟨hj9, t9, u9, rfl⟩
  · go_wp2_with fail
    refine (as_nil _ _).mono ?_
    rintro e w7 ⟨rfl, hw7⟩
    have hw7 := hw7.symm
    subst hw7
    go_wp2_with fail
    have X6 := HX
    refine (stopT_any w3.heap.size E (keyN X sx j9) w6 ⟨_, _, _, _, _, _, _, _, _, _, _, _, _, _, _, _, _, _, _, _, _, _, _, _, _, X6.out⟩ (by have := (mach_big HMK.out).2.1; omega) (mach_big HMK.out).2.2.1).mono ?_
    rintro e w7 ⟨v', rfl, hY, hb7⟩
    have T7 := Lib.hid (T6.out.trans (hb7.mono (by omega)))
    have Z7 := Lib.hid (Z6.out.below hb7 (by omega))
    have H7 := Lib.hid ((hb7.cell (p := ⟨2, 0, none⟩) (by show 2 < _; omega)).trans H6.out)
    have P7 := Lib.hid (P6.out.below hb7 (by omega))
    have R7 := Lib.hid (R6.out.below hb7 (by omega))
    have sz7 : w6.heap.size ≤ w7.heap.size := hb7.size
    clear T6 Z6 H6 P6 R6
    obtain ⟨s9, A9, n9, c9, A29, m9, d9, M9, q9, e9, sp9, w_9, t_9, k9, L_9, l9, lc_9, T_9, r_9, tc9, rfl⟩ := hY.reads.form
    have HY := Lib.hid hY
    clear hY
    have r0 := cellOfBlk R7.out 0
    have r1 := cellOfBlk R7.out 1
    have r2 := cellOfBlk R7.out 2
    have r3 := cellOfBlk R7.out 3
    have r4 := cellOfBlk R7.out 4
    have r5 := cellOfBlk R7.out 5
    have r6 := cellOfBlk R7.out 6
    have r7 := cellOfBlk R7.out 7
    have r8 := cellOfBlk R7.out 8
    have r9 := cellOfBlk R7.out 9
    have ff := R7.out.warm
    go_wp2
    have hR := R7.out.fill (.string s9) (.slice A9 n9 c9) (.slice A29 m9 d9) (.slice M9 q9 e9) (.int .i64 sp9) (.int .i64 w_9) (.int .i64 t_9) (.int .i64 k9) (.slice L_9 l9 lc_9) (.slice T_9 r_9 tc9)
    have hc9 := chg_ten w7 (w0.heap.size + 1) (.string s9) (.slice A9 n9 c9) (.slice A29 m9 d9) (.slice M9 q9 e9) (.int .i64 sp9) (.int .i64 w_9) (.int .i64 t_9) (.int .i64 k9) (.slice L_9 l9 lc_9) (.slice T_9 r_9 tc9)
    obtain ⟨w9, hw9⟩ : ∃ x, ((((((((((w7.setCell ⟨w0.heap.size + 1, 0, none⟩ (.string s9)).setCell ⟨w0.heap.size + 1, 1, none⟩ (.slice A9 n9 c9)).setCell ⟨w0.heap.size + 1, 2, none⟩ (.slice A29 m9 d9)).setCell ⟨w0.heap.size + 1, 3, none⟩ (.slice M9 q9 e9)).setCell ⟨w0.heap.size + 1, 4, none⟩ (.int .i64 sp9)).setCell ⟨w0.heap.size + 1, 5, none⟩ (.int .i64 w_9)).setCell ⟨w0.heap.size + 1, 6, none⟩ (.int .i64 t_9)).setCell ⟨w0.heap.size + 1, 7, none⟩ (.int .i64 k9)).setCell ⟨w0.heap.size + 1, 8, none⟩ (.slice L_9 l9 lc_9)).setCell ⟨w0.heap.size + 1, 9, none⟩ (.slice T_9 r_9 tc9)) = x := ⟨_, rfl⟩
    rw [hw9] at hR hc9
    (try rw [hw9])
    clear hw9 r0 r1 r2 r3 r4 r5 r6 r7 r8 r9
    have r0 := cellOfBlk hR 0
    have r1 := cellOfBlk hR 1
    have r2 := cellOfBlk hR 2
    have r3 := cellOfBlk hR 3
    have r4 := cellOfBlk hR 4
    have r5 := cellOfBlk hR 5
    have r6 := cellOfBlk hR 6
    have r7 := cellOfBlk hR 7
    have r8 := cellOfBlk hR 8
    have r9 := cellOfBlk hR 9
    (try simp only [Exit.inBlock, Exit.then])
    refine bodyPost_ret (v := .tuple #[.agg #[.string s9, .slice A9 n9 c9, .slice A29 m9 d9, .slice M9 q9 e9, .int .i64 sp9, .int .i64 w_9, .int .i64 t_9, .int .i64 k9, .slice L_9 l9 lc_9, .slice T_9 r_9 tc9], .int .i64 ((sx.size : Int))]) (by simp [results, Tryz.results20, go_sem, r0, r1, r2, r3, r4, r5, r6, r7, r8, r9]) rfl ?_
    exact ⟨_, _, _, rfl, .inr ⟨HYES.out, j9, HKE.out, by rw [hj9], rfl⟩, (HY.out.chg hc9 (by unfold Off; omega)).wide (by omega) (by have := hc9.size; omega), T7.out.trans ((hc9.below (by omega)).mono (by omega))⟩
  · have s0 := cellOfBlk S6.out 0
    have s1 := cellOfBlk S6.out 1
    have sf := S6.out.warm
    go_wp2_with fail
    refine (as_hitK (j9 : Int) (.iface t9 u9) (.int .i64 0) .nilIface w4.heap.size w6 rfl H6.out s0 s1 (sf 0) (sf 1)).mono ?_
    rintro e wq ⟨rfl, hwq⟩
    obtain ⟨w7, hb7, hwq2⟩ : ∃ wA, Below w6.heap.size w6 wA ∧ wq = (wA.setCell ⟨w4.heap.size, 0, none⟩ (.int .i64 j9)).setCell ⟨w4.heap.size, 1, none⟩ (.iface t9 u9) := ⟨_, ((((Below.refl _ w6).alloc (Nat.le_refl _) _).alloc (by simp) _).alloc (by simp; omega) _).alloc (by simp; omega) _, hwq⟩
    clear hwq s0 s1 sf
    have X6 := HX
    have T7 := Lib.hid (T6.out.trans (hb7.mono (by omega)))
    have Z7 := Lib.hid (Z6.out.below hb7 (by omega))
    have H7 := Lib.hid ((hb7.cell (p := ⟨2, 0, none⟩) (by show 2 < _; omega)).trans H6.out)
    have P7 := Lib.hid (P6.out.below hb7 (by omega))
    have R7 := Lib.hid (R6.out.below hb7 (by omega))
    have X7 := Lib.hid (X6.out.below hb7)
    have S7 := Lib.hid (S6.out.below hb7 (by omega))
    have sz7 : w6.heap.size ≤ w7.heap.size := hb7.size
    clear T6 Z6 H6 P6 R6 X6 S6
    obtain ⟨w8, hwn⟩ : ∃ x, x = wq := ⟨_, rfl⟩
    subst hwn
    have hc7 : Chg w4.heap.size (w4.heap.size + 1) w7 w8 := by rw [hwq2]; exact chg_two _ _ _ _
    have S8 : Hid (Blk w8 w4.heap.size #[.int .i64 j9, .iface t9 u9] 93) := by show Blk _ _ _ _; rw [hwq2]; exact S7.out.fill2 _ _
    have sz8 := hc7.size
    have X8 : Hid (EngT w8 w3.heap.size E (keyN X sx j9) A1 c1 A21 d1 M1 q1 e1 L9 lc9 T1 tc1 Bc1 dc1 B1 hi1 hs1 km1 f0 f1 l09 l19 t0 t1 p0 p1) := X7.out.other hc7 (by omega) (by omega) (by omega) hrel2 (by omega)
    have T8 : Hid (Below w0.heap.size w0 w8) := T7.out.trans ((hc7.below (by omega)).mono (by omega))
    have R8 : Hid (Blk w8 (w0.heap.size + 1) #[.string ⟨#[]⟩, .slice none 0 0, .slice none 0 0, .slice none 0 0, .int .i64 0, .int .i64 0, .int .i64 0, .int .i64 0, .slice none 0 0, .slice none 0 0] 37) := R7.out.chg hc7 (by omega)
    clear T7 Z7 H7 P7 R7 X7 S7 hwq2 hc7
    have s0 := cellOfBlk S8.out 0
    go_wp2_with fail
    clear s0
    refine (stopT_any w3.heap.size E (keyN X sx j9) w8 ⟨_, _, _, _, _, _, _, _, _, _, _, _, _, _, _, _, _, _, _, _, _, _, _, _, _, X8.out⟩ (by have := (mach_big HMK.out).2.1; omega) (mach_big HMK.out).2.2.1).mono ?_
    rintro e w9 ⟨v', rfl, hY, hb9⟩
    have T9 := Lib.hid (T8.out.trans (hb9.mono (by omega)))
    have R9 := Lib.hid (R8.out.below hb9 (by omega))
    have sz9 : w8.heap.size ≤ w9.heap.size := hb9.size
    clear T8 R8
    obtain ⟨s9, A9, n9, c9, A29, m9, d9, M9, q9, e9, sp9, w_9, t_9, k9, L_9, l9, lc_9, T_9, r_9, tc9, rfl⟩ := hY.reads.form
    have HY := Lib.hid hY
    clear hY
    have r0 := cellOfBlk R9.out 0
    have r1 := cellOfBlk R9.out 1
    have r2 := cellOfBlk R9.out 2
    have r3 := cellOfBlk R9.out 3
    have r4 := cellOfBlk R9.out 4
    have r5 := cellOfBlk R9.out 5
    have r6 := cellOfBlk R9.out 6
    have r7 := cellOfBlk R9.out 7
    have r8 := cellOfBlk R9.out 8
    have r9 := cellOfBlk R9.out 9
    have ff := R9.out.warm
    go_wp2
    have hR := R9.out.fill (.string s9) (.slice A9 n9 c9) (.slice A29 m9 d9) (.slice M9 q9 e9) (.int .i64 sp9) (.int .i64 w_9) (.int .i64 t_9) (.int .i64 k9) (.slice L_9 l9 lc_9) (.slice T_9 r_9 tc9)
    have hc9 := chg_ten w9 (w0.heap.size + 1) (.string s9) (.slice A9 n9 c9) (.slice A29 m9 d9) (.slice M9 q9 e9) (.int .i64 sp9) (.int .i64 w_9) (.int .i64 t_9) (.int .i64 k9) (.slice L_9 l9 lc_9) (.slice T_9 r_9 tc9)
    obtain ⟨w9, hw9⟩ : ∃ x, ((((((((((w9.setCell ⟨w0.heap.size + 1, 0, none⟩ (.string s9)).setCell ⟨w0.heap.size + 1, 1, none⟩ (.slice A9 n9 c9)).setCell ⟨w0.heap.size + 1, 2, none⟩ (.slice A29 m9 d9)).setCell ⟨w0.heap.size + 1, 3, none⟩ (.slice M9 q9 e9)).setCell ⟨w0.heap.size + 1, 4, none⟩ (.int .i64 sp9)).setCell ⟨w0.heap.size + 1, 5, none⟩ (.int .i64 w_9)).setCell ⟨w0.heap.size + 1, 6, none⟩ (.int .i64 t_9)).setCell ⟨w0.heap.size + 1, 7, none⟩ (.int .i64 k9)).setCell ⟨w0.heap.size + 1, 8, none⟩ (.slice L_9 l9 lc_9)).setCell ⟨w0.heap.size + 1, 9, none⟩ (.slice T_9 r_9 tc9)) = x := ⟨_, rfl⟩
    rw [hw9] at hR hc9
    (try rw [hw9])
    clear hw9 r0 r1 r2 r3 r4 r5 r6 r7 r8 r9
    have r0 := cellOfBlk hR 0
    have r1 := cellOfBlk hR 1
    have r2 := cellOfBlk hR 2
    have r3 := cellOfBlk hR 3
    have r4 := cellOfBlk hR 4
    have r5 := cellOfBlk hR 5
    have r6 := cellOfBlk hR 6
    have r7 := cellOfBlk hR 7
    have r8 := cellOfBlk hR 8
    have r9 := cellOfBlk hR 9
    (try simp only [Exit.inBlock, Exit.then])
    refine bodyPost_ret (v := .tuple #[.agg #[.string s9, .slice A9 n9 c9, .slice A29 m9 d9, .slice M9 q9 e9, .int .i64 sp9, .int .i64 w_9, .int .i64 t_9, .int .i64 k9, .slice L_9 l9 lc_9, .slice T_9 r_9 tc9], .int .i64 ((j9 : Int))]) (by simp [results, Tryz.results20, go_sem, r0, r1, r2, r3, r4, r5, r6, r7, r8, r9]) rfl ?_
    exact ⟨_, _, _, rfl, .inr ⟨HYES.out, j9, HKE.out, rfl, rfl⟩, (HY.out.chg hc9 (by unfold Off; omega)).wide (by omega) (by have := hc9.size; omega), T9.out.trans ((hc9.below (by omega)).mono (by omega))⟩
theorem implKey_any (lo hi0 : Nat) (v : Value) (X : Mch) (sx : ByteArray) (w : World) (h : MchV w lo hi0 v X) (hhi : hi0 ≤ w.heap.size) (hs : SmallX X) (wf : WfX X) (hsx : sx.size ≤ maxLen) (es : Errs) (hE : ErrsAt w w.heap.size es) (hH : ErrH w) :
    Calls Tryz.prog 20 #[v, .string sx] w fun e w' => ∃ v' n Y, e = .returned (.tuple #[v', .int .i64 n]) ∧ KeyRes X sx n Y ∧ MchY w' w.heap.size w'.heap.size v' Y ∧ Below w.heap.size w w' := by
  cases hm : machB X
  · exact implKey_no lo hi0 v X sx w h hhi hs wf hsx hm
  · exact implKey_yes lo hi0 v X sx w h hhi hs wf hsx hm es hE hH
end Go.Proofs.YtimhnkpccbcohaaGreatDoor
