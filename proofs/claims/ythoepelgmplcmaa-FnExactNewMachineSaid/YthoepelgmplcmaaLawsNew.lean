/-
  The exact law of NewMachine: its walk. No condition.
-/
import Derived.Test.YthoepelgmplcmaaMchN
import Derived.Test.YthoepelgmplcmaaLawsMch
namespace Go.Proofs.Ythoepelgmplcmaa
open Go.RowKit
set_option linter.unusedVariables false

theorem fontNames {w : World} {lo hi : Nat} {v : Value} {f : Fnt} (h : FontV w lo hi v f) : ∃ s A n c B m d, v = .agg #[.string s, .slice A n c, .slice B m d] := by
  obtain ⟨A, c, B, d, hv, -⟩ := h
  exact ⟨_, A, _, c, B, _, d, hv⟩
theorem region_post {P : Program} {ops : Array Oper} {id : Nat} {Q : Exit → Act → World → Prop} {a : Act} {w : World} (R : Act → Act → World → Prop) (h1 : (Code.region id ops true).wp P (fun e a' w' => e = .normal ∧ R a a' w') a w) (h2 : ∀ a' w', R a a' w' → Q .normal a' w') : (Code.region id ops true).wp P Q a w :=
  Code.wp_mono (fun e a' w' h => by obtain ⟨rfl, hr⟩ := h; exact h2 a' w' hr) h1
theorem newX_big (f : Fnt) (E sp W t k : Int) : (newX f E sp W t k).big ≤ 1048575 := by
  cases h : newB f E sp W t k
  · rw [newX_no h]; exact zeroX_big
  · rw [newX_yes h]
    obtain ⟨b1, b2, b3, b4, b5⟩ := mach_big (X := rawX f E sp W t k) h
    exact big_lim b1 b2 b3 b4 b5
set_option maxRecDepth 100000 in
set_option maxHeartbeats 12800000 in
theorem fnExactNewMachine_walk (lo hi : Nat) (v : Value) (f : Fnt) (E sp : Int) (mm : Msr) (w : World) (h : FontV w lo hi v f) (hhi : hi ≤ w.heap.size) (wfE : (Lit.int .i64 E).wf = true) (wfsp : (Lit.int .i64 sp).wf = true) :
    Calls Try.prog 7 #[v, .int .i64 E, .int .i64 sp, .agg #[.int .i64 mm.w, .int .i64 mm.t, .int .i64 mm.k]] w fun e w' => e = .returned (.bool true) ∧ Below w.heap.size w w' := by
  obtain ⟨W, t, k⟩ := mm
  simp only
  obtain ⟨s, A, n, c, B, m, d, rfl⟩ := fontNames h
  obtain ⟨wA, hA, hbA, hzA, KA⟩ := mxWorld w #[.string s, .slice A n c, .slice B m d] 50
  obtain ⟨w0, hB, hbB, hzB, QB⟩ := mxWorld wA #[.int .i64 W, .int .i64 t, .int .i64 k] 53
  rw [hzA] at QB
  have P0 := Lib.hid (KA.below hbB (by omega))
  have Q0 := Lib.hid QB
  have hb0 : Below w.heap.size w w0 := hbA.trans (hbB.mono (by omega))
  have T0 := Lib.hid hb0; have V0 := Lib.hid (h.below hhi hb0)
  have s0 : w.heap.size + 2 ≤ w0.heap.size := by omega
  have HA : Hid ((w.alloc (.cells #[.string s, .slice A n c, .slice B m d] 50)).alloc (.cells #[.int .i64 W, .int .i64 t, .int .i64 k] 53) = w0) := by show _ = _; rw [hA, hB]
  clear h hb0 hA hB hbA hbB hzA hzB KA QB
  obtain ⟨Pc0, Pc1, Pc2⟩ := blk3 P0.out
  obtain ⟨Qc0, Qc1, Qc2⟩ := blk3 Q0.out
  by_cases hbig : (1048576 : Int) < f.big
  · have Hk := Lib.hid (takeOff_bad hbig)
    go_enter Try.func7, Try.ntmps7
    go_wp2_with fail
    rw [HA.out]
    refine (szFont_any lo hi _ f _ w0 V0.out (by omega) (by omega)).mono ?_
    rintro e w1 ⟨rfl, hb1⟩
    rw [Hk.out]
    have T1 := Lib.hid (T0.out.trans (hb1.mono (by omega)))
    clear hb1 Pc0 Pc1 Pc2 Qc0 Qc1 Qc2
    go_wp2
    go_ret
    exact ⟨rfl, T1.out⟩
  have Hk := Lib.hid (takeOff_good hbig)
  have hs := big_small hbig
  have hfb : f.ws.length + f.cs.length ≤ 1048576 := by unfold Fnt.big at hbig; omega
  have hk0 : decide (1048576 - (f.big : Int) < 0) = false := decide_eq_false (by omega)
  obtain ⟨Y, hY⟩ : ∃ x, newX f E sp W t k = x := ⟨_, rfl⟩
  obtain ⟨ok, hok⟩ : ∃ x, newB f E sp W t k = x := ⟨_, rfl⟩
  have hYb : Y.big ≤ 1048575 := by rw [← hY]; exact newX_big f E sp W t k
  have HSY := Lib.hid (big_smallX (X := Y) (by omega))
  have HY := Lib.hid hY
  have Hok := Lib.hid hok
  clear hY hok
  have hne : (ok != ok) = false := by simp
  have hm2 : decide (1 + (Y.marks : Int) < 0) = false := decide_eq_false (by omega)
  have hne2 : ((1 + (Y.marks : Int)) != (1 + (Y.marks : Int))) = false := by simp
  have hm1 : decide (1 + (f.ws.length : Int) + (f.cs.length : Int) < 0) = false := decide_eq_false (by omega)
  go_enter Try.func7, Try.ntmps7
  go_wp2_with fail
  rw [HA.out]
  refine (szFont_any lo hi _ f _ w0 V0.out (by omega) (by omega)).mono ?_
  rintro e w1 ⟨rfl, hb1⟩
  rw [Hk.out]
  have P1 := Lib.hid (P0.out.below hb1 (by omega)); have Q1 := Lib.hid (Q0.out.below hb1 (by omega)); have T1 := Lib.hid (T0.out.trans (hb1.mono (by omega))); have V1 := Lib.hid (V0.out.below (by omega) hb1)
  have s1 : w0.heap.size ≤ w1.heap.size := hb1.size
  have yP_1 : w.heap.size < w1.heap.size := by omega
  have yQ_1 : w.heap.size + 1 < w1.heap.size := by omega
  clear hb1 Pc0 Pc1 Pc2 Qc0 Qc1 Qc2 P0 Q0 T0 V0 HA
  obtain ⟨Pc0, Pc1, Pc2⟩ := blk3 P1.out
  obtain ⟨Qc0, Qc1, Qc2⟩ := blk3 Q1.out
  go_wp2
  clear Pc0 Pc1 Pc2
  clear Qc0 Qc1 Qc2
  refine region_post (fun a a' w' => ∃ su1 Au1 nu1 cu1 Bu1 mu1 du1 su Au nu cu Bu mu du Mu qu eu spu Wu tu ku Lu lu fu Tu ru gu bu xu zu, a' = ((((((((((((a.put (some 26) (.agg #[.string s, .slice A n c, .slice B m d])).put (some 27) (.agg #[.string su1, .slice Au1 nu1 cu1, .slice Bu1 mu1 du1])).put (some 28) (.int .i64 E)).put (some 29) (.int .i64 sp)).put (some 30) (.agg #[.int .i64 W, .int .i64 t, .int .i64 k])).put (some 31) (.agg #[.int .i64 W, .int .i64 t, .int .i64 k])).put (some 32) (.tuple #[.agg #[.string su, .slice Au nu cu, .slice Bu mu du, .slice Mu qu eu, .int .i64 spu, .int .i64 Wu, .int .i64 tu, .int .i64 ku, .slice Lu lu fu, .slice Tu ru gu], .bool ok])).put (some 25) (.tuple #[.agg #[.string su, .slice Au nu cu, .slice Bu mu du, .slice Mu qu eu, .int .i64 spu, .int .i64 Wu, .int .i64 tu, .int .i64 ku, .slice Lu lu fu, .slice Tu ru gu], .bool ok])).put (some 33) (.agg #[.string su, .slice Au nu cu, .slice Bu mu du, .slice Mu qu eu, .int .i64 spu, .int .i64 Wu, .int .i64 tu, .int .i64 ku, .slice Lu lu fu, .slice Tu ru gu])).put (some 34) (.bool ok)).put (some 10) (.pointer (some ⟨bu, 0, none⟩))).put (some 11) (.bool ok)) ∧ MchX w' xu zu (.agg #[.string su, .slice Au nu cu, .slice Bu mu du, .slice Mu qu eu, .int .i64 spu, .int .i64 Wu, .int .i64 tu, .int .i64 ku, .slice Lu lu fu, .slice Tu ru gu]) Y ∧ Blk w' bu #[.string su, .slice Au nu cu, .slice Bu mu du, .slice Mu qu eu, .int .i64 spu, .int .i64 Wu, .int .i64 tu, .int .i64 ku, .slice Lu lu fu, .slice Tu ru gu] 61 ∧ w1.heap.size ≤ xu ∧ zu ≤ w'.heap.size ∧ ¬ (xu ≤ bu ∧ bu < zu) ∧ w1.heap.size ≤ bu ∧ xu ≤ zu ∧ Below w1.heap.size w1 w') ?_ ?_
  · refine wp_region_plan (.take 0 (.take 2 (.take 3 (.take 4 (.two 1 10 (.two 5 10 (.two 6 10 (.take 7 (.take 8 (.take 9 (.one 10 (.one 11 (.one 12 .done)))))) (.one 6 (.take 7 (.take 8 (.take 9 (.one 11 (.one 12 .done))))))) (.one 5 (.one 6 (.take 7 (.take 8 (.take 9 (.one 11 (.one 12 .done)))))))) (.one 1 (.one 5 (.one 6 (.take 7 (.take 8 (.take 9 (.one 11 (.one 12 .done))))))))))))) (fun w' => (w'.cell? ⟨w.heap.size, 0, none⟩ = some (.string s) ∧ w'.cell? ⟨w.heap.size, 1, none⟩ = some (.slice A n c) ∧ w'.cell? ⟨w.heap.size, 2, none⟩ = some (.slice B m d)) ∧ (w'.cell? ⟨(w.heap.size + 1), 0, none⟩ = some (.int .i64 W) ∧ w'.cell? ⟨(w.heap.size + 1), 1, none⟩ = some (.int .i64 t) ∧ w'.cell? ⟨(w.heap.size + 1), 2, none⟩ = some (.int .i64 k))) (by kernel_rfl) (by kernel_rfl) (by kernel_rfl) (by intro c a d v w h; exact absurd h.1 (by simp)) ⟨blk3 P1.out, blk3 Q1.out⟩ ?_
    refine plan_quiet rfl (by rfl) (v := ?_) ?_ ?_; rotate_left; (intro w1 hSw; obtain ⟨⟨h0, h1, h2⟩, ⟨h3, h4, h5⟩⟩ := hSw; go_simp; try (with_reducible rfl)); (try simp only [Act.put, List.setIfInBounds_toArray, List.set_cons_zero, List.set_cons_succ])
    refine plan_quiet rfl (by rfl) (v := ?_) ?_ ?_; rotate_left; (intro w1 hSw; obtain ⟨⟨h0, h1, h2⟩, ⟨h3, h4, h5⟩⟩ := hSw; go_simp; try (with_reducible rfl)); (try simp only [Act.put, List.setIfInBounds_toArray, List.set_cons_zero, List.set_cons_succ])
    refine plan_quiet rfl (by rfl) (v := ?_) ?_ ?_; rotate_left; (intro w1 hSw; obtain ⟨⟨h0, h1, h2⟩, ⟨h3, h4, h5⟩⟩ := hSw; go_simp; try (with_reducible rfl)); (try simp only [Act.put, List.setIfInBounds_toArray, List.set_cons_zero, List.set_cons_succ])
    refine plan_quiet rfl (by rfl) (v := ?_) ?_ ?_; rotate_left; (intro w1 hSw; obtain ⟨⟨h0, h1, h2⟩, ⟨h3, h4, h5⟩⟩ := hSw; go_simp; try (with_reducible rfl)); (try simp only [Act.put, List.setIfInBounds_toArray, List.set_cons_zero, List.set_cons_succ])
    obtain ⟨r0, hr0⟩ : ∃ x, w1.drew = x := ⟨_, rfl⟩
    have Pr0 : Hid (Blk r0 w.heap.size #[.string s, .slice A n c, .slice B m d] 50) := by show Blk _ _ _ _; rw [← hr0]; exact P1.out
    have Qr0 : Hid (Blk r0 (w.heap.size + 1) #[.int .i64 W, .int .i64 t, .int .i64 k] 53) := by show Blk _ _ _ _; rw [← hr0]; exact Q1.out
    have Dr0 : Hid (Below w1.heap.size w1 r0) := by show Below _ _ _; rw [← hr0]; exact (Below.refl _ _).drew
    have tr0 : w1.heap.size ≤ r0.heap.size := by rw [← hr0]; exact Nat.le_refl _
    have Vr0 : Hid (FontV r0 lo hi (.agg #[.string s, .slice A n c, .slice B m d]) f) := by show FontV _ _ _ _ _; rw [← hr0]; exact FontV.keep (w' := w1.drew) V1.out (fun p _ _ => rfl)
    rw [hr0]
    clear hr0
    refine plan_fork rfl rfl (fun K hK => ?_) (fun K hK => ?_)
    · rw [if_pos (by rfl)]
      go_simp
      refine (toFont_any lo hi _ f r0 Vr0.out (by omega) hs).mono ?_
      rintro e r1 ⟨v1, rfl, hO, hb⟩
      obtain ⟨su1, Au1, nu1, cu1, Bu1, mu1, du1, rfl⟩ := fontNames hO.font
      have tr1 : r0.heap.size ≤ r1.heap.size := hb.size
      have Pr1 := Lib.hid (Pr0.out.below hb (by omega))
      have Qr1 := Lib.hid (Qr0.out.below hb (by omega))
      have Dr1 := Lib.hid (Dr0.out.trans (hb.mono (by omega)))
      have Vr1 := Lib.hid (Vr0.out.below (by omega) hb)
      have Or1 := Lib.hid hO.font
      clear hO
      clear hb
      have Ol : r1.heap.size ≤ r1.heap.size := Nat.le_refl _
      refine hK.out _ _ ⟨blk3 Pr1.out, blk3 Qr1.out⟩ ?_
      clear hK K
      refine plan_fork rfl rfl (fun K hK => ?_) (fun K hK => ?_)
      · rw [if_pos (by rfl)]
        go_simp
        refine (toMeasure_any W t k r1).mono ?_
        rintro e r2 ⟨rfl, hb⟩
        have tr2 : r1.heap.size ≤ r2.heap.size := hb.size
        have Pr2 := Lib.hid (Pr1.out.below hb (by omega))
        have Qr2 := Lib.hid (Qr1.out.below hb (by omega))
        have Dr2 := Lib.hid (Dr1.out.trans (hb.mono (by omega)))
        have Or2 := Lib.hid (Or1.out.below (by omega) hb)
        clear hb
        refine hK.out _ _ ⟨blk3 Pr2.out, blk3 Qr2.out⟩ ?_
        clear hK K
        refine plan_fork rfl rfl (fun K hK => ?_) (fun K hK => ?_)
        · rw [if_pos (by rfl)]
          go_simp
          refine (specNew_any _ _ _ f E sp W t k r2 Or2.out (by omega) hs).mono ?_
          rintro e r3 ⟨u, rfl, hX, hb⟩
          rw [HY.out] at hX
          rw [Hok.out]
          obtain ⟨su, Au, nu, cu, Bu, mu, du, Mu, qu, eu, spu, Wu, tu, ku, Lu, lu, fu, Tu, ru, gu, rfl⟩ := hX.reads.form
          have tr3 : r2.heap.size ≤ r3.heap.size := hb.size
          have Pr3 := Lib.hid (Pr2.out.below hb (by omega))
          have Qr3 := Lib.hid (Qr2.out.below hb (by omega))
          have Dr3 := Lib.hid (Dr2.out.trans (hb.mono (by omega)))
          have Xr3 := Lib.hid hX
          clear hX hb
          refine hK.out _ _ ⟨blk3 Pr3.out, blk3 Qr3.out⟩ ?_
          clear hK K
          refine plan_quiet rfl (by rfl) (v := ?_) ?_ ?_; rotate_left; (intro w1 hSw; obtain ⟨⟨h0, h1, h2⟩, ⟨h3, h4, h5⟩⟩ := hSw; go_simp; try (with_reducible rfl)); (try simp only [Act.put, List.setIfInBounds_toArray, List.set_cons_zero, List.set_cons_succ])
          refine plan_quiet rfl (by rfl) (v := ?_) ?_ ?_; rotate_left; (intro w1 hSw; obtain ⟨⟨h0, h1, h2⟩, ⟨h3, h4, h5⟩⟩ := hSw; go_simp; try (with_reducible rfl)); (try simp only [Act.put, List.setIfInBounds_toArray, List.set_cons_zero, List.set_cons_succ])
          refine plan_quiet rfl (by rfl) (v := ?_) ?_ ?_; rotate_left; (intro w1 hSw; obtain ⟨⟨h0, h1, h2⟩, ⟨h3, h4, h5⟩⟩ := hSw; go_simp; try (with_reducible rfl)); (try simp only [Act.put, List.setIfInBounds_toArray, List.set_cons_zero, List.set_cons_succ])
          refine plan_step rfl (fun K hK => ?_)
          rw [if_pos (by rfl)]
          go_simp
          obtain ⟨r4, hw, hb, hz, hZ⟩ := mxWorld r3 #[.string ⟨#[]⟩, .slice none 0 0, .slice none 0 0, .slice none 0 0, .int .i64 0, .int .i64 0, .int .i64 0, .int .i64 0, .slice none 0 0, .slice none 0 0] 61
          rw [hw]
          clear hw hz
          have tr4 : r3.heap.size ≤ r4.heap.size := hb.size
          have Pr4 := Lib.hid (Pr3.out.below hb (by omega))
          have Qr4 := Lib.hid (Qr3.out.below hb (by omega))
          have Dr4 := Lib.hid (Dr3.out.trans (hb.mono (by omega)))
          have Xr4 := Lib.hid (Xr3.out.below hb)
          have Zr4 := Lib.hid hZ
          have yz : r3.heap.size < r4.heap.size := hZ.lt
          clear hZ hb
          refine hK.out _ _ ⟨blk3 Pr4.out, blk3 Qr4.out⟩ ?_
          clear hK K
          obtain ⟨zc0, zc1, zc2, zc3, zc4, zc5, zc6, zc7, zc8, zc9⟩ := Zr4.out.ten
          have fz := Zr4.out.warm
          refine plan_step rfl (fun K hK => ?_)
          rw [if_pos (by rfl)]
          go_simp
          clear zc0 zc1 zc2 zc3 zc4 zc5 zc6 zc7 zc8 zc9 fz
          obtain ⟨y, hy⟩ : ∃ x, ((((((((((r4.setCell ⟨r3.heap.size, 0, none⟩ (.string su)).setCell ⟨r3.heap.size, 1, none⟩ (.slice Au nu cu)).setCell ⟨r3.heap.size, 2, none⟩ (.slice Bu mu du)).setCell ⟨r3.heap.size, 3, none⟩ (.slice Mu qu eu)).setCell ⟨r3.heap.size, 4, none⟩ (.int .i64 spu)).setCell ⟨r3.heap.size, 5, none⟩ (.int .i64 Wu)).setCell ⟨r3.heap.size, 6, none⟩ (.int .i64 tu)).setCell ⟨r3.heap.size, 7, none⟩ (.int .i64 ku)).setCell ⟨r3.heap.size, 8, none⟩ (.slice Lu lu fu)).setCell ⟨r3.heap.size, 9, none⟩ (.slice Tu ru gu)) = x := ⟨_, rfl⟩
          have ry : Blk y r3.heap.size #[.string su, .slice Au nu cu, .slice Bu mu du, .slice Mu qu eu, .int .i64 spu, .int .i64 Wu, .int .i64 tu, .int .i64 ku, .slice Lu lu fu, .slice Tu ru gu] 61 := by rw [← hy]; exact Blk.fill Zr4.out (.string su) (.slice Au nu cu) (.slice Bu mu du) (.slice Mu qu eu) (.int .i64 spu) (.int .i64 Wu) (.int .i64 tu) (.int .i64 ku) (.slice Lu lu fu) (.slice Tu ru gu)
          have hc : Chg r3.heap.size (r3.heap.size + 1) r4 y := by rw [← hy]; exact (((((((((((Chg.refl r3.heap.size (r3.heap.size + 1) r4).trans (chg_set r4 r3.heap.size 0 (.string su))).trans (chg_set (r4.setCell ⟨r3.heap.size, 0, none⟩ (.string su)) r3.heap.size 1 (.slice Au nu cu))).trans (chg_set ((r4.setCell ⟨r3.heap.size, 0, none⟩ (.string su)).setCell ⟨r3.heap.size, 1, none⟩ (.slice Au nu cu)) r3.heap.size 2 (.slice Bu mu du))).trans (chg_set (((r4.setCell ⟨r3.heap.size, 0, none⟩ (.string su)).setCell ⟨r3.heap.size, 1, none⟩ (.slice Au nu cu)).setCell ⟨r3.heap.size, 2, none⟩ (.slice Bu mu du)) r3.heap.size 3 (.slice Mu qu eu))).trans (chg_set ((((r4.setCell ⟨r3.heap.size, 0, none⟩ (.string su)).setCell ⟨r3.heap.size, 1, none⟩ (.slice Au nu cu)).setCell ⟨r3.heap.size, 2, none⟩ (.slice Bu mu du)).setCell ⟨r3.heap.size, 3, none⟩ (.slice Mu qu eu)) r3.heap.size 4 (.int .i64 spu))).trans (chg_set (((((r4.setCell ⟨r3.heap.size, 0, none⟩ (.string su)).setCell ⟨r3.heap.size, 1, none⟩ (.slice Au nu cu)).setCell ⟨r3.heap.size, 2, none⟩ (.slice Bu mu du)).setCell ⟨r3.heap.size, 3, none⟩ (.slice Mu qu eu)).setCell ⟨r3.heap.size, 4, none⟩ (.int .i64 spu)) r3.heap.size 5 (.int .i64 Wu))).trans (chg_set ((((((r4.setCell ⟨r3.heap.size, 0, none⟩ (.string su)).setCell ⟨r3.heap.size, 1, none⟩ (.slice Au nu cu)).setCell ⟨r3.heap.size, 2, none⟩ (.slice Bu mu du)).setCell ⟨r3.heap.size, 3, none⟩ (.slice Mu qu eu)).setCell ⟨r3.heap.size, 4, none⟩ (.int .i64 spu)).setCell ⟨r3.heap.size, 5, none⟩ (.int .i64 Wu)) r3.heap.size 6 (.int .i64 tu))).trans (chg_set (((((((r4.setCell ⟨r3.heap.size, 0, none⟩ (.string su)).setCell ⟨r3.heap.size, 1, none⟩ (.slice Au nu cu)).setCell ⟨r3.heap.size, 2, none⟩ (.slice Bu mu du)).setCell ⟨r3.heap.size, 3, none⟩ (.slice Mu qu eu)).setCell ⟨r3.heap.size, 4, none⟩ (.int .i64 spu)).setCell ⟨r3.heap.size, 5, none⟩ (.int .i64 Wu)).setCell ⟨r3.heap.size, 6, none⟩ (.int .i64 tu)) r3.heap.size 7 (.int .i64 ku))).trans (chg_set ((((((((r4.setCell ⟨r3.heap.size, 0, none⟩ (.string su)).setCell ⟨r3.heap.size, 1, none⟩ (.slice Au nu cu)).setCell ⟨r3.heap.size, 2, none⟩ (.slice Bu mu du)).setCell ⟨r3.heap.size, 3, none⟩ (.slice Mu qu eu)).setCell ⟨r3.heap.size, 4, none⟩ (.int .i64 spu)).setCell ⟨r3.heap.size, 5, none⟩ (.int .i64 Wu)).setCell ⟨r3.heap.size, 6, none⟩ (.int .i64 tu)).setCell ⟨r3.heap.size, 7, none⟩ (.int .i64 ku)) r3.heap.size 8 (.slice Lu lu fu))).trans (chg_set (((((((((r4.setCell ⟨r3.heap.size, 0, none⟩ (.string su)).setCell ⟨r3.heap.size, 1, none⟩ (.slice Au nu cu)).setCell ⟨r3.heap.size, 2, none⟩ (.slice Bu mu du)).setCell ⟨r3.heap.size, 3, none⟩ (.slice Mu qu eu)).setCell ⟨r3.heap.size, 4, none⟩ (.int .i64 spu)).setCell ⟨r3.heap.size, 5, none⟩ (.int .i64 Wu)).setCell ⟨r3.heap.size, 6, none⟩ (.int .i64 tu)).setCell ⟨r3.heap.size, 7, none⟩ (.int .i64 ku)).setCell ⟨r3.heap.size, 8, none⟩ (.slice Lu lu fu)) r3.heap.size 9 (.slice Tu ru gu)))
          rw [hy]
          clear hy
          have sy : r4.heap.size ≤ y.heap.size := hc.size
          have Pry := Pr4.out.chg hc (by omega)
          have Qry := Qr4.out.chg hc (by omega)
          refine hK.out _ _ ⟨blk3 Pry, blk3 Qry⟩ ?_
          clear hK K
          refine plan_step rfl (fun K hK => ?_)
          rw [if_pos (by rfl)]
          go_simp
          refine hK.out _ _ ⟨blk3 Pry, blk3 Qry⟩ ?_
          clear hK K
          refine plan_end ?_
          refine ⟨rfl, su1, Au1, nu1, cu1, Bu1, mu1, du1, su, Au, nu, cu, Bu, mu, du, Mu, qu, eu, spu, Wu, tu, ku, Lu, lu, fu, Tu, ru, gu, r3.heap.size, r2.heap.size, r3.heap.size, ?_, Xr4.out.chg hc (by unfold Off; omega), ry, by omega, by omega, by omega, by omega, by omega, Dr4.out.trans (hc.below (by omega) |>.mono (by omega))⟩
          first | rfl | (simp only [Act.put, List.setIfInBounds_toArray, List.set_cons_zero, List.set_cons_succ])
        · rw [if_pos (by rfl)]
          go_simp
          obtain ⟨r3, hw, hb, hz, hZ⟩ := mxWorld r2 #[.string ⟨#[]⟩, .slice none 0 0, .slice none 0 0, .slice none 0 0, .int .i64 0, .int .i64 0, .int .i64 0, .int .i64 0, .slice none 0 0, .slice none 0 0] 61
          rw [hw]
          clear hw hz
          have tr3 : r2.heap.size ≤ r3.heap.size := hb.size
          have Pr3 := Lib.hid (Pr2.out.below hb (by omega))
          have Qr3 := Lib.hid (Qr2.out.below hb (by omega))
          have Dr3 := Lib.hid (Dr2.out.trans (hb.mono (by omega)))
          have Or3 := Lib.hid (Or2.out.below (by omega) hb)
          have Zr3 := Lib.hid hZ
          have yz : r2.heap.size < r3.heap.size := hZ.lt
          clear hZ hb
          refine hK.out _ _ ⟨blk3 Pr3.out, blk3 Qr3.out⟩ ?_
          clear hK K
          refine plan_step rfl (fun K hK => ?_)
          rw [if_pos (by rfl)]
          go_simp
          refine (specNew_any _ _ _ f E sp W t k r3 Or3.out (by omega) hs).mono ?_
          rintro e r4 ⟨u, rfl, hX, hb⟩
          rw [HY.out] at hX
          rw [Hok.out]
          obtain ⟨su, Au, nu, cu, Bu, mu, du, Mu, qu, eu, spu, Wu, tu, ku, Lu, lu, fu, Tu, ru, gu, rfl⟩ := hX.reads.form
          have tr4 : r3.heap.size ≤ r4.heap.size := hb.size
          have Pr4 := Lib.hid (Pr3.out.below hb (by omega))
          have Qr4 := Lib.hid (Qr3.out.below hb (by omega))
          have Dr4 := Lib.hid (Dr3.out.trans (hb.mono (by omega)))
          have Zr4 := Lib.hid (Zr3.out.below hb (by omega))
          have Xr4 := Lib.hid hX
          clear hX hb
          refine hK.out _ _ ⟨blk3 Pr4.out, blk3 Qr4.out⟩ ?_
          clear hK K
          refine plan_quiet rfl (by rfl) (v := ?_) ?_ ?_; rotate_left; (intro w1 hSw; obtain ⟨⟨h0, h1, h2⟩, ⟨h3, h4, h5⟩⟩ := hSw; go_simp; try (with_reducible rfl)); (try simp only [Act.put, List.setIfInBounds_toArray, List.set_cons_zero, List.set_cons_succ])
          refine plan_quiet rfl (by rfl) (v := ?_) ?_ ?_; rotate_left; (intro w1 hSw; obtain ⟨⟨h0, h1, h2⟩, ⟨h3, h4, h5⟩⟩ := hSw; go_simp; try (with_reducible rfl)); (try simp only [Act.put, List.setIfInBounds_toArray, List.set_cons_zero, List.set_cons_succ])
          refine plan_quiet rfl (by rfl) (v := ?_) ?_ ?_; rotate_left; (intro w1 hSw; obtain ⟨⟨h0, h1, h2⟩, ⟨h3, h4, h5⟩⟩ := hSw; go_simp; try (with_reducible rfl)); (try simp only [Act.put, List.setIfInBounds_toArray, List.set_cons_zero, List.set_cons_succ])
          obtain ⟨zc0, zc1, zc2, zc3, zc4, zc5, zc6, zc7, zc8, zc9⟩ := Zr4.out.ten
          have fz := Zr4.out.warm
          refine plan_step rfl (fun K hK => ?_)
          rw [if_pos (by rfl)]
          go_simp
          clear zc0 zc1 zc2 zc3 zc4 zc5 zc6 zc7 zc8 zc9 fz
          obtain ⟨y, hy⟩ : ∃ x, ((((((((((r4.setCell ⟨r2.heap.size, 0, none⟩ (.string su)).setCell ⟨r2.heap.size, 1, none⟩ (.slice Au nu cu)).setCell ⟨r2.heap.size, 2, none⟩ (.slice Bu mu du)).setCell ⟨r2.heap.size, 3, none⟩ (.slice Mu qu eu)).setCell ⟨r2.heap.size, 4, none⟩ (.int .i64 spu)).setCell ⟨r2.heap.size, 5, none⟩ (.int .i64 Wu)).setCell ⟨r2.heap.size, 6, none⟩ (.int .i64 tu)).setCell ⟨r2.heap.size, 7, none⟩ (.int .i64 ku)).setCell ⟨r2.heap.size, 8, none⟩ (.slice Lu lu fu)).setCell ⟨r2.heap.size, 9, none⟩ (.slice Tu ru gu)) = x := ⟨_, rfl⟩
          have ry : Blk y r2.heap.size #[.string su, .slice Au nu cu, .slice Bu mu du, .slice Mu qu eu, .int .i64 spu, .int .i64 Wu, .int .i64 tu, .int .i64 ku, .slice Lu lu fu, .slice Tu ru gu] 61 := by rw [← hy]; exact Blk.fill Zr4.out (.string su) (.slice Au nu cu) (.slice Bu mu du) (.slice Mu qu eu) (.int .i64 spu) (.int .i64 Wu) (.int .i64 tu) (.int .i64 ku) (.slice Lu lu fu) (.slice Tu ru gu)
          have hc : Chg r2.heap.size (r2.heap.size + 1) r4 y := by rw [← hy]; exact (((((((((((Chg.refl r2.heap.size (r2.heap.size + 1) r4).trans (chg_set r4 r2.heap.size 0 (.string su))).trans (chg_set (r4.setCell ⟨r2.heap.size, 0, none⟩ (.string su)) r2.heap.size 1 (.slice Au nu cu))).trans (chg_set ((r4.setCell ⟨r2.heap.size, 0, none⟩ (.string su)).setCell ⟨r2.heap.size, 1, none⟩ (.slice Au nu cu)) r2.heap.size 2 (.slice Bu mu du))).trans (chg_set (((r4.setCell ⟨r2.heap.size, 0, none⟩ (.string su)).setCell ⟨r2.heap.size, 1, none⟩ (.slice Au nu cu)).setCell ⟨r2.heap.size, 2, none⟩ (.slice Bu mu du)) r2.heap.size 3 (.slice Mu qu eu))).trans (chg_set ((((r4.setCell ⟨r2.heap.size, 0, none⟩ (.string su)).setCell ⟨r2.heap.size, 1, none⟩ (.slice Au nu cu)).setCell ⟨r2.heap.size, 2, none⟩ (.slice Bu mu du)).setCell ⟨r2.heap.size, 3, none⟩ (.slice Mu qu eu)) r2.heap.size 4 (.int .i64 spu))).trans (chg_set (((((r4.setCell ⟨r2.heap.size, 0, none⟩ (.string su)).setCell ⟨r2.heap.size, 1, none⟩ (.slice Au nu cu)).setCell ⟨r2.heap.size, 2, none⟩ (.slice Bu mu du)).setCell ⟨r2.heap.size, 3, none⟩ (.slice Mu qu eu)).setCell ⟨r2.heap.size, 4, none⟩ (.int .i64 spu)) r2.heap.size 5 (.int .i64 Wu))).trans (chg_set ((((((r4.setCell ⟨r2.heap.size, 0, none⟩ (.string su)).setCell ⟨r2.heap.size, 1, none⟩ (.slice Au nu cu)).setCell ⟨r2.heap.size, 2, none⟩ (.slice Bu mu du)).setCell ⟨r2.heap.size, 3, none⟩ (.slice Mu qu eu)).setCell ⟨r2.heap.size, 4, none⟩ (.int .i64 spu)).setCell ⟨r2.heap.size, 5, none⟩ (.int .i64 Wu)) r2.heap.size 6 (.int .i64 tu))).trans (chg_set (((((((r4.setCell ⟨r2.heap.size, 0, none⟩ (.string su)).setCell ⟨r2.heap.size, 1, none⟩ (.slice Au nu cu)).setCell ⟨r2.heap.size, 2, none⟩ (.slice Bu mu du)).setCell ⟨r2.heap.size, 3, none⟩ (.slice Mu qu eu)).setCell ⟨r2.heap.size, 4, none⟩ (.int .i64 spu)).setCell ⟨r2.heap.size, 5, none⟩ (.int .i64 Wu)).setCell ⟨r2.heap.size, 6, none⟩ (.int .i64 tu)) r2.heap.size 7 (.int .i64 ku))).trans (chg_set ((((((((r4.setCell ⟨r2.heap.size, 0, none⟩ (.string su)).setCell ⟨r2.heap.size, 1, none⟩ (.slice Au nu cu)).setCell ⟨r2.heap.size, 2, none⟩ (.slice Bu mu du)).setCell ⟨r2.heap.size, 3, none⟩ (.slice Mu qu eu)).setCell ⟨r2.heap.size, 4, none⟩ (.int .i64 spu)).setCell ⟨r2.heap.size, 5, none⟩ (.int .i64 Wu)).setCell ⟨r2.heap.size, 6, none⟩ (.int .i64 tu)).setCell ⟨r2.heap.size, 7, none⟩ (.int .i64 ku)) r2.heap.size 8 (.slice Lu lu fu))).trans (chg_set (((((((((r4.setCell ⟨r2.heap.size, 0, none⟩ (.string su)).setCell ⟨r2.heap.size, 1, none⟩ (.slice Au nu cu)).setCell ⟨r2.heap.size, 2, none⟩ (.slice Bu mu du)).setCell ⟨r2.heap.size, 3, none⟩ (.slice Mu qu eu)).setCell ⟨r2.heap.size, 4, none⟩ (.int .i64 spu)).setCell ⟨r2.heap.size, 5, none⟩ (.int .i64 Wu)).setCell ⟨r2.heap.size, 6, none⟩ (.int .i64 tu)).setCell ⟨r2.heap.size, 7, none⟩ (.int .i64 ku)).setCell ⟨r2.heap.size, 8, none⟩ (.slice Lu lu fu)) r2.heap.size 9 (.slice Tu ru gu)))
          rw [hy]
          clear hy
          have sy : r4.heap.size ≤ y.heap.size := hc.size
          have Pry := Pr4.out.chg hc (by omega)
          have Qry := Qr4.out.chg hc (by omega)
          refine hK.out _ _ ⟨blk3 Pry, blk3 Qry⟩ ?_
          clear hK K
          refine plan_step rfl (fun K hK => ?_)
          rw [if_pos (by rfl)]
          go_simp
          refine hK.out _ _ ⟨blk3 Pry, blk3 Qry⟩ ?_
          clear hK K
          refine plan_end ?_
          refine ⟨rfl, su1, Au1, nu1, cu1, Bu1, mu1, du1, su, Au, nu, cu, Bu, mu, du, Mu, qu, eu, spu, Wu, tu, ku, Lu, lu, fu, Tu, ru, gu, r2.heap.size, r3.heap.size, r4.heap.size, ?_, Xr4.out.chg hc (by unfold Off; omega), ry, by omega, by omega, by omega, by omega, by omega, Dr4.out.trans (hc.below (by omega) |>.mono (by omega))⟩
          first | rfl | (simp only [Act.put, List.setIfInBounds_toArray, List.set_cons_zero, List.set_cons_succ])
      · rw [if_pos (by rfl)]
        go_simp
        obtain ⟨r2, hw, hb, hz, hZ⟩ := mxWorld r1 #[.string ⟨#[]⟩, .slice none 0 0, .slice none 0 0, .slice none 0 0, .int .i64 0, .int .i64 0, .int .i64 0, .int .i64 0, .slice none 0 0, .slice none 0 0] 61
        rw [hw]
        clear hw hz
        have tr2 : r1.heap.size ≤ r2.heap.size := hb.size
        have Pr2 := Lib.hid (Pr1.out.below hb (by omega))
        have Qr2 := Lib.hid (Qr1.out.below hb (by omega))
        have Dr2 := Lib.hid (Dr1.out.trans (hb.mono (by omega)))
        have Or2 := Lib.hid (Or1.out.below (by omega) hb)
        have Zr2 := Lib.hid hZ
        have yz : r1.heap.size < r2.heap.size := hZ.lt
        clear hZ hb
        refine hK.out _ _ ⟨blk3 Pr2.out, blk3 Qr2.out⟩ ?_
        clear hK K
        refine plan_step rfl (fun K hK => ?_)
        rw [if_pos (by rfl)]
        go_simp
        refine (toMeasure_any W t k r2).mono ?_
        rintro e r3 ⟨rfl, hb⟩
        have tr3 : r2.heap.size ≤ r3.heap.size := hb.size
        have Pr3 := Lib.hid (Pr2.out.below hb (by omega))
        have Qr3 := Lib.hid (Qr2.out.below hb (by omega))
        have Dr3 := Lib.hid (Dr2.out.trans (hb.mono (by omega)))
        have Or3 := Lib.hid (Or2.out.below (by omega) hb)
        have Zr3 := Lib.hid (Zr2.out.below hb (by omega))
        clear hb
        refine hK.out _ _ ⟨blk3 Pr3.out, blk3 Qr3.out⟩ ?_
        clear hK K
        refine plan_step rfl (fun K hK => ?_)
        rw [if_pos (by rfl)]
        go_simp
        refine (specNew_any _ _ _ f E sp W t k r3 Or3.out (by omega) hs).mono ?_
        rintro e r4 ⟨u, rfl, hX, hb⟩
        rw [HY.out] at hX
        rw [Hok.out]
        obtain ⟨su, Au, nu, cu, Bu, mu, du, Mu, qu, eu, spu, Wu, tu, ku, Lu, lu, fu, Tu, ru, gu, rfl⟩ := hX.reads.form
        have tr4 : r3.heap.size ≤ r4.heap.size := hb.size
        have Pr4 := Lib.hid (Pr3.out.below hb (by omega))
        have Qr4 := Lib.hid (Qr3.out.below hb (by omega))
        have Dr4 := Lib.hid (Dr3.out.trans (hb.mono (by omega)))
        have Zr4 := Lib.hid (Zr3.out.below hb (by omega))
        have Xr4 := Lib.hid hX
        clear hX hb
        refine hK.out _ _ ⟨blk3 Pr4.out, blk3 Qr4.out⟩ ?_
        clear hK K
        refine plan_quiet rfl (by rfl) (v := ?_) ?_ ?_; rotate_left; (intro w1 hSw; obtain ⟨⟨h0, h1, h2⟩, ⟨h3, h4, h5⟩⟩ := hSw; go_simp; try (with_reducible rfl)); (try simp only [Act.put, List.setIfInBounds_toArray, List.set_cons_zero, List.set_cons_succ])
        refine plan_quiet rfl (by rfl) (v := ?_) ?_ ?_; rotate_left; (intro w1 hSw; obtain ⟨⟨h0, h1, h2⟩, ⟨h3, h4, h5⟩⟩ := hSw; go_simp; try (with_reducible rfl)); (try simp only [Act.put, List.setIfInBounds_toArray, List.set_cons_zero, List.set_cons_succ])
        refine plan_quiet rfl (by rfl) (v := ?_) ?_ ?_; rotate_left; (intro w1 hSw; obtain ⟨⟨h0, h1, h2⟩, ⟨h3, h4, h5⟩⟩ := hSw; go_simp; try (with_reducible rfl)); (try simp only [Act.put, List.setIfInBounds_toArray, List.set_cons_zero, List.set_cons_succ])
        obtain ⟨zc0, zc1, zc2, zc3, zc4, zc5, zc6, zc7, zc8, zc9⟩ := Zr4.out.ten
        have fz := Zr4.out.warm
        refine plan_step rfl (fun K hK => ?_)
        rw [if_pos (by rfl)]
        go_simp
        clear zc0 zc1 zc2 zc3 zc4 zc5 zc6 zc7 zc8 zc9 fz
        obtain ⟨y, hy⟩ : ∃ x, ((((((((((r4.setCell ⟨r1.heap.size, 0, none⟩ (.string su)).setCell ⟨r1.heap.size, 1, none⟩ (.slice Au nu cu)).setCell ⟨r1.heap.size, 2, none⟩ (.slice Bu mu du)).setCell ⟨r1.heap.size, 3, none⟩ (.slice Mu qu eu)).setCell ⟨r1.heap.size, 4, none⟩ (.int .i64 spu)).setCell ⟨r1.heap.size, 5, none⟩ (.int .i64 Wu)).setCell ⟨r1.heap.size, 6, none⟩ (.int .i64 tu)).setCell ⟨r1.heap.size, 7, none⟩ (.int .i64 ku)).setCell ⟨r1.heap.size, 8, none⟩ (.slice Lu lu fu)).setCell ⟨r1.heap.size, 9, none⟩ (.slice Tu ru gu)) = x := ⟨_, rfl⟩
        have ry : Blk y r1.heap.size #[.string su, .slice Au nu cu, .slice Bu mu du, .slice Mu qu eu, .int .i64 spu, .int .i64 Wu, .int .i64 tu, .int .i64 ku, .slice Lu lu fu, .slice Tu ru gu] 61 := by rw [← hy]; exact Blk.fill Zr4.out (.string su) (.slice Au nu cu) (.slice Bu mu du) (.slice Mu qu eu) (.int .i64 spu) (.int .i64 Wu) (.int .i64 tu) (.int .i64 ku) (.slice Lu lu fu) (.slice Tu ru gu)
        have hc : Chg r1.heap.size (r1.heap.size + 1) r4 y := by rw [← hy]; exact (((((((((((Chg.refl r1.heap.size (r1.heap.size + 1) r4).trans (chg_set r4 r1.heap.size 0 (.string su))).trans (chg_set (r4.setCell ⟨r1.heap.size, 0, none⟩ (.string su)) r1.heap.size 1 (.slice Au nu cu))).trans (chg_set ((r4.setCell ⟨r1.heap.size, 0, none⟩ (.string su)).setCell ⟨r1.heap.size, 1, none⟩ (.slice Au nu cu)) r1.heap.size 2 (.slice Bu mu du))).trans (chg_set (((r4.setCell ⟨r1.heap.size, 0, none⟩ (.string su)).setCell ⟨r1.heap.size, 1, none⟩ (.slice Au nu cu)).setCell ⟨r1.heap.size, 2, none⟩ (.slice Bu mu du)) r1.heap.size 3 (.slice Mu qu eu))).trans (chg_set ((((r4.setCell ⟨r1.heap.size, 0, none⟩ (.string su)).setCell ⟨r1.heap.size, 1, none⟩ (.slice Au nu cu)).setCell ⟨r1.heap.size, 2, none⟩ (.slice Bu mu du)).setCell ⟨r1.heap.size, 3, none⟩ (.slice Mu qu eu)) r1.heap.size 4 (.int .i64 spu))).trans (chg_set (((((r4.setCell ⟨r1.heap.size, 0, none⟩ (.string su)).setCell ⟨r1.heap.size, 1, none⟩ (.slice Au nu cu)).setCell ⟨r1.heap.size, 2, none⟩ (.slice Bu mu du)).setCell ⟨r1.heap.size, 3, none⟩ (.slice Mu qu eu)).setCell ⟨r1.heap.size, 4, none⟩ (.int .i64 spu)) r1.heap.size 5 (.int .i64 Wu))).trans (chg_set ((((((r4.setCell ⟨r1.heap.size, 0, none⟩ (.string su)).setCell ⟨r1.heap.size, 1, none⟩ (.slice Au nu cu)).setCell ⟨r1.heap.size, 2, none⟩ (.slice Bu mu du)).setCell ⟨r1.heap.size, 3, none⟩ (.slice Mu qu eu)).setCell ⟨r1.heap.size, 4, none⟩ (.int .i64 spu)).setCell ⟨r1.heap.size, 5, none⟩ (.int .i64 Wu)) r1.heap.size 6 (.int .i64 tu))).trans (chg_set (((((((r4.setCell ⟨r1.heap.size, 0, none⟩ (.string su)).setCell ⟨r1.heap.size, 1, none⟩ (.slice Au nu cu)).setCell ⟨r1.heap.size, 2, none⟩ (.slice Bu mu du)).setCell ⟨r1.heap.size, 3, none⟩ (.slice Mu qu eu)).setCell ⟨r1.heap.size, 4, none⟩ (.int .i64 spu)).setCell ⟨r1.heap.size, 5, none⟩ (.int .i64 Wu)).setCell ⟨r1.heap.size, 6, none⟩ (.int .i64 tu)) r1.heap.size 7 (.int .i64 ku))).trans (chg_set ((((((((r4.setCell ⟨r1.heap.size, 0, none⟩ (.string su)).setCell ⟨r1.heap.size, 1, none⟩ (.slice Au nu cu)).setCell ⟨r1.heap.size, 2, none⟩ (.slice Bu mu du)).setCell ⟨r1.heap.size, 3, none⟩ (.slice Mu qu eu)).setCell ⟨r1.heap.size, 4, none⟩ (.int .i64 spu)).setCell ⟨r1.heap.size, 5, none⟩ (.int .i64 Wu)).setCell ⟨r1.heap.size, 6, none⟩ (.int .i64 tu)).setCell ⟨r1.heap.size, 7, none⟩ (.int .i64 ku)) r1.heap.size 8 (.slice Lu lu fu))).trans (chg_set (((((((((r4.setCell ⟨r1.heap.size, 0, none⟩ (.string su)).setCell ⟨r1.heap.size, 1, none⟩ (.slice Au nu cu)).setCell ⟨r1.heap.size, 2, none⟩ (.slice Bu mu du)).setCell ⟨r1.heap.size, 3, none⟩ (.slice Mu qu eu)).setCell ⟨r1.heap.size, 4, none⟩ (.int .i64 spu)).setCell ⟨r1.heap.size, 5, none⟩ (.int .i64 Wu)).setCell ⟨r1.heap.size, 6, none⟩ (.int .i64 tu)).setCell ⟨r1.heap.size, 7, none⟩ (.int .i64 ku)).setCell ⟨r1.heap.size, 8, none⟩ (.slice Lu lu fu)) r1.heap.size 9 (.slice Tu ru gu)))
        rw [hy]
        clear hy
        have sy : r4.heap.size ≤ y.heap.size := hc.size
        have Pry := Pr4.out.chg hc (by omega)
        have Qry := Qr4.out.chg hc (by omega)
        refine hK.out _ _ ⟨blk3 Pry, blk3 Qry⟩ ?_
        clear hK K
        refine plan_step rfl (fun K hK => ?_)
        rw [if_pos (by rfl)]
        go_simp
        refine hK.out _ _ ⟨blk3 Pry, blk3 Qry⟩ ?_
        clear hK K
        refine plan_end ?_
        refine ⟨rfl, su1, Au1, nu1, cu1, Bu1, mu1, du1, su, Au, nu, cu, Bu, mu, du, Mu, qu, eu, spu, Wu, tu, ku, Lu, lu, fu, Tu, ru, gu, r1.heap.size, r3.heap.size, r4.heap.size, ?_, Xr4.out.chg hc (by unfold Off; omega), ry, by omega, by omega, by omega, by omega, by omega, Dr4.out.trans (hc.below (by omega) |>.mono (by omega))⟩
        first | rfl | (simp only [Act.put, List.setIfInBounds_toArray, List.set_cons_zero, List.set_cons_succ])
    · rw [if_pos (by rfl)]
      go_simp
      obtain ⟨r1, hw, hb, hz, hZ⟩ := mxWorld r0 #[.string ⟨#[]⟩, .slice none 0 0, .slice none 0 0, .slice none 0 0, .int .i64 0, .int .i64 0, .int .i64 0, .int .i64 0, .slice none 0 0, .slice none 0 0] 61
      rw [hw]
      clear hw hz
      have tr1 : r0.heap.size ≤ r1.heap.size := hb.size
      have Pr1 := Lib.hid (Pr0.out.below hb (by omega))
      have Qr1 := Lib.hid (Qr0.out.below hb (by omega))
      have Dr1 := Lib.hid (Dr0.out.trans (hb.mono (by omega)))
      have Vr1 := Lib.hid (Vr0.out.below (by omega) hb)
      have Zr1 := Lib.hid hZ
      have yz : r0.heap.size < r1.heap.size := hZ.lt
      clear hZ hb
      refine hK.out _ _ ⟨blk3 Pr1.out, blk3 Qr1.out⟩ ?_
      clear hK K
      refine plan_step rfl (fun K hK => ?_)
      rw [if_pos (by rfl)]
      go_simp
      refine (toFont_any lo hi _ f r1 Vr1.out (by omega) hs).mono ?_
      rintro e r2 ⟨v1, rfl, hO, hb⟩
      obtain ⟨su1, Au1, nu1, cu1, Bu1, mu1, du1, rfl⟩ := fontNames hO.font
      have tr2 : r1.heap.size ≤ r2.heap.size := hb.size
      have Pr2 := Lib.hid (Pr1.out.below hb (by omega))
      have Qr2 := Lib.hid (Qr1.out.below hb (by omega))
      have Dr2 := Lib.hid (Dr1.out.trans (hb.mono (by omega)))
      have Vr2 := Lib.hid (Vr1.out.below (by omega) hb)
      have Zr2 := Lib.hid (Zr1.out.below hb (by omega))
      have Or2 := Lib.hid hO.font
      clear hO
      clear hb
      have Ol : r2.heap.size ≤ r2.heap.size := Nat.le_refl _
      refine hK.out _ _ ⟨blk3 Pr2.out, blk3 Qr2.out⟩ ?_
      clear hK K
      refine plan_step rfl (fun K hK => ?_)
      rw [if_pos (by rfl)]
      go_simp
      refine (toMeasure_any W t k r2).mono ?_
      rintro e r3 ⟨rfl, hb⟩
      have tr3 : r2.heap.size ≤ r3.heap.size := hb.size
      have Pr3 := Lib.hid (Pr2.out.below hb (by omega))
      have Qr3 := Lib.hid (Qr2.out.below hb (by omega))
      have Dr3 := Lib.hid (Dr2.out.trans (hb.mono (by omega)))
      have Zr3 := Lib.hid (Zr2.out.below hb (by omega))
      have Or3 := Lib.hid (Or2.out.below (by omega) hb)
      clear hb
      refine hK.out _ _ ⟨blk3 Pr3.out, blk3 Qr3.out⟩ ?_
      clear hK K
      refine plan_step rfl (fun K hK => ?_)
      rw [if_pos (by rfl)]
      go_simp
      refine (specNew_any _ _ _ f E sp W t k r3 Or3.out (by omega) hs).mono ?_
      rintro e r4 ⟨u, rfl, hX, hb⟩
      rw [HY.out] at hX
      rw [Hok.out]
      obtain ⟨su, Au, nu, cu, Bu, mu, du, Mu, qu, eu, spu, Wu, tu, ku, Lu, lu, fu, Tu, ru, gu, rfl⟩ := hX.reads.form
      have tr4 : r3.heap.size ≤ r4.heap.size := hb.size
      have Pr4 := Lib.hid (Pr3.out.below hb (by omega))
      have Qr4 := Lib.hid (Qr3.out.below hb (by omega))
      have Dr4 := Lib.hid (Dr3.out.trans (hb.mono (by omega)))
      have Zr4 := Lib.hid (Zr3.out.below hb (by omega))
      have Xr4 := Lib.hid hX
      clear hX hb
      refine hK.out _ _ ⟨blk3 Pr4.out, blk3 Qr4.out⟩ ?_
      clear hK K
      refine plan_quiet rfl (by rfl) (v := ?_) ?_ ?_; rotate_left; (intro w1 hSw; obtain ⟨⟨h0, h1, h2⟩, ⟨h3, h4, h5⟩⟩ := hSw; go_simp; try (with_reducible rfl)); (try simp only [Act.put, List.setIfInBounds_toArray, List.set_cons_zero, List.set_cons_succ])
      refine plan_quiet rfl (by rfl) (v := ?_) ?_ ?_; rotate_left; (intro w1 hSw; obtain ⟨⟨h0, h1, h2⟩, ⟨h3, h4, h5⟩⟩ := hSw; go_simp; try (with_reducible rfl)); (try simp only [Act.put, List.setIfInBounds_toArray, List.set_cons_zero, List.set_cons_succ])
      refine plan_quiet rfl (by rfl) (v := ?_) ?_ ?_; rotate_left; (intro w1 hSw; obtain ⟨⟨h0, h1, h2⟩, ⟨h3, h4, h5⟩⟩ := hSw; go_simp; try (with_reducible rfl)); (try simp only [Act.put, List.setIfInBounds_toArray, List.set_cons_zero, List.set_cons_succ])
      obtain ⟨zc0, zc1, zc2, zc3, zc4, zc5, zc6, zc7, zc8, zc9⟩ := Zr4.out.ten
      have fz := Zr4.out.warm
      refine plan_step rfl (fun K hK => ?_)
      rw [if_pos (by rfl)]
      go_simp
      clear zc0 zc1 zc2 zc3 zc4 zc5 zc6 zc7 zc8 zc9 fz
      obtain ⟨y, hy⟩ : ∃ x, ((((((((((r4.setCell ⟨r0.heap.size, 0, none⟩ (.string su)).setCell ⟨r0.heap.size, 1, none⟩ (.slice Au nu cu)).setCell ⟨r0.heap.size, 2, none⟩ (.slice Bu mu du)).setCell ⟨r0.heap.size, 3, none⟩ (.slice Mu qu eu)).setCell ⟨r0.heap.size, 4, none⟩ (.int .i64 spu)).setCell ⟨r0.heap.size, 5, none⟩ (.int .i64 Wu)).setCell ⟨r0.heap.size, 6, none⟩ (.int .i64 tu)).setCell ⟨r0.heap.size, 7, none⟩ (.int .i64 ku)).setCell ⟨r0.heap.size, 8, none⟩ (.slice Lu lu fu)).setCell ⟨r0.heap.size, 9, none⟩ (.slice Tu ru gu)) = x := ⟨_, rfl⟩
      have ry : Blk y r0.heap.size #[.string su, .slice Au nu cu, .slice Bu mu du, .slice Mu qu eu, .int .i64 spu, .int .i64 Wu, .int .i64 tu, .int .i64 ku, .slice Lu lu fu, .slice Tu ru gu] 61 := by rw [← hy]; exact Blk.fill Zr4.out (.string su) (.slice Au nu cu) (.slice Bu mu du) (.slice Mu qu eu) (.int .i64 spu) (.int .i64 Wu) (.int .i64 tu) (.int .i64 ku) (.slice Lu lu fu) (.slice Tu ru gu)
      have hc : Chg r0.heap.size (r0.heap.size + 1) r4 y := by rw [← hy]; exact (((((((((((Chg.refl r0.heap.size (r0.heap.size + 1) r4).trans (chg_set r4 r0.heap.size 0 (.string su))).trans (chg_set (r4.setCell ⟨r0.heap.size, 0, none⟩ (.string su)) r0.heap.size 1 (.slice Au nu cu))).trans (chg_set ((r4.setCell ⟨r0.heap.size, 0, none⟩ (.string su)).setCell ⟨r0.heap.size, 1, none⟩ (.slice Au nu cu)) r0.heap.size 2 (.slice Bu mu du))).trans (chg_set (((r4.setCell ⟨r0.heap.size, 0, none⟩ (.string su)).setCell ⟨r0.heap.size, 1, none⟩ (.slice Au nu cu)).setCell ⟨r0.heap.size, 2, none⟩ (.slice Bu mu du)) r0.heap.size 3 (.slice Mu qu eu))).trans (chg_set ((((r4.setCell ⟨r0.heap.size, 0, none⟩ (.string su)).setCell ⟨r0.heap.size, 1, none⟩ (.slice Au nu cu)).setCell ⟨r0.heap.size, 2, none⟩ (.slice Bu mu du)).setCell ⟨r0.heap.size, 3, none⟩ (.slice Mu qu eu)) r0.heap.size 4 (.int .i64 spu))).trans (chg_set (((((r4.setCell ⟨r0.heap.size, 0, none⟩ (.string su)).setCell ⟨r0.heap.size, 1, none⟩ (.slice Au nu cu)).setCell ⟨r0.heap.size, 2, none⟩ (.slice Bu mu du)).setCell ⟨r0.heap.size, 3, none⟩ (.slice Mu qu eu)).setCell ⟨r0.heap.size, 4, none⟩ (.int .i64 spu)) r0.heap.size 5 (.int .i64 Wu))).trans (chg_set ((((((r4.setCell ⟨r0.heap.size, 0, none⟩ (.string su)).setCell ⟨r0.heap.size, 1, none⟩ (.slice Au nu cu)).setCell ⟨r0.heap.size, 2, none⟩ (.slice Bu mu du)).setCell ⟨r0.heap.size, 3, none⟩ (.slice Mu qu eu)).setCell ⟨r0.heap.size, 4, none⟩ (.int .i64 spu)).setCell ⟨r0.heap.size, 5, none⟩ (.int .i64 Wu)) r0.heap.size 6 (.int .i64 tu))).trans (chg_set (((((((r4.setCell ⟨r0.heap.size, 0, none⟩ (.string su)).setCell ⟨r0.heap.size, 1, none⟩ (.slice Au nu cu)).setCell ⟨r0.heap.size, 2, none⟩ (.slice Bu mu du)).setCell ⟨r0.heap.size, 3, none⟩ (.slice Mu qu eu)).setCell ⟨r0.heap.size, 4, none⟩ (.int .i64 spu)).setCell ⟨r0.heap.size, 5, none⟩ (.int .i64 Wu)).setCell ⟨r0.heap.size, 6, none⟩ (.int .i64 tu)) r0.heap.size 7 (.int .i64 ku))).trans (chg_set ((((((((r4.setCell ⟨r0.heap.size, 0, none⟩ (.string su)).setCell ⟨r0.heap.size, 1, none⟩ (.slice Au nu cu)).setCell ⟨r0.heap.size, 2, none⟩ (.slice Bu mu du)).setCell ⟨r0.heap.size, 3, none⟩ (.slice Mu qu eu)).setCell ⟨r0.heap.size, 4, none⟩ (.int .i64 spu)).setCell ⟨r0.heap.size, 5, none⟩ (.int .i64 Wu)).setCell ⟨r0.heap.size, 6, none⟩ (.int .i64 tu)).setCell ⟨r0.heap.size, 7, none⟩ (.int .i64 ku)) r0.heap.size 8 (.slice Lu lu fu))).trans (chg_set (((((((((r4.setCell ⟨r0.heap.size, 0, none⟩ (.string su)).setCell ⟨r0.heap.size, 1, none⟩ (.slice Au nu cu)).setCell ⟨r0.heap.size, 2, none⟩ (.slice Bu mu du)).setCell ⟨r0.heap.size, 3, none⟩ (.slice Mu qu eu)).setCell ⟨r0.heap.size, 4, none⟩ (.int .i64 spu)).setCell ⟨r0.heap.size, 5, none⟩ (.int .i64 Wu)).setCell ⟨r0.heap.size, 6, none⟩ (.int .i64 tu)).setCell ⟨r0.heap.size, 7, none⟩ (.int .i64 ku)).setCell ⟨r0.heap.size, 8, none⟩ (.slice Lu lu fu)) r0.heap.size 9 (.slice Tu ru gu)))
      rw [hy]
      clear hy
      have sy : r4.heap.size ≤ y.heap.size := hc.size
      have Pry := Pr4.out.chg hc (by omega)
      have Qry := Qr4.out.chg hc (by omega)
      refine hK.out _ _ ⟨blk3 Pry, blk3 Qry⟩ ?_
      clear hK K
      refine plan_step rfl (fun K hK => ?_)
      rw [if_pos (by rfl)]
      go_simp
      refine hK.out _ _ ⟨blk3 Pry, blk3 Qry⟩ ?_
      clear hK K
      refine plan_end ?_
      refine ⟨rfl, su1, Au1, nu1, cu1, Bu1, mu1, du1, su, Au, nu, cu, Bu, mu, du, Mu, qu, eu, spu, Wu, tu, ku, Lu, lu, fu, Tu, ru, gu, r0.heap.size, r3.heap.size, r4.heap.size, ?_, Xr4.out.chg hc (by unfold Off; omega), ry, by omega, by omega, by omega, by omega, by omega, Dr4.out.trans (hc.below (by omega) |>.mono (by omega))⟩
      first | rfl | (simp only [Act.put, List.setIfInBounds_toArray, List.set_cons_zero, List.set_cons_succ])
  rintro a' w2 ⟨su1, Au1, nu1, cu1, Bu1, mu1, du1, su, Au, nu, cu, Bu, mu, du, Mu, qu, eu, spu, Wu, tu, ku, Lu, lu, fu, Tu, ru, gu, bu, xu, zu, rfl, hX, hB, hx1, hx2, hx3, hx4, hx5, hb⟩
  simp only [Act.put, List.setIfInBounds_toArray, List.set_cons_zero, List.set_cons_succ]
  have s2 : w1.heap.size ≤ w2.heap.size := hb.size
  have P2 := Lib.hid (P1.out.below hb (by omega))
  have Q2 := Lib.hid (Q1.out.below hb (by omega))
  have T2 := Lib.hid (T1.out.trans (hb.mono (by omega)))
  have V2 := Lib.hid (V1.out.below (by omega) hb)
  clear P1 Q1 T1 V1 hb
  have yP_2 : w.heap.size < w2.heap.size := by omega
  have yQ_2 : (w.heap.size + 1) < w2.heap.size := by omega
  have U2 := Lib.hid (hX)
  have BU2 := Lib.hid (hB)
  have yBU_2 : bu < w2.heap.size := hB.lt
  clear hX hB
  obtain ⟨Pc0, Pc1, Pc2⟩ := blk3 P2.out
  obtain ⟨Qc0, Qc1, Qc2⟩ := blk3 Q2.out
  obtain ⟨BUc0, BUc1, BUc2, BUc3, BUc4, BUc5, BUc6, BUc7, BUc8, BUc9⟩ := BU2.out.ten
  go_wp2_with fail
  refine (toFont_any lo hi _ f w2 V2.out (by omega) hs).mono ?_
  rintro e w3 ⟨v1, rfl, hO, hb⟩
  obtain ⟨sx, Ax, nx, cx, Bx, mx, dx, rfl⟩ := fontNames hO.font
  clear Pc0 Pc1 Pc2
  clear Qc0 Qc1 Qc2
  clear BUc0 BUc1 BUc2 BUc3 BUc4 BUc5 BUc6 BUc7 BUc8 BUc9
  have s3 : w2.heap.size ≤ w3.heap.size := hb.size
  have P3 := Lib.hid (P2.out.below hb (by omega))
  have Q3 := Lib.hid (Q2.out.below hb (by omega))
  have T3 := Lib.hid (T2.out.trans (hb.mono (by omega)))
  have V3 := Lib.hid (V2.out.below (by omega) hb)
  have U3 := Lib.hid (U2.out.below hb)
  have BU3 := Lib.hid (BU2.out.below hb (by omega))
  clear P2 Q2 T2 V2 U2 BU2 hb
  have yP_3 : w.heap.size < w3.heap.size := by omega
  have yQ_3 : (w.heap.size + 1) < w3.heap.size := by omega
  have yBU_3 : bu < w3.heap.size := by omega
  have X3 := Lib.hid (hO)
  clear hO
  obtain ⟨Pc0, Pc1, Pc2⟩ := blk3 P3.out
  obtain ⟨Qc0, Qc1, Qc2⟩ := blk3 Q3.out
  obtain ⟨BUc0, BUc1, BUc2, BUc3, BUc4, BUc5, BUc6, BUc7, BUc8, BUc9⟩ := BU3.out.ten
  go_wp2
  obtain ⟨w4, hw, hb, hz, hK⟩ := mxWorld w3 #[.string sx, .slice Ax nx cx, .slice Bx mx dx] 25
  rw [hw]
  clear hw hz
  clear Pc0 Pc1 Pc2
  clear Qc0 Qc1 Qc2
  clear BUc0 BUc1 BUc2 BUc3 BUc4 BUc5 BUc6 BUc7 BUc8 BUc9
  have s4 : w3.heap.size ≤ w4.heap.size := hb.size
  have P4 := Lib.hid (P3.out.below hb (by omega))
  have Q4 := Lib.hid (Q3.out.below hb (by omega))
  have T4 := Lib.hid (T3.out.trans (hb.mono (by omega)))
  have V4 := Lib.hid (V3.out.below (by omega) hb)
  have U4 := Lib.hid (U3.out.below hb)
  have BU4 := Lib.hid (BU3.out.below hb (by omega))
  have X4 := Lib.hid (X3.out.below hb)
  clear P3 Q3 T3 V3 U3 BU3 X3 hb
  have yP_4 : w.heap.size < w4.heap.size := by omega
  have yQ_4 : (w.heap.size + 1) < w4.heap.size := by omega
  have yBU_4 : bu < w4.heap.size := by omega
  have BF4 := Lib.hid (hK)
  have yBF_4 : w3.heap.size < w4.heap.size := hK.lt
  clear hK
  skip
  obtain ⟨Pc0, Pc1, Pc2⟩ := blk3 P4.out
  obtain ⟨Qc0, Qc1, Qc2⟩ := blk3 Q4.out
  obtain ⟨BUc0, BUc1, BUc2, BUc3, BUc4, BUc5, BUc6, BUc7, BUc8, BUc9⟩ := BU4.out.ten
  obtain ⟨BFc0, BFc1, BFc2⟩ := blk3 BF4.out
  clear Pc0 Pc1 Pc2
  clear Qc0 Qc1 Qc2
  clear BUc0 BUc1 BUc2 BUc3 BUc4 BUc5 BUc6 BUc7 BUc8 BUc9
  clear BFc0 BFc1 BFc2
  refine region_post (fun a a' w' => ∃ sg Ag ng cg Bg mg dg Mg qg eg spg Wg tg kg Lg lg fg Tg rg gg bg xg zg, a' = (((((((((((a.put (some 38) (.agg #[.string sx, .slice Ax nx cx, .slice Bx mx dx])).put (some 39) (.int .i64 E)).put (some 40) (.int .i64 sp)).put (some 41) (.agg #[.int .i64 W, .int .i64 t, .int .i64 k])).put (some 42) (.agg #[.int .i64 W, .int .i64 t, .int .i64 k])).put (some 43) (.tuple #[.agg #[.string sg, .slice Ag ng cg, .slice Bg mg dg, .slice Mg qg eg, .int .i64 spg, .int .i64 Wg, .int .i64 tg, .int .i64 kg, .slice Lg lg fg, .slice Tg rg gg], .bool ok])).put (some 37) (.tuple #[.agg #[.string sg, .slice Ag ng cg, .slice Bg mg dg, .slice Mg qg eg, .int .i64 spg, .int .i64 Wg, .int .i64 tg, .int .i64 kg, .slice Lg lg fg, .slice Tg rg gg], .bool ok])).put (some 44) (.agg #[.string sg, .slice Ag ng cg, .slice Bg mg dg, .slice Mg qg eg, .int .i64 spg, .int .i64 Wg, .int .i64 tg, .int .i64 kg, .slice Lg lg fg, .slice Tg rg gg])).put (some 45) (.bool ok)).put (some 13) (.pointer (some ⟨bg, 0, none⟩))).put (some 14) (.bool ok)) ∧ MchX w' xg zg (.agg #[.string sg, .slice Ag ng cg, .slice Bg mg dg, .slice Mg qg eg, .int .i64 spg, .int .i64 Wg, .int .i64 tg, .int .i64 kg, .slice Lg lg fg, .slice Tg rg gg]) Y ∧ Blk w' bg #[.string sg, .slice Ag ng cg, .slice Bg mg dg, .slice Mg qg eg, .int .i64 spg, .int .i64 Wg, .int .i64 tg, .int .i64 kg, .slice Lg lg fg, .slice Tg rg gg] 61 ∧ w4.heap.size ≤ xg ∧ zg ≤ w'.heap.size ∧ ¬ (xg ≤ bg ∧ bg < zg) ∧ w4.heap.size ≤ bg ∧ xg ≤ zg ∧ Below w4.heap.size w4 w') ?_ ?_
  · refine wp_region_plan (.take 0 (.take 1 (.take 2 (.take 3 (.two 4 9 (.two 5 9 (.take 6 (.take 7 (.take 8 (.one 9 (.one 10 (.one 11 .done)))))) (.one 5 (.take 6 (.take 7 (.take 8 (.one 10 (.one 11 .done))))))) (.one 4 (.one 5 (.take 6 (.take 7 (.take 8 (.one 10 (.one 11 .done)))))))))))) (fun w' => (w'.cell? ⟨w3.heap.size, 0, none⟩ = some (.string sx) ∧ w'.cell? ⟨w3.heap.size, 1, none⟩ = some (.slice Ax nx cx) ∧ w'.cell? ⟨w3.heap.size, 2, none⟩ = some (.slice Bx mx dx)) ∧ (w'.cell? ⟨(w.heap.size + 1), 0, none⟩ = some (.int .i64 W) ∧ w'.cell? ⟨(w.heap.size + 1), 1, none⟩ = some (.int .i64 t) ∧ w'.cell? ⟨(w.heap.size + 1), 2, none⟩ = some (.int .i64 k))) (by kernel_rfl) (by kernel_rfl) (by kernel_rfl) (by intro c a d v w h; exact absurd h.1 (by simp)) ⟨blk3 BF4.out, blk3 Q4.out⟩ ?_
    refine plan_quiet rfl (by rfl) (v := ?_) ?_ ?_; rotate_left; (intro w1 hSw; obtain ⟨⟨h0, h1, h2⟩, ⟨h3, h4, h5⟩⟩ := hSw; go_simp; try (with_reducible rfl)); (try simp only [Act.put, List.setIfInBounds_toArray, List.set_cons_zero, List.set_cons_succ])
    refine plan_quiet rfl (by rfl) (v := ?_) ?_ ?_; rotate_left; (intro w1 hSw; obtain ⟨⟨h0, h1, h2⟩, ⟨h3, h4, h5⟩⟩ := hSw; go_simp; try (with_reducible rfl)); (try simp only [Act.put, List.setIfInBounds_toArray, List.set_cons_zero, List.set_cons_succ])
    refine plan_quiet rfl (by rfl) (v := ?_) ?_ ?_; rotate_left; (intro w1 hSw; obtain ⟨⟨h0, h1, h2⟩, ⟨h3, h4, h5⟩⟩ := hSw; go_simp; try (with_reducible rfl)); (try simp only [Act.put, List.setIfInBounds_toArray, List.set_cons_zero, List.set_cons_succ])
    refine plan_quiet rfl (by rfl) (v := ?_) ?_ ?_; rotate_left; (intro w1 hSw; obtain ⟨⟨h0, h1, h2⟩, ⟨h3, h4, h5⟩⟩ := hSw; go_simp; try (with_reducible rfl)); (try simp only [Act.put, List.setIfInBounds_toArray, List.set_cons_zero, List.set_cons_succ])
    obtain ⟨r0, hr0⟩ : ∃ x, w4.drew = x := ⟨_, rfl⟩
    have BFr0 : Hid (Blk r0 w3.heap.size #[.string sx, .slice Ax nx cx, .slice Bx mx dx] 25) := by show Blk _ _ _ _; rw [← hr0]; exact BF4.out
    have Qr0 : Hid (Blk r0 (w.heap.size + 1) #[.int .i64 W, .int .i64 t, .int .i64 k] 53) := by show Blk _ _ _ _; rw [← hr0]; exact Q4.out
    have Dr0 : Hid (Below w4.heap.size w4 r0) := by show Below _ _ _; rw [← hr0]; exact (Below.refl _ _).drew
    have tr0 : w4.heap.size ≤ r0.heap.size := by rw [← hr0]; exact Nat.le_refl _
    have Or0 : Hid (FontV r0 w2.heap.size w3.heap.size (.agg #[.string sx, .slice Ax nx cx, .slice Bx mx dx]) f) := by show FontV _ _ _ _ _; rw [← hr0]; exact FontV.keep (w' := w4.drew) X4.out.font (fun p _ _ => rfl)
    rw [hr0]
    clear hr0
    refine plan_fork rfl rfl (fun K hK => ?_) (fun K hK => ?_)
    · rw [if_pos (by rfl)]
      go_simp
      refine (toMeasure_any W t k r0).mono ?_
      rintro e r1 ⟨rfl, hb⟩
      have tr1 : r0.heap.size ≤ r1.heap.size := hb.size
      have BFr1 := Lib.hid (BFr0.out.below hb (by omega))
      have Qr1 := Lib.hid (Qr0.out.below hb (by omega))
      have Dr1 := Lib.hid (Dr0.out.trans (hb.mono (by omega)))
      have Or1 := Lib.hid (Or0.out.below (by omega) hb)
      clear hb
      refine hK.out _ _ ⟨blk3 BFr1.out, blk3 Qr1.out⟩ ?_
      clear hK K
      refine plan_fork rfl rfl (fun K hK => ?_) (fun K hK => ?_)
      · rw [if_pos (by rfl)]
        go_simp
        refine (implNew_any _ _ _ f E sp W t k r1 Or1.out (by omega) hs).mono ?_
        rintro e r2 ⟨u, rfl, hX, hb⟩
        rw [HY.out] at hX
        rw [Hok.out]
        obtain ⟨sg, Ag, ng, cg, Bg, mg, dg, Mg, qg, eg, spg, Wg, tg, kg, Lg, lg, fg, Tg, rg, gg, rfl⟩ := hX.reads.form
        have tr2 : r1.heap.size ≤ r2.heap.size := hb.size
        have BFr2 := Lib.hid (BFr1.out.below hb (by omega))
        have Qr2 := Lib.hid (Qr1.out.below hb (by omega))
        have Dr2 := Lib.hid (Dr1.out.trans (hb.mono (by omega)))
        have Xr2 := Lib.hid hX
        clear hX hb
        refine hK.out _ _ ⟨blk3 BFr2.out, blk3 Qr2.out⟩ ?_
        clear hK K
        refine plan_quiet rfl (by rfl) (v := ?_) ?_ ?_; rotate_left; (intro w1 hSw; obtain ⟨⟨h0, h1, h2⟩, ⟨h3, h4, h5⟩⟩ := hSw; go_simp; try (with_reducible rfl)); (try simp only [Act.put, List.setIfInBounds_toArray, List.set_cons_zero, List.set_cons_succ])
        refine plan_quiet rfl (by rfl) (v := ?_) ?_ ?_; rotate_left; (intro w1 hSw; obtain ⟨⟨h0, h1, h2⟩, ⟨h3, h4, h5⟩⟩ := hSw; go_simp; try (with_reducible rfl)); (try simp only [Act.put, List.setIfInBounds_toArray, List.set_cons_zero, List.set_cons_succ])
        refine plan_quiet rfl (by rfl) (v := ?_) ?_ ?_; rotate_left; (intro w1 hSw; obtain ⟨⟨h0, h1, h2⟩, ⟨h3, h4, h5⟩⟩ := hSw; go_simp; try (with_reducible rfl)); (try simp only [Act.put, List.setIfInBounds_toArray, List.set_cons_zero, List.set_cons_succ])
        refine plan_step rfl (fun K hK => ?_)
        rw [if_pos (by rfl)]
        go_simp
        obtain ⟨r3, hw, hb, hz, hZ⟩ := mxWorld r2 #[.string ⟨#[]⟩, .slice none 0 0, .slice none 0 0, .slice none 0 0, .int .i64 0, .int .i64 0, .int .i64 0, .int .i64 0, .slice none 0 0, .slice none 0 0] 61
        rw [hw]
        clear hw hz
        have tr3 : r2.heap.size ≤ r3.heap.size := hb.size
        have BFr3 := Lib.hid (BFr2.out.below hb (by omega))
        have Qr3 := Lib.hid (Qr2.out.below hb (by omega))
        have Dr3 := Lib.hid (Dr2.out.trans (hb.mono (by omega)))
        have Xr3 := Lib.hid (Xr2.out.below hb)
        have Zr3 := Lib.hid hZ
        have yz : r2.heap.size < r3.heap.size := hZ.lt
        clear hZ hb
        refine hK.out _ _ ⟨blk3 BFr3.out, blk3 Qr3.out⟩ ?_
        clear hK K
        obtain ⟨zc0, zc1, zc2, zc3, zc4, zc5, zc6, zc7, zc8, zc9⟩ := Zr3.out.ten
        have fz := Zr3.out.warm
        refine plan_step rfl (fun K hK => ?_)
        rw [if_pos (by rfl)]
        go_simp
        clear zc0 zc1 zc2 zc3 zc4 zc5 zc6 zc7 zc8 zc9 fz
        obtain ⟨y, hy⟩ : ∃ x, ((((((((((r3.setCell ⟨r2.heap.size, 0, none⟩ (.string sg)).setCell ⟨r2.heap.size, 1, none⟩ (.slice Ag ng cg)).setCell ⟨r2.heap.size, 2, none⟩ (.slice Bg mg dg)).setCell ⟨r2.heap.size, 3, none⟩ (.slice Mg qg eg)).setCell ⟨r2.heap.size, 4, none⟩ (.int .i64 spg)).setCell ⟨r2.heap.size, 5, none⟩ (.int .i64 Wg)).setCell ⟨r2.heap.size, 6, none⟩ (.int .i64 tg)).setCell ⟨r2.heap.size, 7, none⟩ (.int .i64 kg)).setCell ⟨r2.heap.size, 8, none⟩ (.slice Lg lg fg)).setCell ⟨r2.heap.size, 9, none⟩ (.slice Tg rg gg)) = x := ⟨_, rfl⟩
        have ry : Blk y r2.heap.size #[.string sg, .slice Ag ng cg, .slice Bg mg dg, .slice Mg qg eg, .int .i64 spg, .int .i64 Wg, .int .i64 tg, .int .i64 kg, .slice Lg lg fg, .slice Tg rg gg] 61 := by rw [← hy]; exact Blk.fill Zr3.out (.string sg) (.slice Ag ng cg) (.slice Bg mg dg) (.slice Mg qg eg) (.int .i64 spg) (.int .i64 Wg) (.int .i64 tg) (.int .i64 kg) (.slice Lg lg fg) (.slice Tg rg gg)
        have hc : Chg r2.heap.size (r2.heap.size + 1) r3 y := by rw [← hy]; exact (((((((((((Chg.refl r2.heap.size (r2.heap.size + 1) r3).trans (chg_set r3 r2.heap.size 0 (.string sg))).trans (chg_set (r3.setCell ⟨r2.heap.size, 0, none⟩ (.string sg)) r2.heap.size 1 (.slice Ag ng cg))).trans (chg_set ((r3.setCell ⟨r2.heap.size, 0, none⟩ (.string sg)).setCell ⟨r2.heap.size, 1, none⟩ (.slice Ag ng cg)) r2.heap.size 2 (.slice Bg mg dg))).trans (chg_set (((r3.setCell ⟨r2.heap.size, 0, none⟩ (.string sg)).setCell ⟨r2.heap.size, 1, none⟩ (.slice Ag ng cg)).setCell ⟨r2.heap.size, 2, none⟩ (.slice Bg mg dg)) r2.heap.size 3 (.slice Mg qg eg))).trans (chg_set ((((r3.setCell ⟨r2.heap.size, 0, none⟩ (.string sg)).setCell ⟨r2.heap.size, 1, none⟩ (.slice Ag ng cg)).setCell ⟨r2.heap.size, 2, none⟩ (.slice Bg mg dg)).setCell ⟨r2.heap.size, 3, none⟩ (.slice Mg qg eg)) r2.heap.size 4 (.int .i64 spg))).trans (chg_set (((((r3.setCell ⟨r2.heap.size, 0, none⟩ (.string sg)).setCell ⟨r2.heap.size, 1, none⟩ (.slice Ag ng cg)).setCell ⟨r2.heap.size, 2, none⟩ (.slice Bg mg dg)).setCell ⟨r2.heap.size, 3, none⟩ (.slice Mg qg eg)).setCell ⟨r2.heap.size, 4, none⟩ (.int .i64 spg)) r2.heap.size 5 (.int .i64 Wg))).trans (chg_set ((((((r3.setCell ⟨r2.heap.size, 0, none⟩ (.string sg)).setCell ⟨r2.heap.size, 1, none⟩ (.slice Ag ng cg)).setCell ⟨r2.heap.size, 2, none⟩ (.slice Bg mg dg)).setCell ⟨r2.heap.size, 3, none⟩ (.slice Mg qg eg)).setCell ⟨r2.heap.size, 4, none⟩ (.int .i64 spg)).setCell ⟨r2.heap.size, 5, none⟩ (.int .i64 Wg)) r2.heap.size 6 (.int .i64 tg))).trans (chg_set (((((((r3.setCell ⟨r2.heap.size, 0, none⟩ (.string sg)).setCell ⟨r2.heap.size, 1, none⟩ (.slice Ag ng cg)).setCell ⟨r2.heap.size, 2, none⟩ (.slice Bg mg dg)).setCell ⟨r2.heap.size, 3, none⟩ (.slice Mg qg eg)).setCell ⟨r2.heap.size, 4, none⟩ (.int .i64 spg)).setCell ⟨r2.heap.size, 5, none⟩ (.int .i64 Wg)).setCell ⟨r2.heap.size, 6, none⟩ (.int .i64 tg)) r2.heap.size 7 (.int .i64 kg))).trans (chg_set ((((((((r3.setCell ⟨r2.heap.size, 0, none⟩ (.string sg)).setCell ⟨r2.heap.size, 1, none⟩ (.slice Ag ng cg)).setCell ⟨r2.heap.size, 2, none⟩ (.slice Bg mg dg)).setCell ⟨r2.heap.size, 3, none⟩ (.slice Mg qg eg)).setCell ⟨r2.heap.size, 4, none⟩ (.int .i64 spg)).setCell ⟨r2.heap.size, 5, none⟩ (.int .i64 Wg)).setCell ⟨r2.heap.size, 6, none⟩ (.int .i64 tg)).setCell ⟨r2.heap.size, 7, none⟩ (.int .i64 kg)) r2.heap.size 8 (.slice Lg lg fg))).trans (chg_set (((((((((r3.setCell ⟨r2.heap.size, 0, none⟩ (.string sg)).setCell ⟨r2.heap.size, 1, none⟩ (.slice Ag ng cg)).setCell ⟨r2.heap.size, 2, none⟩ (.slice Bg mg dg)).setCell ⟨r2.heap.size, 3, none⟩ (.slice Mg qg eg)).setCell ⟨r2.heap.size, 4, none⟩ (.int .i64 spg)).setCell ⟨r2.heap.size, 5, none⟩ (.int .i64 Wg)).setCell ⟨r2.heap.size, 6, none⟩ (.int .i64 tg)).setCell ⟨r2.heap.size, 7, none⟩ (.int .i64 kg)).setCell ⟨r2.heap.size, 8, none⟩ (.slice Lg lg fg)) r2.heap.size 9 (.slice Tg rg gg)))
        rw [hy]
        clear hy
        have sy : r3.heap.size ≤ y.heap.size := hc.size
        have BFry := BFr3.out.chg hc (by omega)
        have Qry := Qr3.out.chg hc (by omega)
        refine hK.out _ _ ⟨blk3 BFry, blk3 Qry⟩ ?_
        clear hK K
        refine plan_step rfl (fun K hK => ?_)
        rw [if_pos (by rfl)]
        go_simp
        refine hK.out _ _ ⟨blk3 BFry, blk3 Qry⟩ ?_
        clear hK K
        refine plan_end ?_
        refine ⟨rfl, sg, Ag, ng, cg, Bg, mg, dg, Mg, qg, eg, spg, Wg, tg, kg, Lg, lg, fg, Tg, rg, gg, r2.heap.size, r1.heap.size, r2.heap.size, ?_, Xr3.out.chg hc (by unfold Off; omega), ry, by omega, by omega, by omega, by omega, by omega, Dr3.out.trans (hc.below (by omega) |>.mono (by omega))⟩
        first | rfl | (simp only [Act.put, List.setIfInBounds_toArray, List.set_cons_zero, List.set_cons_succ])
      · rw [if_pos (by rfl)]
        go_simp
        obtain ⟨r2, hw, hb, hz, hZ⟩ := mxWorld r1 #[.string ⟨#[]⟩, .slice none 0 0, .slice none 0 0, .slice none 0 0, .int .i64 0, .int .i64 0, .int .i64 0, .int .i64 0, .slice none 0 0, .slice none 0 0] 61
        rw [hw]
        clear hw hz
        have tr2 : r1.heap.size ≤ r2.heap.size := hb.size
        have BFr2 := Lib.hid (BFr1.out.below hb (by omega))
        have Qr2 := Lib.hid (Qr1.out.below hb (by omega))
        have Dr2 := Lib.hid (Dr1.out.trans (hb.mono (by omega)))
        have Or2 := Lib.hid (Or1.out.below (by omega) hb)
        have Zr2 := Lib.hid hZ
        have yz : r1.heap.size < r2.heap.size := hZ.lt
        clear hZ hb
        refine hK.out _ _ ⟨blk3 BFr2.out, blk3 Qr2.out⟩ ?_
        clear hK K
        refine plan_step rfl (fun K hK => ?_)
        rw [if_pos (by rfl)]
        go_simp
        refine (implNew_any _ _ _ f E sp W t k r2 Or2.out (by omega) hs).mono ?_
        rintro e r3 ⟨u, rfl, hX, hb⟩
        rw [HY.out] at hX
        rw [Hok.out]
        obtain ⟨sg, Ag, ng, cg, Bg, mg, dg, Mg, qg, eg, spg, Wg, tg, kg, Lg, lg, fg, Tg, rg, gg, rfl⟩ := hX.reads.form
        have tr3 : r2.heap.size ≤ r3.heap.size := hb.size
        have BFr3 := Lib.hid (BFr2.out.below hb (by omega))
        have Qr3 := Lib.hid (Qr2.out.below hb (by omega))
        have Dr3 := Lib.hid (Dr2.out.trans (hb.mono (by omega)))
        have Zr3 := Lib.hid (Zr2.out.below hb (by omega))
        have Xr3 := Lib.hid hX
        clear hX hb
        refine hK.out _ _ ⟨blk3 BFr3.out, blk3 Qr3.out⟩ ?_
        clear hK K
        refine plan_quiet rfl (by rfl) (v := ?_) ?_ ?_; rotate_left; (intro w1 hSw; obtain ⟨⟨h0, h1, h2⟩, ⟨h3, h4, h5⟩⟩ := hSw; go_simp; try (with_reducible rfl)); (try simp only [Act.put, List.setIfInBounds_toArray, List.set_cons_zero, List.set_cons_succ])
        refine plan_quiet rfl (by rfl) (v := ?_) ?_ ?_; rotate_left; (intro w1 hSw; obtain ⟨⟨h0, h1, h2⟩, ⟨h3, h4, h5⟩⟩ := hSw; go_simp; try (with_reducible rfl)); (try simp only [Act.put, List.setIfInBounds_toArray, List.set_cons_zero, List.set_cons_succ])
        refine plan_quiet rfl (by rfl) (v := ?_) ?_ ?_; rotate_left; (intro w1 hSw; obtain ⟨⟨h0, h1, h2⟩, ⟨h3, h4, h5⟩⟩ := hSw; go_simp; try (with_reducible rfl)); (try simp only [Act.put, List.setIfInBounds_toArray, List.set_cons_zero, List.set_cons_succ])
        obtain ⟨zc0, zc1, zc2, zc3, zc4, zc5, zc6, zc7, zc8, zc9⟩ := Zr3.out.ten
        have fz := Zr3.out.warm
        refine plan_step rfl (fun K hK => ?_)
        rw [if_pos (by rfl)]
        go_simp
        clear zc0 zc1 zc2 zc3 zc4 zc5 zc6 zc7 zc8 zc9 fz
        obtain ⟨y, hy⟩ : ∃ x, ((((((((((r3.setCell ⟨r1.heap.size, 0, none⟩ (.string sg)).setCell ⟨r1.heap.size, 1, none⟩ (.slice Ag ng cg)).setCell ⟨r1.heap.size, 2, none⟩ (.slice Bg mg dg)).setCell ⟨r1.heap.size, 3, none⟩ (.slice Mg qg eg)).setCell ⟨r1.heap.size, 4, none⟩ (.int .i64 spg)).setCell ⟨r1.heap.size, 5, none⟩ (.int .i64 Wg)).setCell ⟨r1.heap.size, 6, none⟩ (.int .i64 tg)).setCell ⟨r1.heap.size, 7, none⟩ (.int .i64 kg)).setCell ⟨r1.heap.size, 8, none⟩ (.slice Lg lg fg)).setCell ⟨r1.heap.size, 9, none⟩ (.slice Tg rg gg)) = x := ⟨_, rfl⟩
        have ry : Blk y r1.heap.size #[.string sg, .slice Ag ng cg, .slice Bg mg dg, .slice Mg qg eg, .int .i64 spg, .int .i64 Wg, .int .i64 tg, .int .i64 kg, .slice Lg lg fg, .slice Tg rg gg] 61 := by rw [← hy]; exact Blk.fill Zr3.out (.string sg) (.slice Ag ng cg) (.slice Bg mg dg) (.slice Mg qg eg) (.int .i64 spg) (.int .i64 Wg) (.int .i64 tg) (.int .i64 kg) (.slice Lg lg fg) (.slice Tg rg gg)
        have hc : Chg r1.heap.size (r1.heap.size + 1) r3 y := by rw [← hy]; exact (((((((((((Chg.refl r1.heap.size (r1.heap.size + 1) r3).trans (chg_set r3 r1.heap.size 0 (.string sg))).trans (chg_set (r3.setCell ⟨r1.heap.size, 0, none⟩ (.string sg)) r1.heap.size 1 (.slice Ag ng cg))).trans (chg_set ((r3.setCell ⟨r1.heap.size, 0, none⟩ (.string sg)).setCell ⟨r1.heap.size, 1, none⟩ (.slice Ag ng cg)) r1.heap.size 2 (.slice Bg mg dg))).trans (chg_set (((r3.setCell ⟨r1.heap.size, 0, none⟩ (.string sg)).setCell ⟨r1.heap.size, 1, none⟩ (.slice Ag ng cg)).setCell ⟨r1.heap.size, 2, none⟩ (.slice Bg mg dg)) r1.heap.size 3 (.slice Mg qg eg))).trans (chg_set ((((r3.setCell ⟨r1.heap.size, 0, none⟩ (.string sg)).setCell ⟨r1.heap.size, 1, none⟩ (.slice Ag ng cg)).setCell ⟨r1.heap.size, 2, none⟩ (.slice Bg mg dg)).setCell ⟨r1.heap.size, 3, none⟩ (.slice Mg qg eg)) r1.heap.size 4 (.int .i64 spg))).trans (chg_set (((((r3.setCell ⟨r1.heap.size, 0, none⟩ (.string sg)).setCell ⟨r1.heap.size, 1, none⟩ (.slice Ag ng cg)).setCell ⟨r1.heap.size, 2, none⟩ (.slice Bg mg dg)).setCell ⟨r1.heap.size, 3, none⟩ (.slice Mg qg eg)).setCell ⟨r1.heap.size, 4, none⟩ (.int .i64 spg)) r1.heap.size 5 (.int .i64 Wg))).trans (chg_set ((((((r3.setCell ⟨r1.heap.size, 0, none⟩ (.string sg)).setCell ⟨r1.heap.size, 1, none⟩ (.slice Ag ng cg)).setCell ⟨r1.heap.size, 2, none⟩ (.slice Bg mg dg)).setCell ⟨r1.heap.size, 3, none⟩ (.slice Mg qg eg)).setCell ⟨r1.heap.size, 4, none⟩ (.int .i64 spg)).setCell ⟨r1.heap.size, 5, none⟩ (.int .i64 Wg)) r1.heap.size 6 (.int .i64 tg))).trans (chg_set (((((((r3.setCell ⟨r1.heap.size, 0, none⟩ (.string sg)).setCell ⟨r1.heap.size, 1, none⟩ (.slice Ag ng cg)).setCell ⟨r1.heap.size, 2, none⟩ (.slice Bg mg dg)).setCell ⟨r1.heap.size, 3, none⟩ (.slice Mg qg eg)).setCell ⟨r1.heap.size, 4, none⟩ (.int .i64 spg)).setCell ⟨r1.heap.size, 5, none⟩ (.int .i64 Wg)).setCell ⟨r1.heap.size, 6, none⟩ (.int .i64 tg)) r1.heap.size 7 (.int .i64 kg))).trans (chg_set ((((((((r3.setCell ⟨r1.heap.size, 0, none⟩ (.string sg)).setCell ⟨r1.heap.size, 1, none⟩ (.slice Ag ng cg)).setCell ⟨r1.heap.size, 2, none⟩ (.slice Bg mg dg)).setCell ⟨r1.heap.size, 3, none⟩ (.slice Mg qg eg)).setCell ⟨r1.heap.size, 4, none⟩ (.int .i64 spg)).setCell ⟨r1.heap.size, 5, none⟩ (.int .i64 Wg)).setCell ⟨r1.heap.size, 6, none⟩ (.int .i64 tg)).setCell ⟨r1.heap.size, 7, none⟩ (.int .i64 kg)) r1.heap.size 8 (.slice Lg lg fg))).trans (chg_set (((((((((r3.setCell ⟨r1.heap.size, 0, none⟩ (.string sg)).setCell ⟨r1.heap.size, 1, none⟩ (.slice Ag ng cg)).setCell ⟨r1.heap.size, 2, none⟩ (.slice Bg mg dg)).setCell ⟨r1.heap.size, 3, none⟩ (.slice Mg qg eg)).setCell ⟨r1.heap.size, 4, none⟩ (.int .i64 spg)).setCell ⟨r1.heap.size, 5, none⟩ (.int .i64 Wg)).setCell ⟨r1.heap.size, 6, none⟩ (.int .i64 tg)).setCell ⟨r1.heap.size, 7, none⟩ (.int .i64 kg)).setCell ⟨r1.heap.size, 8, none⟩ (.slice Lg lg fg)) r1.heap.size 9 (.slice Tg rg gg)))
        rw [hy]
        clear hy
        have sy : r3.heap.size ≤ y.heap.size := hc.size
        have BFry := BFr3.out.chg hc (by omega)
        have Qry := Qr3.out.chg hc (by omega)
        refine hK.out _ _ ⟨blk3 BFry, blk3 Qry⟩ ?_
        clear hK K
        refine plan_step rfl (fun K hK => ?_)
        rw [if_pos (by rfl)]
        go_simp
        refine hK.out _ _ ⟨blk3 BFry, blk3 Qry⟩ ?_
        clear hK K
        refine plan_end ?_
        refine ⟨rfl, sg, Ag, ng, cg, Bg, mg, dg, Mg, qg, eg, spg, Wg, tg, kg, Lg, lg, fg, Tg, rg, gg, r1.heap.size, r2.heap.size, r3.heap.size, ?_, Xr3.out.chg hc (by unfold Off; omega), ry, by omega, by omega, by omega, by omega, by omega, Dr3.out.trans (hc.below (by omega) |>.mono (by omega))⟩
        first | rfl | (simp only [Act.put, List.setIfInBounds_toArray, List.set_cons_zero, List.set_cons_succ])
    · rw [if_pos (by rfl)]
      go_simp
      obtain ⟨r1, hw, hb, hz, hZ⟩ := mxWorld r0 #[.string ⟨#[]⟩, .slice none 0 0, .slice none 0 0, .slice none 0 0, .int .i64 0, .int .i64 0, .int .i64 0, .int .i64 0, .slice none 0 0, .slice none 0 0] 61
      rw [hw]
      clear hw hz
      have tr1 : r0.heap.size ≤ r1.heap.size := hb.size
      have BFr1 := Lib.hid (BFr0.out.below hb (by omega))
      have Qr1 := Lib.hid (Qr0.out.below hb (by omega))
      have Dr1 := Lib.hid (Dr0.out.trans (hb.mono (by omega)))
      have Or1 := Lib.hid (Or0.out.below (by omega) hb)
      have Zr1 := Lib.hid hZ
      have yz : r0.heap.size < r1.heap.size := hZ.lt
      clear hZ hb
      refine hK.out _ _ ⟨blk3 BFr1.out, blk3 Qr1.out⟩ ?_
      clear hK K
      refine plan_step rfl (fun K hK => ?_)
      rw [if_pos (by rfl)]
      go_simp
      refine (toMeasure_any W t k r1).mono ?_
      rintro e r2 ⟨rfl, hb⟩
      have tr2 : r1.heap.size ≤ r2.heap.size := hb.size
      have BFr2 := Lib.hid (BFr1.out.below hb (by omega))
      have Qr2 := Lib.hid (Qr1.out.below hb (by omega))
      have Dr2 := Lib.hid (Dr1.out.trans (hb.mono (by omega)))
      have Or2 := Lib.hid (Or1.out.below (by omega) hb)
      have Zr2 := Lib.hid (Zr1.out.below hb (by omega))
      clear hb
      refine hK.out _ _ ⟨blk3 BFr2.out, blk3 Qr2.out⟩ ?_
      clear hK K
      refine plan_step rfl (fun K hK => ?_)
      rw [if_pos (by rfl)]
      go_simp
      refine (implNew_any _ _ _ f E sp W t k r2 Or2.out (by omega) hs).mono ?_
      rintro e r3 ⟨u, rfl, hX, hb⟩
      rw [HY.out] at hX
      rw [Hok.out]
      obtain ⟨sg, Ag, ng, cg, Bg, mg, dg, Mg, qg, eg, spg, Wg, tg, kg, Lg, lg, fg, Tg, rg, gg, rfl⟩ := hX.reads.form
      have tr3 : r2.heap.size ≤ r3.heap.size := hb.size
      have BFr3 := Lib.hid (BFr2.out.below hb (by omega))
      have Qr3 := Lib.hid (Qr2.out.below hb (by omega))
      have Dr3 := Lib.hid (Dr2.out.trans (hb.mono (by omega)))
      have Zr3 := Lib.hid (Zr2.out.below hb (by omega))
      have Xr3 := Lib.hid hX
      clear hX hb
      refine hK.out _ _ ⟨blk3 BFr3.out, blk3 Qr3.out⟩ ?_
      clear hK K
      refine plan_quiet rfl (by rfl) (v := ?_) ?_ ?_; rotate_left; (intro w1 hSw; obtain ⟨⟨h0, h1, h2⟩, ⟨h3, h4, h5⟩⟩ := hSw; go_simp; try (with_reducible rfl)); (try simp only [Act.put, List.setIfInBounds_toArray, List.set_cons_zero, List.set_cons_succ])
      refine plan_quiet rfl (by rfl) (v := ?_) ?_ ?_; rotate_left; (intro w1 hSw; obtain ⟨⟨h0, h1, h2⟩, ⟨h3, h4, h5⟩⟩ := hSw; go_simp; try (with_reducible rfl)); (try simp only [Act.put, List.setIfInBounds_toArray, List.set_cons_zero, List.set_cons_succ])
      refine plan_quiet rfl (by rfl) (v := ?_) ?_ ?_; rotate_left; (intro w1 hSw; obtain ⟨⟨h0, h1, h2⟩, ⟨h3, h4, h5⟩⟩ := hSw; go_simp; try (with_reducible rfl)); (try simp only [Act.put, List.setIfInBounds_toArray, List.set_cons_zero, List.set_cons_succ])
      obtain ⟨zc0, zc1, zc2, zc3, zc4, zc5, zc6, zc7, zc8, zc9⟩ := Zr3.out.ten
      have fz := Zr3.out.warm
      refine plan_step rfl (fun K hK => ?_)
      rw [if_pos (by rfl)]
      go_simp
      clear zc0 zc1 zc2 zc3 zc4 zc5 zc6 zc7 zc8 zc9 fz
      obtain ⟨y, hy⟩ : ∃ x, ((((((((((r3.setCell ⟨r0.heap.size, 0, none⟩ (.string sg)).setCell ⟨r0.heap.size, 1, none⟩ (.slice Ag ng cg)).setCell ⟨r0.heap.size, 2, none⟩ (.slice Bg mg dg)).setCell ⟨r0.heap.size, 3, none⟩ (.slice Mg qg eg)).setCell ⟨r0.heap.size, 4, none⟩ (.int .i64 spg)).setCell ⟨r0.heap.size, 5, none⟩ (.int .i64 Wg)).setCell ⟨r0.heap.size, 6, none⟩ (.int .i64 tg)).setCell ⟨r0.heap.size, 7, none⟩ (.int .i64 kg)).setCell ⟨r0.heap.size, 8, none⟩ (.slice Lg lg fg)).setCell ⟨r0.heap.size, 9, none⟩ (.slice Tg rg gg)) = x := ⟨_, rfl⟩
      have ry : Blk y r0.heap.size #[.string sg, .slice Ag ng cg, .slice Bg mg dg, .slice Mg qg eg, .int .i64 spg, .int .i64 Wg, .int .i64 tg, .int .i64 kg, .slice Lg lg fg, .slice Tg rg gg] 61 := by rw [← hy]; exact Blk.fill Zr3.out (.string sg) (.slice Ag ng cg) (.slice Bg mg dg) (.slice Mg qg eg) (.int .i64 spg) (.int .i64 Wg) (.int .i64 tg) (.int .i64 kg) (.slice Lg lg fg) (.slice Tg rg gg)
      have hc : Chg r0.heap.size (r0.heap.size + 1) r3 y := by rw [← hy]; exact (((((((((((Chg.refl r0.heap.size (r0.heap.size + 1) r3).trans (chg_set r3 r0.heap.size 0 (.string sg))).trans (chg_set (r3.setCell ⟨r0.heap.size, 0, none⟩ (.string sg)) r0.heap.size 1 (.slice Ag ng cg))).trans (chg_set ((r3.setCell ⟨r0.heap.size, 0, none⟩ (.string sg)).setCell ⟨r0.heap.size, 1, none⟩ (.slice Ag ng cg)) r0.heap.size 2 (.slice Bg mg dg))).trans (chg_set (((r3.setCell ⟨r0.heap.size, 0, none⟩ (.string sg)).setCell ⟨r0.heap.size, 1, none⟩ (.slice Ag ng cg)).setCell ⟨r0.heap.size, 2, none⟩ (.slice Bg mg dg)) r0.heap.size 3 (.slice Mg qg eg))).trans (chg_set ((((r3.setCell ⟨r0.heap.size, 0, none⟩ (.string sg)).setCell ⟨r0.heap.size, 1, none⟩ (.slice Ag ng cg)).setCell ⟨r0.heap.size, 2, none⟩ (.slice Bg mg dg)).setCell ⟨r0.heap.size, 3, none⟩ (.slice Mg qg eg)) r0.heap.size 4 (.int .i64 spg))).trans (chg_set (((((r3.setCell ⟨r0.heap.size, 0, none⟩ (.string sg)).setCell ⟨r0.heap.size, 1, none⟩ (.slice Ag ng cg)).setCell ⟨r0.heap.size, 2, none⟩ (.slice Bg mg dg)).setCell ⟨r0.heap.size, 3, none⟩ (.slice Mg qg eg)).setCell ⟨r0.heap.size, 4, none⟩ (.int .i64 spg)) r0.heap.size 5 (.int .i64 Wg))).trans (chg_set ((((((r3.setCell ⟨r0.heap.size, 0, none⟩ (.string sg)).setCell ⟨r0.heap.size, 1, none⟩ (.slice Ag ng cg)).setCell ⟨r0.heap.size, 2, none⟩ (.slice Bg mg dg)).setCell ⟨r0.heap.size, 3, none⟩ (.slice Mg qg eg)).setCell ⟨r0.heap.size, 4, none⟩ (.int .i64 spg)).setCell ⟨r0.heap.size, 5, none⟩ (.int .i64 Wg)) r0.heap.size 6 (.int .i64 tg))).trans (chg_set (((((((r3.setCell ⟨r0.heap.size, 0, none⟩ (.string sg)).setCell ⟨r0.heap.size, 1, none⟩ (.slice Ag ng cg)).setCell ⟨r0.heap.size, 2, none⟩ (.slice Bg mg dg)).setCell ⟨r0.heap.size, 3, none⟩ (.slice Mg qg eg)).setCell ⟨r0.heap.size, 4, none⟩ (.int .i64 spg)).setCell ⟨r0.heap.size, 5, none⟩ (.int .i64 Wg)).setCell ⟨r0.heap.size, 6, none⟩ (.int .i64 tg)) r0.heap.size 7 (.int .i64 kg))).trans (chg_set ((((((((r3.setCell ⟨r0.heap.size, 0, none⟩ (.string sg)).setCell ⟨r0.heap.size, 1, none⟩ (.slice Ag ng cg)).setCell ⟨r0.heap.size, 2, none⟩ (.slice Bg mg dg)).setCell ⟨r0.heap.size, 3, none⟩ (.slice Mg qg eg)).setCell ⟨r0.heap.size, 4, none⟩ (.int .i64 spg)).setCell ⟨r0.heap.size, 5, none⟩ (.int .i64 Wg)).setCell ⟨r0.heap.size, 6, none⟩ (.int .i64 tg)).setCell ⟨r0.heap.size, 7, none⟩ (.int .i64 kg)) r0.heap.size 8 (.slice Lg lg fg))).trans (chg_set (((((((((r3.setCell ⟨r0.heap.size, 0, none⟩ (.string sg)).setCell ⟨r0.heap.size, 1, none⟩ (.slice Ag ng cg)).setCell ⟨r0.heap.size, 2, none⟩ (.slice Bg mg dg)).setCell ⟨r0.heap.size, 3, none⟩ (.slice Mg qg eg)).setCell ⟨r0.heap.size, 4, none⟩ (.int .i64 spg)).setCell ⟨r0.heap.size, 5, none⟩ (.int .i64 Wg)).setCell ⟨r0.heap.size, 6, none⟩ (.int .i64 tg)).setCell ⟨r0.heap.size, 7, none⟩ (.int .i64 kg)).setCell ⟨r0.heap.size, 8, none⟩ (.slice Lg lg fg)) r0.heap.size 9 (.slice Tg rg gg)))
      rw [hy]
      clear hy
      have sy : r3.heap.size ≤ y.heap.size := hc.size
      have BFry := BFr3.out.chg hc (by omega)
      have Qry := Qr3.out.chg hc (by omega)
      refine hK.out _ _ ⟨blk3 BFry, blk3 Qry⟩ ?_
      clear hK K
      refine plan_step rfl (fun K hK => ?_)
      rw [if_pos (by rfl)]
      go_simp
      refine hK.out _ _ ⟨blk3 BFry, blk3 Qry⟩ ?_
      clear hK K
      refine plan_end ?_
      refine ⟨rfl, sg, Ag, ng, cg, Bg, mg, dg, Mg, qg, eg, spg, Wg, tg, kg, Lg, lg, fg, Tg, rg, gg, r0.heap.size, r2.heap.size, r3.heap.size, ?_, Xr3.out.chg hc (by unfold Off; omega), ry, by omega, by omega, by omega, by omega, by omega, Dr3.out.trans (hc.below (by omega) |>.mono (by omega))⟩
      first | rfl | (simp only [Act.put, List.setIfInBounds_toArray, List.set_cons_zero, List.set_cons_succ])
  rintro a' w5 ⟨sg, Ag, ng, cg, Bg, mg, dg, Mg, qg, eg, spg, Wg, tg, kg, Lg, lg, fg, Tg, rg, gg, bg, xg, zg, rfl, hX, hB, hx1, hx2, hx3, hx4, hx5, hb⟩
  simp only [Act.put, List.setIfInBounds_toArray, List.set_cons_zero, List.set_cons_succ]
  have s5 : w4.heap.size ≤ w5.heap.size := hb.size
  have P5 := Lib.hid (P4.out.below hb (by omega))
  have Q5 := Lib.hid (Q4.out.below hb (by omega))
  have T5 := Lib.hid (T4.out.trans (hb.mono (by omega)))
  have V5 := Lib.hid (V4.out.below (by omega) hb)
  have U5 := Lib.hid (U4.out.below hb)
  have BU5 := Lib.hid (BU4.out.below hb (by omega))
  have X5 := Lib.hid (X4.out.below hb)
  have BF5 := Lib.hid (BF4.out.below hb (by omega))
  clear P4 Q4 T4 V4 U4 BU4 X4 BF4 hb
  have yP_5 : w.heap.size < w5.heap.size := by omega
  have yQ_5 : (w.heap.size + 1) < w5.heap.size := by omega
  have yBU_5 : bu < w5.heap.size := by omega
  have yBF_5 : w3.heap.size < w5.heap.size := by omega
  have G5 := Lib.hid (hX)
  have BG5 := Lib.hid (hB)
  have yBG_5 : bg < w5.heap.size := hB.lt
  clear hX hB
  obtain ⟨Pc0, Pc1, Pc2⟩ := blk3 P5.out
  obtain ⟨Qc0, Qc1, Qc2⟩ := blk3 Q5.out
  obtain ⟨BUc0, BUc1, BUc2, BUc3, BUc4, BUc5, BUc6, BUc7, BUc8, BUc9⟩ := BU5.out.ten
  obtain ⟨BFc0, BFc1, BFc2⟩ := blk3 BF5.out
  obtain ⟨BGc0, BGc1, BGc2, BGc3, BGc4, BGc5, BGc6, BGc7, BGc8, BGc9⟩ := BG5.out.ten
  go_wp2_with fail
  refine (eqMachine_same _ _ _ _ _ _ Y w5 G5.out.reads U5.out.reads (by omega) (by omega) HSY.out).mono ?_
  rintro e w6 ⟨rfl, hb⟩
  clear Pc0 Pc1 Pc2
  clear Qc0 Qc1 Qc2
  clear BUc0 BUc1 BUc2 BUc3 BUc4 BUc5 BUc6 BUc7 BUc8 BUc9
  clear BFc0 BFc1 BFc2
  clear BGc0 BGc1 BGc2 BGc3 BGc4 BGc5 BGc6 BGc7 BGc8 BGc9
  have s6 : w5.heap.size ≤ w6.heap.size := hb.size
  have P6 := Lib.hid (P5.out.below hb (by omega))
  have Q6 := Lib.hid (Q5.out.below hb (by omega))
  have T6 := Lib.hid (T5.out.trans (hb.mono (by omega)))
  have V6 := Lib.hid (V5.out.below (by omega) hb)
  have U6 := Lib.hid (U5.out.below hb)
  have BU6 := Lib.hid (BU5.out.below hb (by omega))
  have X6 := Lib.hid (X5.out.below hb)
  have BF6 := Lib.hid (BF5.out.below hb (by omega))
  have G6 := Lib.hid (G5.out.below hb)
  have BG6 := Lib.hid (BG5.out.below hb (by omega))
  clear P5 Q5 T5 V5 U5 BU5 X5 BF5 G5 BG5 hb
  have yP_6 : w.heap.size < w6.heap.size := by omega
  have yQ_6 : (w.heap.size + 1) < w6.heap.size := by omega
  have yBU_6 : bu < w6.heap.size := by omega
  have yBF_6 : w3.heap.size < w6.heap.size := by omega
  have yBG_6 : bg < w6.heap.size := by omega
  obtain ⟨Pc0, Pc1, Pc2⟩ := blk3 P6.out
  obtain ⟨Qc0, Qc1, Qc2⟩ := blk3 Q6.out
  obtain ⟨BUc0, BUc1, BUc2, BUc3, BUc4, BUc5, BUc6, BUc7, BUc8, BUc9⟩ := BU6.out.ten
  obtain ⟨BFc0, BFc1, BFc2⟩ := blk3 BF6.out
  obtain ⟨BGc0, BGc1, BGc2, BGc3, BGc4, BGc5, BGc6, BGc7, BGc8, BGc9⟩ := BG6.out.ten
  go_wp2
  clear Pc0 Pc1 Pc2
  clear Qc0 Qc1 Qc2
  clear BUc0 BUc1 BUc2 BUc3 BUc4 BUc5 BUc6 BUc7 BUc8 BUc9
  clear BFc0 BFc1 BFc2
  clear BGc0 BGc1 BGc2 BGc3 BGc4 BGc5 BGc6 BGc7 BGc8 BGc9
  refine wp_region_plan (.take 0 (.take 1 (.one 2 (.one 3 (.one 4 .done))))) (fun w' => (w'.cell? ⟨w3.heap.size, 0, none⟩ = some (.string sx) ∧ w'.cell? ⟨w3.heap.size, 1, none⟩ = some (.slice Ax nx cx) ∧ w'.cell? ⟨w3.heap.size, 2, none⟩ = some (.slice Bx mx dx)) ∧ (w'.cell? ⟨w.heap.size, 0, none⟩ = some (.string s) ∧ w'.cell? ⟨w.heap.size, 1, none⟩ = some (.slice A n c) ∧ w'.cell? ⟨w.heap.size, 2, none⟩ = some (.slice B m d))) (by kernel_rfl) (by kernel_rfl) (by kernel_rfl) (by intro c a d v w h; cases d <;> exact h) ⟨blk3 BF6.out, blk3 P6.out⟩ ?_
  refine plan_quiet rfl (by rfl) (v := ?_) ?_ ?_; rotate_left; (intro w1 hSw; obtain ⟨⟨h0, h1, h2⟩, ⟨h3, h4, h5⟩⟩ := hSw; go_simp; try (with_reducible rfl)); (try simp only [Act.put, List.setIfInBounds_toArray, List.set_cons_zero, List.set_cons_succ])
  refine plan_quiet rfl (by rfl) (v := ?_) ?_ ?_; rotate_left; (intro w1 hSw; obtain ⟨⟨h0, h1, h2⟩, ⟨h3, h4, h5⟩⟩ := hSw; go_simp; try (with_reducible rfl)); (try simp only [Act.put, List.setIfInBounds_toArray, List.set_cons_zero, List.set_cons_succ])
  refine plan_step rfl (fun K hK => ?_)
  rw [if_pos (by rfl)]
  go_simp
  refine (toFont_any lo hi _ f w6.drew (FontV.keep (w' := w6.drew) V6.out (fun p _ _ => rfl)) (by show hi ≤ w6.heap.size; omega) hs).mono ?_
  rintro e w7 ⟨vz, rfl, hO, hb'⟩
  have hb := undrew hb'
  clear hb'
  obtain ⟨sz, Az, nz, cz, Bz, mz, dz, rfl⟩ := fontNames hO.font
  have hO2 : FontV w7 w6.heap.size w7.heap.size (.agg #[.string sz, .slice Az nz cz, .slice Bz mz dz]) f := hO.font
  clear hO
  have s7 : w6.heap.size ≤ w7.heap.size := hb.size
  have P7 := Lib.hid (P6.out.below hb (by omega))
  have Q7 := Lib.hid (Q6.out.below hb (by omega))
  have T7 := Lib.hid (T6.out.trans (hb.mono (by omega)))
  have V7 := Lib.hid (V6.out.below (by omega) hb)
  have U7 := Lib.hid (U6.out.below hb)
  have BU7 := Lib.hid (BU6.out.below hb (by omega))
  have X7 := Lib.hid (X6.out.below hb)
  have BF7 := Lib.hid (BF6.out.below hb (by omega))
  have G7 := Lib.hid (G6.out.below hb)
  have BG7 := Lib.hid (BG6.out.below hb (by omega))
  clear P6 Q6 T6 V6 U6 BU6 X6 BF6 G6 BG6 hb
  have yP_7 : w.heap.size < w7.heap.size := by omega
  have yQ_7 : (w.heap.size + 1) < w7.heap.size := by omega
  have yBU_7 : bu < w7.heap.size := by omega
  have yBF_7 : w3.heap.size < w7.heap.size := by omega
  have yBG_7 : bg < w7.heap.size := by omega
  have Zf := Lib.hid hO2
  clear hO2
  refine hK.out _ _ ⟨blk3 BF7.out, blk3 P7.out⟩ ?_
  clear hK K
  refine plan_step rfl (fun K hK => ?_)
  rw [if_pos (by rfl)]
  go_simp
  refine (eqFont_same _ _ _ _ _ _ f w7 X7.out.font Zf.out (by omega) (by omega) hs).mono ?_
  rintro e w8 ⟨rfl, hb⟩
  have s8 : w7.heap.size ≤ w8.heap.size := hb.size
  have P8 := Lib.hid (P7.out.below hb (by omega))
  have Q8 := Lib.hid (Q7.out.below hb (by omega))
  have T8 := Lib.hid (T7.out.trans (hb.mono (by omega)))
  have V8 := Lib.hid (V7.out.below (by omega) hb)
  have U8 := Lib.hid (U7.out.below hb)
  have BU8 := Lib.hid (BU7.out.below hb (by omega))
  have X8 := Lib.hid (X7.out.below hb)
  have BF8 := Lib.hid (BF7.out.below hb (by omega))
  have G8 := Lib.hid (G7.out.below hb)
  have BG8 := Lib.hid (BG7.out.below hb (by omega))
  clear P7 Q7 T7 V7 U7 BU7 X7 BF7 G7 BG7 hb
  have yP_8 : w.heap.size < w8.heap.size := by omega
  have yQ_8 : (w.heap.size + 1) < w8.heap.size := by omega
  have yBU_8 : bu < w8.heap.size := by omega
  have yBF_8 : w3.heap.size < w8.heap.size := by omega
  have yBG_8 : bg < w8.heap.size := by omega
  refine hK.out _ _ ⟨blk3 BF8.out, blk3 P8.out⟩ ?_
  clear hK K
  refine plan_step rfl (fun K hK => ?_)
  rw [if_pos (by rfl)]
  go_simp
  refine hK.out _ _ ⟨blk3 BF8.out, blk3 P8.out⟩ ?_
  clear hK K
  refine plan_end ?_
  obtain ⟨Pc0, Pc1, Pc2⟩ := blk3 P8.out
  obtain ⟨Qc0, Qc1, Qc2⟩ := blk3 Q8.out
  obtain ⟨BUc0, BUc1, BUc2, BUc3, BUc4, BUc5, BUc6, BUc7, BUc8, BUc9⟩ := BU8.out.ten
  obtain ⟨BFc0, BFc1, BFc2⟩ := blk3 BF8.out
  obtain ⟨BGc0, BGc1, BGc2, BGc3, BGc4, BGc5, BGc6, BGc7, BGc8, BGc9⟩ := BG8.out.ten
  go_wp2_with fail
  refine (markFontO_any _ _ _ f 1 w8 X8.out (by omega) (by omega) hs (by omega) (by omega) (by omega)).mono ?_
  rintro e w9 ⟨rfl, hX, hc⟩
  clear hX
  clear X8
  clear Pc0 Pc1 Pc2
  clear Qc0 Qc1 Qc2
  clear BUc0 BUc1 BUc2 BUc3 BUc4 BUc5 BUc6 BUc7 BUc8 BUc9
  clear BFc0 BFc1 BFc2
  clear BGc0 BGc1 BGc2 BGc3 BGc4 BGc5 BGc6 BGc7 BGc8 BGc9
  have s9 : w8.heap.size ≤ w9.heap.size := hc.size
  have P9 := Lib.hid (P8.out.chg hc (by omega))
  have Q9 := Lib.hid (Q8.out.chg hc (by omega))
  have T9 := Lib.hid (T8.out.trans ((hc.below (by omega)).mono (by omega)))
  have V9 := Lib.hid (V8.out.chg hc (by omega) (by omega))
  have U9 := Lib.hid (U8.out.chg hc (by unfold Off; omega))
  have BU9 := Lib.hid (BU8.out.chg hc (by omega))
  have BF9 := Lib.hid (BF8.out.chg hc (by omega))
  have G9 := Lib.hid (G8.out.chg hc (by unfold Off; omega))
  have BG9 := Lib.hid (BG8.out.chg hc (by omega))
  clear P8 Q8 T8 V8 U8 BU8 BF8 G8 BG8 hc
  have yP_9 : w.heap.size < w9.heap.size := by omega
  have yQ_9 : (w.heap.size + 1) < w9.heap.size := by omega
  have yBU_9 : bu < w9.heap.size := by omega
  have yBF_9 : w3.heap.size < w9.heap.size := by omega
  have yBG_9 : bg < w9.heap.size := by omega
  obtain ⟨Pc0, Pc1, Pc2⟩ := blk3 P9.out
  obtain ⟨Qc0, Qc1, Qc2⟩ := blk3 Q9.out
  obtain ⟨BUc0, BUc1, BUc2, BUc3, BUc4, BUc5, BUc6, BUc7, BUc8, BUc9⟩ := BU9.out.ten
  obtain ⟨BFc0, BFc1, BFc2⟩ := blk3 BF9.out
  obtain ⟨BGc0, BGc1, BGc2, BGc3, BGc4, BGc5, BGc6, BGc7, BGc8, BGc9⟩ := BG9.out.ten
  go_wp2_with fail
  refine (eqMachine_same _ _ _ _ _ _ Y w9 G9.out.reads U9.out.reads (by omega) (by omega) HSY.out).mono ?_
  rintro e w10 ⟨rfl, hb⟩
  clear Pc0 Pc1 Pc2
  clear Qc0 Qc1 Qc2
  clear BUc0 BUc1 BUc2 BUc3 BUc4 BUc5 BUc6 BUc7 BUc8 BUc9
  clear BFc0 BFc1 BFc2
  clear BGc0 BGc1 BGc2 BGc3 BGc4 BGc5 BGc6 BGc7 BGc8 BGc9
  have s10 : w9.heap.size ≤ w10.heap.size := hb.size
  have P10 := Lib.hid (P9.out.below hb (by omega))
  have Q10 := Lib.hid (Q9.out.below hb (by omega))
  have T10 := Lib.hid (T9.out.trans (hb.mono (by omega)))
  have V10 := Lib.hid (V9.out.below (by omega) hb)
  have U10 := Lib.hid (U9.out.below hb)
  have BU10 := Lib.hid (BU9.out.below hb (by omega))
  have BF10 := Lib.hid (BF9.out.below hb (by omega))
  have G10 := Lib.hid (G9.out.below hb)
  have BG10 := Lib.hid (BG9.out.below hb (by omega))
  clear P9 Q9 T9 V9 U9 BU9 BF9 G9 BG9 hb
  have yP_10 : w.heap.size < w10.heap.size := by omega
  have yQ_10 : (w.heap.size + 1) < w10.heap.size := by omega
  have yBU_10 : bu < w10.heap.size := by omega
  have yBF_10 : w3.heap.size < w10.heap.size := by omega
  have yBG_10 : bg < w10.heap.size := by omega
  obtain ⟨Pc0, Pc1, Pc2⟩ := blk3 P10.out
  obtain ⟨Qc0, Qc1, Qc2⟩ := blk3 Q10.out
  obtain ⟨BUc0, BUc1, BUc2, BUc3, BUc4, BUc5, BUc6, BUc7, BUc8, BUc9⟩ := BU10.out.ten
  obtain ⟨BFc0, BFc1, BFc2⟩ := blk3 BF10.out
  obtain ⟨BGc0, BGc1, BGc2, BGc3, BGc4, BGc5, BGc6, BGc7, BGc8, BGc9⟩ := BG10.out.ten
  go_wp2_with fail
  refine (markMachine_any _ _ _ Y 1 w10 G10.out (by omega) (by omega) (by omega) (by omega)).mono ?_
  rintro e w11 ⟨rfl, hX, hc⟩
  clear G10
  clear Pc0 Pc1 Pc2
  clear Qc0 Qc1 Qc2
  clear BUc0 BUc1 BUc2 BUc3 BUc4 BUc5 BUc6 BUc7 BUc8 BUc9
  clear BFc0 BFc1 BFc2
  clear BGc0 BGc1 BGc2 BGc3 BGc4 BGc5 BGc6 BGc7 BGc8 BGc9
  have s11 : w10.heap.size ≤ w11.heap.size := hc.size
  have P11 := Lib.hid (P10.out.chg hc (by omega))
  have Q11 := Lib.hid (Q10.out.chg hc (by omega))
  have T11 := Lib.hid (T10.out.trans ((hc.below (by omega)).mono (by omega)))
  have V11 := Lib.hid (V10.out.chg hc (by omega) (by omega))
  have U11 := Lib.hid (U10.out.chg hc (by unfold Off; omega))
  have BU11 := Lib.hid (BU10.out.chg hc (by omega))
  have BF11 := Lib.hid (BF10.out.chg hc (by omega))
  have BG11 := Lib.hid (BG10.out.chg hc (by omega))
  clear P10 Q10 T10 V10 U10 BU10 BF10 BG10 hc
  have yP_11 : w.heap.size < w11.heap.size := by omega
  have yQ_11 : (w.heap.size + 1) < w11.heap.size := by omega
  have yBU_11 : bu < w11.heap.size := by omega
  have yBF_11 : w3.heap.size < w11.heap.size := by omega
  have yBG_11 : bg < w11.heap.size := by omega
  have H11 := Lib.hid (hX)
  clear hX
  obtain ⟨Pc0, Pc1, Pc2⟩ := blk3 P11.out
  obtain ⟨Qc0, Qc1, Qc2⟩ := blk3 Q11.out
  obtain ⟨BUc0, BUc1, BUc2, BUc3, BUc4, BUc5, BUc6, BUc7, BUc8, BUc9⟩ := BU11.out.ten
  obtain ⟨BFc0, BFc1, BFc2⟩ := blk3 BF11.out
  obtain ⟨BGc0, BGc1, BGc2, BGc3, BGc4, BGc5, BGc6, BGc7, BGc8, BGc9⟩ := BG11.out.ten
  go_wp2_with fail
  refine (heldMachine_any _ _ _ Y 1 w11 H11.out.reads (by omega) hYb (by omega) (by omega)).mono ?_
  rintro e w12 ⟨rfl, hb⟩
  clear Pc0 Pc1 Pc2
  clear Qc0 Qc1 Qc2
  clear BUc0 BUc1 BUc2 BUc3 BUc4 BUc5 BUc6 BUc7 BUc8 BUc9
  clear BFc0 BFc1 BFc2
  clear BGc0 BGc1 BGc2 BGc3 BGc4 BGc5 BGc6 BGc7 BGc8 BGc9
  have s12 : w11.heap.size ≤ w12.heap.size := hb.size
  have P12 := Lib.hid (P11.out.below hb (by omega))
  have Q12 := Lib.hid (Q11.out.below hb (by omega))
  have T12 := Lib.hid (T11.out.trans (hb.mono (by omega)))
  have V12 := Lib.hid (V11.out.below (by omega) hb)
  have U12 := Lib.hid (U11.out.below hb)
  have BU12 := Lib.hid (BU11.out.below hb (by omega))
  have BF12 := Lib.hid (BF11.out.below hb (by omega))
  have BG12 := Lib.hid (BG11.out.below hb (by omega))
  have H12 := Lib.hid (H11.out.below hb)
  clear P11 Q11 T11 V11 U11 BU11 BF11 BG11 H11 hb
  have yP_12 : w.heap.size < w12.heap.size := by omega
  have yQ_12 : (w.heap.size + 1) < w12.heap.size := by omega
  have yBU_12 : bu < w12.heap.size := by omega
  have yBF_12 : w3.heap.size < w12.heap.size := by omega
  have yBG_12 : bg < w12.heap.size := by omega
  obtain ⟨Pc0, Pc1, Pc2⟩ := blk3 P12.out
  obtain ⟨Qc0, Qc1, Qc2⟩ := blk3 Q12.out
  obtain ⟨BUc0, BUc1, BUc2, BUc3, BUc4, BUc5, BUc6, BUc7, BUc8, BUc9⟩ := BU12.out.ten
  obtain ⟨BFc0, BFc1, BFc2⟩ := blk3 BF12.out
  obtain ⟨BGc0, BGc1, BGc2, BGc3, BGc4, BGc5, BGc6, BGc7, BGc8, BGc9⟩ := BG12.out.ten
  go_wp2
  clear Pc0 Pc1 Pc2
  clear Qc0 Qc1 Qc2
  clear BUc0 BUc1 BUc2 BUc3 BUc4 BUc5 BUc6 BUc7 BUc8 BUc9
  clear BFc0 BFc1 BFc2
  clear BGc0 BGc1 BGc2 BGc3 BGc4 BGc5 BGc6 BGc7 BGc8 BGc9
  refine region_post (fun a a' w' => ∃ sh1 Ah1 nh1 ch1 Bh1 mh1 dh1 sh Ah nh ch Bh mh dh Mh qh eh sph Wh th kh Lh lh fh Th rh gh bh xh zh, a' = ((((((((((((a.put (some 88) (.agg #[.string s, .slice A n c, .slice B m d])).put (some 89) (.agg #[.string sh1, .slice Ah1 nh1 ch1, .slice Bh1 mh1 dh1])).put (some 90) (.int .i64 E)).put (some 91) (.int .i64 sp)).put (some 92) (.agg #[.int .i64 W, .int .i64 t, .int .i64 k])).put (some 93) (.agg #[.int .i64 W, .int .i64 t, .int .i64 k])).put (some 94) (.tuple #[.agg #[.string sh, .slice Ah nh ch, .slice Bh mh dh, .slice Mh qh eh, .int .i64 sph, .int .i64 Wh, .int .i64 th, .int .i64 kh, .slice Lh lh fh, .slice Th rh gh], .bool ok])).put (some 87) (.tuple #[.agg #[.string sh, .slice Ah nh ch, .slice Bh mh dh, .slice Mh qh eh, .int .i64 sph, .int .i64 Wh, .int .i64 th, .int .i64 kh, .slice Lh lh fh, .slice Th rh gh], .bool ok])).put (some 95) (.agg #[.string sh, .slice Ah nh ch, .slice Bh mh dh, .slice Mh qh eh, .int .i64 sph, .int .i64 Wh, .int .i64 th, .int .i64 kh, .slice Lh lh fh, .slice Th rh gh])).put (some 96) (.bool ok)).put (some 18) (.pointer (some ⟨bh, 0, none⟩))).put (some 19) (.bool ok)) ∧ MchX w' xh zh (.agg #[.string sh, .slice Ah nh ch, .slice Bh mh dh, .slice Mh qh eh, .int .i64 sph, .int .i64 Wh, .int .i64 th, .int .i64 kh, .slice Lh lh fh, .slice Th rh gh]) Y ∧ Blk w' bh #[.string sh, .slice Ah nh ch, .slice Bh mh dh, .slice Mh qh eh, .int .i64 sph, .int .i64 Wh, .int .i64 th, .int .i64 kh, .slice Lh lh fh, .slice Th rh gh] 61 ∧ w12.heap.size ≤ xh ∧ zh ≤ w'.heap.size ∧ ¬ (xh ≤ bh ∧ bh < zh) ∧ w12.heap.size ≤ bh ∧ xh ≤ zh ∧ Below w12.heap.size w12 w') ?_ ?_
  · refine wp_region_plan (.take 0 (.take 2 (.take 3 (.take 4 (.two 1 10 (.two 5 10 (.two 6 10 (.take 7 (.take 8 (.take 9 (.one 10 (.one 11 (.one 12 .done)))))) (.one 6 (.take 7 (.take 8 (.take 9 (.one 11 (.one 12 .done))))))) (.one 5 (.one 6 (.take 7 (.take 8 (.take 9 (.one 11 (.one 12 .done)))))))) (.one 1 (.one 5 (.one 6 (.take 7 (.take 8 (.take 9 (.one 11 (.one 12 .done))))))))))))) (fun w' => (w'.cell? ⟨w.heap.size, 0, none⟩ = some (.string s) ∧ w'.cell? ⟨w.heap.size, 1, none⟩ = some (.slice A n c) ∧ w'.cell? ⟨w.heap.size, 2, none⟩ = some (.slice B m d)) ∧ (w'.cell? ⟨(w.heap.size + 1), 0, none⟩ = some (.int .i64 W) ∧ w'.cell? ⟨(w.heap.size + 1), 1, none⟩ = some (.int .i64 t) ∧ w'.cell? ⟨(w.heap.size + 1), 2, none⟩ = some (.int .i64 k))) (by kernel_rfl) (by kernel_rfl) (by kernel_rfl) (by intro c a d v w h; exact absurd h.1 (by simp)) ⟨blk3 P12.out, blk3 Q12.out⟩ ?_
    refine plan_quiet rfl (by rfl) (v := ?_) ?_ ?_; rotate_left; (intro w1 hSw; obtain ⟨⟨h0, h1, h2⟩, ⟨h3, h4, h5⟩⟩ := hSw; go_simp; try (with_reducible rfl)); (try simp only [Act.put, List.setIfInBounds_toArray, List.set_cons_zero, List.set_cons_succ])
    refine plan_quiet rfl (by rfl) (v := ?_) ?_ ?_; rotate_left; (intro w1 hSw; obtain ⟨⟨h0, h1, h2⟩, ⟨h3, h4, h5⟩⟩ := hSw; go_simp; try (with_reducible rfl)); (try simp only [Act.put, List.setIfInBounds_toArray, List.set_cons_zero, List.set_cons_succ])
    refine plan_quiet rfl (by rfl) (v := ?_) ?_ ?_; rotate_left; (intro w1 hSw; obtain ⟨⟨h0, h1, h2⟩, ⟨h3, h4, h5⟩⟩ := hSw; go_simp; try (with_reducible rfl)); (try simp only [Act.put, List.setIfInBounds_toArray, List.set_cons_zero, List.set_cons_succ])
    refine plan_quiet rfl (by rfl) (v := ?_) ?_ ?_; rotate_left; (intro w1 hSw; obtain ⟨⟨h0, h1, h2⟩, ⟨h3, h4, h5⟩⟩ := hSw; go_simp; try (with_reducible rfl)); (try simp only [Act.put, List.setIfInBounds_toArray, List.set_cons_zero, List.set_cons_succ])
    obtain ⟨r0, hr0⟩ : ∃ x, w12.drew = x := ⟨_, rfl⟩
    have Pr0 : Hid (Blk r0 w.heap.size #[.string s, .slice A n c, .slice B m d] 50) := by show Blk _ _ _ _; rw [← hr0]; exact P12.out
    have Qr0 : Hid (Blk r0 (w.heap.size + 1) #[.int .i64 W, .int .i64 t, .int .i64 k] 53) := by show Blk _ _ _ _; rw [← hr0]; exact Q12.out
    have Dr0 : Hid (Below w12.heap.size w12 r0) := by show Below _ _ _; rw [← hr0]; exact (Below.refl _ _).drew
    have tr0 : w12.heap.size ≤ r0.heap.size := by rw [← hr0]; exact Nat.le_refl _
    have Vr0 : Hid (FontV r0 lo hi (.agg #[.string s, .slice A n c, .slice B m d]) f) := by show FontV _ _ _ _ _; rw [← hr0]; exact FontV.keep (w' := w12.drew) V12.out (fun p _ _ => rfl)
    rw [hr0]
    clear hr0
    refine plan_fork rfl rfl (fun K hK => ?_) (fun K hK => ?_)
    · rw [if_pos (by rfl)]
      go_simp
      refine (toFont_any lo hi _ f r0 Vr0.out (by omega) hs).mono ?_
      rintro e r1 ⟨v1, rfl, hO, hb⟩
      obtain ⟨sh1, Ah1, nh1, ch1, Bh1, mh1, dh1, rfl⟩ := fontNames hO.font
      have tr1 : r0.heap.size ≤ r1.heap.size := hb.size
      have Pr1 := Lib.hid (Pr0.out.below hb (by omega))
      have Qr1 := Lib.hid (Qr0.out.below hb (by omega))
      have Dr1 := Lib.hid (Dr0.out.trans (hb.mono (by omega)))
      have Vr1 := Lib.hid (Vr0.out.below (by omega) hb)
      have Or1 := Lib.hid hO.font
      clear hO
      clear hb
      have Ol : r1.heap.size ≤ r1.heap.size := Nat.le_refl _
      refine hK.out _ _ ⟨blk3 Pr1.out, blk3 Qr1.out⟩ ?_
      clear hK K
      refine plan_fork rfl rfl (fun K hK => ?_) (fun K hK => ?_)
      · rw [if_pos (by rfl)]
        go_simp
        refine (toMeasure_any W t k r1).mono ?_
        rintro e r2 ⟨rfl, hb⟩
        have tr2 : r1.heap.size ≤ r2.heap.size := hb.size
        have Pr2 := Lib.hid (Pr1.out.below hb (by omega))
        have Qr2 := Lib.hid (Qr1.out.below hb (by omega))
        have Dr2 := Lib.hid (Dr1.out.trans (hb.mono (by omega)))
        have Or2 := Lib.hid (Or1.out.below (by omega) hb)
        clear hb
        refine hK.out _ _ ⟨blk3 Pr2.out, blk3 Qr2.out⟩ ?_
        clear hK K
        refine plan_fork rfl rfl (fun K hK => ?_) (fun K hK => ?_)
        · rw [if_pos (by rfl)]
          go_simp
          refine (implNew_any _ _ _ f E sp W t k r2 Or2.out (by omega) hs).mono ?_
          rintro e r3 ⟨u, rfl, hX, hb⟩
          rw [HY.out] at hX
          rw [Hok.out]
          obtain ⟨sh, Ah, nh, ch, Bh, mh, dh, Mh, qh, eh, sph, Wh, th, kh, Lh, lh, fh, Th, rh, gh, rfl⟩ := hX.reads.form
          have tr3 : r2.heap.size ≤ r3.heap.size := hb.size
          have Pr3 := Lib.hid (Pr2.out.below hb (by omega))
          have Qr3 := Lib.hid (Qr2.out.below hb (by omega))
          have Dr3 := Lib.hid (Dr2.out.trans (hb.mono (by omega)))
          have Xr3 := Lib.hid hX
          clear hX hb
          refine hK.out _ _ ⟨blk3 Pr3.out, blk3 Qr3.out⟩ ?_
          clear hK K
          refine plan_quiet rfl (by rfl) (v := ?_) ?_ ?_; rotate_left; (intro w1 hSw; obtain ⟨⟨h0, h1, h2⟩, ⟨h3, h4, h5⟩⟩ := hSw; go_simp; try (with_reducible rfl)); (try simp only [Act.put, List.setIfInBounds_toArray, List.set_cons_zero, List.set_cons_succ])
          refine plan_quiet rfl (by rfl) (v := ?_) ?_ ?_; rotate_left; (intro w1 hSw; obtain ⟨⟨h0, h1, h2⟩, ⟨h3, h4, h5⟩⟩ := hSw; go_simp; try (with_reducible rfl)); (try simp only [Act.put, List.setIfInBounds_toArray, List.set_cons_zero, List.set_cons_succ])
          refine plan_quiet rfl (by rfl) (v := ?_) ?_ ?_; rotate_left; (intro w1 hSw; obtain ⟨⟨h0, h1, h2⟩, ⟨h3, h4, h5⟩⟩ := hSw; go_simp; try (with_reducible rfl)); (try simp only [Act.put, List.setIfInBounds_toArray, List.set_cons_zero, List.set_cons_succ])
          refine plan_step rfl (fun K hK => ?_)
          rw [if_pos (by rfl)]
          go_simp
          obtain ⟨r4, hw, hb, hz, hZ⟩ := mxWorld r3 #[.string ⟨#[]⟩, .slice none 0 0, .slice none 0 0, .slice none 0 0, .int .i64 0, .int .i64 0, .int .i64 0, .int .i64 0, .slice none 0 0, .slice none 0 0] 61
          rw [hw]
          clear hw hz
          have tr4 : r3.heap.size ≤ r4.heap.size := hb.size
          have Pr4 := Lib.hid (Pr3.out.below hb (by omega))
          have Qr4 := Lib.hid (Qr3.out.below hb (by omega))
          have Dr4 := Lib.hid (Dr3.out.trans (hb.mono (by omega)))
          have Xr4 := Lib.hid (Xr3.out.below hb)
          have Zr4 := Lib.hid hZ
          have yz : r3.heap.size < r4.heap.size := hZ.lt
          clear hZ hb
          refine hK.out _ _ ⟨blk3 Pr4.out, blk3 Qr4.out⟩ ?_
          clear hK K
          obtain ⟨zc0, zc1, zc2, zc3, zc4, zc5, zc6, zc7, zc8, zc9⟩ := Zr4.out.ten
          have fz := Zr4.out.warm
          refine plan_step rfl (fun K hK => ?_)
          rw [if_pos (by rfl)]
          go_simp
          clear zc0 zc1 zc2 zc3 zc4 zc5 zc6 zc7 zc8 zc9 fz
          obtain ⟨y, hy⟩ : ∃ x, ((((((((((r4.setCell ⟨r3.heap.size, 0, none⟩ (.string sh)).setCell ⟨r3.heap.size, 1, none⟩ (.slice Ah nh ch)).setCell ⟨r3.heap.size, 2, none⟩ (.slice Bh mh dh)).setCell ⟨r3.heap.size, 3, none⟩ (.slice Mh qh eh)).setCell ⟨r3.heap.size, 4, none⟩ (.int .i64 sph)).setCell ⟨r3.heap.size, 5, none⟩ (.int .i64 Wh)).setCell ⟨r3.heap.size, 6, none⟩ (.int .i64 th)).setCell ⟨r3.heap.size, 7, none⟩ (.int .i64 kh)).setCell ⟨r3.heap.size, 8, none⟩ (.slice Lh lh fh)).setCell ⟨r3.heap.size, 9, none⟩ (.slice Th rh gh)) = x := ⟨_, rfl⟩
          have ry : Blk y r3.heap.size #[.string sh, .slice Ah nh ch, .slice Bh mh dh, .slice Mh qh eh, .int .i64 sph, .int .i64 Wh, .int .i64 th, .int .i64 kh, .slice Lh lh fh, .slice Th rh gh] 61 := by rw [← hy]; exact Blk.fill Zr4.out (.string sh) (.slice Ah nh ch) (.slice Bh mh dh) (.slice Mh qh eh) (.int .i64 sph) (.int .i64 Wh) (.int .i64 th) (.int .i64 kh) (.slice Lh lh fh) (.slice Th rh gh)
          have hc : Chg r3.heap.size (r3.heap.size + 1) r4 y := by rw [← hy]; exact (((((((((((Chg.refl r3.heap.size (r3.heap.size + 1) r4).trans (chg_set r4 r3.heap.size 0 (.string sh))).trans (chg_set (r4.setCell ⟨r3.heap.size, 0, none⟩ (.string sh)) r3.heap.size 1 (.slice Ah nh ch))).trans (chg_set ((r4.setCell ⟨r3.heap.size, 0, none⟩ (.string sh)).setCell ⟨r3.heap.size, 1, none⟩ (.slice Ah nh ch)) r3.heap.size 2 (.slice Bh mh dh))).trans (chg_set (((r4.setCell ⟨r3.heap.size, 0, none⟩ (.string sh)).setCell ⟨r3.heap.size, 1, none⟩ (.slice Ah nh ch)).setCell ⟨r3.heap.size, 2, none⟩ (.slice Bh mh dh)) r3.heap.size 3 (.slice Mh qh eh))).trans (chg_set ((((r4.setCell ⟨r3.heap.size, 0, none⟩ (.string sh)).setCell ⟨r3.heap.size, 1, none⟩ (.slice Ah nh ch)).setCell ⟨r3.heap.size, 2, none⟩ (.slice Bh mh dh)).setCell ⟨r3.heap.size, 3, none⟩ (.slice Mh qh eh)) r3.heap.size 4 (.int .i64 sph))).trans (chg_set (((((r4.setCell ⟨r3.heap.size, 0, none⟩ (.string sh)).setCell ⟨r3.heap.size, 1, none⟩ (.slice Ah nh ch)).setCell ⟨r3.heap.size, 2, none⟩ (.slice Bh mh dh)).setCell ⟨r3.heap.size, 3, none⟩ (.slice Mh qh eh)).setCell ⟨r3.heap.size, 4, none⟩ (.int .i64 sph)) r3.heap.size 5 (.int .i64 Wh))).trans (chg_set ((((((r4.setCell ⟨r3.heap.size, 0, none⟩ (.string sh)).setCell ⟨r3.heap.size, 1, none⟩ (.slice Ah nh ch)).setCell ⟨r3.heap.size, 2, none⟩ (.slice Bh mh dh)).setCell ⟨r3.heap.size, 3, none⟩ (.slice Mh qh eh)).setCell ⟨r3.heap.size, 4, none⟩ (.int .i64 sph)).setCell ⟨r3.heap.size, 5, none⟩ (.int .i64 Wh)) r3.heap.size 6 (.int .i64 th))).trans (chg_set (((((((r4.setCell ⟨r3.heap.size, 0, none⟩ (.string sh)).setCell ⟨r3.heap.size, 1, none⟩ (.slice Ah nh ch)).setCell ⟨r3.heap.size, 2, none⟩ (.slice Bh mh dh)).setCell ⟨r3.heap.size, 3, none⟩ (.slice Mh qh eh)).setCell ⟨r3.heap.size, 4, none⟩ (.int .i64 sph)).setCell ⟨r3.heap.size, 5, none⟩ (.int .i64 Wh)).setCell ⟨r3.heap.size, 6, none⟩ (.int .i64 th)) r3.heap.size 7 (.int .i64 kh))).trans (chg_set ((((((((r4.setCell ⟨r3.heap.size, 0, none⟩ (.string sh)).setCell ⟨r3.heap.size, 1, none⟩ (.slice Ah nh ch)).setCell ⟨r3.heap.size, 2, none⟩ (.slice Bh mh dh)).setCell ⟨r3.heap.size, 3, none⟩ (.slice Mh qh eh)).setCell ⟨r3.heap.size, 4, none⟩ (.int .i64 sph)).setCell ⟨r3.heap.size, 5, none⟩ (.int .i64 Wh)).setCell ⟨r3.heap.size, 6, none⟩ (.int .i64 th)).setCell ⟨r3.heap.size, 7, none⟩ (.int .i64 kh)) r3.heap.size 8 (.slice Lh lh fh))).trans (chg_set (((((((((r4.setCell ⟨r3.heap.size, 0, none⟩ (.string sh)).setCell ⟨r3.heap.size, 1, none⟩ (.slice Ah nh ch)).setCell ⟨r3.heap.size, 2, none⟩ (.slice Bh mh dh)).setCell ⟨r3.heap.size, 3, none⟩ (.slice Mh qh eh)).setCell ⟨r3.heap.size, 4, none⟩ (.int .i64 sph)).setCell ⟨r3.heap.size, 5, none⟩ (.int .i64 Wh)).setCell ⟨r3.heap.size, 6, none⟩ (.int .i64 th)).setCell ⟨r3.heap.size, 7, none⟩ (.int .i64 kh)).setCell ⟨r3.heap.size, 8, none⟩ (.slice Lh lh fh)) r3.heap.size 9 (.slice Th rh gh)))
          rw [hy]
          clear hy
          have sy : r4.heap.size ≤ y.heap.size := hc.size
          have Pry := Pr4.out.chg hc (by omega)
          have Qry := Qr4.out.chg hc (by omega)
          refine hK.out _ _ ⟨blk3 Pry, blk3 Qry⟩ ?_
          clear hK K
          refine plan_step rfl (fun K hK => ?_)
          rw [if_pos (by rfl)]
          go_simp
          refine hK.out _ _ ⟨blk3 Pry, blk3 Qry⟩ ?_
          clear hK K
          refine plan_end ?_
          refine ⟨rfl, sh1, Ah1, nh1, ch1, Bh1, mh1, dh1, sh, Ah, nh, ch, Bh, mh, dh, Mh, qh, eh, sph, Wh, th, kh, Lh, lh, fh, Th, rh, gh, r3.heap.size, r2.heap.size, r3.heap.size, ?_, Xr4.out.chg hc (by unfold Off; omega), ry, by omega, by omega, by omega, by omega, by omega, Dr4.out.trans (hc.below (by omega) |>.mono (by omega))⟩
          first | rfl | (simp only [Act.put, List.setIfInBounds_toArray, List.set_cons_zero, List.set_cons_succ])
        · rw [if_pos (by rfl)]
          go_simp
          obtain ⟨r3, hw, hb, hz, hZ⟩ := mxWorld r2 #[.string ⟨#[]⟩, .slice none 0 0, .slice none 0 0, .slice none 0 0, .int .i64 0, .int .i64 0, .int .i64 0, .int .i64 0, .slice none 0 0, .slice none 0 0] 61
          rw [hw]
          clear hw hz
          have tr3 : r2.heap.size ≤ r3.heap.size := hb.size
          have Pr3 := Lib.hid (Pr2.out.below hb (by omega))
          have Qr3 := Lib.hid (Qr2.out.below hb (by omega))
          have Dr3 := Lib.hid (Dr2.out.trans (hb.mono (by omega)))
          have Or3 := Lib.hid (Or2.out.below (by omega) hb)
          have Zr3 := Lib.hid hZ
          have yz : r2.heap.size < r3.heap.size := hZ.lt
          clear hZ hb
          refine hK.out _ _ ⟨blk3 Pr3.out, blk3 Qr3.out⟩ ?_
          clear hK K
          refine plan_step rfl (fun K hK => ?_)
          rw [if_pos (by rfl)]
          go_simp
          refine (implNew_any _ _ _ f E sp W t k r3 Or3.out (by omega) hs).mono ?_
          rintro e r4 ⟨u, rfl, hX, hb⟩
          rw [HY.out] at hX
          rw [Hok.out]
          obtain ⟨sh, Ah, nh, ch, Bh, mh, dh, Mh, qh, eh, sph, Wh, th, kh, Lh, lh, fh, Th, rh, gh, rfl⟩ := hX.reads.form
          have tr4 : r3.heap.size ≤ r4.heap.size := hb.size
          have Pr4 := Lib.hid (Pr3.out.below hb (by omega))
          have Qr4 := Lib.hid (Qr3.out.below hb (by omega))
          have Dr4 := Lib.hid (Dr3.out.trans (hb.mono (by omega)))
          have Zr4 := Lib.hid (Zr3.out.below hb (by omega))
          have Xr4 := Lib.hid hX
          clear hX hb
          refine hK.out _ _ ⟨blk3 Pr4.out, blk3 Qr4.out⟩ ?_
          clear hK K
          refine plan_quiet rfl (by rfl) (v := ?_) ?_ ?_; rotate_left; (intro w1 hSw; obtain ⟨⟨h0, h1, h2⟩, ⟨h3, h4, h5⟩⟩ := hSw; go_simp; try (with_reducible rfl)); (try simp only [Act.put, List.setIfInBounds_toArray, List.set_cons_zero, List.set_cons_succ])
          refine plan_quiet rfl (by rfl) (v := ?_) ?_ ?_; rotate_left; (intro w1 hSw; obtain ⟨⟨h0, h1, h2⟩, ⟨h3, h4, h5⟩⟩ := hSw; go_simp; try (with_reducible rfl)); (try simp only [Act.put, List.setIfInBounds_toArray, List.set_cons_zero, List.set_cons_succ])
          refine plan_quiet rfl (by rfl) (v := ?_) ?_ ?_; rotate_left; (intro w1 hSw; obtain ⟨⟨h0, h1, h2⟩, ⟨h3, h4, h5⟩⟩ := hSw; go_simp; try (with_reducible rfl)); (try simp only [Act.put, List.setIfInBounds_toArray, List.set_cons_zero, List.set_cons_succ])
          obtain ⟨zc0, zc1, zc2, zc3, zc4, zc5, zc6, zc7, zc8, zc9⟩ := Zr4.out.ten
          have fz := Zr4.out.warm
          refine plan_step rfl (fun K hK => ?_)
          rw [if_pos (by rfl)]
          go_simp
          clear zc0 zc1 zc2 zc3 zc4 zc5 zc6 zc7 zc8 zc9 fz
          obtain ⟨y, hy⟩ : ∃ x, ((((((((((r4.setCell ⟨r2.heap.size, 0, none⟩ (.string sh)).setCell ⟨r2.heap.size, 1, none⟩ (.slice Ah nh ch)).setCell ⟨r2.heap.size, 2, none⟩ (.slice Bh mh dh)).setCell ⟨r2.heap.size, 3, none⟩ (.slice Mh qh eh)).setCell ⟨r2.heap.size, 4, none⟩ (.int .i64 sph)).setCell ⟨r2.heap.size, 5, none⟩ (.int .i64 Wh)).setCell ⟨r2.heap.size, 6, none⟩ (.int .i64 th)).setCell ⟨r2.heap.size, 7, none⟩ (.int .i64 kh)).setCell ⟨r2.heap.size, 8, none⟩ (.slice Lh lh fh)).setCell ⟨r2.heap.size, 9, none⟩ (.slice Th rh gh)) = x := ⟨_, rfl⟩
          have ry : Blk y r2.heap.size #[.string sh, .slice Ah nh ch, .slice Bh mh dh, .slice Mh qh eh, .int .i64 sph, .int .i64 Wh, .int .i64 th, .int .i64 kh, .slice Lh lh fh, .slice Th rh gh] 61 := by rw [← hy]; exact Blk.fill Zr4.out (.string sh) (.slice Ah nh ch) (.slice Bh mh dh) (.slice Mh qh eh) (.int .i64 sph) (.int .i64 Wh) (.int .i64 th) (.int .i64 kh) (.slice Lh lh fh) (.slice Th rh gh)
          have hc : Chg r2.heap.size (r2.heap.size + 1) r4 y := by rw [← hy]; exact (((((((((((Chg.refl r2.heap.size (r2.heap.size + 1) r4).trans (chg_set r4 r2.heap.size 0 (.string sh))).trans (chg_set (r4.setCell ⟨r2.heap.size, 0, none⟩ (.string sh)) r2.heap.size 1 (.slice Ah nh ch))).trans (chg_set ((r4.setCell ⟨r2.heap.size, 0, none⟩ (.string sh)).setCell ⟨r2.heap.size, 1, none⟩ (.slice Ah nh ch)) r2.heap.size 2 (.slice Bh mh dh))).trans (chg_set (((r4.setCell ⟨r2.heap.size, 0, none⟩ (.string sh)).setCell ⟨r2.heap.size, 1, none⟩ (.slice Ah nh ch)).setCell ⟨r2.heap.size, 2, none⟩ (.slice Bh mh dh)) r2.heap.size 3 (.slice Mh qh eh))).trans (chg_set ((((r4.setCell ⟨r2.heap.size, 0, none⟩ (.string sh)).setCell ⟨r2.heap.size, 1, none⟩ (.slice Ah nh ch)).setCell ⟨r2.heap.size, 2, none⟩ (.slice Bh mh dh)).setCell ⟨r2.heap.size, 3, none⟩ (.slice Mh qh eh)) r2.heap.size 4 (.int .i64 sph))).trans (chg_set (((((r4.setCell ⟨r2.heap.size, 0, none⟩ (.string sh)).setCell ⟨r2.heap.size, 1, none⟩ (.slice Ah nh ch)).setCell ⟨r2.heap.size, 2, none⟩ (.slice Bh mh dh)).setCell ⟨r2.heap.size, 3, none⟩ (.slice Mh qh eh)).setCell ⟨r2.heap.size, 4, none⟩ (.int .i64 sph)) r2.heap.size 5 (.int .i64 Wh))).trans (chg_set ((((((r4.setCell ⟨r2.heap.size, 0, none⟩ (.string sh)).setCell ⟨r2.heap.size, 1, none⟩ (.slice Ah nh ch)).setCell ⟨r2.heap.size, 2, none⟩ (.slice Bh mh dh)).setCell ⟨r2.heap.size, 3, none⟩ (.slice Mh qh eh)).setCell ⟨r2.heap.size, 4, none⟩ (.int .i64 sph)).setCell ⟨r2.heap.size, 5, none⟩ (.int .i64 Wh)) r2.heap.size 6 (.int .i64 th))).trans (chg_set (((((((r4.setCell ⟨r2.heap.size, 0, none⟩ (.string sh)).setCell ⟨r2.heap.size, 1, none⟩ (.slice Ah nh ch)).setCell ⟨r2.heap.size, 2, none⟩ (.slice Bh mh dh)).setCell ⟨r2.heap.size, 3, none⟩ (.slice Mh qh eh)).setCell ⟨r2.heap.size, 4, none⟩ (.int .i64 sph)).setCell ⟨r2.heap.size, 5, none⟩ (.int .i64 Wh)).setCell ⟨r2.heap.size, 6, none⟩ (.int .i64 th)) r2.heap.size 7 (.int .i64 kh))).trans (chg_set ((((((((r4.setCell ⟨r2.heap.size, 0, none⟩ (.string sh)).setCell ⟨r2.heap.size, 1, none⟩ (.slice Ah nh ch)).setCell ⟨r2.heap.size, 2, none⟩ (.slice Bh mh dh)).setCell ⟨r2.heap.size, 3, none⟩ (.slice Mh qh eh)).setCell ⟨r2.heap.size, 4, none⟩ (.int .i64 sph)).setCell ⟨r2.heap.size, 5, none⟩ (.int .i64 Wh)).setCell ⟨r2.heap.size, 6, none⟩ (.int .i64 th)).setCell ⟨r2.heap.size, 7, none⟩ (.int .i64 kh)) r2.heap.size 8 (.slice Lh lh fh))).trans (chg_set (((((((((r4.setCell ⟨r2.heap.size, 0, none⟩ (.string sh)).setCell ⟨r2.heap.size, 1, none⟩ (.slice Ah nh ch)).setCell ⟨r2.heap.size, 2, none⟩ (.slice Bh mh dh)).setCell ⟨r2.heap.size, 3, none⟩ (.slice Mh qh eh)).setCell ⟨r2.heap.size, 4, none⟩ (.int .i64 sph)).setCell ⟨r2.heap.size, 5, none⟩ (.int .i64 Wh)).setCell ⟨r2.heap.size, 6, none⟩ (.int .i64 th)).setCell ⟨r2.heap.size, 7, none⟩ (.int .i64 kh)).setCell ⟨r2.heap.size, 8, none⟩ (.slice Lh lh fh)) r2.heap.size 9 (.slice Th rh gh)))
          rw [hy]
          clear hy
          have sy : r4.heap.size ≤ y.heap.size := hc.size
          have Pry := Pr4.out.chg hc (by omega)
          have Qry := Qr4.out.chg hc (by omega)
          refine hK.out _ _ ⟨blk3 Pry, blk3 Qry⟩ ?_
          clear hK K
          refine plan_step rfl (fun K hK => ?_)
          rw [if_pos (by rfl)]
          go_simp
          refine hK.out _ _ ⟨blk3 Pry, blk3 Qry⟩ ?_
          clear hK K
          refine plan_end ?_
          refine ⟨rfl, sh1, Ah1, nh1, ch1, Bh1, mh1, dh1, sh, Ah, nh, ch, Bh, mh, dh, Mh, qh, eh, sph, Wh, th, kh, Lh, lh, fh, Th, rh, gh, r2.heap.size, r3.heap.size, r4.heap.size, ?_, Xr4.out.chg hc (by unfold Off; omega), ry, by omega, by omega, by omega, by omega, by omega, Dr4.out.trans (hc.below (by omega) |>.mono (by omega))⟩
          first | rfl | (simp only [Act.put, List.setIfInBounds_toArray, List.set_cons_zero, List.set_cons_succ])
      · rw [if_pos (by rfl)]
        go_simp
        obtain ⟨r2, hw, hb, hz, hZ⟩ := mxWorld r1 #[.string ⟨#[]⟩, .slice none 0 0, .slice none 0 0, .slice none 0 0, .int .i64 0, .int .i64 0, .int .i64 0, .int .i64 0, .slice none 0 0, .slice none 0 0] 61
        rw [hw]
        clear hw hz
        have tr2 : r1.heap.size ≤ r2.heap.size := hb.size
        have Pr2 := Lib.hid (Pr1.out.below hb (by omega))
        have Qr2 := Lib.hid (Qr1.out.below hb (by omega))
        have Dr2 := Lib.hid (Dr1.out.trans (hb.mono (by omega)))
        have Or2 := Lib.hid (Or1.out.below (by omega) hb)
        have Zr2 := Lib.hid hZ
        have yz : r1.heap.size < r2.heap.size := hZ.lt
        clear hZ hb
        refine hK.out _ _ ⟨blk3 Pr2.out, blk3 Qr2.out⟩ ?_
        clear hK K
        refine plan_step rfl (fun K hK => ?_)
        rw [if_pos (by rfl)]
        go_simp
        refine (toMeasure_any W t k r2).mono ?_
        rintro e r3 ⟨rfl, hb⟩
        have tr3 : r2.heap.size ≤ r3.heap.size := hb.size
        have Pr3 := Lib.hid (Pr2.out.below hb (by omega))
        have Qr3 := Lib.hid (Qr2.out.below hb (by omega))
        have Dr3 := Lib.hid (Dr2.out.trans (hb.mono (by omega)))
        have Or3 := Lib.hid (Or2.out.below (by omega) hb)
        have Zr3 := Lib.hid (Zr2.out.below hb (by omega))
        clear hb
        refine hK.out _ _ ⟨blk3 Pr3.out, blk3 Qr3.out⟩ ?_
        clear hK K
        refine plan_step rfl (fun K hK => ?_)
        rw [if_pos (by rfl)]
        go_simp
        refine (implNew_any _ _ _ f E sp W t k r3 Or3.out (by omega) hs).mono ?_
        rintro e r4 ⟨u, rfl, hX, hb⟩
        rw [HY.out] at hX
        rw [Hok.out]
        obtain ⟨sh, Ah, nh, ch, Bh, mh, dh, Mh, qh, eh, sph, Wh, th, kh, Lh, lh, fh, Th, rh, gh, rfl⟩ := hX.reads.form
        have tr4 : r3.heap.size ≤ r4.heap.size := hb.size
        have Pr4 := Lib.hid (Pr3.out.below hb (by omega))
        have Qr4 := Lib.hid (Qr3.out.below hb (by omega))
        have Dr4 := Lib.hid (Dr3.out.trans (hb.mono (by omega)))
        have Zr4 := Lib.hid (Zr3.out.below hb (by omega))
        have Xr4 := Lib.hid hX
        clear hX hb
        refine hK.out _ _ ⟨blk3 Pr4.out, blk3 Qr4.out⟩ ?_
        clear hK K
        refine plan_quiet rfl (by rfl) (v := ?_) ?_ ?_; rotate_left; (intro w1 hSw; obtain ⟨⟨h0, h1, h2⟩, ⟨h3, h4, h5⟩⟩ := hSw; go_simp; try (with_reducible rfl)); (try simp only [Act.put, List.setIfInBounds_toArray, List.set_cons_zero, List.set_cons_succ])
        refine plan_quiet rfl (by rfl) (v := ?_) ?_ ?_; rotate_left; (intro w1 hSw; obtain ⟨⟨h0, h1, h2⟩, ⟨h3, h4, h5⟩⟩ := hSw; go_simp; try (with_reducible rfl)); (try simp only [Act.put, List.setIfInBounds_toArray, List.set_cons_zero, List.set_cons_succ])
        refine plan_quiet rfl (by rfl) (v := ?_) ?_ ?_; rotate_left; (intro w1 hSw; obtain ⟨⟨h0, h1, h2⟩, ⟨h3, h4, h5⟩⟩ := hSw; go_simp; try (with_reducible rfl)); (try simp only [Act.put, List.setIfInBounds_toArray, List.set_cons_zero, List.set_cons_succ])
        obtain ⟨zc0, zc1, zc2, zc3, zc4, zc5, zc6, zc7, zc8, zc9⟩ := Zr4.out.ten
        have fz := Zr4.out.warm
        refine plan_step rfl (fun K hK => ?_)
        rw [if_pos (by rfl)]
        go_simp
        clear zc0 zc1 zc2 zc3 zc4 zc5 zc6 zc7 zc8 zc9 fz
        obtain ⟨y, hy⟩ : ∃ x, ((((((((((r4.setCell ⟨r1.heap.size, 0, none⟩ (.string sh)).setCell ⟨r1.heap.size, 1, none⟩ (.slice Ah nh ch)).setCell ⟨r1.heap.size, 2, none⟩ (.slice Bh mh dh)).setCell ⟨r1.heap.size, 3, none⟩ (.slice Mh qh eh)).setCell ⟨r1.heap.size, 4, none⟩ (.int .i64 sph)).setCell ⟨r1.heap.size, 5, none⟩ (.int .i64 Wh)).setCell ⟨r1.heap.size, 6, none⟩ (.int .i64 th)).setCell ⟨r1.heap.size, 7, none⟩ (.int .i64 kh)).setCell ⟨r1.heap.size, 8, none⟩ (.slice Lh lh fh)).setCell ⟨r1.heap.size, 9, none⟩ (.slice Th rh gh)) = x := ⟨_, rfl⟩
        have ry : Blk y r1.heap.size #[.string sh, .slice Ah nh ch, .slice Bh mh dh, .slice Mh qh eh, .int .i64 sph, .int .i64 Wh, .int .i64 th, .int .i64 kh, .slice Lh lh fh, .slice Th rh gh] 61 := by rw [← hy]; exact Blk.fill Zr4.out (.string sh) (.slice Ah nh ch) (.slice Bh mh dh) (.slice Mh qh eh) (.int .i64 sph) (.int .i64 Wh) (.int .i64 th) (.int .i64 kh) (.slice Lh lh fh) (.slice Th rh gh)
        have hc : Chg r1.heap.size (r1.heap.size + 1) r4 y := by rw [← hy]; exact (((((((((((Chg.refl r1.heap.size (r1.heap.size + 1) r4).trans (chg_set r4 r1.heap.size 0 (.string sh))).trans (chg_set (r4.setCell ⟨r1.heap.size, 0, none⟩ (.string sh)) r1.heap.size 1 (.slice Ah nh ch))).trans (chg_set ((r4.setCell ⟨r1.heap.size, 0, none⟩ (.string sh)).setCell ⟨r1.heap.size, 1, none⟩ (.slice Ah nh ch)) r1.heap.size 2 (.slice Bh mh dh))).trans (chg_set (((r4.setCell ⟨r1.heap.size, 0, none⟩ (.string sh)).setCell ⟨r1.heap.size, 1, none⟩ (.slice Ah nh ch)).setCell ⟨r1.heap.size, 2, none⟩ (.slice Bh mh dh)) r1.heap.size 3 (.slice Mh qh eh))).trans (chg_set ((((r4.setCell ⟨r1.heap.size, 0, none⟩ (.string sh)).setCell ⟨r1.heap.size, 1, none⟩ (.slice Ah nh ch)).setCell ⟨r1.heap.size, 2, none⟩ (.slice Bh mh dh)).setCell ⟨r1.heap.size, 3, none⟩ (.slice Mh qh eh)) r1.heap.size 4 (.int .i64 sph))).trans (chg_set (((((r4.setCell ⟨r1.heap.size, 0, none⟩ (.string sh)).setCell ⟨r1.heap.size, 1, none⟩ (.slice Ah nh ch)).setCell ⟨r1.heap.size, 2, none⟩ (.slice Bh mh dh)).setCell ⟨r1.heap.size, 3, none⟩ (.slice Mh qh eh)).setCell ⟨r1.heap.size, 4, none⟩ (.int .i64 sph)) r1.heap.size 5 (.int .i64 Wh))).trans (chg_set ((((((r4.setCell ⟨r1.heap.size, 0, none⟩ (.string sh)).setCell ⟨r1.heap.size, 1, none⟩ (.slice Ah nh ch)).setCell ⟨r1.heap.size, 2, none⟩ (.slice Bh mh dh)).setCell ⟨r1.heap.size, 3, none⟩ (.slice Mh qh eh)).setCell ⟨r1.heap.size, 4, none⟩ (.int .i64 sph)).setCell ⟨r1.heap.size, 5, none⟩ (.int .i64 Wh)) r1.heap.size 6 (.int .i64 th))).trans (chg_set (((((((r4.setCell ⟨r1.heap.size, 0, none⟩ (.string sh)).setCell ⟨r1.heap.size, 1, none⟩ (.slice Ah nh ch)).setCell ⟨r1.heap.size, 2, none⟩ (.slice Bh mh dh)).setCell ⟨r1.heap.size, 3, none⟩ (.slice Mh qh eh)).setCell ⟨r1.heap.size, 4, none⟩ (.int .i64 sph)).setCell ⟨r1.heap.size, 5, none⟩ (.int .i64 Wh)).setCell ⟨r1.heap.size, 6, none⟩ (.int .i64 th)) r1.heap.size 7 (.int .i64 kh))).trans (chg_set ((((((((r4.setCell ⟨r1.heap.size, 0, none⟩ (.string sh)).setCell ⟨r1.heap.size, 1, none⟩ (.slice Ah nh ch)).setCell ⟨r1.heap.size, 2, none⟩ (.slice Bh mh dh)).setCell ⟨r1.heap.size, 3, none⟩ (.slice Mh qh eh)).setCell ⟨r1.heap.size, 4, none⟩ (.int .i64 sph)).setCell ⟨r1.heap.size, 5, none⟩ (.int .i64 Wh)).setCell ⟨r1.heap.size, 6, none⟩ (.int .i64 th)).setCell ⟨r1.heap.size, 7, none⟩ (.int .i64 kh)) r1.heap.size 8 (.slice Lh lh fh))).trans (chg_set (((((((((r4.setCell ⟨r1.heap.size, 0, none⟩ (.string sh)).setCell ⟨r1.heap.size, 1, none⟩ (.slice Ah nh ch)).setCell ⟨r1.heap.size, 2, none⟩ (.slice Bh mh dh)).setCell ⟨r1.heap.size, 3, none⟩ (.slice Mh qh eh)).setCell ⟨r1.heap.size, 4, none⟩ (.int .i64 sph)).setCell ⟨r1.heap.size, 5, none⟩ (.int .i64 Wh)).setCell ⟨r1.heap.size, 6, none⟩ (.int .i64 th)).setCell ⟨r1.heap.size, 7, none⟩ (.int .i64 kh)).setCell ⟨r1.heap.size, 8, none⟩ (.slice Lh lh fh)) r1.heap.size 9 (.slice Th rh gh)))
        rw [hy]
        clear hy
        have sy : r4.heap.size ≤ y.heap.size := hc.size
        have Pry := Pr4.out.chg hc (by omega)
        have Qry := Qr4.out.chg hc (by omega)
        refine hK.out _ _ ⟨blk3 Pry, blk3 Qry⟩ ?_
        clear hK K
        refine plan_step rfl (fun K hK => ?_)
        rw [if_pos (by rfl)]
        go_simp
        refine hK.out _ _ ⟨blk3 Pry, blk3 Qry⟩ ?_
        clear hK K
        refine plan_end ?_
        refine ⟨rfl, sh1, Ah1, nh1, ch1, Bh1, mh1, dh1, sh, Ah, nh, ch, Bh, mh, dh, Mh, qh, eh, sph, Wh, th, kh, Lh, lh, fh, Th, rh, gh, r1.heap.size, r3.heap.size, r4.heap.size, ?_, Xr4.out.chg hc (by unfold Off; omega), ry, by omega, by omega, by omega, by omega, by omega, Dr4.out.trans (hc.below (by omega) |>.mono (by omega))⟩
        first | rfl | (simp only [Act.put, List.setIfInBounds_toArray, List.set_cons_zero, List.set_cons_succ])
    · rw [if_pos (by rfl)]
      go_simp
      obtain ⟨r1, hw, hb, hz, hZ⟩ := mxWorld r0 #[.string ⟨#[]⟩, .slice none 0 0, .slice none 0 0, .slice none 0 0, .int .i64 0, .int .i64 0, .int .i64 0, .int .i64 0, .slice none 0 0, .slice none 0 0] 61
      rw [hw]
      clear hw hz
      have tr1 : r0.heap.size ≤ r1.heap.size := hb.size
      have Pr1 := Lib.hid (Pr0.out.below hb (by omega))
      have Qr1 := Lib.hid (Qr0.out.below hb (by omega))
      have Dr1 := Lib.hid (Dr0.out.trans (hb.mono (by omega)))
      have Vr1 := Lib.hid (Vr0.out.below (by omega) hb)
      have Zr1 := Lib.hid hZ
      have yz : r0.heap.size < r1.heap.size := hZ.lt
      clear hZ hb
      refine hK.out _ _ ⟨blk3 Pr1.out, blk3 Qr1.out⟩ ?_
      clear hK K
      refine plan_step rfl (fun K hK => ?_)
      rw [if_pos (by rfl)]
      go_simp
      refine (toFont_any lo hi _ f r1 Vr1.out (by omega) hs).mono ?_
      rintro e r2 ⟨v1, rfl, hO, hb⟩
      obtain ⟨sh1, Ah1, nh1, ch1, Bh1, mh1, dh1, rfl⟩ := fontNames hO.font
      have tr2 : r1.heap.size ≤ r2.heap.size := hb.size
      have Pr2 := Lib.hid (Pr1.out.below hb (by omega))
      have Qr2 := Lib.hid (Qr1.out.below hb (by omega))
      have Dr2 := Lib.hid (Dr1.out.trans (hb.mono (by omega)))
      have Vr2 := Lib.hid (Vr1.out.below (by omega) hb)
      have Zr2 := Lib.hid (Zr1.out.below hb (by omega))
      have Or2 := Lib.hid hO.font
      clear hO
      clear hb
      have Ol : r2.heap.size ≤ r2.heap.size := Nat.le_refl _
      refine hK.out _ _ ⟨blk3 Pr2.out, blk3 Qr2.out⟩ ?_
      clear hK K
      refine plan_step rfl (fun K hK => ?_)
      rw [if_pos (by rfl)]
      go_simp
      refine (toMeasure_any W t k r2).mono ?_
      rintro e r3 ⟨rfl, hb⟩
      have tr3 : r2.heap.size ≤ r3.heap.size := hb.size
      have Pr3 := Lib.hid (Pr2.out.below hb (by omega))
      have Qr3 := Lib.hid (Qr2.out.below hb (by omega))
      have Dr3 := Lib.hid (Dr2.out.trans (hb.mono (by omega)))
      have Zr3 := Lib.hid (Zr2.out.below hb (by omega))
      have Or3 := Lib.hid (Or2.out.below (by omega) hb)
      clear hb
      refine hK.out _ _ ⟨blk3 Pr3.out, blk3 Qr3.out⟩ ?_
      clear hK K
      refine plan_step rfl (fun K hK => ?_)
      rw [if_pos (by rfl)]
      go_simp
      refine (implNew_any _ _ _ f E sp W t k r3 Or3.out (by omega) hs).mono ?_
      rintro e r4 ⟨u, rfl, hX, hb⟩
      rw [HY.out] at hX
      rw [Hok.out]
      obtain ⟨sh, Ah, nh, ch, Bh, mh, dh, Mh, qh, eh, sph, Wh, th, kh, Lh, lh, fh, Th, rh, gh, rfl⟩ := hX.reads.form
      have tr4 : r3.heap.size ≤ r4.heap.size := hb.size
      have Pr4 := Lib.hid (Pr3.out.below hb (by omega))
      have Qr4 := Lib.hid (Qr3.out.below hb (by omega))
      have Dr4 := Lib.hid (Dr3.out.trans (hb.mono (by omega)))
      have Zr4 := Lib.hid (Zr3.out.below hb (by omega))
      have Xr4 := Lib.hid hX
      clear hX hb
      refine hK.out _ _ ⟨blk3 Pr4.out, blk3 Qr4.out⟩ ?_
      clear hK K
      refine plan_quiet rfl (by rfl) (v := ?_) ?_ ?_; rotate_left; (intro w1 hSw; obtain ⟨⟨h0, h1, h2⟩, ⟨h3, h4, h5⟩⟩ := hSw; go_simp; try (with_reducible rfl)); (try simp only [Act.put, List.setIfInBounds_toArray, List.set_cons_zero, List.set_cons_succ])
      refine plan_quiet rfl (by rfl) (v := ?_) ?_ ?_; rotate_left; (intro w1 hSw; obtain ⟨⟨h0, h1, h2⟩, ⟨h3, h4, h5⟩⟩ := hSw; go_simp; try (with_reducible rfl)); (try simp only [Act.put, List.setIfInBounds_toArray, List.set_cons_zero, List.set_cons_succ])
      refine plan_quiet rfl (by rfl) (v := ?_) ?_ ?_; rotate_left; (intro w1 hSw; obtain ⟨⟨h0, h1, h2⟩, ⟨h3, h4, h5⟩⟩ := hSw; go_simp; try (with_reducible rfl)); (try simp only [Act.put, List.setIfInBounds_toArray, List.set_cons_zero, List.set_cons_succ])
      obtain ⟨zc0, zc1, zc2, zc3, zc4, zc5, zc6, zc7, zc8, zc9⟩ := Zr4.out.ten
      have fz := Zr4.out.warm
      refine plan_step rfl (fun K hK => ?_)
      rw [if_pos (by rfl)]
      go_simp
      clear zc0 zc1 zc2 zc3 zc4 zc5 zc6 zc7 zc8 zc9 fz
      obtain ⟨y, hy⟩ : ∃ x, ((((((((((r4.setCell ⟨r0.heap.size, 0, none⟩ (.string sh)).setCell ⟨r0.heap.size, 1, none⟩ (.slice Ah nh ch)).setCell ⟨r0.heap.size, 2, none⟩ (.slice Bh mh dh)).setCell ⟨r0.heap.size, 3, none⟩ (.slice Mh qh eh)).setCell ⟨r0.heap.size, 4, none⟩ (.int .i64 sph)).setCell ⟨r0.heap.size, 5, none⟩ (.int .i64 Wh)).setCell ⟨r0.heap.size, 6, none⟩ (.int .i64 th)).setCell ⟨r0.heap.size, 7, none⟩ (.int .i64 kh)).setCell ⟨r0.heap.size, 8, none⟩ (.slice Lh lh fh)).setCell ⟨r0.heap.size, 9, none⟩ (.slice Th rh gh)) = x := ⟨_, rfl⟩
      have ry : Blk y r0.heap.size #[.string sh, .slice Ah nh ch, .slice Bh mh dh, .slice Mh qh eh, .int .i64 sph, .int .i64 Wh, .int .i64 th, .int .i64 kh, .slice Lh lh fh, .slice Th rh gh] 61 := by rw [← hy]; exact Blk.fill Zr4.out (.string sh) (.slice Ah nh ch) (.slice Bh mh dh) (.slice Mh qh eh) (.int .i64 sph) (.int .i64 Wh) (.int .i64 th) (.int .i64 kh) (.slice Lh lh fh) (.slice Th rh gh)
      have hc : Chg r0.heap.size (r0.heap.size + 1) r4 y := by rw [← hy]; exact (((((((((((Chg.refl r0.heap.size (r0.heap.size + 1) r4).trans (chg_set r4 r0.heap.size 0 (.string sh))).trans (chg_set (r4.setCell ⟨r0.heap.size, 0, none⟩ (.string sh)) r0.heap.size 1 (.slice Ah nh ch))).trans (chg_set ((r4.setCell ⟨r0.heap.size, 0, none⟩ (.string sh)).setCell ⟨r0.heap.size, 1, none⟩ (.slice Ah nh ch)) r0.heap.size 2 (.slice Bh mh dh))).trans (chg_set (((r4.setCell ⟨r0.heap.size, 0, none⟩ (.string sh)).setCell ⟨r0.heap.size, 1, none⟩ (.slice Ah nh ch)).setCell ⟨r0.heap.size, 2, none⟩ (.slice Bh mh dh)) r0.heap.size 3 (.slice Mh qh eh))).trans (chg_set ((((r4.setCell ⟨r0.heap.size, 0, none⟩ (.string sh)).setCell ⟨r0.heap.size, 1, none⟩ (.slice Ah nh ch)).setCell ⟨r0.heap.size, 2, none⟩ (.slice Bh mh dh)).setCell ⟨r0.heap.size, 3, none⟩ (.slice Mh qh eh)) r0.heap.size 4 (.int .i64 sph))).trans (chg_set (((((r4.setCell ⟨r0.heap.size, 0, none⟩ (.string sh)).setCell ⟨r0.heap.size, 1, none⟩ (.slice Ah nh ch)).setCell ⟨r0.heap.size, 2, none⟩ (.slice Bh mh dh)).setCell ⟨r0.heap.size, 3, none⟩ (.slice Mh qh eh)).setCell ⟨r0.heap.size, 4, none⟩ (.int .i64 sph)) r0.heap.size 5 (.int .i64 Wh))).trans (chg_set ((((((r4.setCell ⟨r0.heap.size, 0, none⟩ (.string sh)).setCell ⟨r0.heap.size, 1, none⟩ (.slice Ah nh ch)).setCell ⟨r0.heap.size, 2, none⟩ (.slice Bh mh dh)).setCell ⟨r0.heap.size, 3, none⟩ (.slice Mh qh eh)).setCell ⟨r0.heap.size, 4, none⟩ (.int .i64 sph)).setCell ⟨r0.heap.size, 5, none⟩ (.int .i64 Wh)) r0.heap.size 6 (.int .i64 th))).trans (chg_set (((((((r4.setCell ⟨r0.heap.size, 0, none⟩ (.string sh)).setCell ⟨r0.heap.size, 1, none⟩ (.slice Ah nh ch)).setCell ⟨r0.heap.size, 2, none⟩ (.slice Bh mh dh)).setCell ⟨r0.heap.size, 3, none⟩ (.slice Mh qh eh)).setCell ⟨r0.heap.size, 4, none⟩ (.int .i64 sph)).setCell ⟨r0.heap.size, 5, none⟩ (.int .i64 Wh)).setCell ⟨r0.heap.size, 6, none⟩ (.int .i64 th)) r0.heap.size 7 (.int .i64 kh))).trans (chg_set ((((((((r4.setCell ⟨r0.heap.size, 0, none⟩ (.string sh)).setCell ⟨r0.heap.size, 1, none⟩ (.slice Ah nh ch)).setCell ⟨r0.heap.size, 2, none⟩ (.slice Bh mh dh)).setCell ⟨r0.heap.size, 3, none⟩ (.slice Mh qh eh)).setCell ⟨r0.heap.size, 4, none⟩ (.int .i64 sph)).setCell ⟨r0.heap.size, 5, none⟩ (.int .i64 Wh)).setCell ⟨r0.heap.size, 6, none⟩ (.int .i64 th)).setCell ⟨r0.heap.size, 7, none⟩ (.int .i64 kh)) r0.heap.size 8 (.slice Lh lh fh))).trans (chg_set (((((((((r4.setCell ⟨r0.heap.size, 0, none⟩ (.string sh)).setCell ⟨r0.heap.size, 1, none⟩ (.slice Ah nh ch)).setCell ⟨r0.heap.size, 2, none⟩ (.slice Bh mh dh)).setCell ⟨r0.heap.size, 3, none⟩ (.slice Mh qh eh)).setCell ⟨r0.heap.size, 4, none⟩ (.int .i64 sph)).setCell ⟨r0.heap.size, 5, none⟩ (.int .i64 Wh)).setCell ⟨r0.heap.size, 6, none⟩ (.int .i64 th)).setCell ⟨r0.heap.size, 7, none⟩ (.int .i64 kh)).setCell ⟨r0.heap.size, 8, none⟩ (.slice Lh lh fh)) r0.heap.size 9 (.slice Th rh gh)))
      rw [hy]
      clear hy
      have sy : r4.heap.size ≤ y.heap.size := hc.size
      have Pry := Pr4.out.chg hc (by omega)
      have Qry := Qr4.out.chg hc (by omega)
      refine hK.out _ _ ⟨blk3 Pry, blk3 Qry⟩ ?_
      clear hK K
      refine plan_step rfl (fun K hK => ?_)
      rw [if_pos (by rfl)]
      go_simp
      refine hK.out _ _ ⟨blk3 Pry, blk3 Qry⟩ ?_
      clear hK K
      refine plan_end ?_
      refine ⟨rfl, sh1, Ah1, nh1, ch1, Bh1, mh1, dh1, sh, Ah, nh, ch, Bh, mh, dh, Mh, qh, eh, sph, Wh, th, kh, Lh, lh, fh, Th, rh, gh, r0.heap.size, r3.heap.size, r4.heap.size, ?_, Xr4.out.chg hc (by unfold Off; omega), ry, by omega, by omega, by omega, by omega, by omega, Dr4.out.trans (hc.below (by omega) |>.mono (by omega))⟩
      first | rfl | (simp only [Act.put, List.setIfInBounds_toArray, List.set_cons_zero, List.set_cons_succ])
  rintro a' w13 ⟨sh1, Ah1, nh1, ch1, Bh1, mh1, dh1, sh, Ah, nh, ch, Bh, mh, dh, Mh, qh, eh, sph, Wh, th, kh, Lh, lh, fh, Th, rh, gh, bh, xh, zh, rfl, hX, hB, hx1, hx2, hx3, hx4, hx5, hb⟩
  simp only [Act.put, List.setIfInBounds_toArray, List.set_cons_zero, List.set_cons_succ]
  have s13 : w12.heap.size ≤ w13.heap.size := hb.size
  have P13 := Lib.hid (P12.out.below hb (by omega))
  have Q13 := Lib.hid (Q12.out.below hb (by omega))
  have T13 := Lib.hid (T12.out.trans (hb.mono (by omega)))
  have V13 := Lib.hid (V12.out.below (by omega) hb)
  have U13 := Lib.hid (U12.out.below hb)
  have BU13 := Lib.hid (BU12.out.below hb (by omega))
  have BF13 := Lib.hid (BF12.out.below hb (by omega))
  have BG13 := Lib.hid (BG12.out.below hb (by omega))
  have H13 := Lib.hid (H12.out.below hb)
  clear P12 Q12 T12 V12 U12 BU12 BF12 BG12 H12 hb
  have yP_13 : w.heap.size < w13.heap.size := by omega
  have yQ_13 : (w.heap.size + 1) < w13.heap.size := by omega
  have yBU_13 : bu < w13.heap.size := by omega
  have yBF_13 : w3.heap.size < w13.heap.size := by omega
  have yBG_13 : bg < w13.heap.size := by omega
  have E13 := Lib.hid (hX)
  have BE13 := Lib.hid (hB)
  have yBE_13 : bh < w13.heap.size := hB.lt
  clear hX hB
  obtain ⟨Pc0, Pc1, Pc2⟩ := blk3 P13.out
  obtain ⟨Qc0, Qc1, Qc2⟩ := blk3 Q13.out
  obtain ⟨BUc0, BUc1, BUc2, BUc3, BUc4, BUc5, BUc6, BUc7, BUc8, BUc9⟩ := BU13.out.ten
  obtain ⟨BFc0, BFc1, BFc2⟩ := blk3 BF13.out
  obtain ⟨BGc0, BGc1, BGc2, BGc3, BGc4, BGc5, BGc6, BGc7, BGc8, BGc9⟩ := BG13.out.ten
  obtain ⟨BEc0, BEc1, BEc2, BEc3, BEc4, BEc5, BEc6, BEc7, BEc8, BEc9⟩ := BE13.out.ten
  go_wp2_with fail
  refine (eqMachine_same _ _ _ _ _ _ Y w13 E13.out.reads U13.out.reads (by omega) (by omega) HSY.out).mono ?_
  rintro e w14 ⟨rfl, hb⟩
  clear Pc0 Pc1 Pc2
  clear Qc0 Qc1 Qc2
  clear BUc0 BUc1 BUc2 BUc3 BUc4 BUc5 BUc6 BUc7 BUc8 BUc9
  clear BFc0 BFc1 BFc2
  clear BGc0 BGc1 BGc2 BGc3 BGc4 BGc5 BGc6 BGc7 BGc8 BGc9
  clear BEc0 BEc1 BEc2 BEc3 BEc4 BEc5 BEc6 BEc7 BEc8 BEc9
  have s14 : w13.heap.size ≤ w14.heap.size := hb.size
  have P14 := Lib.hid (P13.out.below hb (by omega))
  have Q14 := Lib.hid (Q13.out.below hb (by omega))
  have T14 := Lib.hid (T13.out.trans (hb.mono (by omega)))
  have V14 := Lib.hid (V13.out.below (by omega) hb)
  have U14 := Lib.hid (U13.out.below hb)
  have BU14 := Lib.hid (BU13.out.below hb (by omega))
  have BF14 := Lib.hid (BF13.out.below hb (by omega))
  have BG14 := Lib.hid (BG13.out.below hb (by omega))
  have H14 := Lib.hid (H13.out.below hb)
  have E14 := Lib.hid (E13.out.below hb)
  have BE14 := Lib.hid (BE13.out.below hb (by omega))
  clear P13 Q13 T13 V13 U13 BU13 BF13 BG13 H13 E13 BE13 hb
  have yP_14 : w.heap.size < w14.heap.size := by omega
  have yQ_14 : (w.heap.size + 1) < w14.heap.size := by omega
  have yBU_14 : bu < w14.heap.size := by omega
  have yBF_14 : w3.heap.size < w14.heap.size := by omega
  have yBG_14 : bg < w14.heap.size := by omega
  have yBE_14 : bh < w14.heap.size := by omega
  obtain ⟨Pc0, Pc1, Pc2⟩ := blk3 P14.out
  obtain ⟨Qc0, Qc1, Qc2⟩ := blk3 Q14.out
  obtain ⟨BUc0, BUc1, BUc2, BUc3, BUc4, BUc5, BUc6, BUc7, BUc8, BUc9⟩ := BU14.out.ten
  obtain ⟨BFc0, BFc1, BFc2⟩ := blk3 BF14.out
  obtain ⟨BGc0, BGc1, BGc2, BGc3, BGc4, BGc5, BGc6, BGc7, BGc8, BGc9⟩ := BG14.out.ten
  obtain ⟨BEc0, BEc1, BEc2, BEc3, BEc4, BEc5, BEc6, BEc7, BEc8, BEc9⟩ := BE14.out.ten
  go_wp2_with fail
  refine (heldMachine_any _ _ _ Y 1 w14 H14.out.reads (by omega) hYb (by omega) (by omega)).mono ?_
  rintro e w15 ⟨rfl, hb⟩
  clear Pc0 Pc1 Pc2
  clear Qc0 Qc1 Qc2
  clear BUc0 BUc1 BUc2 BUc3 BUc4 BUc5 BUc6 BUc7 BUc8 BUc9
  clear BFc0 BFc1 BFc2
  clear BGc0 BGc1 BGc2 BGc3 BGc4 BGc5 BGc6 BGc7 BGc8 BGc9
  clear BEc0 BEc1 BEc2 BEc3 BEc4 BEc5 BEc6 BEc7 BEc8 BEc9
  have s15 : w14.heap.size ≤ w15.heap.size := hb.size
  have P15 := Lib.hid (P14.out.below hb (by omega))
  have Q15 := Lib.hid (Q14.out.below hb (by omega))
  have T15 := Lib.hid (T14.out.trans (hb.mono (by omega)))
  have V15 := Lib.hid (V14.out.below (by omega) hb)
  have U15 := Lib.hid (U14.out.below hb)
  have BU15 := Lib.hid (BU14.out.below hb (by omega))
  have BF15 := Lib.hid (BF14.out.below hb (by omega))
  have BG15 := Lib.hid (BG14.out.below hb (by omega))
  have H15 := Lib.hid (H14.out.below hb)
  have E15 := Lib.hid (E14.out.below hb)
  have BE15 := Lib.hid (BE14.out.below hb (by omega))
  clear P14 Q14 T14 V14 U14 BU14 BF14 BG14 H14 E14 BE14 hb
  have yP_15 : w.heap.size < w15.heap.size := by omega
  have yQ_15 : (w.heap.size + 1) < w15.heap.size := by omega
  have yBU_15 : bu < w15.heap.size := by omega
  have yBF_15 : w3.heap.size < w15.heap.size := by omega
  have yBG_15 : bg < w15.heap.size := by omega
  have yBE_15 : bh < w15.heap.size := by omega
  obtain ⟨Pc0, Pc1, Pc2⟩ := blk3 P15.out
  obtain ⟨Qc0, Qc1, Qc2⟩ := blk3 Q15.out
  obtain ⟨BUc0, BUc1, BUc2, BUc3, BUc4, BUc5, BUc6, BUc7, BUc8, BUc9⟩ := BU15.out.ten
  obtain ⟨BFc0, BFc1, BFc2⟩ := blk3 BF15.out
  obtain ⟨BGc0, BGc1, BGc2, BGc3, BGc4, BGc5, BGc6, BGc7, BGc8, BGc9⟩ := BG15.out.ten
  obtain ⟨BEc0, BEc1, BEc2, BEc3, BEc4, BEc5, BEc6, BEc7, BEc8, BEc9⟩ := BE15.out.ten
  go_wp2
  go_ret
  exact ⟨rfl, T15.out⟩
end Go.Proofs.Ythoepelgmplcmaa
