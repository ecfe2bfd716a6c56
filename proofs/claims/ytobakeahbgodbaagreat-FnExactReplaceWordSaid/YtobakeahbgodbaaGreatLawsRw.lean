/-
  The exact law of ReplaceWord: its walk. No condition.
-/
import Derived.Test.YtobakeahbgodbaaGreatRepS
import Derived.Test.YtobakeahbgodbaaGreatRepP
import Derived.Test.YtobakeahbgodbaaGreatPkE
import Derived.Test.YtobakeahbgodbaaGreatPkG
import Derived.Test.YtobakeahbgodbaaGreatPkH
import Derived.Test.YtobakeahbgodbaaGreatPkF
import Derived.Test.YtobakeahbgodbaaGreatPkD
import Derived.Test.YtobakeahbgodbaaGreatPkA
namespace Go.Proofs.YtobakeahbgodbaaGreat
open Go.RowKit
set_option linter.unusedVariables false

theorem repD_len (f : Fnt) (m : Msr) (g : List ByteArray) (x : Int) (tx : ByteArray) : ((repA f m g x tx).getD []).length ≤ 1048576 := by
  cases h : repA f m g x tx with
  | none => simp
  | some c =>
    show c.length ≤ 1048576
    unfold repA at h
    split at h
    · unfold repC at h
      split at h
      · cases hs : setA f m (g.take (lnI x (cnts g) 0 0).1) (aplL (repL g (lnI x (cnts g) 0 0).1) (wordsB tx) (x - (lnI x (cnts g) 0 0).2) 1) with
        | none => rw [hs] at h; cases h
        | some d =>
          rw [hs] at h
          have h : (if galB f m d = true then some d else none) = some c := h
          split at h
          · rename_i hg
            injection h with h
            subst h
            have := (galB_parts hg).2.2.2.2.2.1
            omega
          · cases h
      · cases h
    · cases h
set_option maxRecDepth 100000 in
set_option maxHeartbeats 6400000 in
theorem fnExactReplaceWord_walk (lo hi : Nat) (v : Value) (f : Fnt) (ms : Msr) (A1 : Option Addr) (n1 c1 : Nat) (ss : List ByteArray) (x : Int) (tx : ByteArray) (w : World) (h : FontV w lo hi v f) (hhi : hi ≤ w.heap.size) (hn1 : ss.length = n1) (hm1 : n1 ≤ maxLen) (h1 : Strs w A1 ss) (wf1 : ∀ s ∈ ss, s.size ≤ maxLen) (wx : (Lit.int .i64 x).wf = true) (htx : tx.size ≤ maxLen) :
    Calls Tryz.prog 4 #[v, .agg #[.int .i64 ms.w, .int .i64 ms.t, .int .i64 ms.k], .slice A1 n1 c1, .int .i64 x, .string tx] w fun e w' => e = .returned (.bool true) ∧ Below w.heap.size w w' := by
  obtain ⟨W, t, k⟩ := ms
  have N1 := Lib.hid hn1; have WF1 := Lib.hid wf1
  have WX := Lib.hid wx
  obtain ⟨s, hs0⟩ : ∃ s, f.s = s := ⟨_, rfl⟩
  obtain ⟨n, hn⟩ : ∃ n, f.ws.length = n := ⟨_, rfl⟩
  obtain ⟨m, hm⟩ : ∃ m, f.cs.length = m := ⟨_, rfl⟩
  have HSZ := Lib.hid hs0; have HNZ := Lib.hid hn; have HMZ := Lib.hid hm
  obtain ⟨A, c, B, d, rfl⟩ := fontFormF h HSZ HNZ HMZ
  obtain ⟨wa, hwa, hba, hza, Ka⟩ := mxWorld w #[.string s, .slice A n c, .slice B m d] 39
  obtain ⟨w0, hw0, hb0, hz0, K0⟩ := mxWorld wa #[.int .i64 W, .int .i64 t, .int .i64 k] 40
  have T0 := Lib.hid (hba.trans (hb0.mono (B' := w.heap.size) (by omega))); have P0 := Lib.hid (Ka.below hb0 (by omega)); have V0 := Lib.hid (h.below hhi T0.out)
  rw [hza] at K0 hz0
  have Q0 := Lib.hid K0
  have s0 : w.heap.size + 1 < w0.heap.size := by omega
  have I0 := Lib.hid ((StrsB.of h1).keep (Nat.le_refl _) T0.out)
  clear h1 hn1 wf1 wx
  clear h hba hb0 hz0 Ka K0 hs0 hn hm
  obtain ⟨Pc0, Pc1, Pc2⟩ := P0.out.threeF
  obtain ⟨Qc0, Qc1, Qc2⟩ := Q0.out.threeF
  by_cases htz : ¬ tx.size ≤ 1048576
  · have ht9 : decide ((1048576 : Int) < (tx.size : Int)) = true := decide_eq_true (by omega)
    go_enter Tryz.func4, Tryz.ntmps4
    go_wp2_with fail
    all_goals first | (go_ret; exact ⟨rfl, by first | exact T0.out | (rw [hwa, hw0]; exact T0.out) | (rw [hw0]; exact T0.out)⟩) | skip
  have htz : tx.size ≤ 1048576 := by omega
  have ht8 : decide ((1048576 : Int) < (tx.size : Int)) = false := decide_eq_false (by omega)
  by_cases hbig : (1048576 : Int) < f.big
  · have Hk := Lib.hid (takeOff_bad hbig)
    go_enter Tryz.func4, Tryz.ntmps4
    go_wp2_with fail
    clear hwa hw0 hza
    refine (szFont_any lo hi _ f _ w0 V0.out (by omega) (by omega)).mono ?_
    rintro e w1 ⟨rfl, hb1⟩
    rw [Hk.out]
    have T1 := Lib.hid (T0.out.trans (hb1.mono (by omega)))
    clear hb1 Pc0 Pc1 Pc2 Qc0 Qc1 Qc2
    go_wp2
    go_ret
    exact ⟨rfl, T1.out⟩
  have Hk := Lib.hid (takeOff_good hbig)
  have HS := Lib.hid (big_small hbig)
  have hk0 : decide (1048576 - (f.big : Int) < 0) = false := decide_eq_false (by omega)
  have hl0 : 0 ≤ 1048576 - (f.big : Int) := by omega
  have hl1 : 1048576 - (f.big : Int) ≤ 1048576 := by omega
  obtain ⟨left, hleft⟩ : ∃ x, 1048576 - (f.big : Int) = x := ⟨_, rfl⟩
  rw [hleft] at Hk hk0 hl0 hl1
  obtain ⟨q, hq⟩ : ∃ x, szI left ss = x := ⟨_, rfl⟩
  have HQ := Lib.hid hq
  clear hq hleft
  by_cases hq0 : q < 0
  · go_enter Tryz.func4, Tryz.ntmps4
    go_wp2_with fail
    clear hwa hw0 hza
    refine (szFont_any lo hi _ f _ w0 V0.out (by omega) (by omega)).mono ?_
    rintro e w1 ⟨rfl, hb1⟩
    rw [Hk.out]
    have T1 := Lib.hid (T0.out.trans (hb1.mono (by omega)))
    have I1 := Lib.hid (I0.out.keep (by omega) hb1)
    clear hb1 Pc0 Pc1 Pc2 Qc0 Qc1 Qc2
    go_wp2_with fail
    refine (szStringS_any _ _ _ ss left _ N1.out hm1 I1.out.ints WF1.out hl0 hl1).mono ?_
    rintro e w' ⟨rfl, rfl⟩
    rw [HQ.out]
    go_wp2
    go_ret
    exact ⟨rfl, T1.out⟩
  have HZ : Hid (szL ss ≤ 1048576) := by
    show _ ≤ _
    have := szI_good (left := left) (ss := ss) (by rw [HQ.out]; omega)
    omega
  have hn1b : n1 ≤ 1048576 := by have h := HZ.out; unfold szL at h; rw [N1.out] at h; omega
  go_enter Tryz.func4, Tryz.ntmps4
  go_wp2_with fail
  clear hwa hw0 hza
  refine (szFont_any lo hi _ f _ w0 V0.out (by omega) (by omega)).mono ?_
  rintro e w1 ⟨rfl, hb⟩
  rw [Hk.out]
  clear Pc0 Pc1 Pc2
  clear Qc0 Qc1 Qc2
  have s1 : w0.heap.size ≤ w1.heap.size := hb.size
  have P1 := Lib.hid (P0.out.below hb (by omega))
  have Q1 := Lib.hid (Q0.out.below hb (by omega))
  have T1 := Lib.hid (T0.out.trans (hb.mono (by omega)))
  have V1 := Lib.hid (V0.out.below (by omega) hb)
  have I1 := Lib.hid (I0.out.keep (by omega) hb)
  clear P0 Q0 T0 V0 I0
  clear hb
  have yP_1 : w.heap.size < w1.heap.size := by omega
  have yQ_1 : (w.heap.size + 1) < w1.heap.size := by omega
  obtain ⟨Pc0, Pc1, Pc2⟩ := P1.out.threeF
  obtain ⟨Qc0, Qc1, Qc2⟩ := Q1.out.threeF
  go_wp2_with fail
  refine (szStringS_any _ _ _ ss left _ N1.out hm1 I1.out.ints WF1.out hl0 hl1).mono ?_
  rintro e w' ⟨rfl, rfl⟩
  rw [HQ.out]
  obtain ⟨R, hR⟩ : ∃ y, (repA f ⟨W, t, k⟩ ss x tx).getD [] = y := ⟨_, rfl⟩
  obtain ⟨nn, hnn⟩ : ∃ y, R.length = y := ⟨_, rfl⟩
  have hn20 : nn ≤ 1048576 := by rw [← hnn, ← hR]; exact repD_len f _ ss x tx
  obtain ⟨ok, hok⟩ : ∃ y, (repA f ⟨W, t, k⟩ ss x tx).isSome = y := ⟨_, rfl⟩
  have HRe := Lib.hid hR; have HN := Lib.hid hnn; have Hok := Lib.hid hok
  clear hR hnn hok
  have hne : (ok != ok) = false := by simp
  obtain ⟨kk, hkk⟩ : ∃ y, 1 + n + m = y := ⟨_, rfl⟩
  obtain ⟨k2, hk2⟩ : ∃ y, kk + n1 = y := ⟨_, rfl⟩
  have hkkb : kk ≤ 1048577 := by have h1 := HNZ.out; have h2 := HMZ.out; unfold Fnt.big at hbig; omega
  have hkk1 : 1 ≤ kk := by omega
  have HKK := Lib.hid hkk; have HK2 := Lib.hid hk2
  clear hkk hk2
  go_wp2_with fail
  refine wp_region_plan (.take 0 (.take 2 (.take 4 (.take 6 (.take 7 (.one 1 (.one 3 (.one 5 (.one 8 (.take 9 (.take 10 (.take 11 (.take 12 (.take 13 .done)))))))))))))) (fun w' => (w'.cell? ⟨w.heap.size, 0, none⟩ = some (.string s) ∧ w'.cell? ⟨w.heap.size, 1, none⟩ = some (.slice A n c) ∧ w'.cell? ⟨w.heap.size, 2, none⟩ = some (.slice B m d)) ∧ (w'.cell? ⟨(w.heap.size + 1), 0, none⟩ = some (.int .i64 W) ∧ w'.cell? ⟨(w.heap.size + 1), 1, none⟩ = some (.int .i64 t) ∧ w'.cell? ⟨(w.heap.size + 1), 2, none⟩ = some (.int .i64 k))) (by kernel_rfl) (by kernel_rfl) (by kernel_rfl) (by intro c a d v w h; cases d <;> exact h) ⟨P1.out.threeF, Q1.out.threeF⟩ ?_
  clear Pc0 Pc1 Pc2
  clear Qc0 Qc1 Qc2
  refine plan_quiet rfl (by rfl) (v := ?_) ?_ ?_; rotate_left; (intro w1 hSw; obtain ⟨⟨h0, h1, h2⟩, ⟨h3, h4, h5⟩⟩ := hSw; go_simp; try (with_reducible rfl)); (try simp only [Act.put, List.setIfInBounds_toArray, List.set_cons_zero, List.set_cons_succ])
  refine plan_quiet rfl (by rfl) (v := ?_) ?_ ?_; rotate_left; (intro w1 hSw; obtain ⟨⟨h0, h1, h2⟩, ⟨h3, h4, h5⟩⟩ := hSw; go_simp; try (with_reducible rfl)); (try simp only [Act.put, List.setIfInBounds_toArray, List.set_cons_zero, List.set_cons_succ])
  refine plan_quiet rfl (by rfl) (v := ?_) ?_ ?_; rotate_left; (intro w1 hSw; obtain ⟨⟨h0, h1, h2⟩, ⟨h3, h4, h5⟩⟩ := hSw; go_simp; try (with_reducible rfl)); (try simp only [Act.put, List.setIfInBounds_toArray, List.set_cons_zero, List.set_cons_succ])
  refine plan_quiet rfl (by rfl) (v := ?_) ?_ ?_; rotate_left; (intro w1 hSw; obtain ⟨⟨h0, h1, h2⟩, ⟨h3, h4, h5⟩⟩ := hSw; go_simp; try (with_reducible rfl)); (try simp only [Act.put, List.setIfInBounds_toArray, List.set_cons_zero, List.set_cons_succ])
  refine plan_quiet rfl (by rfl) (v := ?_) ?_ ?_; rotate_left; (intro w1 hSw; obtain ⟨⟨h0, h1, h2⟩, ⟨h3, h4, h5⟩⟩ := hSw; go_simp; try (with_reducible rfl)); (try simp only [Act.put, List.setIfInBounds_toArray, List.set_cons_zero, List.set_cons_succ])
  refine plan_step rfl (fun K hK => ?_)
  rw [if_pos (by rfl)]
  go_simp
  have hd : Below w1.heap.size w1 w1.drew := (Below.refl _ _).drew
  refine (toFont_any lo hi _ f w1.drew (V1.out.below (B := w1.heap.size) (by omega) hd) (by show hi ≤ w1.heap.size; omega) HS.out).mono ?_
  rintro e w2 ⟨vs, rfl, hO, hb'⟩
  have hb := undrew hb'
  clear hb' hd
  obtain ⟨As, cs, Bs, ds, rfl⟩ := fontFormF hO.font HSZ HNZ HMZ
  have s2 : w1.heap.size ≤ w2.heap.size := hb.size
  have P2 := Lib.hid (P1.out.below hb (by omega))
  have Q2 := Lib.hid (Q1.out.below hb (by omega))
  have T2 := Lib.hid (T1.out.trans (hb.mono (by omega)))
  have V2 := Lib.hid (V1.out.below (by omega) hb)
  have I2 := Lib.hid (I1.out.keep (by omega) hb)
  clear P1 Q1 T1 V1 I1
  clear hb
  have yP_2 : w.heap.size < w2.heap.size := by omega
  have yQ_2 : (w.heap.size + 1) < w2.heap.size := by omega
  have S02 := Lib.hid (hO)
  clear hO
  refine hK.out _ _ ⟨P2.out.threeF, Q2.out.threeF⟩ ?_
  clear hK K
  refine plan_step rfl (fun K hK => ?_)
  rw [if_pos (by rfl)]
  go_simp
  refine (toMeasure_any W t k w2).mono ?_
  rintro e w3 ⟨rfl, hb⟩
  have s3 : w2.heap.size ≤ w3.heap.size := hb.size
  have P3 := Lib.hid (P2.out.below hb (by omega))
  have Q3 := Lib.hid (Q2.out.below hb (by omega))
  have T3 := Lib.hid (T2.out.trans (hb.mono (by omega)))
  have V3 := Lib.hid (V2.out.below (by omega) hb)
  have I3 := Lib.hid (I2.out.keep (by omega) hb)
  have S03 := Lib.hid (S02.out.below hb)
  clear P2 Q2 T2 V2 I2 S02
  clear hb
  have yP_3 : w.heap.size < w3.heap.size := by omega
  have yQ_3 : (w.heap.size + 1) < w3.heap.size := by omega
  refine hK.out _ _ ⟨P3.out.threeF, Q3.out.threeF⟩ ?_
  clear hK K
  refine plan_step rfl (fun K hK => ?_)
  rw [if_pos (by rfl)]
  go_simp
  refine (toStringS_o _ _ _ ss w3 N1.out hn1b I3.out.ints).mono ?_
  rintro e w4 ⟨Ay, cy, rfl, hO, h1y, h2y, hb⟩
  have Y0t := fun k hk => World.ownsRow.lt hO k hk
  have s4 : w3.heap.size ≤ w4.heap.size := hb.size
  have P4 := Lib.hid (P3.out.below hb (by omega))
  have Q4 := Lib.hid (Q3.out.below hb (by omega))
  have T4 := Lib.hid (T3.out.trans (hb.mono (by omega)))
  have V4 := Lib.hid (V3.out.below (by omega) hb)
  have I4 := Lib.hid (I3.out.keep (by omega) hb)
  have S04 := Lib.hid (S03.out.below hb)
  clear P3 Q3 T3 V3 I3 S03
  clear hb
  have yP_4 : w.heap.size < w4.heap.size := by omega
  have yQ_4 : (w.heap.size + 1) < w4.heap.size := by omega
  have Y04 := Lib.hid (hO)
  clear hO
  refine hK.out _ _ ⟨P4.out.threeF, Q4.out.threeF⟩ ?_
  clear hK K
  refine plan_step rfl (fun K hK => ?_)
  rw [if_pos (by rfl)]
  go_simp
  refine (specRep_any _ _ _ f W t k _ _ _ ss x tx w4 S04.out.font (by omega) HS.out N1.out HZ.out h1y h2y (owns_read Y04.out) WX.out htz).mono ?_
  rintro e w5 ⟨u, rfl, hO, hb⟩
  rw [HRe.out] at hO
  rw [Hok.out]
  obtain ⟨Au, cu, rfl, -, -, -, -⟩ := hO.form
  have Ut := fun k hk => World.ownsRow.lt hO k hk
  rw [HN.out] at Ut hO ⊢
  have s5 : w4.heap.size ≤ w5.heap.size := hb.size
  have P5 := Lib.hid (P4.out.below hb (by omega))
  have Q5 := Lib.hid (Q4.out.below hb (by omega))
  have T5 := Lib.hid (T4.out.trans (hb.mono (by omega)))
  have V5 := Lib.hid (V4.out.below (by omega) hb)
  have I5 := Lib.hid (I4.out.keep (by omega) hb)
  have S05 := Lib.hid (S04.out.below hb)
  have Y05 := Lib.hid (Y04.out.below hb)
  clear P4 Q4 T4 V4 I4 S04 Y04
  clear hb
  have yP_5 : w.heap.size < w5.heap.size := by omega
  have yQ_5 : (w.heap.size + 1) < w5.heap.size := by omega
  have U5 := Lib.hid (hO)
  clear hO
  refine hK.out _ _ ⟨P5.out.threeF, Q5.out.threeF⟩ ?_
  clear hK K
  refine plan_quiet rfl (by rfl) (v := ?_) ?_ ?_; rotate_left; (intro w1 hSw; obtain ⟨⟨h0, h1, h2⟩, ⟨h3, h4, h5⟩⟩ := hSw; go_simp; try (with_reducible rfl)); (try simp only [Act.put, List.setIfInBounds_toArray, List.set_cons_zero, List.set_cons_succ])
  refine plan_quiet rfl (by rfl) (v := ?_) ?_ ?_; rotate_left; (intro w1 hSw; obtain ⟨⟨h0, h1, h2⟩, ⟨h3, h4, h5⟩⟩ := hSw; go_simp; try (with_reducible rfl)); (try simp only [Act.put, List.setIfInBounds_toArray, List.set_cons_zero, List.set_cons_succ])
  refine plan_quiet rfl (by rfl) (v := ?_) ?_ ?_; rotate_left; (intro w1 hSw; obtain ⟨⟨h0, h1, h2⟩, ⟨h3, h4, h5⟩⟩ := hSw; go_simp; try (with_reducible rfl)); (try simp only [Act.put, List.setIfInBounds_toArray, List.set_cons_zero, List.set_cons_succ])
  refine plan_quiet rfl (by rfl) (v := ?_) ?_ ?_; rotate_left; (intro w1 hSw; obtain ⟨⟨h0, h1, h2⟩, ⟨h3, h4, h5⟩⟩ := hSw; go_simp; try (with_reducible rfl)); (try simp only [Act.put, List.setIfInBounds_toArray, List.set_cons_zero, List.set_cons_succ])
  refine plan_quiet rfl (by rfl) (v := ?_) ?_ ?_; rotate_left; (intro w1 hSw; obtain ⟨⟨h0, h1, h2⟩, ⟨h3, h4, h5⟩⟩ := hSw; go_simp; try (with_reducible rfl)); (try simp only [Act.put, List.setIfInBounds_toArray, List.set_cons_zero, List.set_cons_succ])
  refine plan_end ?_
  obtain ⟨Pc0, Pc1, Pc2⟩ := P5.out.threeF
  obtain ⟨Qc0, Qc1, Qc2⟩ := Q5.out.threeF
  clear S05
  clear Y05
  go_wp2_with fail
  refine (toFont_any lo hi _ f w5 V5.out (by omega) HS.out).mono ?_
  rintro e w6 ⟨vx, rfl, hO, hb⟩
  obtain ⟨Ax, cx, Bx, dx, rfl⟩ := fontFormF hO.font HSZ HNZ HMZ
  clear Pc0 Pc1 Pc2
  clear Qc0 Qc1 Qc2
  have s6 : w5.heap.size ≤ w6.heap.size := hb.size
  have P6 := Lib.hid (P5.out.below hb (by omega))
  have Q6 := Lib.hid (Q5.out.below hb (by omega))
  have T6 := Lib.hid (T5.out.trans (hb.mono (by omega)))
  have V6 := Lib.hid (V5.out.below (by omega) hb)
  have I6 := Lib.hid (I5.out.keep (by omega) hb)
  have U6 := Lib.hid (U5.out.below hb)
  clear P5 Q5 T5 V5 I5 U5
  clear hb
  have yP_6 : w.heap.size < w6.heap.size := by omega
  have yQ_6 : (w.heap.size + 1) < w6.heap.size := by omega
  have X6 := Lib.hid (hO)
  clear hO
  obtain ⟨Pc0, Pc1, Pc2⟩ := P6.out.threeF
  obtain ⟨Qc0, Qc1, Qc2⟩ := Q6.out.threeF
  go_wp2_with fail
  obtain ⟨w7, hw, hb, hz, hK⟩ := mxWorld w6 #[.string s, .slice Ax n cx, .slice Bx m dx] 25
  rw [hw]
  clear hw hz
  clear Pc0 Pc1 Pc2
  clear Qc0 Qc1 Qc2
  have s7 : w6.heap.size ≤ w7.heap.size := hb.size
  have P7 := Lib.hid (P6.out.below hb (by omega))
  have Q7 := Lib.hid (Q6.out.below hb (by omega))
  have T7 := Lib.hid (T6.out.trans (hb.mono (by omega)))
  have V7 := Lib.hid (V6.out.below (by omega) hb)
  have I7 := Lib.hid (I6.out.keep (by omega) hb)
  have U7 := Lib.hid (U6.out.below hb)
  have X7 := Lib.hid (X6.out.below hb)
  clear P6 Q6 T6 V6 I6 U6 X6
  clear hb
  have yP_7 : w.heap.size < w7.heap.size := by omega
  have yQ_7 : (w.heap.size + 1) < w7.heap.size := by omega
  have J7 := Lib.hid (hK)
  have yJ : w6.heap.size < w7.heap.size := hK.lt
  clear hK
  obtain ⟨Pc0, Pc1, Pc2⟩ := P7.out.threeF
  obtain ⟨Qc0, Qc1, Qc2⟩ := Q7.out.threeF
  obtain ⟨Jc0, Jc1, Jc2⟩ := J7.out.threeF
  go_wp2_with fail
  refine (toStringS_o _ _ _ ss w7 N1.out hn1b I7.out.ints).mono ?_
  rintro e w8 ⟨Av, cv, rfl, hO, h1v, h2v, hb⟩
  have Dt := fun k hk => World.ownsRow.lt hO k hk
  clear Pc0 Pc1 Pc2
  clear Qc0 Qc1 Qc2
  clear Jc0 Jc1 Jc2
  have s8 : w7.heap.size ≤ w8.heap.size := hb.size
  have P8 := Lib.hid (P7.out.below hb (by omega))
  have Q8 := Lib.hid (Q7.out.below hb (by omega))
  have T8 := Lib.hid (T7.out.trans (hb.mono (by omega)))
  have V8 := Lib.hid (V7.out.below (by omega) hb)
  have I8 := Lib.hid (I7.out.keep (by omega) hb)
  have U8 := Lib.hid (U7.out.below hb)
  have X8 := Lib.hid (X7.out.below hb)
  have J8 := Lib.hid (J7.out.below hb (by omega))
  clear P7 Q7 T7 V7 I7 U7 X7 J7
  clear hb
  have yP_8 : w.heap.size < w8.heap.size := by omega
  have yQ_8 : (w.heap.size + 1) < w8.heap.size := by omega
  have yJ_8 : w6.heap.size < w8.heap.size := by omega
  have D8 := Lib.hid (hO)
  clear hO
  obtain ⟨Pc0, Pc1, Pc2⟩ := P8.out.threeF
  obtain ⟨Qc0, Qc1, Qc2⟩ := Q8.out.threeF
  obtain ⟨Jc0, Jc1, Jc2⟩ := J8.out.threeF
  go_wp2_with fail
  refine wp_region_plan (.take 0 (.take 1 (.take 3 (.take 4 (.take 5 (.one 2 (.one 6 (.take 7 (.take 8 (.take 9 (.take 10 (.take 11 .done)))))))))))) (fun w' => (w'.cell? ⟨w6.heap.size, 0, none⟩ = some (.string s) ∧ w'.cell? ⟨w6.heap.size, 1, none⟩ = some (.slice Ax n cx) ∧ w'.cell? ⟨w6.heap.size, 2, none⟩ = some (.slice Bx m dx)) ∧ (w'.cell? ⟨(w.heap.size + 1), 0, none⟩ = some (.int .i64 W) ∧ w'.cell? ⟨(w.heap.size + 1), 1, none⟩ = some (.int .i64 t) ∧ w'.cell? ⟨(w.heap.size + 1), 2, none⟩ = some (.int .i64 k))) (by kernel_rfl) (by kernel_rfl) (by kernel_rfl) (by intro c a d v w h; cases d <;> exact h) ⟨J8.out.threeF, Q8.out.threeF⟩ ?_
  clear Pc0 Pc1 Pc2
  clear Qc0 Qc1 Qc2
  clear Jc0 Jc1 Jc2
  refine plan_quiet rfl (by rfl) (v := ?_) ?_ ?_; rotate_left; (intro w1 hSw; obtain ⟨⟨h0, h1, h2⟩, ⟨h3, h4, h5⟩⟩ := hSw; go_simp; try (with_reducible rfl)); (try simp only [Act.put, List.setIfInBounds_toArray, List.set_cons_zero, List.set_cons_succ])
  refine plan_quiet rfl (by rfl) (v := ?_) ?_ ?_; rotate_left; (intro w1 hSw; obtain ⟨⟨h0, h1, h2⟩, ⟨h3, h4, h5⟩⟩ := hSw; go_simp; try (with_reducible rfl)); (try simp only [Act.put, List.setIfInBounds_toArray, List.set_cons_zero, List.set_cons_succ])
  refine plan_quiet rfl (by rfl) (v := ?_) ?_ ?_; rotate_left; (intro w1 hSw; obtain ⟨⟨h0, h1, h2⟩, ⟨h3, h4, h5⟩⟩ := hSw; go_simp; try (with_reducible rfl)); (try simp only [Act.put, List.setIfInBounds_toArray, List.set_cons_zero, List.set_cons_succ])
  refine plan_quiet rfl (by rfl) (v := ?_) ?_ ?_; rotate_left; (intro w1 hSw; obtain ⟨⟨h0, h1, h2⟩, ⟨h3, h4, h5⟩⟩ := hSw; go_simp; try (with_reducible rfl)); (try simp only [Act.put, List.setIfInBounds_toArray, List.set_cons_zero, List.set_cons_succ])
  refine plan_quiet rfl (by rfl) (v := ?_) ?_ ?_; rotate_left; (intro w1 hSw; obtain ⟨⟨h0, h1, h2⟩, ⟨h3, h4, h5⟩⟩ := hSw; go_simp; try (with_reducible rfl)); (try simp only [Act.put, List.setIfInBounds_toArray, List.set_cons_zero, List.set_cons_succ])
  refine plan_step rfl (fun K hK => ?_)
  rw [if_pos (by rfl)]
  go_simp
  have hd : Below w8.heap.size w8 w8.drew := (Below.refl _ _).drew
  refine (toMeasure_any W t k w8.drew).mono ?_
  rintro e w9 ⟨rfl, hb'⟩
  have hb := undrew hb'
  clear hb' hd
  have s9 : w8.heap.size ≤ w9.heap.size := hb.size
  have P9 := Lib.hid (P8.out.below hb (by omega))
  have Q9 := Lib.hid (Q8.out.below hb (by omega))
  have T9 := Lib.hid (T8.out.trans (hb.mono (by omega)))
  have V9 := Lib.hid (V8.out.below (by omega) hb)
  have I9 := Lib.hid (I8.out.keep (by omega) hb)
  have U9 := Lib.hid (U8.out.below hb)
  have X9 := Lib.hid (X8.out.below hb)
  have J9 := Lib.hid (J8.out.below hb (by omega))
  have D9 := Lib.hid (D8.out.below hb)
  clear P8 Q8 T8 V8 I8 U8 X8 J8 D8
  clear hb
  have yP_9 : w.heap.size < w9.heap.size := by omega
  have yQ_9 : (w.heap.size + 1) < w9.heap.size := by omega
  have yJ_9 : w6.heap.size < w9.heap.size := by omega
  refine hK.out _ _ ⟨J9.out.threeF, Q9.out.threeF⟩ ?_
  clear hK K
  refine plan_step rfl (fun K hK => ?_)
  rw [if_pos (by rfl)]
  go_simp
  refine (implRep_any _ _ _ _ f W t k _ _ _ ss x tx w9 X9.out.font (by omega) HS.out N1.out HZ.out D9.out WX.out htz).mono ?_
  rintro e w10 ⟨u, rfl, hO, hb⟩
  rw [HRe.out] at hO
  rw [Hok.out]
  obtain ⟨Ag, cg, rfl, -, -, -, -⟩ := hO.form
  have Gt := fun k hk => World.ownsRow.lt hO k hk
  rw [HN.out] at Gt hO ⊢
  have s10 : w9.heap.size ≤ w10.heap.size := hb.size
  have P10 := Lib.hid (P9.out.below hb (by omega))
  have Q10 := Lib.hid (Q9.out.below hb (by omega))
  have T10 := Lib.hid (T9.out.trans (hb.mono (by omega)))
  have V10 := Lib.hid (V9.out.below (by omega) hb)
  have I10 := Lib.hid (I9.out.keep (by omega) hb)
  have U10 := Lib.hid (U9.out.below hb)
  have X10 := Lib.hid (X9.out.below hb)
  have J10 := Lib.hid (J9.out.below hb (by omega))
  have D10 := Lib.hid (D9.out.below hb)
  clear P9 Q9 T9 V9 I9 U9 X9 J9 D9
  clear hb
  have yP_10 : w.heap.size < w10.heap.size := by omega
  have yQ_10 : (w.heap.size + 1) < w10.heap.size := by omega
  have yJ_10 : w6.heap.size < w10.heap.size := by omega
  have G10 := Lib.hid (hO)
  clear hO
  refine hK.out _ _ ⟨J10.out.threeF, Q10.out.threeF⟩ ?_
  clear hK K
  refine plan_quiet rfl (by rfl) (v := ?_) ?_ ?_; rotate_left; (intro w1 hSw; obtain ⟨⟨h0, h1, h2⟩, ⟨h3, h4, h5⟩⟩ := hSw; go_simp; try (with_reducible rfl)); (try simp only [Act.put, List.setIfInBounds_toArray, List.set_cons_zero, List.set_cons_succ])
  refine plan_quiet rfl (by rfl) (v := ?_) ?_ ?_; rotate_left; (intro w1 hSw; obtain ⟨⟨h0, h1, h2⟩, ⟨h3, h4, h5⟩⟩ := hSw; go_simp; try (with_reducible rfl)); (try simp only [Act.put, List.setIfInBounds_toArray, List.set_cons_zero, List.set_cons_succ])
  refine plan_quiet rfl (by rfl) (v := ?_) ?_ ?_; rotate_left; (intro w1 hSw; obtain ⟨⟨h0, h1, h2⟩, ⟨h3, h4, h5⟩⟩ := hSw; go_simp; try (with_reducible rfl)); (try simp only [Act.put, List.setIfInBounds_toArray, List.set_cons_zero, List.set_cons_succ])
  refine plan_quiet rfl (by rfl) (v := ?_) ?_ ?_; rotate_left; (intro w1 hSw; obtain ⟨⟨h0, h1, h2⟩, ⟨h3, h4, h5⟩⟩ := hSw; go_simp; try (with_reducible rfl)); (try simp only [Act.put, List.setIfInBounds_toArray, List.set_cons_zero, List.set_cons_succ])
  refine plan_quiet rfl (by rfl) (v := ?_) ?_ ?_; rotate_left; (intro w1 hSw; obtain ⟨⟨h0, h1, h2⟩, ⟨h3, h4, h5⟩⟩ := hSw; go_simp; try (with_reducible rfl)); (try simp only [Act.put, List.setIfInBounds_toArray, List.set_cons_zero, List.set_cons_succ])
  refine plan_end ?_
  obtain ⟨Pc0, Pc1, Pc2⟩ := P10.out.threeF
  obtain ⟨Qc0, Qc1, Qc2⟩ := Q10.out.threeF
  obtain ⟨Jc0, Jc1, Jc2⟩ := J10.out.threeF
  go_wp2_with fail
  refine (eqStringS_t _ _ _ _ _ R w10 HN.out hn20 (owns_read G10.out) (owns_read U10.out)).mono ?_
  rintro e w11 ⟨rfl, hb⟩
  clear Pc0 Pc1 Pc2
  clear Qc0 Qc1 Qc2
  clear Jc0 Jc1 Jc2
  have s11 : w10.heap.size ≤ w11.heap.size := hb.size
  have P11 := Lib.hid (P10.out.below hb (by omega))
  have Q11 := Lib.hid (Q10.out.below hb (by omega))
  have T11 := Lib.hid (T10.out.trans (hb.mono (by omega)))
  have V11 := Lib.hid (V10.out.below (by omega) hb)
  have I11 := Lib.hid (I10.out.keep (by omega) hb)
  have U11 := Lib.hid (U10.out.below hb)
  have X11 := Lib.hid (X10.out.below hb)
  have J11 := Lib.hid (J10.out.below hb (by omega))
  have D11 := Lib.hid (D10.out.below hb)
  have G11 := Lib.hid (G10.out.below hb)
  clear P10 Q10 T10 V10 I10 U10 X10 J10 D10 G10
  clear hb
  have yP_11 : w.heap.size < w11.heap.size := by omega
  have yQ_11 : (w.heap.size + 1) < w11.heap.size := by omega
  have yJ_11 : w6.heap.size < w11.heap.size := by omega
  obtain ⟨Pc0, Pc1, Pc2⟩ := P11.out.threeF
  obtain ⟨Qc0, Qc1, Qc2⟩ := Q11.out.threeF
  obtain ⟨Jc0, Jc1, Jc2⟩ := J11.out.threeF
  go_wp2_with fail
  refine wp_region_plan (.take 0 (.take 1 (.one 2 (.one 3 (.one 4 .done))))) (fun w' => (w'.cell? ⟨w6.heap.size, 0, none⟩ = some (.string s) ∧ w'.cell? ⟨w6.heap.size, 1, none⟩ = some (.slice Ax n cx) ∧ w'.cell? ⟨w6.heap.size, 2, none⟩ = some (.slice Bx m dx)) ∧ (w'.cell? ⟨w.heap.size, 0, none⟩ = some (.string s) ∧ w'.cell? ⟨w.heap.size, 1, none⟩ = some (.slice A n c) ∧ w'.cell? ⟨w.heap.size, 2, none⟩ = some (.slice B m d))) (by kernel_rfl) (by kernel_rfl) (by kernel_rfl) (by intro c a d v w h; cases d <;> exact h) ⟨J11.out.threeF, P11.out.threeF⟩ ?_
  clear Pc0 Pc1 Pc2
  clear Qc0 Qc1 Qc2
  clear Jc0 Jc1 Jc2
  refine plan_quiet rfl (by rfl) (v := ?_) ?_ ?_; rotate_left; (intro w1 hSw; obtain ⟨⟨h0, h1, h2⟩, ⟨h3, h4, h5⟩⟩ := hSw; go_simp; try (with_reducible rfl)); (try simp only [Act.put, List.setIfInBounds_toArray, List.set_cons_zero, List.set_cons_succ])
  refine plan_quiet rfl (by rfl) (v := ?_) ?_ ?_; rotate_left; (intro w1 hSw; obtain ⟨⟨h0, h1, h2⟩, ⟨h3, h4, h5⟩⟩ := hSw; go_simp; try (with_reducible rfl)); (try simp only [Act.put, List.setIfInBounds_toArray, List.set_cons_zero, List.set_cons_succ])
  refine plan_step rfl (fun K hK => ?_)
  rw [if_pos (by rfl)]
  go_simp
  have hd : Below w11.heap.size w11 w11.drew := (Below.refl _ _).drew
  refine (toFont_any lo hi _ f w11.drew (V11.out.below (B := w11.heap.size) (by omega) hd) (by show hi ≤ w11.heap.size; omega) HS.out).mono ?_
  rintro e w12 ⟨vz, rfl, hO, hb'⟩
  have hb := undrew hb'
  clear hb' hd
  obtain ⟨Az, cz, Bz, dz, rfl⟩ := fontFormF hO.font HSZ HNZ HMZ
  have s12 : w11.heap.size ≤ w12.heap.size := hb.size
  have P12 := Lib.hid (P11.out.below hb (by omega))
  have Q12 := Lib.hid (Q11.out.below hb (by omega))
  have T12 := Lib.hid (T11.out.trans (hb.mono (by omega)))
  have V12 := Lib.hid (V11.out.below (by omega) hb)
  have I12 := Lib.hid (I11.out.keep (by omega) hb)
  have U12 := Lib.hid (U11.out.below hb)
  have X12 := Lib.hid (X11.out.below hb)
  have J12 := Lib.hid (J11.out.below hb (by omega))
  have D12 := Lib.hid (D11.out.below hb)
  have G12 := Lib.hid (G11.out.below hb)
  clear P11 Q11 T11 V11 I11 U11 X11 J11 D11 G11
  clear hb
  have yP_12 : w.heap.size < w12.heap.size := by omega
  have yQ_12 : (w.heap.size + 1) < w12.heap.size := by omega
  have yJ_12 : w6.heap.size < w12.heap.size := by omega
  have Z12 := Lib.hid (hO)
  clear hO
  refine hK.out _ _ ⟨J12.out.threeF, P12.out.threeF⟩ ?_
  clear hK K
  refine plan_step rfl (fun K hK => ?_)
  rw [if_pos (by rfl)]
  go_simp
  refine (eqFont_same _ _ _ _ _ _ f w12 X12.out.font Z12.out.font (by omega) (by omega) HS.out).mono ?_
  rintro e w13 ⟨rfl, hb⟩
  have s13 : w12.heap.size ≤ w13.heap.size := hb.size
  have P13 := Lib.hid (P12.out.below hb (by omega))
  have Q13 := Lib.hid (Q12.out.below hb (by omega))
  have T13 := Lib.hid (T12.out.trans (hb.mono (by omega)))
  have V13 := Lib.hid (V12.out.below (by omega) hb)
  have I13 := Lib.hid (I12.out.keep (by omega) hb)
  have U13 := Lib.hid (U12.out.below hb)
  have X13 := Lib.hid (X12.out.below hb)
  have J13 := Lib.hid (J12.out.below hb (by omega))
  have D13 := Lib.hid (D12.out.below hb)
  have G13 := Lib.hid (G12.out.below hb)
  have Z13 := Lib.hid (Z12.out.below hb)
  clear P12 Q12 T12 V12 I12 U12 X12 J12 D12 G12 Z12
  clear hb
  have yP_13 : w.heap.size < w13.heap.size := by omega
  have yQ_13 : (w.heap.size + 1) < w13.heap.size := by omega
  have yJ_13 : w6.heap.size < w13.heap.size := by omega
  refine hK.out _ _ ⟨J13.out.threeF, P13.out.threeF⟩ ?_
  clear hK K
  refine plan_step rfl (fun K hK => ?_)
  rw [if_pos (by rfl)]
  go_simp
  refine hK.out _ _ ⟨J13.out.threeF, P13.out.threeF⟩ ?_
  clear hK K
  refine plan_end ?_
  obtain ⟨Pc0, Pc1, Pc2⟩ := P13.out.threeF
  obtain ⟨Qc0, Qc1, Qc2⟩ := Q13.out.threeF
  obtain ⟨Jc0, Jc1, Jc2⟩ := J13.out.threeF
  clear Z13
  go_wp2_with fail
  refine (toStringS_o _ _ _ ss w13 N1.out hn1b I13.out.ints).mono ?_
  rintro e w14 ⟨Ae, ce, rfl, hO, h1e, h2e, hb⟩
  have Et := fun k hk => World.ownsRow.lt hO k hk
  clear Pc0 Pc1 Pc2
  clear Qc0 Qc1 Qc2
  clear Jc0 Jc1 Jc2
  have s14 : w13.heap.size ≤ w14.heap.size := hb.size
  have P14 := Lib.hid (P13.out.below hb (by omega))
  have Q14 := Lib.hid (Q13.out.below hb (by omega))
  have T14 := Lib.hid (T13.out.trans (hb.mono (by omega)))
  have V14 := Lib.hid (V13.out.below (by omega) hb)
  have I14 := Lib.hid (I13.out.keep (by omega) hb)
  have U14 := Lib.hid (U13.out.below hb)
  have X14 := Lib.hid (X13.out.below hb)
  have J14 := Lib.hid (J13.out.below hb (by omega))
  have D14 := Lib.hid (D13.out.below hb)
  have G14 := Lib.hid (G13.out.below hb)
  clear P13 Q13 T13 V13 I13 U13 X13 J13 D13 G13
  clear hb
  have yP_14 : w.heap.size < w14.heap.size := by omega
  have yQ_14 : (w.heap.size + 1) < w14.heap.size := by omega
  have yJ_14 : w6.heap.size < w14.heap.size := by omega
  have E14 := Lib.hid (hO)
  clear hO
  obtain ⟨Pc0, Pc1, Pc2⟩ := P14.out.threeF
  obtain ⟨Qc0, Qc1, Qc2⟩ := Q14.out.threeF
  obtain ⟨Jc0, Jc1, Jc2⟩ := J14.out.threeF
  go_wp2_with fail
  refine (eqStringS_t _ _ _ _ _ ss w14 N1.out hn1b (owns_read D14.out) (owns_read E14.out)).mono ?_
  rintro e w15 ⟨rfl, hb⟩
  clear Pc0 Pc1 Pc2
  clear Qc0 Qc1 Qc2
  clear Jc0 Jc1 Jc2
  have s15 : w14.heap.size ≤ w15.heap.size := hb.size
  have P15 := Lib.hid (P14.out.below hb (by omega))
  have Q15 := Lib.hid (Q14.out.below hb (by omega))
  have T15 := Lib.hid (T14.out.trans (hb.mono (by omega)))
  have V15 := Lib.hid (V14.out.below (by omega) hb)
  have I15 := Lib.hid (I14.out.keep (by omega) hb)
  have U15 := Lib.hid (U14.out.below hb)
  have X15 := Lib.hid (X14.out.below hb)
  have J15 := Lib.hid (J14.out.below hb (by omega))
  have D15 := Lib.hid (D14.out.below hb)
  have G15 := Lib.hid (G14.out.below hb)
  have E15 := Lib.hid (E14.out.below hb)
  clear P14 Q14 T14 V14 I14 U14 X14 J14 D14 G14 E14
  clear hb
  have yP_15 : w.heap.size < w15.heap.size := by omega
  have yQ_15 : (w.heap.size + 1) < w15.heap.size := by omega
  have yJ_15 : w6.heap.size < w15.heap.size := by omega
  obtain ⟨Pc0, Pc1, Pc2⟩ := P15.out.threeF
  obtain ⟨Qc0, Qc1, Qc2⟩ := Q15.out.threeF
  obtain ⟨Jc0, Jc1, Jc2⟩ := J15.out.threeF
  clear E15
  go_wp2_with fail
  refine (markFont_wide _ _ _ f 1 w15 X15.out (by omega) (by omega) HS.out (by omega) (by omega)).mono ?_
  rintro e w16 ⟨rfl, hc⟩
  rw [HNZ.out, HMZ.out, show (1 : Int) + (n : Int) + (m : Int) = (kk : Int) by have := HKK.out; omega]
  clear X15
  clear Pc0 Pc1 Pc2
  clear Qc0 Qc1 Qc2
  clear Jc0 Jc1 Jc2
  have s16 : w15.heap.size ≤ w16.heap.size := hc.size
  have P16 := Lib.hid (P15.out.chg hc (by omega))
  have Q16 := Lib.hid (Q15.out.chg hc (by omega))
  have T16 := Lib.hid (T15.out.trans ((hc.below (by omega)).mono (by omega)))
  have V16 := Lib.hid (V15.out.chg hc (by omega) (by omega))
  have I16 := Lib.hid (I15.out.keep (by omega) (hc.below (by omega)))
  have U16 := Lib.hid (chg_ownS hc U15.out (fun x hx => by have := Ut x hx; omega))
  have J16 := Lib.hid (J15.out.chg hc (by omega))
  have D16 := Lib.hid (chg_ownS hc D15.out (fun x hx => by have := Dt x hx; omega))
  have G16 := Lib.hid (chg_ownS hc G15.out (fun x hx => by have := Gt x hx; omega))
  clear P15 Q15 T15 V15 I15 U15 J15 D15 G15
  clear hc
  have yP_16 : w.heap.size < w16.heap.size := by omega
  have yQ_16 : (w.heap.size + 1) < w16.heap.size := by omega
  have yJ_16 : w6.heap.size < w16.heap.size := by omega
  obtain ⟨Pc0, Pc1, Pc2⟩ := P16.out.threeF
  obtain ⟨Qc0, Qc1, Qc2⟩ := Q16.out.threeF
  obtain ⟨Jc0, Jc1, Jc2⟩ := J16.out.threeF
  go_wp2_with fail
  refine (markStringS_any _ _ _ w0.heap.size kk ss w16 N1.out hn1b (by omega) hkk1 (by omega) (owns_base D16.out (by omega))).mono ?_
  rintro e w17 ⟨rfl, hO, hg⟩
  rw [HK2.out]
  have hc := Chg.of_grown hg Dt
  clear hg hO
  clear D16
  clear Pc0 Pc1 Pc2
  clear Qc0 Qc1 Qc2
  clear Jc0 Jc1 Jc2
  have s17 : w16.heap.size ≤ w17.heap.size := hc.size
  have P17 := Lib.hid (P16.out.chg hc (by omega))
  have Q17 := Lib.hid (Q16.out.chg hc (by omega))
  have T17 := Lib.hid (T16.out.trans ((hc.below (by omega)).mono (by omega)))
  have V17 := Lib.hid (V16.out.chg hc (by omega) (by omega))
  have I17 := Lib.hid (I16.out.keep (by omega) (hc.below (by omega)))
  have U17 := Lib.hid (chg_ownS hc U16.out (fun x hx => by have := Ut x hx; omega))
  have J17 := Lib.hid (J16.out.chg hc (by omega))
  have G17 := Lib.hid (chg_ownS hc G16.out (fun x hx => by have := Gt x hx; omega))
  clear P16 Q16 T16 V16 I16 U16 J16 G16
  clear hc
  have yP_17 : w.heap.size < w17.heap.size := by omega
  have yQ_17 : (w.heap.size + 1) < w17.heap.size := by omega
  have yJ_17 : w6.heap.size < w17.heap.size := by omega
  obtain ⟨Pc0, Pc1, Pc2⟩ := P17.out.threeF
  obtain ⟨Qc0, Qc1, Qc2⟩ := Q17.out.threeF
  obtain ⟨Jc0, Jc1, Jc2⟩ := J17.out.threeF
  have hm1 : decide ((k2 : Int) < 0) = false := decide_eq_false (by omega)
  go_wp2_with fail
  refine (eqStringS_t _ _ _ _ _ R w17 HN.out hn20 (owns_read G17.out) (owns_read U17.out)).mono ?_
  rintro e w18 ⟨rfl, hb⟩
  clear Pc0 Pc1 Pc2
  clear Qc0 Qc1 Qc2
  clear Jc0 Jc1 Jc2
  have s18 : w17.heap.size ≤ w18.heap.size := hb.size
  have P18 := Lib.hid (P17.out.below hb (by omega))
  have Q18 := Lib.hid (Q17.out.below hb (by omega))
  have T18 := Lib.hid (T17.out.trans (hb.mono (by omega)))
  have V18 := Lib.hid (V17.out.below (by omega) hb)
  have I18 := Lib.hid (I17.out.keep (by omega) hb)
  have U18 := Lib.hid (U17.out.below hb)
  have J18 := Lib.hid (J17.out.below hb (by omega))
  have G18 := Lib.hid (G17.out.below hb)
  clear P17 Q17 T17 V17 I17 U17 J17 G17
  clear hb
  have yP_18 : w.heap.size < w18.heap.size := by omega
  have yQ_18 : (w.heap.size + 1) < w18.heap.size := by omega
  have yJ_18 : w6.heap.size < w18.heap.size := by omega
  obtain ⟨Pc0, Pc1, Pc2⟩ := P18.out.threeF
  obtain ⟨Qc0, Qc1, Qc2⟩ := Q18.out.threeF
  obtain ⟨Jc0, Jc1, Jc2⟩ := J18.out.threeF
  obtain ⟨k3, hk3⟩ : ∃ x, 1 + nn = x := ⟨_, rfl⟩
  have HK3 := Lib.hid hk3
  have hk39 : k3 ≤ 1048577 := by omega
  clear hk3
  go_wp2_with fail
  refine (markS1 _ _ _ w0.heap.size R w18 HN.out hn20 (by omega) (owns_base G18.out (by omega))).mono ?_
  rintro e w19 ⟨rfl, hO, hg⟩
  rw [HK3.out]
  have hc := Chg.of_grown hg Gt
  clear hg
  clear G18
  clear Pc0 Pc1 Pc2
  clear Qc0 Qc1 Qc2
  clear Jc0 Jc1 Jc2
  have s19 : w18.heap.size ≤ w19.heap.size := hc.size
  have P19 := Lib.hid (P18.out.chg hc (by omega))
  have Q19 := Lib.hid (Q18.out.chg hc (by omega))
  have T19 := Lib.hid (T18.out.trans ((hc.below (by omega)).mono (by omega)))
  have V19 := Lib.hid (V18.out.chg hc (by omega) (by omega))
  have I19 := Lib.hid (I18.out.keep (by omega) (hc.below (by omega)))
  have U19 := Lib.hid (chg_ownS hc U18.out (fun x hx => by have := Ut x hx; omega))
  have J19 := Lib.hid (J18.out.chg hc (by omega))
  clear P18 Q18 T18 V18 I18 U18 J18
  clear hc
  have yP_19 : w.heap.size < w19.heap.size := by omega
  have yQ_19 : (w.heap.size + 1) < w19.heap.size := by omega
  have yJ_19 : w6.heap.size < w19.heap.size := by omega
  have H19 := Lib.hid (hO)
  clear hO
  obtain ⟨Pc0, Pc1, Pc2⟩ := P19.out.threeF
  obtain ⟨Qc0, Qc1, Qc2⟩ := Q19.out.threeF
  obtain ⟨Jc0, Jc1, Jc2⟩ := J19.out.threeF
  have Ht := Gt
  have hm2 : decide ((k3 : Int) < 0) = false := decide_eq_false (by omega)
  have hne2 : ((k3 : Int) != (k3 : Int)) = false := by simp
  go_wp2_with fail
  refine (heldS1 _ _ _ w19 hn20 (owns_read H19.out)).mono ?_
  rintro e w20 ⟨rfl, hb⟩
  rw [HK3.out]
  clear Pc0 Pc1 Pc2
  clear Qc0 Qc1 Qc2
  clear Jc0 Jc1 Jc2
  have s20 : w19.heap.size ≤ w20.heap.size := hb.size
  have P20 := Lib.hid (P19.out.below hb (by omega))
  have Q20 := Lib.hid (Q19.out.below hb (by omega))
  have T20 := Lib.hid (T19.out.trans (hb.mono (by omega)))
  have V20 := Lib.hid (V19.out.below (by omega) hb)
  have I20 := Lib.hid (I19.out.keep (by omega) hb)
  have U20 := Lib.hid (U19.out.below hb)
  have J20 := Lib.hid (J19.out.below hb (by omega))
  have H20 := Lib.hid (H19.out.below hb)
  clear P19 Q19 T19 V19 I19 U19 J19 H19
  clear hb
  have yP_20 : w.heap.size < w20.heap.size := by omega
  have yQ_20 : (w.heap.size + 1) < w20.heap.size := by omega
  have yJ_20 : w6.heap.size < w20.heap.size := by omega
  obtain ⟨Pc0, Pc1, Pc2⟩ := P20.out.threeF
  obtain ⟨Qc0, Qc1, Qc2⟩ := Q20.out.threeF
  obtain ⟨Jc0, Jc1, Jc2⟩ := J20.out.threeF
  go_wp2_with fail
  refine wp_region_plan (.take 0 (.take 2 (.take 4 (.take 6 (.take 7 (.one 1 (.one 3 (.one 5 (.one 8 (.take 9 (.take 10 (.take 11 (.take 12 (.take 13 .done)))))))))))))) (fun w' => (w'.cell? ⟨w.heap.size, 0, none⟩ = some (.string s) ∧ w'.cell? ⟨w.heap.size, 1, none⟩ = some (.slice A n c) ∧ w'.cell? ⟨w.heap.size, 2, none⟩ = some (.slice B m d)) ∧ (w'.cell? ⟨(w.heap.size + 1), 0, none⟩ = some (.int .i64 W) ∧ w'.cell? ⟨(w.heap.size + 1), 1, none⟩ = some (.int .i64 t) ∧ w'.cell? ⟨(w.heap.size + 1), 2, none⟩ = some (.int .i64 k))) (by kernel_rfl) (by kernel_rfl) (by kernel_rfl) (by intro c a d v w h; cases d <;> exact h) ⟨P20.out.threeF, Q20.out.threeF⟩ ?_
  clear Pc0 Pc1 Pc2
  clear Qc0 Qc1 Qc2
  clear Jc0 Jc1 Jc2
  refine plan_quiet rfl (by rfl) (v := ?_) ?_ ?_; rotate_left; (intro w1 hSw; obtain ⟨⟨h0, h1, h2⟩, ⟨h3, h4, h5⟩⟩ := hSw; go_simp; try (with_reducible rfl)); (try simp only [Act.put, List.setIfInBounds_toArray, List.set_cons_zero, List.set_cons_succ])
  refine plan_quiet rfl (by rfl) (v := ?_) ?_ ?_; rotate_left; (intro w1 hSw; obtain ⟨⟨h0, h1, h2⟩, ⟨h3, h4, h5⟩⟩ := hSw; go_simp; try (with_reducible rfl)); (try simp only [Act.put, List.setIfInBounds_toArray, List.set_cons_zero, List.set_cons_succ])
  refine plan_quiet rfl (by rfl) (v := ?_) ?_ ?_; rotate_left; (intro w1 hSw; obtain ⟨⟨h0, h1, h2⟩, ⟨h3, h4, h5⟩⟩ := hSw; go_simp; try (with_reducible rfl)); (try simp only [Act.put, List.setIfInBounds_toArray, List.set_cons_zero, List.set_cons_succ])
  refine plan_quiet rfl (by rfl) (v := ?_) ?_ ?_; rotate_left; (intro w1 hSw; obtain ⟨⟨h0, h1, h2⟩, ⟨h3, h4, h5⟩⟩ := hSw; go_simp; try (with_reducible rfl)); (try simp only [Act.put, List.setIfInBounds_toArray, List.set_cons_zero, List.set_cons_succ])
  refine plan_quiet rfl (by rfl) (v := ?_) ?_ ?_; rotate_left; (intro w1 hSw; obtain ⟨⟨h0, h1, h2⟩, ⟨h3, h4, h5⟩⟩ := hSw; go_simp; try (with_reducible rfl)); (try simp only [Act.put, List.setIfInBounds_toArray, List.set_cons_zero, List.set_cons_succ])
  refine plan_step rfl (fun K hK => ?_)
  rw [if_pos (by rfl)]
  go_simp
  have hd : Below w20.heap.size w20 w20.drew := (Below.refl _ _).drew
  refine (toFont_any lo hi _ f w20.drew (V20.out.below (B := w20.heap.size) (by omega) hd) (by show hi ≤ w20.heap.size; omega) HS.out).mono ?_
  rintro e w21 ⟨vq, rfl, hO, hb'⟩
  have hb := undrew hb'
  clear hb' hd
  obtain ⟨Aq, cq, Bq, dq, rfl⟩ := fontFormF hO.font HSZ HNZ HMZ
  have s21 : w20.heap.size ≤ w21.heap.size := hb.size
  have P21 := Lib.hid (P20.out.below hb (by omega))
  have Q21 := Lib.hid (Q20.out.below hb (by omega))
  have T21 := Lib.hid (T20.out.trans (hb.mono (by omega)))
  have V21 := Lib.hid (V20.out.below (by omega) hb)
  have I21 := Lib.hid (I20.out.keep (by omega) hb)
  have U21 := Lib.hid (U20.out.below hb)
  have J21 := Lib.hid (J20.out.below hb (by omega))
  have H21 := Lib.hid (H20.out.below hb)
  clear P20 Q20 T20 V20 I20 U20 J20 H20
  clear hb
  have yP_21 : w.heap.size < w21.heap.size := by omega
  have yQ_21 : (w.heap.size + 1) < w21.heap.size := by omega
  have yJ_21 : w6.heap.size < w21.heap.size := by omega
  have S021 := Lib.hid (hO)
  clear hO
  refine hK.out _ _ ⟨P21.out.threeF, Q21.out.threeF⟩ ?_
  clear hK K
  refine plan_step rfl (fun K hK => ?_)
  rw [if_pos (by rfl)]
  go_simp
  refine (toMeasure_any W t k w21).mono ?_
  rintro e w22 ⟨rfl, hb⟩
  have s22 : w21.heap.size ≤ w22.heap.size := hb.size
  have P22 := Lib.hid (P21.out.below hb (by omega))
  have Q22 := Lib.hid (Q21.out.below hb (by omega))
  have T22 := Lib.hid (T21.out.trans (hb.mono (by omega)))
  have V22 := Lib.hid (V21.out.below (by omega) hb)
  have I22 := Lib.hid (I21.out.keep (by omega) hb)
  have U22 := Lib.hid (U21.out.below hb)
  have J22 := Lib.hid (J21.out.below hb (by omega))
  have H22 := Lib.hid (H21.out.below hb)
  have S022 := Lib.hid (S021.out.below hb)
  clear P21 Q21 T21 V21 I21 U21 J21 H21 S021
  clear hb
  have yP_22 : w.heap.size < w22.heap.size := by omega
  have yQ_22 : (w.heap.size + 1) < w22.heap.size := by omega
  have yJ_22 : w6.heap.size < w22.heap.size := by omega
  refine hK.out _ _ ⟨P22.out.threeF, Q22.out.threeF⟩ ?_
  clear hK K
  refine plan_step rfl (fun K hK => ?_)
  rw [if_pos (by rfl)]
  go_simp
  refine (toStringS_o _ _ _ ss w22 N1.out hn1b I22.out.ints).mono ?_
  rintro e w23 ⟨Aj, cj, rfl, hO, h1j, h2j, hb⟩
  have Y0t := fun k hk => World.ownsRow.lt hO k hk
  have s23 : w22.heap.size ≤ w23.heap.size := hb.size
  have P23 := Lib.hid (P22.out.below hb (by omega))
  have Q23 := Lib.hid (Q22.out.below hb (by omega))
  have T23 := Lib.hid (T22.out.trans (hb.mono (by omega)))
  have V23 := Lib.hid (V22.out.below (by omega) hb)
  have I23 := Lib.hid (I22.out.keep (by omega) hb)
  have U23 := Lib.hid (U22.out.below hb)
  have J23 := Lib.hid (J22.out.below hb (by omega))
  have H23 := Lib.hid (H22.out.below hb)
  have S023 := Lib.hid (S022.out.below hb)
  clear P22 Q22 T22 V22 I22 U22 J22 H22 S022
  clear hb
  have yP_23 : w.heap.size < w23.heap.size := by omega
  have yQ_23 : (w.heap.size + 1) < w23.heap.size := by omega
  have yJ_23 : w6.heap.size < w23.heap.size := by omega
  have Y023 := Lib.hid (hO)
  clear hO
  refine hK.out _ _ ⟨P23.out.threeF, Q23.out.threeF⟩ ?_
  clear hK K
  refine plan_step rfl (fun K hK => ?_)
  rw [if_pos (by rfl)]
  go_simp
  refine (implRep_any _ _ _ _ f W t k _ _ _ ss x tx w23 S023.out.font (by omega) HS.out N1.out HZ.out Y023.out WX.out htz).mono ?_
  rintro e w24 ⟨u, rfl, hO, hb⟩
  rw [HRe.out] at hO
  rw [Hok.out]
  obtain ⟨Ah, ch, rfl, -, -, -, -⟩ := hO.form
  have Et := fun k hk => World.ownsRow.lt hO k hk
  rw [HN.out] at Et hO ⊢
  have s24 : w23.heap.size ≤ w24.heap.size := hb.size
  have P24 := Lib.hid (P23.out.below hb (by omega))
  have Q24 := Lib.hid (Q23.out.below hb (by omega))
  have T24 := Lib.hid (T23.out.trans (hb.mono (by omega)))
  have V24 := Lib.hid (V23.out.below (by omega) hb)
  have I24 := Lib.hid (I23.out.keep (by omega) hb)
  have U24 := Lib.hid (U23.out.below hb)
  have J24 := Lib.hid (J23.out.below hb (by omega))
  have H24 := Lib.hid (H23.out.below hb)
  have S024 := Lib.hid (S023.out.below hb)
  have Y024 := Lib.hid (Y023.out.below hb)
  clear P23 Q23 T23 V23 I23 U23 J23 H23 S023 Y023
  clear hb
  have yP_24 : w.heap.size < w24.heap.size := by omega
  have yQ_24 : (w.heap.size + 1) < w24.heap.size := by omega
  have yJ_24 : w6.heap.size < w24.heap.size := by omega
  have E24 := Lib.hid (hO)
  clear hO
  refine hK.out _ _ ⟨P24.out.threeF, Q24.out.threeF⟩ ?_
  clear hK K
  refine plan_quiet rfl (by rfl) (v := ?_) ?_ ?_; rotate_left; (intro w1 hSw; obtain ⟨⟨h0, h1, h2⟩, ⟨h3, h4, h5⟩⟩ := hSw; go_simp; try (with_reducible rfl)); (try simp only [Act.put, List.setIfInBounds_toArray, List.set_cons_zero, List.set_cons_succ])
  refine plan_quiet rfl (by rfl) (v := ?_) ?_ ?_; rotate_left; (intro w1 hSw; obtain ⟨⟨h0, h1, h2⟩, ⟨h3, h4, h5⟩⟩ := hSw; go_simp; try (with_reducible rfl)); (try simp only [Act.put, List.setIfInBounds_toArray, List.set_cons_zero, List.set_cons_succ])
  refine plan_quiet rfl (by rfl) (v := ?_) ?_ ?_; rotate_left; (intro w1 hSw; obtain ⟨⟨h0, h1, h2⟩, ⟨h3, h4, h5⟩⟩ := hSw; go_simp; try (with_reducible rfl)); (try simp only [Act.put, List.setIfInBounds_toArray, List.set_cons_zero, List.set_cons_succ])
  refine plan_quiet rfl (by rfl) (v := ?_) ?_ ?_; rotate_left; (intro w1 hSw; obtain ⟨⟨h0, h1, h2⟩, ⟨h3, h4, h5⟩⟩ := hSw; go_simp; try (with_reducible rfl)); (try simp only [Act.put, List.setIfInBounds_toArray, List.set_cons_zero, List.set_cons_succ])
  refine plan_quiet rfl (by rfl) (v := ?_) ?_ ?_; rotate_left; (intro w1 hSw; obtain ⟨⟨h0, h1, h2⟩, ⟨h3, h4, h5⟩⟩ := hSw; go_simp; try (with_reducible rfl)); (try simp only [Act.put, List.setIfInBounds_toArray, List.set_cons_zero, List.set_cons_succ])
  refine plan_end ?_
  obtain ⟨Pc0, Pc1, Pc2⟩ := P24.out.threeF
  obtain ⟨Qc0, Qc1, Qc2⟩ := Q24.out.threeF
  obtain ⟨Jc0, Jc1, Jc2⟩ := J24.out.threeF
  clear S024
  clear Y024
  go_wp2_with fail
  refine (eqStringS_t _ _ _ _ _ R w24 HN.out hn20 (owns_read E24.out) (owns_read U24.out)).mono ?_
  rintro e w25 ⟨rfl, hb⟩
  clear Pc0 Pc1 Pc2
  clear Qc0 Qc1 Qc2
  clear Jc0 Jc1 Jc2
  have s25 : w24.heap.size ≤ w25.heap.size := hb.size
  have P25 := Lib.hid (P24.out.below hb (by omega))
  have Q25 := Lib.hid (Q24.out.below hb (by omega))
  have T25 := Lib.hid (T24.out.trans (hb.mono (by omega)))
  have V25 := Lib.hid (V24.out.below (by omega) hb)
  have I25 := Lib.hid (I24.out.keep (by omega) hb)
  have U25 := Lib.hid (U24.out.below hb)
  have J25 := Lib.hid (J24.out.below hb (by omega))
  have H25 := Lib.hid (H24.out.below hb)
  have E25 := Lib.hid (E24.out.below hb)
  clear P24 Q24 T24 V24 I24 U24 J24 H24 E24
  clear hb
  have yP_25 : w.heap.size < w25.heap.size := by omega
  have yQ_25 : (w.heap.size + 1) < w25.heap.size := by omega
  have yJ_25 : w6.heap.size < w25.heap.size := by omega
  obtain ⟨Pc0, Pc1, Pc2⟩ := P25.out.threeF
  obtain ⟨Qc0, Qc1, Qc2⟩ := Q25.out.threeF
  obtain ⟨Jc0, Jc1, Jc2⟩ := J25.out.threeF
  go_wp2_with fail
  refine (heldS1 _ _ _ w25 hn20 (owns_read H25.out)).mono ?_
  rintro e w26 ⟨rfl, hb⟩
  rw [HK3.out]
  clear Pc0 Pc1 Pc2
  clear Qc0 Qc1 Qc2
  clear Jc0 Jc1 Jc2
  have s26 : w25.heap.size ≤ w26.heap.size := hb.size
  have P26 := Lib.hid (P25.out.below hb (by omega))
  have Q26 := Lib.hid (Q25.out.below hb (by omega))
  have T26 := Lib.hid (T25.out.trans (hb.mono (by omega)))
  have V26 := Lib.hid (V25.out.below (by omega) hb)
  have I26 := Lib.hid (I25.out.keep (by omega) hb)
  have U26 := Lib.hid (U25.out.below hb)
  have J26 := Lib.hid (J25.out.below hb (by omega))
  have H26 := Lib.hid (H25.out.below hb)
  have E26 := Lib.hid (E25.out.below hb)
  clear P25 Q25 T25 V25 I25 U25 J25 H25 E25
  clear hb
  have yP_26 : w.heap.size < w26.heap.size := by omega
  have yQ_26 : (w.heap.size + 1) < w26.heap.size := by omega
  have yJ_26 : w6.heap.size < w26.heap.size := by omega
  obtain ⟨Pc0, Pc1, Pc2⟩ := P26.out.threeF
  obtain ⟨Qc0, Qc1, Qc2⟩ := Q26.out.threeF
  obtain ⟨Jc0, Jc1, Jc2⟩ := J26.out.threeF
  go_wp2
  go_ret
  exact ⟨rfl, T26.out⟩
end Go.Proofs.YtobakeahbgodbaaGreat
