/-
  The program's MachineOk by contract. Conditions: lengths of at most 2^20, teeth in the range of int.
-/
import Derived.Test.YthoepelgmplcmaaMchI
import Derived.Test.YthoepelgmplcmaaMchS2
namespace Go.Proofs.Ythoepelgmplcmaa
open Go.RowKit
set_option linter.unusedVariables false

theorem may1_enter (args : Array Value) (w : World) : Sem.run Try.prog (callFunc 110 args) w = .ok (.enter 110 args) w := by kernel_rfl
theorem may2_enter (args : Array Value) (w : World) : Sem.run Try.prog (callFunc 111 args) w = .ok (.enter 111 args) w := by kernel_rfl
set_option maxRecDepth 100000 in
set_option maxHeartbeats 800000 in
theorem may1_any (lo hi g : Nat) (s : ByteArray) (A : Option Addr) (n c : Nat) (A2 : Option Addr) (m d : Nat) (v3 v4 v5 v6 v7 v8 v9 : Value) (T : TypeId) (f : Fnt) (x : Mat) (w : World) (h : FontV w lo hi (.agg #[.string s, .slice A n c, .slice A2 m d]) f) (hhi : hi ≤ w.heap.size) (hs : Small f) (hf : fontB f = true) (wf : (Lit.int .i64 x.2).wf = true)
    (hb : Blk w g #[.string s, .slice A n c, .slice A2 m d, v3, v4, v5, v6, v7, v8, v9] T) :
    Calls Try.prog 110 #[.agg #[.int .i64 x.1, .int .i64 x.2], .pointer (some ⟨g, 0, none⟩)] w fun e w' => e = .returned (.bool (matB f x)) ∧ Below w.heap.size w w' := by
  have hW : Below w.heap.size w (w.alloc (.cells #[.int .i64 x.1, .int .i64 x.2] 34)) := below_new _ _
  have V1 := Lib.hid (h.below hhi hW)
  have HW := Lib.hid hW
  have Hwf := Lib.hid wf; have HF := Lib.hid hf
  have q0 : w.cell? ⟨g, 0, none⟩ = some (.string s) := cellOfBlk hb 0
  have q1 : w.cell? ⟨g, 1, none⟩ = some (.slice A n c) := cellOfBlk hb 1
  have q2 : w.cell? ⟨g, 2, none⟩ = some (.slice A2 m d) := cellOfBlk hb 2
  have hg := hb.lt
  clear h hW wf hf hb
  go_enter Try.func110, Try.ntmps110
  go_wp2_with fail
  refine (isMatrix_any lo hi _ f x _ V1.out (by simp; omega) hs HF.out Hwf.out).mono ?_
  rintro e w1 ⟨rfl, hb1⟩
  have T1 := Lib.hid (HW.out.trans (hb1.mono (by simp)))
  clear hb1
  go_wp2
  go_ret
  exact ⟨rfl, T1.out⟩
set_option maxRecDepth 100000 in
set_option maxHeartbeats 800000 in
theorem may2_any (lo hi g : Nat) (s : ByteArray) (A : Option Addr) (n c : Nat) (A2 : Option Addr) (m d : Nat) (v3 v4 v5 v6 v7 v8 v9 : Value) (T : TypeId) (f : Fnt) (x : Mat) (w : World) (h : FontV w lo hi (.agg #[.string s, .slice A n c, .slice A2 m d]) f) (hhi : hi ≤ w.heap.size) (hs : Small f) (hf : fontB f = true) (wf : (Lit.int .i64 x.2).wf = true)
    (hb : Blk w g #[.string s, .slice A n c, .slice A2 m d, v3, v4, v5, v6, v7, v8, v9] T) :
    Calls Try.prog 111 #[.agg #[.int .i64 x.1, .int .i64 x.2], .pointer (some ⟨g, 0, none⟩)] w fun e w' => e = .returned (.bool (setM f x)) ∧ Below w.heap.size w w' := by
  obtain ⟨a, b⟩ := x
  simp only at wf
  obtain ⟨wm, hwm⟩ : ∃ y, w.alloc (.cells #[.int .i64 a, .int .i64 b] 34) = y := ⟨_, rfl⟩
  have bm : Below w.heap.size w wm := by rw [← hwm]; exact below_new _ _
  have bk : Blk wm w.heap.size #[.int .i64 a, .int .i64 b] 34 := by rw [← hwm]; exact Blk.new _ _ _
  have m0 : wm.cell? ⟨w.heap.size, 0, none⟩ = some (.int .i64 a) := cellOfBlk bk 0
  have m1 : wm.cell? ⟨w.heap.size, 1, none⟩ = some (.int .i64 b) := cellOfBlk bk 1
  have zm : w.heap.size < wm.heap.size := bk.lt
  have hg := hb.lt
  have V1 := Lib.hid (h.below hhi bm); have BM := Lib.hid bm; have BK := Lib.hid bk; have GK := Lib.hid (hb.below bm hg)
  have Hwf := Lib.hid wf; have HF := Lib.hid hf
  clear h wf hf hb bm bk
  cases hbd : bandM (a, b)
  · have Hbd := Lib.hid hbd
    have HR : Hid (setM f (a, b) = matB f (a, b)) := by show _ = _; unfold setM; rw [hbd]; rfl
    clear hbd
    go_enter Try.func111, Try.ntmps111
    go_wp2_with fail
    refine (isBand_any _ _ _).mono ?_
    rintro e w1 ⟨he, hb1⟩
    rw [Hbd.out] at he; subst he
    have gk := GK.out.below hb1 (by omega)
    have bk1 := BK.out.below hb1 zm
    have m0' : w1.cell? ⟨w.heap.size, 0, none⟩ = some (.int .i64 a) := cellOfBlk bk1 0
    have m1' : w1.cell? ⟨w.heap.size, 1, none⟩ = some (.int .i64 b) := cellOfBlk bk1 1
    have q0 : w1.cell? ⟨g, 0, none⟩ = some (.string s) := cellOfBlk gk 0
    have q1 : w1.cell? ⟨g, 1, none⟩ = some (.slice A n c) := cellOfBlk gk 1
    have q2 : w1.cell? ⟨g, 2, none⟩ = some (.slice A2 m d) := cellOfBlk gk 2
    have V2 := Lib.hid (V1.out.below (by omega) hb1); have T1 := Lib.hid (BM.out.trans (hb1.mono (by omega))); have z1 : wm.heap.size ≤ w1.heap.size := hb1.size
    clear hb1 gk bk1 hwm m0 m1
    go_wp2_with fail
    refine (isMatrix_any lo hi _ f (a, b) w1 V2.out (by omega) hs HF.out Hwf.out).mono ?_
    rintro e w2 ⟨he, hb2⟩
    rw [← HR.out] at he; subst he
    have T2 := Lib.hid (T1.out.trans (hb2.mono (by omega)))
    clear hb2
    go_wp2
    go_ret
    exact ⟨rfl, T2.out⟩
  · have Hbd := Lib.hid hbd
    have HR : Hid (setM f (a, b) = true) := by show _ = _; unfold setM; rw [hbd]; rfl
    clear hbd
    go_enter Try.func111, Try.ntmps111
    go_wp2_with fail
    refine (isBand_any _ _ _).mono ?_
    rintro e w1 ⟨he, hb1⟩
    rw [Hbd.out] at he; subst he
    have T1 := Lib.hid (BM.out.trans (hb1.mono (by omega)))
    clear hb1 hwm m0 m1
    go_wp2
    go_ret
    exact ⟨ret_bool HR.out.symm, T1.out⟩

theorem inB_nat (r b : Nat) : inB (r : Int) 0 b = decide (r ≤ b) := by
  unfold inB
  by_cases h : r ≤ b
  · rw [decide_eq_true (show 0 ≤ (r : Int) ∧ (r : Int) ≤ b by omega), decide_eq_true h]
  · rw [decide_eq_false (show ¬ (0 ≤ (r : Int) ∧ (r : Int) ≤ b) by omega), decide_eq_false h]
theorem set_item {f : Fnt} {x : Mat} (hf : fontB f = true) (h : setM f x = true) : bandM x = true ∨ (0 ≤ x.1 ∧ x.1.toNat < f.ws.length) := by
  obtain ⟨e1, e2, _⟩ := fontB_codes hf
  unfold setM at h
  rw [Bool.or_eq_true] at h
  rcases h with h | h
  · exact .inl h
  · unfold matB at h
    rw [Bool.and_eq_true] at h
    have := (inB_iff _ _ _).1 h.1
    right; omega
theorem machB_wait {X : Mch} {r : Nat} (hr : X.wt.length = r) (h : (inB (r : Int) 0 240 && X.wt.all (matB X.f)) = false) : machB X = false := by
  rw [show (240 : Int) = ((240 : Nat) : Int) from rfl, inB_nat] at h
  unfold machB; rw [hr, h]; simp
theorem machB_line {X : Mch} {l : Nat} (hl : X.ln.length = l) (h : (inB (l : Int) 0 120 && X.ln.all (setM X.f)) = false) : machB X = false := by
  rw [show (120 : Int) = ((120 : Nat) : Int) from rfl, inB_nat] at h
  unfold machB; rw [hl, h]; simp
theorem machB_good {X : Mch} {l r : Nat} (hl : X.ln.length = l) (hr : X.wt.length = r) (h1 : magB X.f X.ms = true) (h2 : inB X.sp 0 60 = true) (h3 : (inB (r : Int) 0 240 && X.wt.all (matB X.f)) = true) (h4 : (inB (l : Int) 0 120 && X.ln.all (setM X.f)) = true) : machB X = goodB X.m (itemsM X.f X.ln) := by
  rw [show (240 : Int) = ((240 : Nat) : Int) from rfl, inB_nat] at h3
  rw [show (120 : Int) = ((120 : Nat) : Int) from rfl, inB_nat] at h4
  unfold machB; rw [hl, hr, h1, h2, h3, h4]; simp

set_option maxRecDepth 100000 in
set_option maxHeartbeats 6400000 in
theorem implMachine_any (lo hi : Nat) (v : Value) (X : Mch) (w : World) (h : MchV w lo hi v X) (hhi : hi ≤ w.heap.size) (hs : SmallX X) (wf : WfX X) :
    Calls Try.prog 35 #[v] w fun e w' => e = .returned (.bool (machB X)) ∧ Below w.heap.size w w' := by
  have HWf := Lib.hid wf
  clear wf
  obtain ⟨s, A, n, c, A2, m, d, M, q, e0, L, l, lc, T, r, tc, rfl, hf, hq, hM, hqe, hem, hl, hL, hllc, hlm, hr, hT, hrt, htm⟩ := h.parts
  have Hq := Lib.hid hq; have Hl := Lib.hid hl; have Hr := Lib.hid hr; have HS := Lib.hid hs
  have hq1 : q ≤ 1048576 := by rw [← hq]; exact hs.ms
  have hl1 : l ≤ 1048576 := by rw [← hl]; exact hs.ln
  have hr1 : r ≤ 1048576 := by rw [← hr]; exact hs.wt
  obtain ⟨sp, hsp⟩ : ∃ x, X.sp = x := ⟨_, rfl⟩
  obtain ⟨W, hW⟩ : ∃ x, X.w = x := ⟨_, rfl⟩
  obtain ⟨t, ht⟩ : ∃ x, X.t = x := ⟨_, rfl⟩
  obtain ⟨k, hk⟩ : ∃ x, X.k = x := ⟨_, rfl⟩
  rw [hsp, hW, ht, hk] at h ⊢
  have HE : Hid (X.sp = sp ∧ X.m = ⟨W, t, k⟩) := ⟨hsp, by unfold Mch.m; rw [hW, ht, hk]⟩
  obtain ⟨w0, hw0, hb0, hz0, K0⟩ := mxWorld w #[.string s, .slice A n c, .slice A2 m d, .slice M q e0, .int .i64 sp, .int .i64 W, .int .i64 t, .int .i64 k, .slice L l lc, .slice T r tc] 61
  have T0 := Lib.hid hb0; have K0 := Lib.hid K0; have Z0 := Lib.hid hz0
  have F0 := Lib.hid (hf.below hhi hb0); have M0 := Lib.hid (hM.below hhi hb0); have L0 := Lib.hid (hL.below hhi hb0); have W0 := Lib.hid (hT.below hhi hb0)
  have z0 : w.heap.size < w0.heap.size := by omega
  clear h hf hq hM hqe hem hl hL hllc hlm hr hT hrt htm hsp hW ht hk hb0 hz0 hs
  obtain ⟨kc0, kc1, kc2, kc3, kc4, kc5, kc6, kc7, kc8, kc9⟩ := K0.out.ten
  cases hmg : magB X.f X.ms
  · have HR : Hid (machB X = false) := machB_mag hmg
    have HMg := Lib.hid hmg
    clear hmg
    go_enter Try.func35, Try.ntmps35
    go_wp2
    clear hw0
    refine wp_region_plan (.take 0 (.take 1 (.take 2 (.take 3 (.one 4 (.take 5 (.take 6 (.take 7 (.one 8 (.take 9 (.take 10 (.take 11 (.take 12 (.take 13 (.one 14 (.take 15 (.take 16 (.take 17 (.take 18 (.take 19 (.one 20 (.take 21 (.take 22 (.take 23 (.take 24 (.take 25 (.take 26 (.take 27 (.take 28 (.one 29 (.one 30 (.take 31 (.one 32 .done))))))))))))))))))))))))))))))))) (fun w' => w'.cell? ⟨w.heap.size, 0, none⟩ = some (.string s) ∧ w'.cell? ⟨w.heap.size, 1, none⟩ = some (.slice A n c) ∧ w'.cell? ⟨w.heap.size, 2, none⟩ = some (.slice A2 m d) ∧ w'.cell? ⟨w.heap.size, 3, none⟩ = some (.slice M q e0) ∧ w'.cell? ⟨w.heap.size, 4, none⟩ = some (.int .i64 sp) ∧ w'.cell? ⟨w.heap.size, 5, none⟩ = some (.int .i64 W) ∧ w'.cell? ⟨w.heap.size, 6, none⟩ = some (.int .i64 t) ∧ w'.cell? ⟨w.heap.size, 7, none⟩ = some (.int .i64 k) ∧ w'.cell? ⟨w.heap.size, 8, none⟩ = some (.slice L l lc) ∧ w'.cell? ⟨w.heap.size, 9, none⟩ = some (.slice T r tc)) (by kernel_rfl) (by kernel_rfl) (by kernel_rfl) (by intro c a d v w h; cases d <;> exact h) K0.out.ten ?_
    clear kc0 kc1 kc2 kc3 kc4 kc5 kc6 kc7 kc8 kc9
    refine plan_quiet rfl (by rfl) (v := ?_) ?_ ?_; rotate_left; (intro w1 hSw; (try dsimp only at hSw); go_simp; try (with_reducible rfl)); (try simp only [Act.put, List.setIfInBounds_toArray, List.set_cons_zero, List.set_cons_succ])
    refine plan_quiet rfl (by rfl) (v := ?_) ?_ ?_; rotate_left; (intro w1 hSw; (try dsimp only at hSw); go_simp; try (with_reducible rfl)); (try simp only [Act.put, List.setIfInBounds_toArray, List.set_cons_zero, List.set_cons_succ])
    refine plan_quiet rfl (by rfl) (v := ?_) ?_ ?_; rotate_left; (intro w1 hSw; (try dsimp only at hSw); go_simp; try (with_reducible rfl)); (try simp only [Act.put, List.setIfInBounds_toArray, List.set_cons_zero, List.set_cons_succ])
    refine plan_quiet rfl (by rfl) (v := ?_) ?_ ?_; rotate_left; (intro w1 hSw; (try dsimp only at hSw); go_simp; try (with_reducible rfl)); (try simp only [Act.put, List.setIfInBounds_toArray, List.set_cons_zero, List.set_cons_succ])
    refine plan_step rfl (fun K hK => ?_)
    rw [if_pos (by rfl)]
    go_simp
    refine (implMagOk_any lo hi lo hi _ X.f _ _ _ X.ms w0.drew (FontV.keep (w' := w0.drew) F0.out (fun p _ _ => rfl)) (by show hi ≤ w0.heap.size; omega) HS.out.f Hq.out hq1 (MagI.keep (w' := w0.drew) M0.out (fun p _ _ => rfl)) (by show hi ≤ w0.heap.size; omega) HWf.out.ms).mono ?_
    rintro e w1 ⟨he, hb'⟩
    have hb := undrew hb'
    rw [HMg.out] at he; subst he
    have K1 := Lib.hid (K0.out.below hb z0); have T1 := Lib.hid (T0.out.trans (hb.mono (by omega))); have F1 := Lib.hid (F0.out.below (by omega) hb); have L1 := Lib.hid (L0.out.below (by omega) hb); have W1 := Lib.hid (W0.out.below (by omega) hb)
    have z1 : w.heap.size < w1.heap.size := Nat.lt_of_lt_of_le z0 hb.size
    clear hb hb'
    refine hK.out _ _ K1.out.ten ?_
    clear hK K
    refine plan_quiet rfl (by rfl) (v := ?_) ?_ ?_; rotate_left; (intro w1 hSw; (try dsimp only at hSw); go_simp; try (with_reducible rfl)); (try simp only [Act.put, List.setIfInBounds_toArray, List.set_cons_zero, List.set_cons_succ])
    refine plan_skip rfl (by rfl) ?_; (try simp only [Act.put, List.setIfInBounds_toArray, List.set_cons_zero, List.set_cons_succ])
    refine plan_skip rfl (by rfl) ?_; (try simp only [Act.put, List.setIfInBounds_toArray, List.set_cons_zero, List.set_cons_succ])
    refine plan_step rfl (fun K hK => ?_)
    rw [if_neg (by intro h; cases h)]
    refine hK.out _ _ K1.out.ten ?_
    clear hK K
    refine plan_quiet rfl (by rfl) (v := ?_) ?_ ?_; rotate_left; (intro w1 hSw; (try dsimp only at hSw); go_simp; try (with_reducible rfl)); (try simp only [Act.put, List.setIfInBounds_toArray, List.set_cons_zero, List.set_cons_succ])
    refine plan_quiet rfl (by rfl) (v := ?_) ?_ ?_; rotate_left; (intro w1 hSw; (try dsimp only at hSw); go_simp; try (with_reducible rfl)); (try simp only [Act.put, List.setIfInBounds_toArray, List.set_cons_zero, List.set_cons_succ])
    refine plan_skip rfl (by rfl) ?_; (try simp only [Act.put, List.setIfInBounds_toArray, List.set_cons_zero, List.set_cons_succ])
    refine plan_skip rfl (by rfl) ?_; (try simp only [Act.put, List.setIfInBounds_toArray, List.set_cons_zero, List.set_cons_succ])
    refine plan_skip rfl (by rfl) ?_; (try simp only [Act.put, List.setIfInBounds_toArray, List.set_cons_zero, List.set_cons_succ])
    refine plan_step rfl (fun K hK => ?_)
    rw [if_neg (by intro h; cases h)]
    refine hK.out _ _ K1.out.ten ?_
    clear hK K
    refine plan_quiet rfl (by rfl) (v := ?_) ?_ ?_; rotate_left; (intro w1 hSw; (try dsimp only at hSw); go_simp; try (with_reducible rfl)); (try simp only [Act.put, List.setIfInBounds_toArray, List.set_cons_zero, List.set_cons_succ])
    refine plan_quiet rfl (by rfl) (v := ?_) ?_ ?_; rotate_left; (intro w1 hSw; (try dsimp only at hSw); go_simp; try (with_reducible rfl)); (try simp only [Act.put, List.setIfInBounds_toArray, List.set_cons_zero, List.set_cons_succ])
    refine plan_skip rfl (by rfl) ?_; (try simp only [Act.put, List.setIfInBounds_toArray, List.set_cons_zero, List.set_cons_succ])
    refine plan_skip rfl (by rfl) ?_; (try simp only [Act.put, List.setIfInBounds_toArray, List.set_cons_zero, List.set_cons_succ])
    refine plan_skip rfl (by rfl) ?_; (try simp only [Act.put, List.setIfInBounds_toArray, List.set_cons_zero, List.set_cons_succ])
    refine plan_step rfl (fun K hK => ?_)
    rw [if_neg (by intro h; cases h)]
    refine hK.out _ _ K1.out.ten ?_
    clear hK K
    refine plan_quiet rfl (by rfl) (v := ?_) ?_ ?_; rotate_left; (intro w1 hSw; (try dsimp only at hSw); go_simp; try (with_reducible rfl)); (try simp only [Act.put, List.setIfInBounds_toArray, List.set_cons_zero, List.set_cons_succ])
    refine plan_quiet rfl (by rfl) (v := ?_) ?_ ?_; rotate_left; (intro w1 hSw; (try dsimp only at hSw); go_simp; try (with_reducible rfl)); (try simp only [Act.put, List.setIfInBounds_toArray, List.set_cons_zero, List.set_cons_succ])
    refine plan_skip rfl (by rfl) ?_; (try simp only [Act.put, List.setIfInBounds_toArray, List.set_cons_zero, List.set_cons_succ])
    refine plan_skip rfl (by rfl) ?_; (try simp only [Act.put, List.setIfInBounds_toArray, List.set_cons_zero, List.set_cons_succ])
    refine plan_skip rfl (by rfl) ?_; (try simp only [Act.put, List.setIfInBounds_toArray, List.set_cons_zero, List.set_cons_succ])
    refine plan_skip rfl (by rfl) ?_; (try simp only [Act.put, List.setIfInBounds_toArray, List.set_cons_zero, List.set_cons_succ])
    refine plan_skip rfl (by rfl) ?_; (try simp only [Act.put, List.setIfInBounds_toArray, List.set_cons_zero, List.set_cons_succ])
    refine plan_skip rfl (by rfl) ?_; (try simp only [Act.put, List.setIfInBounds_toArray, List.set_cons_zero, List.set_cons_succ])
    refine plan_step rfl (fun K hK => ?_)
    rw [if_neg (by intro h; cases h)]
    refine hK.out _ _ K1.out.ten ?_
    clear hK K
    refine plan_step rfl (fun K hK => ?_)
    rw [if_neg (by intro h; cases h)]
    refine hK.out _ _ K1.out.ten ?_
    clear hK K
    refine plan_quiet rfl (by rfl) (v := ?_) ?_ ?_; rotate_left; (intro w1 hSw; (try dsimp only at hSw); go_simp; try (with_reducible rfl)); (try simp only [Act.put, List.setIfInBounds_toArray, List.set_cons_zero, List.set_cons_succ])
    refine plan_step rfl (fun K hK => ?_)
    rw [if_pos (by rfl)]
    go_simp
    refine hK.out _ _ K1.out.ten ?_
    clear hK K
    refine plan_end ?_
    go_wp2
    go_ret
    exact ⟨ret_bool HR.out.symm, T1.out⟩
  have HMg := Lib.hid hmg
  have HF := Lib.hid (magB_font hmg)
  cases hsp : inB sp 0 60
  · have HR : Hid (machB X = false) := machB_sp (by rw [HE.out.1]; exact hsp)
    have HSp := Lib.hid hsp
    clear hsp hmg
    go_enter Try.func35, Try.ntmps35
    go_wp2
    clear hw0
    refine wp_region_plan (.take 0 (.take 1 (.take 2 (.take 3 (.one 4 (.take 5 (.take 6 (.take 7 (.one 8 (.take 9 (.take 10 (.take 11 (.take 12 (.take 13 (.one 14 (.take 15 (.take 16 (.take 17 (.take 18 (.take 19 (.one 20 (.take 21 (.take 22 (.take 23 (.take 24 (.take 25 (.take 26 (.take 27 (.take 28 (.one 29 (.one 30 (.take 31 (.one 32 .done))))))))))))))))))))))))))))))))) (fun w' => w'.cell? ⟨w.heap.size, 0, none⟩ = some (.string s) ∧ w'.cell? ⟨w.heap.size, 1, none⟩ = some (.slice A n c) ∧ w'.cell? ⟨w.heap.size, 2, none⟩ = some (.slice A2 m d) ∧ w'.cell? ⟨w.heap.size, 3, none⟩ = some (.slice M q e0) ∧ w'.cell? ⟨w.heap.size, 4, none⟩ = some (.int .i64 sp) ∧ w'.cell? ⟨w.heap.size, 5, none⟩ = some (.int .i64 W) ∧ w'.cell? ⟨w.heap.size, 6, none⟩ = some (.int .i64 t) ∧ w'.cell? ⟨w.heap.size, 7, none⟩ = some (.int .i64 k) ∧ w'.cell? ⟨w.heap.size, 8, none⟩ = some (.slice L l lc) ∧ w'.cell? ⟨w.heap.size, 9, none⟩ = some (.slice T r tc)) (by kernel_rfl) (by kernel_rfl) (by kernel_rfl) (by intro c a d v w h; cases d <;> exact h) K0.out.ten ?_
    clear kc0 kc1 kc2 kc3 kc4 kc5 kc6 kc7 kc8 kc9
    refine plan_quiet rfl (by rfl) (v := ?_) ?_ ?_; rotate_left; (intro w1 hSw; (try dsimp only at hSw); go_simp; try (with_reducible rfl)); (try simp only [Act.put, List.setIfInBounds_toArray, List.set_cons_zero, List.set_cons_succ])
    refine plan_quiet rfl (by rfl) (v := ?_) ?_ ?_; rotate_left; (intro w1 hSw; (try dsimp only at hSw); go_simp; try (with_reducible rfl)); (try simp only [Act.put, List.setIfInBounds_toArray, List.set_cons_zero, List.set_cons_succ])
    refine plan_quiet rfl (by rfl) (v := ?_) ?_ ?_; rotate_left; (intro w1 hSw; (try dsimp only at hSw); go_simp; try (with_reducible rfl)); (try simp only [Act.put, List.setIfInBounds_toArray, List.set_cons_zero, List.set_cons_succ])
    refine plan_quiet rfl (by rfl) (v := ?_) ?_ ?_; rotate_left; (intro w1 hSw; (try dsimp only at hSw); go_simp; try (with_reducible rfl)); (try simp only [Act.put, List.setIfInBounds_toArray, List.set_cons_zero, List.set_cons_succ])
    refine plan_step rfl (fun K hK => ?_)
    rw [if_pos (by rfl)]
    go_simp
    refine (implMagOk_any lo hi lo hi _ X.f _ _ _ X.ms w0.drew (FontV.keep (w' := w0.drew) F0.out (fun p _ _ => rfl)) (by show hi ≤ w0.heap.size; omega) HS.out.f Hq.out hq1 (MagI.keep (w' := w0.drew) M0.out (fun p _ _ => rfl)) (by show hi ≤ w0.heap.size; omega) HWf.out.ms).mono ?_
    rintro e w1 ⟨he, hb'⟩
    have hb := undrew hb'
    rw [HMg.out] at he; subst he
    have K1 := Lib.hid (K0.out.below hb z0); have T1 := Lib.hid (T0.out.trans (hb.mono (by omega))); have F1 := Lib.hid (F0.out.below (by omega) hb); have L1 := Lib.hid (L0.out.below (by omega) hb); have W1 := Lib.hid (W0.out.below (by omega) hb)
    have z1 : w.heap.size < w1.heap.size := Nat.lt_of_lt_of_le z0 hb.size
    clear hb hb'
    refine hK.out _ _ K1.out.ten ?_
    clear hK K
    refine plan_quiet rfl (by rfl) (v := ?_) ?_ ?_; rotate_left; (intro w1 hSw; (try dsimp only at hSw); go_simp; try (with_reducible rfl)); (try simp only [Act.put, List.setIfInBounds_toArray, List.set_cons_zero, List.set_cons_succ])
    refine plan_quiet rfl (by rfl) (v := ?_) ?_ ?_; rotate_left; (intro w1 hSw; (try dsimp only at hSw); go_simp; try (with_reducible rfl)); (try simp only [Act.put, List.setIfInBounds_toArray, List.set_cons_zero, List.set_cons_succ])
    refine plan_quiet rfl (by rfl) (v := ?_) ?_ ?_; rotate_left; (intro w1 hSw; (try dsimp only at hSw); go_simp; try (with_reducible rfl)); (try simp only [Act.put, List.setIfInBounds_toArray, List.set_cons_zero, List.set_cons_succ])
    refine plan_step rfl (fun K hK => ?_)
    rw [if_pos (by rfl)]
    go_simp
    refine (isFrom_any _ _ _ _).mono ?_
    rintro e w1' ⟨he, rfl⟩
    rw [HSp.out] at he; subst he
    refine hK.out _ _ K1.out.ten ?_
    clear hK K
    refine plan_quiet rfl (by rfl) (v := ?_) ?_ ?_; rotate_left; (intro w1 hSw; (try dsimp only at hSw); go_simp; try (with_reducible rfl)); (try simp only [Act.put, List.setIfInBounds_toArray, List.set_cons_zero, List.set_cons_succ])
    refine plan_quiet rfl (by rfl) (v := ?_) ?_ ?_; rotate_left; (intro w1 hSw; (try dsimp only at hSw); go_simp; try (with_reducible rfl)); (try simp only [Act.put, List.setIfInBounds_toArray, List.set_cons_zero, List.set_cons_succ])
    refine plan_skip rfl (by rfl) ?_; (try simp only [Act.put, List.setIfInBounds_toArray, List.set_cons_zero, List.set_cons_succ])
    refine plan_skip rfl (by rfl) ?_; (try simp only [Act.put, List.setIfInBounds_toArray, List.set_cons_zero, List.set_cons_succ])
    refine plan_skip rfl (by rfl) ?_; (try simp only [Act.put, List.setIfInBounds_toArray, List.set_cons_zero, List.set_cons_succ])
    refine plan_step rfl (fun K hK => ?_)
    rw [if_neg (by intro h; cases h)]
    refine hK.out _ _ K1.out.ten ?_
    clear hK K
    refine plan_quiet rfl (by rfl) (v := ?_) ?_ ?_; rotate_left; (intro w1 hSw; (try dsimp only at hSw); go_simp; try (with_reducible rfl)); (try simp only [Act.put, List.setIfInBounds_toArray, List.set_cons_zero, List.set_cons_succ])
    refine plan_quiet rfl (by rfl) (v := ?_) ?_ ?_; rotate_left; (intro w1 hSw; (try dsimp only at hSw); go_simp; try (with_reducible rfl)); (try simp only [Act.put, List.setIfInBounds_toArray, List.set_cons_zero, List.set_cons_succ])
    refine plan_skip rfl (by rfl) ?_; (try simp only [Act.put, List.setIfInBounds_toArray, List.set_cons_zero, List.set_cons_succ])
    refine plan_skip rfl (by rfl) ?_; (try simp only [Act.put, List.setIfInBounds_toArray, List.set_cons_zero, List.set_cons_succ])
    refine plan_skip rfl (by rfl) ?_; (try simp only [Act.put, List.setIfInBounds_toArray, List.set_cons_zero, List.set_cons_succ])
    refine plan_step rfl (fun K hK => ?_)
    rw [if_neg (by intro h; cases h)]
    refine hK.out _ _ K1.out.ten ?_
    clear hK K
    refine plan_quiet rfl (by rfl) (v := ?_) ?_ ?_; rotate_left; (intro w1 hSw; (try dsimp only at hSw); go_simp; try (with_reducible rfl)); (try simp only [Act.put, List.setIfInBounds_toArray, List.set_cons_zero, List.set_cons_succ])
    refine plan_quiet rfl (by rfl) (v := ?_) ?_ ?_; rotate_left; (intro w1 hSw; (try dsimp only at hSw); go_simp; try (with_reducible rfl)); (try simp only [Act.put, List.setIfInBounds_toArray, List.set_cons_zero, List.set_cons_succ])
    refine plan_skip rfl (by rfl) ?_; (try simp only [Act.put, List.setIfInBounds_toArray, List.set_cons_zero, List.set_cons_succ])
    refine plan_skip rfl (by rfl) ?_; (try simp only [Act.put, List.setIfInBounds_toArray, List.set_cons_zero, List.set_cons_succ])
    refine plan_skip rfl (by rfl) ?_; (try simp only [Act.put, List.setIfInBounds_toArray, List.set_cons_zero, List.set_cons_succ])
    refine plan_skip rfl (by rfl) ?_; (try simp only [Act.put, List.setIfInBounds_toArray, List.set_cons_zero, List.set_cons_succ])
    refine plan_skip rfl (by rfl) ?_; (try simp only [Act.put, List.setIfInBounds_toArray, List.set_cons_zero, List.set_cons_succ])
    refine plan_skip rfl (by rfl) ?_; (try simp only [Act.put, List.setIfInBounds_toArray, List.set_cons_zero, List.set_cons_succ])
    refine plan_step rfl (fun K hK => ?_)
    rw [if_neg (by intro h; cases h)]
    refine hK.out _ _ K1.out.ten ?_
    clear hK K
    refine plan_step rfl (fun K hK => ?_)
    rw [if_neg (by intro h; cases h)]
    refine hK.out _ _ K1.out.ten ?_
    clear hK K
    refine plan_quiet rfl (by rfl) (v := ?_) ?_ ?_; rotate_left; (intro w1 hSw; (try dsimp only at hSw); go_simp; try (with_reducible rfl)); (try simp only [Act.put, List.setIfInBounds_toArray, List.set_cons_zero, List.set_cons_succ])
    refine plan_step rfl (fun K hK => ?_)
    rw [if_pos (by rfl)]
    go_simp
    refine hK.out _ _ K1.out.ten ?_
    clear hK K
    refine plan_end ?_
    go_wp2
    go_ret
    exact ⟨ret_bool HR.out.symm, T1.out⟩
  have HSp := Lib.hid hsp
  cases hwt : (inB (r : Int) 0 240 && X.wt.all (matB X.f))
  · have HR : Hid (machB X = false) := machB_wait Hr.out hwt
    have HWt := Lib.hid hwt
    clear hsp hmg hwt
    go_enter Try.func35, Try.ntmps35
    go_wp2
    clear hw0
    refine wp_region_plan (.take 0 (.take 1 (.take 2 (.take 3 (.one 4 (.take 5 (.take 6 (.take 7 (.one 8 (.take 9 (.take 10 (.take 11 (.take 12 (.take 13 (.one 14 (.take 15 (.take 16 (.take 17 (.take 18 (.take 19 (.one 20 (.take 21 (.take 22 (.take 23 (.take 24 (.take 25 (.take 26 (.take 27 (.take 28 (.one 29 (.one 30 (.take 31 (.one 32 .done))))))))))))))))))))))))))))))))) (fun w' => w'.cell? ⟨w.heap.size, 0, none⟩ = some (.string s) ∧ w'.cell? ⟨w.heap.size, 1, none⟩ = some (.slice A n c) ∧ w'.cell? ⟨w.heap.size, 2, none⟩ = some (.slice A2 m d) ∧ w'.cell? ⟨w.heap.size, 3, none⟩ = some (.slice M q e0) ∧ w'.cell? ⟨w.heap.size, 4, none⟩ = some (.int .i64 sp) ∧ w'.cell? ⟨w.heap.size, 5, none⟩ = some (.int .i64 W) ∧ w'.cell? ⟨w.heap.size, 6, none⟩ = some (.int .i64 t) ∧ w'.cell? ⟨w.heap.size, 7, none⟩ = some (.int .i64 k) ∧ w'.cell? ⟨w.heap.size, 8, none⟩ = some (.slice L l lc) ∧ w'.cell? ⟨w.heap.size, 9, none⟩ = some (.slice T r tc)) (by kernel_rfl) (by kernel_rfl) (by kernel_rfl) (by intro c a d v w h; cases d <;> exact h) K0.out.ten ?_
    clear kc0 kc1 kc2 kc3 kc4 kc5 kc6 kc7 kc8 kc9
    refine plan_quiet rfl (by rfl) (v := ?_) ?_ ?_; rotate_left; (intro w1 hSw; (try dsimp only at hSw); go_simp; try (with_reducible rfl)); (try simp only [Act.put, List.setIfInBounds_toArray, List.set_cons_zero, List.set_cons_succ])
    refine plan_quiet rfl (by rfl) (v := ?_) ?_ ?_; rotate_left; (intro w1 hSw; (try dsimp only at hSw); go_simp; try (with_reducible rfl)); (try simp only [Act.put, List.setIfInBounds_toArray, List.set_cons_zero, List.set_cons_succ])
    refine plan_quiet rfl (by rfl) (v := ?_) ?_ ?_; rotate_left; (intro w1 hSw; (try dsimp only at hSw); go_simp; try (with_reducible rfl)); (try simp only [Act.put, List.setIfInBounds_toArray, List.set_cons_zero, List.set_cons_succ])
    refine plan_quiet rfl (by rfl) (v := ?_) ?_ ?_; rotate_left; (intro w1 hSw; (try dsimp only at hSw); go_simp; try (with_reducible rfl)); (try simp only [Act.put, List.setIfInBounds_toArray, List.set_cons_zero, List.set_cons_succ])
    refine plan_step rfl (fun K hK => ?_)
    rw [if_pos (by rfl)]
    go_simp
    refine (implMagOk_any lo hi lo hi _ X.f _ _ _ X.ms w0.drew (FontV.keep (w' := w0.drew) F0.out (fun p _ _ => rfl)) (by show hi ≤ w0.heap.size; omega) HS.out.f Hq.out hq1 (MagI.keep (w' := w0.drew) M0.out (fun p _ _ => rfl)) (by show hi ≤ w0.heap.size; omega) HWf.out.ms).mono ?_
    rintro e w1 ⟨he, hb'⟩
    have hb := undrew hb'
    rw [HMg.out] at he; subst he
    have K1 := Lib.hid (K0.out.below hb z0); have T1 := Lib.hid (T0.out.trans (hb.mono (by omega))); have F1 := Lib.hid (F0.out.below (by omega) hb); have L1 := Lib.hid (L0.out.below (by omega) hb); have W1 := Lib.hid (W0.out.below (by omega) hb)
    have z1 : w.heap.size < w1.heap.size := Nat.lt_of_lt_of_le z0 hb.size
    clear hb hb'
    refine hK.out _ _ K1.out.ten ?_
    clear hK K
    refine plan_quiet rfl (by rfl) (v := ?_) ?_ ?_; rotate_left; (intro w1 hSw; (try dsimp only at hSw); go_simp; try (with_reducible rfl)); (try simp only [Act.put, List.setIfInBounds_toArray, List.set_cons_zero, List.set_cons_succ])
    refine plan_quiet rfl (by rfl) (v := ?_) ?_ ?_; rotate_left; (intro w1 hSw; (try dsimp only at hSw); go_simp; try (with_reducible rfl)); (try simp only [Act.put, List.setIfInBounds_toArray, List.set_cons_zero, List.set_cons_succ])
    refine plan_quiet rfl (by rfl) (v := ?_) ?_ ?_; rotate_left; (intro w1 hSw; (try dsimp only at hSw); go_simp; try (with_reducible rfl)); (try simp only [Act.put, List.setIfInBounds_toArray, List.set_cons_zero, List.set_cons_succ])
    refine plan_step rfl (fun K hK => ?_)
    rw [if_pos (by rfl)]
    go_simp
    refine (isFrom_any _ _ _ _).mono ?_
    rintro e w1' ⟨he, rfl⟩
    rw [HSp.out] at he; subst he
    refine hK.out _ _ K1.out.ten ?_
    clear hK K
    refine plan_quiet rfl (by rfl) (v := ?_) ?_ ?_; rotate_left; (intro w1 hSw; (try dsimp only at hSw); go_simp; try (with_reducible rfl)); (try simp only [Act.put, List.setIfInBounds_toArray, List.set_cons_zero, List.set_cons_succ])
    refine plan_quiet rfl (by rfl) (v := ?_) ?_ ?_; rotate_left; (intro w1 hSw; (try dsimp only at hSw); go_simp; try (with_reducible rfl)); (try simp only [Act.put, List.setIfInBounds_toArray, List.set_cons_zero, List.set_cons_succ])
    refine plan_quiet rfl (by rfl) (v := ?_) ?_ ?_; rotate_left; (intro w1 hSw; (try dsimp only at hSw); go_simp; try (with_reducible rfl)); (try simp only [Act.put, List.setIfInBounds_toArray, List.set_cons_zero, List.set_cons_succ])
    refine plan_quiet rfl (by rfl) (v := ?_) ?_ ?_; rotate_left; (intro w1 hSw; (try dsimp only at hSw); go_simp; try (with_reducible rfl)); (try simp only [Act.put, List.setIfInBounds_toArray, List.set_cons_zero, List.set_cons_succ])
    refine plan_quiet rfl (by rfl) (v := ?_) ?_ ?_; rotate_left; (intro w1 hSw; (try dsimp only at hSw); go_simp; try (with_reducible rfl)); (try simp only [Act.put, List.setIfInBounds_toArray, List.set_cons_zero, List.set_cons_succ])
    refine plan_step rfl (fun K hK => ?_)
    rw [if_pos (by rfl)]
    go_simp
    refine (listMats_any 110 may1_enter w.heap.size (matB X.f) lo hi _ _ _ X.wt _ _ w1 Hr.out (by unfold maxLen; omega) W1.out (by omega) (fun x wr hx hbr => may1_any lo hi w.heap.size _ _ _ _ _ _ _ _ _ _ _ _ _ _ _ X.f x wr (F1.out.below (by omega) hbr) (by have := hbr.size; omega) HS.out.f HF.out (HWf.out.wt x hx) (K1.out.below hbr z1))).mono ?_
    rintro e w2 ⟨he, hb⟩
    rw [HWt.out] at he; subst he
    have K2 := Lib.hid (K1.out.below hb z1); have T2 := Lib.hid (T1.out.trans (hb.mono (by omega))); have F2 := Lib.hid (F1.out.below (by omega) hb); have L2 := Lib.hid (L1.out.below (by omega) hb)
    have z2 : w.heap.size < w2.heap.size := Nat.lt_of_lt_of_le z1 hb.size
    clear hb
    refine hK.out _ _ K2.out.ten ?_
    clear hK K
    refine plan_quiet rfl (by rfl) (v := ?_) ?_ ?_; rotate_left; (intro w1 hSw; (try dsimp only at hSw); go_simp; try (with_reducible rfl)); (try simp only [Act.put, List.setIfInBounds_toArray, List.set_cons_zero, List.set_cons_succ])
    refine plan_quiet rfl (by rfl) (v := ?_) ?_ ?_; rotate_left; (intro w1 hSw; (try dsimp only at hSw); go_simp; try (with_reducible rfl)); (try simp only [Act.put, List.setIfInBounds_toArray, List.set_cons_zero, List.set_cons_succ])
    refine plan_skip rfl (by rfl) ?_; (try simp only [Act.put, List.setIfInBounds_toArray, List.set_cons_zero, List.set_cons_succ])
    refine plan_skip rfl (by rfl) ?_; (try simp only [Act.put, List.setIfInBounds_toArray, List.set_cons_zero, List.set_cons_succ])
    refine plan_skip rfl (by rfl) ?_; (try simp only [Act.put, List.setIfInBounds_toArray, List.set_cons_zero, List.set_cons_succ])
    refine plan_step rfl (fun K hK => ?_)
    rw [if_neg (by intro h; cases h)]
    refine hK.out _ _ K2.out.ten ?_
    clear hK K
    refine plan_quiet rfl (by rfl) (v := ?_) ?_ ?_; rotate_left; (intro w1 hSw; (try dsimp only at hSw); go_simp; try (with_reducible rfl)); (try simp only [Act.put, List.setIfInBounds_toArray, List.set_cons_zero, List.set_cons_succ])
    refine plan_quiet rfl (by rfl) (v := ?_) ?_ ?_; rotate_left; (intro w1 hSw; (try dsimp only at hSw); go_simp; try (with_reducible rfl)); (try simp only [Act.put, List.setIfInBounds_toArray, List.set_cons_zero, List.set_cons_succ])
    refine plan_skip rfl (by rfl) ?_; (try simp only [Act.put, List.setIfInBounds_toArray, List.set_cons_zero, List.set_cons_succ])
    refine plan_skip rfl (by rfl) ?_; (try simp only [Act.put, List.setIfInBounds_toArray, List.set_cons_zero, List.set_cons_succ])
    refine plan_skip rfl (by rfl) ?_; (try simp only [Act.put, List.setIfInBounds_toArray, List.set_cons_zero, List.set_cons_succ])
    refine plan_skip rfl (by rfl) ?_; (try simp only [Act.put, List.setIfInBounds_toArray, List.set_cons_zero, List.set_cons_succ])
    refine plan_skip rfl (by rfl) ?_; (try simp only [Act.put, List.setIfInBounds_toArray, List.set_cons_zero, List.set_cons_succ])
    refine plan_skip rfl (by rfl) ?_; (try simp only [Act.put, List.setIfInBounds_toArray, List.set_cons_zero, List.set_cons_succ])
    refine plan_step rfl (fun K hK => ?_)
    rw [if_neg (by intro h; cases h)]
    refine hK.out _ _ K2.out.ten ?_
    clear hK K
    refine plan_step rfl (fun K hK => ?_)
    rw [if_neg (by intro h; cases h)]
    refine hK.out _ _ K2.out.ten ?_
    clear hK K
    refine plan_quiet rfl (by rfl) (v := ?_) ?_ ?_; rotate_left; (intro w1 hSw; (try dsimp only at hSw); go_simp; try (with_reducible rfl)); (try simp only [Act.put, List.setIfInBounds_toArray, List.set_cons_zero, List.set_cons_succ])
    refine plan_step rfl (fun K hK => ?_)
    rw [if_pos (by rfl)]
    go_simp
    refine hK.out _ _ K2.out.ten ?_
    clear hK K
    refine plan_end ?_
    go_wp2
    go_ret
    exact ⟨ret_bool HR.out.symm, T2.out⟩
  have HWt := Lib.hid hwt
  cases hln : (inB (l : Int) 0 120 && X.ln.all (setM X.f))
  · have HR : Hid (machB X = false) := machB_line Hl.out hln
    have HLn := Lib.hid hln
    clear hsp hmg hwt hln
    go_enter Try.func35, Try.ntmps35
    go_wp2
    clear hw0
    refine wp_region_plan (.take 0 (.take 1 (.take 2 (.take 3 (.one 4 (.take 5 (.take 6 (.take 7 (.one 8 (.take 9 (.take 10 (.take 11 (.take 12 (.take 13 (.one 14 (.take 15 (.take 16 (.take 17 (.take 18 (.take 19 (.one 20 (.take 21 (.take 22 (.take 23 (.take 24 (.take 25 (.take 26 (.take 27 (.take 28 (.one 29 (.one 30 (.take 31 (.one 32 .done))))))))))))))))))))))))))))))))) (fun w' => w'.cell? ⟨w.heap.size, 0, none⟩ = some (.string s) ∧ w'.cell? ⟨w.heap.size, 1, none⟩ = some (.slice A n c) ∧ w'.cell? ⟨w.heap.size, 2, none⟩ = some (.slice A2 m d) ∧ w'.cell? ⟨w.heap.size, 3, none⟩ = some (.slice M q e0) ∧ w'.cell? ⟨w.heap.size, 4, none⟩ = some (.int .i64 sp) ∧ w'.cell? ⟨w.heap.size, 5, none⟩ = some (.int .i64 W) ∧ w'.cell? ⟨w.heap.size, 6, none⟩ = some (.int .i64 t) ∧ w'.cell? ⟨w.heap.size, 7, none⟩ = some (.int .i64 k) ∧ w'.cell? ⟨w.heap.size, 8, none⟩ = some (.slice L l lc) ∧ w'.cell? ⟨w.heap.size, 9, none⟩ = some (.slice T r tc)) (by kernel_rfl) (by kernel_rfl) (by kernel_rfl) (by intro c a d v w h; cases d <;> exact h) K0.out.ten ?_
    clear kc0 kc1 kc2 kc3 kc4 kc5 kc6 kc7 kc8 kc9
    refine plan_quiet rfl (by rfl) (v := ?_) ?_ ?_; rotate_left; (intro w1 hSw; (try dsimp only at hSw); go_simp; try (with_reducible rfl)); (try simp only [Act.put, List.setIfInBounds_toArray, List.set_cons_zero, List.set_cons_succ])
    refine plan_quiet rfl (by rfl) (v := ?_) ?_ ?_; rotate_left; (intro w1 hSw; (try dsimp only at hSw); go_simp; try (with_reducible rfl)); (try simp only [Act.put, List.setIfInBounds_toArray, List.set_cons_zero, List.set_cons_succ])
    refine plan_quiet rfl (by rfl) (v := ?_) ?_ ?_; rotate_left; (intro w1 hSw; (try dsimp only at hSw); go_simp; try (with_reducible rfl)); (try simp only [Act.put, List.setIfInBounds_toArray, List.set_cons_zero, List.set_cons_succ])
    refine plan_quiet rfl (by rfl) (v := ?_) ?_ ?_; rotate_left; (intro w1 hSw; (try dsimp only at hSw); go_simp; try (with_reducible rfl)); (try simp only [Act.put, List.setIfInBounds_toArray, List.set_cons_zero, List.set_cons_succ])
    refine plan_step rfl (fun K hK => ?_)
    rw [if_pos (by rfl)]
    go_simp
    refine (implMagOk_any lo hi lo hi _ X.f _ _ _ X.ms w0.drew (FontV.keep (w' := w0.drew) F0.out (fun p _ _ => rfl)) (by show hi ≤ w0.heap.size; omega) HS.out.f Hq.out hq1 (MagI.keep (w' := w0.drew) M0.out (fun p _ _ => rfl)) (by show hi ≤ w0.heap.size; omega) HWf.out.ms).mono ?_
    rintro e w1 ⟨he, hb'⟩
    have hb := undrew hb'
    rw [HMg.out] at he; subst he
    have K1 := Lib.hid (K0.out.below hb z0); have T1 := Lib.hid (T0.out.trans (hb.mono (by omega))); have F1 := Lib.hid (F0.out.below (by omega) hb); have L1 := Lib.hid (L0.out.below (by omega) hb); have W1 := Lib.hid (W0.out.below (by omega) hb)
    have z1 : w.heap.size < w1.heap.size := Nat.lt_of_lt_of_le z0 hb.size
    clear hb hb'
    refine hK.out _ _ K1.out.ten ?_
    clear hK K
    refine plan_quiet rfl (by rfl) (v := ?_) ?_ ?_; rotate_left; (intro w1 hSw; (try dsimp only at hSw); go_simp; try (with_reducible rfl)); (try simp only [Act.put, List.setIfInBounds_toArray, List.set_cons_zero, List.set_cons_succ])
    refine plan_quiet rfl (by rfl) (v := ?_) ?_ ?_; rotate_left; (intro w1 hSw; (try dsimp only at hSw); go_simp; try (with_reducible rfl)); (try simp only [Act.put, List.setIfInBounds_toArray, List.set_cons_zero, List.set_cons_succ])
    refine plan_quiet rfl (by rfl) (v := ?_) ?_ ?_; rotate_left; (intro w1 hSw; (try dsimp only at hSw); go_simp; try (with_reducible rfl)); (try simp only [Act.put, List.setIfInBounds_toArray, List.set_cons_zero, List.set_cons_succ])
    refine plan_step rfl (fun K hK => ?_)
    rw [if_pos (by rfl)]
    go_simp
    refine (isFrom_any _ _ _ _).mono ?_
    rintro e w1' ⟨he, rfl⟩
    rw [HSp.out] at he; subst he
    refine hK.out _ _ K1.out.ten ?_
    clear hK K
    refine plan_quiet rfl (by rfl) (v := ?_) ?_ ?_; rotate_left; (intro w1 hSw; (try dsimp only at hSw); go_simp; try (with_reducible rfl)); (try simp only [Act.put, List.setIfInBounds_toArray, List.set_cons_zero, List.set_cons_succ])
    refine plan_quiet rfl (by rfl) (v := ?_) ?_ ?_; rotate_left; (intro w1 hSw; (try dsimp only at hSw); go_simp; try (with_reducible rfl)); (try simp only [Act.put, List.setIfInBounds_toArray, List.set_cons_zero, List.set_cons_succ])
    refine plan_quiet rfl (by rfl) (v := ?_) ?_ ?_; rotate_left; (intro w1 hSw; (try dsimp only at hSw); go_simp; try (with_reducible rfl)); (try simp only [Act.put, List.setIfInBounds_toArray, List.set_cons_zero, List.set_cons_succ])
    refine plan_quiet rfl (by rfl) (v := ?_) ?_ ?_; rotate_left; (intro w1 hSw; (try dsimp only at hSw); go_simp; try (with_reducible rfl)); (try simp only [Act.put, List.setIfInBounds_toArray, List.set_cons_zero, List.set_cons_succ])
    refine plan_quiet rfl (by rfl) (v := ?_) ?_ ?_; rotate_left; (intro w1 hSw; (try dsimp only at hSw); go_simp; try (with_reducible rfl)); (try simp only [Act.put, List.setIfInBounds_toArray, List.set_cons_zero, List.set_cons_succ])
    refine plan_step rfl (fun K hK => ?_)
    rw [if_pos (by rfl)]
    go_simp
    refine (listMats_any 110 may1_enter w.heap.size (matB X.f) lo hi _ _ _ X.wt _ _ w1 Hr.out (by unfold maxLen; omega) W1.out (by omega) (fun x wr hx hbr => may1_any lo hi w.heap.size _ _ _ _ _ _ _ _ _ _ _ _ _ _ _ X.f x wr (F1.out.below (by omega) hbr) (by have := hbr.size; omega) HS.out.f HF.out (HWf.out.wt x hx) (K1.out.below hbr z1))).mono ?_
    rintro e w2 ⟨he, hb⟩
    rw [HWt.out] at he; subst he
    have K2 := Lib.hid (K1.out.below hb z1); have T2 := Lib.hid (T1.out.trans (hb.mono (by omega))); have F2 := Lib.hid (F1.out.below (by omega) hb); have L2 := Lib.hid (L1.out.below (by omega) hb)
    have z2 : w.heap.size < w2.heap.size := Nat.lt_of_lt_of_le z1 hb.size
    clear hb
    refine hK.out _ _ K2.out.ten ?_
    clear hK K
    refine plan_quiet rfl (by rfl) (v := ?_) ?_ ?_; rotate_left; (intro w1 hSw; (try dsimp only at hSw); go_simp; try (with_reducible rfl)); (try simp only [Act.put, List.setIfInBounds_toArray, List.set_cons_zero, List.set_cons_succ])
    refine plan_quiet rfl (by rfl) (v := ?_) ?_ ?_; rotate_left; (intro w1 hSw; (try dsimp only at hSw); go_simp; try (with_reducible rfl)); (try simp only [Act.put, List.setIfInBounds_toArray, List.set_cons_zero, List.set_cons_succ])
    refine plan_quiet rfl (by rfl) (v := ?_) ?_ ?_; rotate_left; (intro w1 hSw; (try dsimp only at hSw); go_simp; try (with_reducible rfl)); (try simp only [Act.put, List.setIfInBounds_toArray, List.set_cons_zero, List.set_cons_succ])
    refine plan_quiet rfl (by rfl) (v := ?_) ?_ ?_; rotate_left; (intro w1 hSw; (try dsimp only at hSw); go_simp; try (with_reducible rfl)); (try simp only [Act.put, List.setIfInBounds_toArray, List.set_cons_zero, List.set_cons_succ])
    refine plan_quiet rfl (by rfl) (v := ?_) ?_ ?_; rotate_left; (intro w1 hSw; (try dsimp only at hSw); go_simp; try (with_reducible rfl)); (try simp only [Act.put, List.setIfInBounds_toArray, List.set_cons_zero, List.set_cons_succ])
    refine plan_step rfl (fun K hK => ?_)
    rw [if_pos (by rfl)]
    go_simp
    refine (listMats_any 111 may2_enter w.heap.size (setM X.f) lo hi _ _ _ X.ln _ _ w2 Hl.out (by unfold maxLen; omega) L2.out (by omega) (fun x wr hx hbr => may2_any lo hi w.heap.size _ _ _ _ _ _ _ _ _ _ _ _ _ _ _ X.f x wr (F2.out.below (by omega) hbr) (by have := hbr.size; omega) HS.out.f HF.out (HWf.out.ln x hx) (K2.out.below hbr z2))).mono ?_
    rintro e w3 ⟨he, hb⟩
    rw [HLn.out] at he; subst he
    have K3 := Lib.hid (K2.out.below hb z2); have T3 := Lib.hid (T2.out.trans (hb.mono (by omega))); have F3 := Lib.hid (F2.out.below (by omega) hb); have L3 := Lib.hid (L2.out.below (by omega) hb)
    have z3 : w.heap.size < w3.heap.size := Nat.lt_of_lt_of_le z2 hb.size
    clear hb
    refine hK.out _ _ K3.out.ten ?_
    clear hK K
    refine plan_quiet rfl (by rfl) (v := ?_) ?_ ?_; rotate_left; (intro w1 hSw; (try dsimp only at hSw); go_simp; try (with_reducible rfl)); (try simp only [Act.put, List.setIfInBounds_toArray, List.set_cons_zero, List.set_cons_succ])
    refine plan_quiet rfl (by rfl) (v := ?_) ?_ ?_; rotate_left; (intro w1 hSw; (try dsimp only at hSw); go_simp; try (with_reducible rfl)); (try simp only [Act.put, List.setIfInBounds_toArray, List.set_cons_zero, List.set_cons_succ])
    refine plan_skip rfl (by rfl) ?_; (try simp only [Act.put, List.setIfInBounds_toArray, List.set_cons_zero, List.set_cons_succ])
    refine plan_skip rfl (by rfl) ?_; (try simp only [Act.put, List.setIfInBounds_toArray, List.set_cons_zero, List.set_cons_succ])
    refine plan_skip rfl (by rfl) ?_; (try simp only [Act.put, List.setIfInBounds_toArray, List.set_cons_zero, List.set_cons_succ])
    refine plan_skip rfl (by rfl) ?_; (try simp only [Act.put, List.setIfInBounds_toArray, List.set_cons_zero, List.set_cons_succ])
    refine plan_skip rfl (by rfl) ?_; (try simp only [Act.put, List.setIfInBounds_toArray, List.set_cons_zero, List.set_cons_succ])
    refine plan_skip rfl (by rfl) ?_; (try simp only [Act.put, List.setIfInBounds_toArray, List.set_cons_zero, List.set_cons_succ])
    refine plan_step rfl (fun K hK => ?_)
    rw [if_neg (by intro h; cases h)]
    refine hK.out _ _ K3.out.ten ?_
    clear hK K
    refine plan_step rfl (fun K hK => ?_)
    rw [if_neg (by intro h; cases h)]
    refine hK.out _ _ K3.out.ten ?_
    clear hK K
    refine plan_quiet rfl (by rfl) (v := ?_) ?_ ?_; rotate_left; (intro w1 hSw; (try dsimp only at hSw); go_simp; try (with_reducible rfl)); (try simp only [Act.put, List.setIfInBounds_toArray, List.set_cons_zero, List.set_cons_succ])
    refine plan_step rfl (fun K hK => ?_)
    rw [if_pos (by rfl)]
    go_simp
    refine hK.out _ _ K3.out.ten ?_
    clear hK K
    refine plan_end ?_
    go_wp2
    go_ret
    exact ⟨ret_bool HR.out.symm, T3.out⟩
  have HLn := Lib.hid hln
  have HR := Lib.hid (machB_good Hl.out Hr.out hmg (by rw [HE.out.1]; exact hsp) hwt hln)
  have HW2 : Hid (∀ x ∈ X.ln, bandM x = true ∨ (0 ≤ x.1 ∧ x.1.toNat < X.f.ws.length)) := fun x hx => by
    rw [Bool.and_eq_true] at hln
    exact set_item HF.out (List.all_eq_true.1 hln.2 x hx)
  rw [HE.out.2] at HR
  obtain ⟨gd, hgd⟩ : ∃ y, goodB ⟨W, t, k⟩ (itemsM X.f X.ln) = y := ⟨_, rfl⟩
  have HGd := Lib.hid hgd
  rw [hgd] at HR
  clear hsp hmg hwt hln hgd
  go_enter Try.func35, Try.ntmps35
  go_wp2
  clear hw0
  refine wp_region_plan (.take 0 (.take 1 (.take 2 (.take 3 (.one 4 (.take 5 (.take 6 (.take 7 (.one 8 (.take 9 (.take 10 (.take 11 (.take 12 (.take 13 (.one 14 (.take 15 (.take 16 (.take 17 (.take 18 (.take 19 (.one 20 (.take 21 (.take 22 (.take 23 (.take 24 (.take 25 (.take 26 (.take 27 (.take 28 (.one 29 (.one 30 (.take 31 (.one 32 .done))))))))))))))))))))))))))))))))) (fun w' => w'.cell? ⟨w.heap.size, 0, none⟩ = some (.string s) ∧ w'.cell? ⟨w.heap.size, 1, none⟩ = some (.slice A n c) ∧ w'.cell? ⟨w.heap.size, 2, none⟩ = some (.slice A2 m d) ∧ w'.cell? ⟨w.heap.size, 3, none⟩ = some (.slice M q e0) ∧ w'.cell? ⟨w.heap.size, 4, none⟩ = some (.int .i64 sp) ∧ w'.cell? ⟨w.heap.size, 5, none⟩ = some (.int .i64 W) ∧ w'.cell? ⟨w.heap.size, 6, none⟩ = some (.int .i64 t) ∧ w'.cell? ⟨w.heap.size, 7, none⟩ = some (.int .i64 k) ∧ w'.cell? ⟨w.heap.size, 8, none⟩ = some (.slice L l lc) ∧ w'.cell? ⟨w.heap.size, 9, none⟩ = some (.slice T r tc)) (by kernel_rfl) (by kernel_rfl) (by kernel_rfl) (by intro c a d v w h; cases d <;> exact h) K0.out.ten ?_
  clear kc0 kc1 kc2 kc3 kc4 kc5 kc6 kc7 kc8 kc9
  refine plan_quiet rfl (by rfl) (v := ?_) ?_ ?_; rotate_left; (intro w1 hSw; (try dsimp only at hSw); go_simp; try (with_reducible rfl)); (try simp only [Act.put, List.setIfInBounds_toArray, List.set_cons_zero, List.set_cons_succ])
  refine plan_quiet rfl (by rfl) (v := ?_) ?_ ?_; rotate_left; (intro w1 hSw; (try dsimp only at hSw); go_simp; try (with_reducible rfl)); (try simp only [Act.put, List.setIfInBounds_toArray, List.set_cons_zero, List.set_cons_succ])
  refine plan_quiet rfl (by rfl) (v := ?_) ?_ ?_; rotate_left; (intro w1 hSw; (try dsimp only at hSw); go_simp; try (with_reducible rfl)); (try simp only [Act.put, List.setIfInBounds_toArray, List.set_cons_zero, List.set_cons_succ])
  refine plan_quiet rfl (by rfl) (v := ?_) ?_ ?_; rotate_left; (intro w1 hSw; (try dsimp only at hSw); go_simp; try (with_reducible rfl)); (try simp only [Act.put, List.setIfInBounds_toArray, List.set_cons_zero, List.set_cons_succ])
  refine plan_step rfl (fun K hK => ?_)
  rw [if_pos (by rfl)]
  go_simp
  refine (implMagOk_any lo hi lo hi _ X.f _ _ _ X.ms w0.drew (FontV.keep (w' := w0.drew) F0.out (fun p _ _ => rfl)) (by show hi ≤ w0.heap.size; omega) HS.out.f Hq.out hq1 (MagI.keep (w' := w0.drew) M0.out (fun p _ _ => rfl)) (by show hi ≤ w0.heap.size; omega) HWf.out.ms).mono ?_
  rintro e w1 ⟨he, hb'⟩
  have hb := undrew hb'
  rw [HMg.out] at he; subst he
  have K1 := Lib.hid (K0.out.below hb z0); have T1 := Lib.hid (T0.out.trans (hb.mono (by omega))); have F1 := Lib.hid (F0.out.below (by omega) hb); have L1 := Lib.hid (L0.out.below (by omega) hb); have W1 := Lib.hid (W0.out.below (by omega) hb)
  have z1 : w.heap.size < w1.heap.size := Nat.lt_of_lt_of_le z0 hb.size
  clear hb hb'
  refine hK.out _ _ K1.out.ten ?_
  clear hK K
  refine plan_quiet rfl (by rfl) (v := ?_) ?_ ?_; rotate_left; (intro w1 hSw; (try dsimp only at hSw); go_simp; try (with_reducible rfl)); (try simp only [Act.put, List.setIfInBounds_toArray, List.set_cons_zero, List.set_cons_succ])
  refine plan_quiet rfl (by rfl) (v := ?_) ?_ ?_; rotate_left; (intro w1 hSw; (try dsimp only at hSw); go_simp; try (with_reducible rfl)); (try simp only [Act.put, List.setIfInBounds_toArray, List.set_cons_zero, List.set_cons_succ])
  refine plan_quiet rfl (by rfl) (v := ?_) ?_ ?_; rotate_left; (intro w1 hSw; (try dsimp only at hSw); go_simp; try (with_reducible rfl)); (try simp only [Act.put, List.setIfInBounds_toArray, List.set_cons_zero, List.set_cons_succ])
  refine plan_step rfl (fun K hK => ?_)
  rw [if_pos (by rfl)]
  go_simp
  refine (isFrom_any _ _ _ _).mono ?_
  rintro e w1' ⟨he, rfl⟩
  rw [HSp.out] at he; subst he
  refine hK.out _ _ K1.out.ten ?_
  clear hK K
  refine plan_quiet rfl (by rfl) (v := ?_) ?_ ?_; rotate_left; (intro w1 hSw; (try dsimp only at hSw); go_simp; try (with_reducible rfl)); (try simp only [Act.put, List.setIfInBounds_toArray, List.set_cons_zero, List.set_cons_succ])
  refine plan_quiet rfl (by rfl) (v := ?_) ?_ ?_; rotate_left; (intro w1 hSw; (try dsimp only at hSw); go_simp; try (with_reducible rfl)); (try simp only [Act.put, List.setIfInBounds_toArray, List.set_cons_zero, List.set_cons_succ])
  refine plan_quiet rfl (by rfl) (v := ?_) ?_ ?_; rotate_left; (intro w1 hSw; (try dsimp only at hSw); go_simp; try (with_reducible rfl)); (try simp only [Act.put, List.setIfInBounds_toArray, List.set_cons_zero, List.set_cons_succ])
  refine plan_quiet rfl (by rfl) (v := ?_) ?_ ?_; rotate_left; (intro w1 hSw; (try dsimp only at hSw); go_simp; try (with_reducible rfl)); (try simp only [Act.put, List.setIfInBounds_toArray, List.set_cons_zero, List.set_cons_succ])
  refine plan_quiet rfl (by rfl) (v := ?_) ?_ ?_; rotate_left; (intro w1 hSw; (try dsimp only at hSw); go_simp; try (with_reducible rfl)); (try simp only [Act.put, List.setIfInBounds_toArray, List.set_cons_zero, List.set_cons_succ])
  refine plan_step rfl (fun K hK => ?_)
  rw [if_pos (by rfl)]
  go_simp
  refine (listMats_any 110 may1_enter w.heap.size (matB X.f) lo hi _ _ _ X.wt _ _ w1 Hr.out (by unfold maxLen; omega) W1.out (by omega) (fun x wr hx hbr => may1_any lo hi w.heap.size _ _ _ _ _ _ _ _ _ _ _ _ _ _ _ X.f x wr (F1.out.below (by omega) hbr) (by have := hbr.size; omega) HS.out.f HF.out (HWf.out.wt x hx) (K1.out.below hbr z1))).mono ?_
  rintro e w2 ⟨he, hb⟩
  rw [HWt.out] at he; subst he
  have K2 := Lib.hid (K1.out.below hb z1); have T2 := Lib.hid (T1.out.trans (hb.mono (by omega))); have F2 := Lib.hid (F1.out.below (by omega) hb); have L2 := Lib.hid (L1.out.below (by omega) hb)
  have z2 : w.heap.size < w2.heap.size := Nat.lt_of_lt_of_le z1 hb.size
  clear hb
  refine hK.out _ _ K2.out.ten ?_
  clear hK K
  refine plan_quiet rfl (by rfl) (v := ?_) ?_ ?_; rotate_left; (intro w1 hSw; (try dsimp only at hSw); go_simp; try (with_reducible rfl)); (try simp only [Act.put, List.setIfInBounds_toArray, List.set_cons_zero, List.set_cons_succ])
  refine plan_quiet rfl (by rfl) (v := ?_) ?_ ?_; rotate_left; (intro w1 hSw; (try dsimp only at hSw); go_simp; try (with_reducible rfl)); (try simp only [Act.put, List.setIfInBounds_toArray, List.set_cons_zero, List.set_cons_succ])
  refine plan_quiet rfl (by rfl) (v := ?_) ?_ ?_; rotate_left; (intro w1 hSw; (try dsimp only at hSw); go_simp; try (with_reducible rfl)); (try simp only [Act.put, List.setIfInBounds_toArray, List.set_cons_zero, List.set_cons_succ])
  refine plan_quiet rfl (by rfl) (v := ?_) ?_ ?_; rotate_left; (intro w1 hSw; (try dsimp only at hSw); go_simp; try (with_reducible rfl)); (try simp only [Act.put, List.setIfInBounds_toArray, List.set_cons_zero, List.set_cons_succ])
  refine plan_quiet rfl (by rfl) (v := ?_) ?_ ?_; rotate_left; (intro w1 hSw; (try dsimp only at hSw); go_simp; try (with_reducible rfl)); (try simp only [Act.put, List.setIfInBounds_toArray, List.set_cons_zero, List.set_cons_succ])
  refine plan_step rfl (fun K hK => ?_)
  rw [if_pos (by rfl)]
  go_simp
  refine (listMats_any 111 may2_enter w.heap.size (setM X.f) lo hi _ _ _ X.ln _ _ w2 Hl.out (by unfold maxLen; omega) L2.out (by omega) (fun x wr hx hbr => may2_any lo hi w.heap.size _ _ _ _ _ _ _ _ _ _ _ _ _ _ _ X.f x wr (F2.out.below (by omega) hbr) (by have := hbr.size; omega) HS.out.f HF.out (HWf.out.ln x hx) (K2.out.below hbr z2))).mono ?_
  rintro e w3 ⟨he, hb⟩
  rw [HLn.out] at he; subst he
  have K3 := Lib.hid (K2.out.below hb z2); have T3 := Lib.hid (T2.out.trans (hb.mono (by omega))); have F3 := Lib.hid (F2.out.below (by omega) hb); have L3 := Lib.hid (L2.out.below (by omega) hb)
  have z3 : w.heap.size < w3.heap.size := Nat.lt_of_lt_of_le z2 hb.size
  clear hb
  refine hK.out _ _ K3.out.ten ?_
  clear hK K
  refine plan_quiet rfl (by rfl) (v := ?_) ?_ ?_; rotate_left; (intro w1 hSw; (try dsimp only at hSw); go_simp; try (with_reducible rfl)); (try simp only [Act.put, List.setIfInBounds_toArray, List.set_cons_zero, List.set_cons_succ])
  refine plan_quiet rfl (by rfl) (v := ?_) ?_ ?_; rotate_left; (intro w1 hSw; (try dsimp only at hSw); go_simp; try (with_reducible rfl)); (try simp only [Act.put, List.setIfInBounds_toArray, List.set_cons_zero, List.set_cons_succ])
  refine plan_quiet rfl (by rfl) (v := ?_) ?_ ?_; rotate_left; (intro w1 hSw; (try dsimp only at hSw); go_simp; try (with_reducible rfl)); (try simp only [Act.put, List.setIfInBounds_toArray, List.set_cons_zero, List.set_cons_succ])
  refine plan_quiet rfl (by rfl) (v := ?_) ?_ ?_; rotate_left; (intro w1 hSw; (try dsimp only at hSw); go_simp; try (with_reducible rfl)); (try simp only [Act.put, List.setIfInBounds_toArray, List.set_cons_zero, List.set_cons_succ])
  refine plan_quiet rfl (by rfl) (v := ?_) ?_ ?_; rotate_left; (intro w1 hSw; (try dsimp only at hSw); go_simp; try (with_reducible rfl)); (try simp only [Act.put, List.setIfInBounds_toArray, List.set_cons_zero, List.set_cons_succ])
  refine plan_quiet rfl (by rfl) (v := ?_) ?_ ?_; rotate_left; (intro w1 hSw; (try dsimp only at hSw); go_simp; try (with_reducible rfl)); (try simp only [Act.put, List.setIfInBounds_toArray, List.set_cons_zero, List.set_cons_succ])
  refine plan_quiet rfl (by rfl) (v := ?_) ?_ ?_; rotate_left; (intro w1 hSw; (try dsimp only at hSw); go_simp; try (with_reducible rfl)); (try simp only [Act.put, List.setIfInBounds_toArray, List.set_cons_zero, List.set_cons_succ])
  refine plan_quiet rfl (by rfl) (v := ?_) ?_ ?_; rotate_left; (intro w1 hSw; (try dsimp only at hSw); go_simp; try (with_reducible rfl)); (try simp only [Act.put, List.setIfInBounds_toArray, List.set_cons_zero, List.set_cons_succ])
  refine plan_step rfl (fun K hK => ?_)
  rw [if_pos (by rfl)]
  go_simp
  refine (itemsOf_any lo hi lo hi _ X.f _ _ _ X.ln w3 F3.out (by omega) Hl.out hl1 L3.out (by omega) HW2.out).mono ?_
  rintro e w4 ⟨u, rfl, hO, hb⟩
  obtain ⟨U, uc, rfl, hI4, -, huc, hum⟩ := hO.form
  have hul : (itemsM X.f X.ln).length ≤ maxLen := by rw [itemsM_len, Hl.out]; unfold maxLen; omega
  have K4 := Lib.hid (K3.out.below hb z3); have T4 := Lib.hid (T3.out.trans (hb.mono (by omega))); have I4 := Lib.hid hI4
  have z4 : w.heap.size < w4.heap.size := Nat.lt_of_lt_of_le z3 hb.size
  clear hb hO hI4
  refine hK.out _ _ K4.out.ten ?_
  clear hK K
  refine plan_step rfl (fun K hK => ?_)
  rw [if_pos (by rfl)]
  go_simp
  refine (isFitting_any W t k _ _ _ (itemsM X.f X.ln) w4 rfl hul I4.out).mono ?_
  rintro e w5 ⟨he, hb⟩
  rw [HGd.out] at he; subst he
  have K5 := Lib.hid (K4.out.below hb z4); have T5 := Lib.hid (T4.out.trans (hb.mono (by omega)))
  clear hb
  refine hK.out _ _ K5.out.ten ?_
  clear hK K
  refine plan_quiet rfl (by rfl) (v := ?_) ?_ ?_; rotate_left; (intro w1 hSw; (try dsimp only at hSw); go_simp; try (with_reducible rfl)); (try simp only [Act.put, List.setIfInBounds_toArray, List.set_cons_zero, List.set_cons_succ])
  refine plan_step rfl (fun K hK => ?_)
  rw [if_pos (by rfl)]
  go_simp
  refine hK.out _ _ K5.out.ten ?_
  clear hK K
  refine plan_end ?_
  go_wp2
  go_ret
  exact ⟨ret_bool HR.out.symm, T5.out⟩
end Go.Proofs.Ythoepelgmplcmaa
