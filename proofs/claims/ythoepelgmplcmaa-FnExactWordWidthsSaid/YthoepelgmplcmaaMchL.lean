/-
  ItemsOf of the model and the program by contract. Conditions: lengths of at most 2^20, teeth in the range of int.
-/
import Derived.Test.YthoepelgmplcmaaMchJ
namespace Go.Proofs.Ythoepelgmplcmaa
open Go.RowKit
set_option linter.unusedVariables false

theorem machB_parts {X : Mch} (h : machB X = true) : magB X.f X.ms = true ∧ inB X.sp 0 60 = true ∧ X.wt.length ≤ 240 ∧ X.wt.all (matB X.f) = true ∧ X.ln.length ≤ 120 ∧ X.ln.all (setM X.f) = true ∧ goodB X.m (itemsM X.f X.ln) = true := by
  unfold machB at h
  simp only [Bool.and_eq_true, decide_eq_true_eq] at h
  exact ⟨h.1, h.2.1, h.2.2.1.1, h.2.2.1.2, h.2.2.2.1.1, h.2.2.2.1.2, h.2.2.2.2⟩
def itsA (X : Mch) : List Int := if machB X then itemsM X.f X.ln else []
theorem itsA_len (X : Mch) : (itsA X).length ≤ 1048576 := by
  unfold itsA
  split
  · rename_i h
    have := (machB_parts h).2.2.2.2.1
    rw [itemsM_len]; omega
  · simp
theorem items_set {X : Mch} (h : machB X = true) : ∀ x ∈ X.ln, bandM x = true ∨ (0 ≤ x.1 ∧ x.1.toNat < X.f.ws.length) := fun x hx =>
  set_item (magB_font (machB_parts h).1) (List.all_eq_true.1 (machB_parts h).2.2.2.2.2.1 x hx)
theorem items_wid {X : Mch} (h : machB X = true) : ∀ x ∈ X.ln, hasWid X.f x := fun x hx =>
  set_hasWid (magB_font (machB_parts h).1) (List.all_eq_true.1 (machB_parts h).2.2.2.2.2.1 x hx)
theorem own_intsQ {w : World} {B n c : Nat} {A : Option Addr} {zs : List Int} (h : Own w B (.slice A n c) zs) : Ints w A zs := (IntsI.of_own h).ints
theorem own_none (w : World) (B : Nat) : Own w B (.slice none 0 0) [] := ⟨rfl, .inl ⟨rfl, rfl⟩⟩
set_option maxRecDepth 100000 in
set_option maxHeartbeats 1600000 in
theorem specItems_any (lo hi : Nat) (v : Value) (X : Mch) (w : World) (h : MchV w lo hi v X) (hhi : hi ≤ w.heap.size) (hs : SmallX X) :
    Calls Try.prog 46 #[v] w fun e w' => ∃ u, e = .returned u ∧ Own w' w.heap.size u (itsA X) ∧ Below w.heap.size w w' := by
  obtain ⟨s, A, n, c, A2, m, d, M, q, e0, L, l, lc, T, r, tc, rfl, hf, hq, hM, hqe, hem, hl, hL, hllc, hlm, hr, hT, hrt, htm⟩ := h.parts
  have Hq := Lib.hid hq; have Hl := Lib.hid hl; have Hr := Lib.hid hr; have HS := Lib.hid hs
  have hq1 : q ≤ 1048576 := by rw [← hq]; exact hs.ms
  have hl1 : l ≤ 1048576 := by rw [← hl]; exact hs.ln
  have hr1 : r ≤ 1048576 := by rw [← hr]; exact hs.wt
  obtain ⟨sp, hsp⟩ : ∃ x, X.sp = x := ⟨_, rfl⟩
  obtain ⟨W, hW⟩ : ∃ x, X.w = x := ⟨_, rfl⟩
  obtain ⟨t, ht⟩ : ∃ x, X.t = x := ⟨_, rfl⟩
  obtain ⟨k, hk⟩ : ∃ x, X.k = x := ⟨_, rfl⟩
  rw [hsp, hW, ht, hk] at h ⊢
  have HE : Hid (X.sp = sp ∧ X.m = ⟨W, t, k⟩) := ⟨hsp, by unfold Mch.m; rw [hW, ht, hk]⟩
  obtain ⟨w0, hw0, hb0, hz0, K0⟩ := mxWorld w #[.string s, .slice A n c, .slice A2 m d, .slice M q e0, .int .i64 sp, .int .i64 W, .int .i64 t, .int .i64 k, .slice L l lc, .slice T r tc] 61
  have T0 := Lib.hid hb0; have K0 := Lib.hid K0; have Z0 := Lib.hid hz0
  have F0 := Lib.hid (hf.below hhi hb0); have M0 := Lib.hid (hM.below hhi hb0); have L0 := Lib.hid (hL.below hhi hb0); have W0 := Lib.hid (hT.below hhi hb0)
  have z0 : w.heap.size < w0.heap.size := by omega
  have V0 := Lib.hid (h.below hhi hb0)
  clear h hf hq hM hqe hem hl hL hllc hlm hr hT hrt htm hsp hW ht hk hb0 hz0 hs
  obtain ⟨kc0, kc1, kc2, kc3, kc4, kc5, kc6, kc7, kc8, kc9⟩ := K0.out.ten
  cases hmb : machB X
  · have HM := Lib.hid hmb
    have HR : Hid (itsA X = []) := by show _ = _; unfold itsA; rw [hmb]; rfl
    clear hmb
    go_enter Try.func46, Try.ntmps46
    go_wp2_with fail
    clear hw0
    refine (specMachine_any lo hi _ X w0 V0.out (by omega) HS.out).mono ?_
    rintro e w1 ⟨rfl, hb⟩
    rw [HM.out]
    have K1 := Lib.hid (K0.out.below hb (by omega)); have T1 := Lib.hid (T0.out.trans (hb.mono (by omega))); have z1 : w.heap.size < w1.heap.size := Nat.lt_of_lt_of_le z0 hb.size; clear hb kc0 kc1 kc2 kc3 kc4 kc5 kc6 kc7 kc8 kc9; obtain ⟨kc0, kc1, kc2, kc3, kc4, kc5, kc6, kc7, kc8, kc9⟩ := K1.out.ten
    go_wp2
    go_ret
    exact ⟨_, rfl, by rw [HR.out]; exact own_none _ _, T1.out⟩
  have HM := Lib.hid hmb
  have HR : Hid (itsA X = itemsM X.f X.ln) := by show _ = _; unfold itsA; rw [hmb]; rfl
  have HW := Lib.hid (items_wid hmb)
  clear hmb
  go_enter Try.func46, Try.ntmps46
  go_wp2_with fail
  clear hw0
  refine (specMachine_any lo hi _ X w0 V0.out (by omega) HS.out).mono ?_
  rintro e w1 ⟨rfl, hb⟩
  rw [HM.out]
  have K1 := Lib.hid (K0.out.below hb (by omega)); have T1 := Lib.hid (T0.out.trans (hb.mono (by omega))); have z1 : w.heap.size < w1.heap.size := Nat.lt_of_lt_of_le z0 hb.size; have F1 := Lib.hid (F0.out.below (by omega) hb); have L1 := Lib.hid (L0.out.below (by omega) hb); clear hb kc0 kc1 kc2 kc3 kc4 kc5 kc6 kc7 kc8 kc9; obtain ⟨kc0, kc1, kc2, kc3, kc4, kc5, kc6, kc7, kc8, kc9⟩ := K1.out.ten
  go_wp2_with fail
  refine (l5Items_any lo hi lo hi _ X.f _ _ _ X.ln w1 F1.out (by omega) Hl.out hl1 L1.out (by omega) HW.out).mono ?_
  rintro e w2 ⟨u, rfl, hO, hb⟩
  have O2 := Lib.hid hO; have T2 := Lib.hid (T1.out.trans (hb.mono (by omega)))
  clear hO hb kc0 kc1 kc2 kc3 kc4 kc5 kc6 kc7 kc8 kc9
  go_wp2
  go_ret
  exact ⟨_, rfl, by rw [HR.out]; exact own_baseB O2.out (by omega), T2.out⟩
set_option maxRecDepth 100000 in
set_option maxHeartbeats 1600000 in
theorem implItems_any (lo hi : Nat) (v : Value) (X : Mch) (w : World) (h : MchV w lo hi v X) (hhi : hi ≤ w.heap.size) (hs : SmallX X) (wf : WfX X) :
    Calls Try.prog 47 #[v] w fun e w' => ∃ u, e = .returned u ∧ Own w' w.heap.size u (itsA X) ∧ Below w.heap.size w w' := by
  have HWf := Lib.hid wf
  clear wf
  obtain ⟨s, A, n, c, A2, m, d, M, q, e0, L, l, lc, T, r, tc, rfl, hf, hq, hM, hqe, hem, hl, hL, hllc, hlm, hr, hT, hrt, htm⟩ := h.parts
  have Hq := Lib.hid hq; have Hl := Lib.hid hl; have Hr := Lib.hid hr; have HS := Lib.hid hs
  have hq1 : q ≤ 1048576 := by rw [← hq]; exact hs.ms
  have hl1 : l ≤ 1048576 := by rw [← hl]; exact hs.ln
  have hr1 : r ≤ 1048576 := by rw [← hr]; exact hs.wt
  obtain ⟨sp, hsp⟩ : ∃ x, X.sp = x := ⟨_, rfl⟩
  obtain ⟨W, hW⟩ : ∃ x, X.w = x := ⟨_, rfl⟩
  obtain ⟨t, ht⟩ : ∃ x, X.t = x := ⟨_, rfl⟩
  obtain ⟨k, hk⟩ : ∃ x, X.k = x := ⟨_, rfl⟩
  rw [hsp, hW, ht, hk] at h ⊢
  have HE : Hid (X.sp = sp ∧ X.m = ⟨W, t, k⟩) := ⟨hsp, by unfold Mch.m; rw [hW, ht, hk]⟩
  obtain ⟨w0, hw0, hb0, hz0, K0⟩ := mxWorld w #[.string s, .slice A n c, .slice A2 m d, .slice M q e0, .int .i64 sp, .int .i64 W, .int .i64 t, .int .i64 k, .slice L l lc, .slice T r tc] 61
  have T0 := Lib.hid hb0; have K0 := Lib.hid K0; have Z0 := Lib.hid hz0
  have F0 := Lib.hid (hf.below hhi hb0); have M0 := Lib.hid (hM.below hhi hb0); have L0 := Lib.hid (hL.below hhi hb0); have W0 := Lib.hid (hT.below hhi hb0)
  have z0 : w.heap.size < w0.heap.size := by omega
  have V0 := Lib.hid (h.below hhi hb0)
  clear h hf hq hM hqe hem hl hL hllc hlm hr hT hrt htm hsp hW ht hk hb0 hz0 hs
  obtain ⟨kc0, kc1, kc2, kc3, kc4, kc5, kc6, kc7, kc8, kc9⟩ := K0.out.ten
  cases hmb : machB X
  · have HM := Lib.hid hmb
    have HR : Hid (itsA X = []) := by show _ = _; unfold itsA; rw [hmb]; rfl
    clear hmb
    go_enter Try.func47, Try.ntmps47
    go_wp2_with fail
    clear hw0
    refine (implMachine_any lo hi _ X w0 V0.out (by omega) HS.out HWf.out).mono ?_
    rintro e w1 ⟨rfl, hb⟩
    rw [HM.out]
    have K1 := Lib.hid (K0.out.below hb (by omega)); have T1 := Lib.hid (T0.out.trans (hb.mono (by omega))); have z1 : w.heap.size < w1.heap.size := Nat.lt_of_lt_of_le z0 hb.size; clear hb kc0 kc1 kc2 kc3 kc4 kc5 kc6 kc7 kc8 kc9; obtain ⟨kc0, kc1, kc2, kc3, kc4, kc5, kc6, kc7, kc8, kc9⟩ := K1.out.ten
    go_wp2
    go_ret
    exact ⟨_, rfl, by rw [HR.out]; exact own_none _ _, T1.out⟩
  have HM := Lib.hid hmb
  have HR : Hid (itsA X = itemsM X.f X.ln) := by show _ = _; unfold itsA; rw [hmb]; rfl
  have HW := Lib.hid (items_set hmb)
  clear hmb
  go_enter Try.func47, Try.ntmps47
  go_wp2_with fail
  clear hw0
  refine (implMachine_any lo hi _ X w0 V0.out (by omega) HS.out HWf.out).mono ?_
  rintro e w1 ⟨rfl, hb⟩
  rw [HM.out]
  have K1 := Lib.hid (K0.out.below hb (by omega)); have T1 := Lib.hid (T0.out.trans (hb.mono (by omega))); have z1 : w.heap.size < w1.heap.size := Nat.lt_of_lt_of_le z0 hb.size; have F1 := Lib.hid (F0.out.below (by omega) hb); have L1 := Lib.hid (L0.out.below (by omega) hb); clear hb kc0 kc1 kc2 kc3 kc4 kc5 kc6 kc7 kc8 kc9; obtain ⟨kc0, kc1, kc2, kc3, kc4, kc5, kc6, kc7, kc8, kc9⟩ := K1.out.ten
  go_wp2_with fail
  refine (itemsOf_any lo hi lo hi _ X.f _ _ _ X.ln w1 F1.out (by omega) Hl.out hl1 L1.out (by omega) HW.out).mono ?_
  rintro e w2 ⟨u, rfl, hO, hb⟩
  have O2 := Lib.hid hO; have T2 := Lib.hid (T1.out.trans (hb.mono (by omega)))
  clear hO hb kc0 kc1 kc2 kc3 kc4 kc5 kc6 kc7 kc8 kc9
  go_wp2
  go_ret
  exact ⟨_, rfl, by rw [HR.out]; exact own_baseB O2.out (by omega), T2.out⟩
end Go.Proofs.Ythoepelgmplcmaa
