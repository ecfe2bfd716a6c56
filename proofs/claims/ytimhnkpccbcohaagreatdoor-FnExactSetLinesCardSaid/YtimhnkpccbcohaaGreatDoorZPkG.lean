/-
 Contracts and plain mathematics (Bridge, Plan, MchS2, MchJ, MchL), each with its conditions in its own statement.
-/
import Derived.Test.YtimhnkpccbcohaaGreatDoorZPkC
import Derived.OrdersIn
import Derived.OrdersHeld
import Derived.StillTailTactics
import Derived.Deep.RegionHeld3
import Derived.Test.YtimhnkpccbcohaaGreatDoorZPkF
namespace Go.Proofs.YtimhnkpccbcohaaGreatDoor
open Go.RowKit Go.Shelf
set_option linter.unusedVariables false

end Go.Proofs.YtimhnkpccbcohaaGreatDoor

namespace Go.Proofs.YtimhnkpccbcohaaGreatDoor
open Go.RowKit Go.Shelf
set_option linter.unusedVariables false

section
variable {P : Program} {ops : Array Oper} {Q : Exit → Act → World → Prop} {S : World → Prop}
inductive Plan where
 | done
 | take (i : Nat) (p : Plan)
 | one (i : Nat) (p : Plan)
 | two (i j : Nat) (p q : Plan)
/-- is it a plan? take: operation i may be taken first; one: it alone may come up; two: one of two may -/
def planB (ops : Array Oper) : Plan → Nat → Array Bool → Bool
 | .done, k, listed => k == 0 && (Region.ready .any ops listed).isEmpty
 | .take i p, k + 1, listed => Region.free .any ops listed i && ((Region.ready .any ops listed).contains i && planB ops p k (listed.setIfInBounds i true))
 | .one i p, k + 1, listed => (Region.ready .any ops listed == [i]) && planB ops p k (listed.setIfInBounds i true)
 | .two i j p q, k + 1, listed => (Region.ready .any ops listed == [i, j]) && (planB ops p k (listed.setIfInBounds i true) && planB ops q k (listed.setIfInBounds j true))
 | _, 0, _ => false
def wpPlan (P : Program) (ops : Array Oper) (Q : Exit → Act → World → Prop) (S : World → Prop) : Plan → Act → World → Prop
 | .done, a, w => Q .normal a w
 | .take i p, a, w => ∃ o v, ops[i]? = some o ∧ YieldsIf P ops S o v a ∧ wpPlan P ops Q S p (a.put o.dst v) w
 | .one i p, a, w => wpOp P ops Q i (fun a' w' => S w' ∧ wpPlan P ops Q S p a' w') a w
 | .two i j p q, a, w => wpOp P ops Q i (fun a' w' => S w' ∧ wpPlan P ops Q S p a' w') a w ∧ wpOp P ops Q j (fun a' w' => S w' ∧ wpPlan P ops Q S q a' w') a w
theorem plan_any (hs : Region.noSelect ops = true) (hQ : ∀ c a d v w, Q (.panic c) (Act.put a d v) w → Q (.panic c) a w) : ∀ (pl : Plan) (k : Nat) (listed : Array Bool) (a : Act) (w : World), planB ops pl k listed = true → S w → wpPlan P ops Q S pl a w →
  wpAnyH P .any ops Q S k listed a w
 | .done, k, listed, a, w, hB, hS, h => by
  unfold planB at hB
  rw [Bool.and_eq_true] at hB
  exact wpAnyH_done (List.isEmpty_iff.1 hB.2) h k
 | .take i p, 0, listed, a, w, hB, hS, h => by simp [planB] at hB
 | .one i p, 0, listed, a, w, hB, hS, h => by simp [planB] at hB
 | .two i j p q, 0, listed, a, w, hB, hS, h => by simp [planB] at hB
 | .take i p, k + 1, listed, a, w, hB, hS, h => by
  unfold planB at hB
  rw [Bool.and_eq_true, Bool.and_eq_true] at hB
  obtain ⟨o, v, ho, hy, h⟩ := h
  exact wpAnyH_take ho hs hB.1 hB.2.1 (fun c a w => hQ c a _ _ w) hy hS (plan_any hs hQ p k _ _ _ hB.2.2 hS h)
 | .one i p, k + 1, listed, a, w, hB, hS, h => by
  unfold planB at hB
  rw [Bool.and_eq_true] at hB
  refine wpAnyH_all (eq_of_beq hB.1) (by simp) (fun j hj => ?_)
  rw [List.mem_singleton] at hj
  subst hj
  exact wpOp_mono (fun a' w' h' => ⟨h'.1, plan_any hs hQ p k _ _ _ hB.2 h'.1 h'.2⟩) h
 | .two i j p q, k + 1, listed, a, w, hB, hS, h => by
  unfold planB at hB
  rw [Bool.and_eq_true, Bool.and_eq_true] at hB
  refine wpAnyH_all (eq_of_beq hB.1) (by simp) (fun x hx => ?_)
  rw [List.mem_cons, List.mem_singleton] at hx
  rcases hx with rfl | rfl
  ·exact wpOp_mono (fun a' w' h' => ⟨h'.1, plan_any hs hQ p k _ _ _ hB.2.1 h'.1 h'.2⟩) h.1
  ·exact wpOp_mono (fun a' w' h' => ⟨h'.1, plan_any hs hQ q k _ _ _ hB.2.2 h'.1 h'.2⟩) h.2
theorem wp_region_plan {id : Nat} {a : Act} {w : World} (pl : Plan) (S : World → Prop) (hm : P.follows .mixedOrders = true) (hs : Region.noSelect ops = true) (hB : planB ops pl ops.size (Array.replicate ops.size false) = true)
  (hQ : ∀ c a d v w, Q (.panic c) (Act.put a d v) w → Q (.panic c) a w) (hS : S w.drew) (h : wpPlan P ops Q S pl a w.drew) : (Code.region id ops true).wp P Q a w :=
 wp_region_held hm (plan_any hs hQ pl _ _ a w.drew hB hS h)
theorem plan_quiet {i : Nat} {p : Plan} {o : Oper} {v : Value} {a : Act} {w : World} (ho : ops.toList[i]? = some o) (hw : Region.wanted o (yielded ops a.tmps) = true) (hy : ∀ w1, S w1 → (execOp a.eval o).run P w1 = .ok (.value v) w1)
  (h : wpPlan P ops Q S p (a.put o.dst v) w) : wpPlan P ops Q S (.take i p) a w :=
 ⟨o, v, by rw [← Array.getElem?_toList]; exact ho, .inl ⟨hw, hy⟩, h⟩
theorem plan_skip {i : Nat} {p : Plan} {o : Oper} {a : Act} {w : World} (ho : ops.toList[i]? = some o) (hw : Region.wanted o (yielded ops a.tmps) = false)
  (h : wpPlan P ops Q S p (a.put o.dst undef) w) : wpPlan P ops Q S (.take i p) a w :=
 ⟨o, undef, by rw [← Array.getElem?_toList]; exact ho, .inr ⟨hw, rfl⟩, h⟩
theorem plan_step {i : Nat} {p : Plan} {o : Oper} {a : Act} {w : World} (ho : ops.toList[i]? = some o)
  (h : ∀ K : Act → World → Prop, Shut (∀ a w, S w → wpPlan P ops Q S p a w → K a w) → if Region.wanted o (yielded ops a.tmps) = true then Oper.wp P o a w K Q else K (a.put o.dst undef) w) : wpPlan P ops Q S (.one i p) a w :=
 wpOp_step (by rw [← Array.getElem?_toList]; exact ho) (fun K' hK => h K' (fun a w hS hW => hK a w ⟨hS, hW⟩))
theorem plan_fork {i j : Nat} {p q : Plan} {o o2 : Oper} {a : Act} {w : World} (ho : ops.toList[i]? = some o) (ho2 : ops.toList[j]? = some o2)
  (h : ∀ K : Act → World → Prop, Shut (∀ a w, S w → wpPlan P ops Q S p a w → K a w) → if Region.wanted o (yielded ops a.tmps) = true then Oper.wp P o a w K Q else K (a.put o.dst undef) w)
  (h2 : ∀ K : Act → World → Prop, Shut (∀ a w, S w → wpPlan P ops Q S q a w → K a w) → if Region.wanted o2 (yielded ops a.tmps) = true then Oper.wp P o2 a w K Q else K (a.put o2.dst undef) w) : wpPlan P ops Q S (.two i j p q) a w :=
 ⟨wpOp_step (by rw [← Array.getElem?_toList]; exact ho) (fun K' hK => h K' (fun a w hS hW => hK a w ⟨hS, hW⟩)), wpOp_step (by rw [← Array.getElem?_toList]; exact ho2) (fun K' hK => h2 K' (fun a w hS hW => hK a w ⟨hS, hW⟩))⟩
theorem plan_end {a : Act} {w : World} (h : Q .normal a w) : wpPlan P ops Q S .done a w := h
end
end Go.Proofs.YtimhnkpccbcohaaGreatDoor

namespace Go.Proofs.YtimhnkpccbcohaaGreatDoor
open Go.RowKit
set_option linter.unusedVariables false

theorem machB_mag {X : Mch} (h : magB X.f X.ms = false) : machB X = false := by unfold machB; rw [h]; rfl
theorem machB_sp {X : Mch} (h : inB X.sp 0 60 = false) : machB X = false := by unfold machB; rw [h]; simp
theorem machB_ms {X : Mch} (h : msrB X.m = false) : machB X = false := by unfold machB; rw [good_no h]; simp
theorem machB_wl {X : Mch} (h : ¬ X.wt.length ≤ 240) : machB X = false := by unfold machB; rw [decide_eq_false h]; simp
theorem machB_wt {X : Mch} {j : Nat} {x : Mat} (hx : X.wt[j]? = some x) (h : matB X.f x = false) : machB X = false := by
 unfold machB; rw [mats_bad hx h]; simp
theorem machB_ln {X : Mch} {j : Nat} {x : Mat} (hx : X.ln[j]? = some x) (h : setM X.f x = false) : machB X = false := by
 unfold machB; rw [mats_bad hx h]; simp
theorem machB_fit {X : Mch} (h1 : magB X.f X.ms = true) (h2 : inB X.sp 0 60 = true) (h3 : msrB X.m = true) (h4 : X.wt.length ≤ 240) (h5 : X.wt.all (matB X.f) = true) (h6 : X.ln.all (setM X.f) = true) :
  machB X = fitsB X.m (itemsM X.f X.ln) := by
 unfold machB goodB
 rw [h1, h2, h3, h5, h6, decide_eq_true h4]
 cases hf : fitsB X.m (itemsM X.f X.ln)
 ·simp
 ·have : lineB (itemsM X.f X.ln) = true := by unfold fitsB at hf; rw [Bool.and_eq_true] at hf; exact hf.1
  have hl := (lineB_parts this).2
  rw [itemsM_len] at hl
  rw [decide_eq_true hl]; rfl
theorem set_hasWid {f : Fnt} {x : Mat} (hf : fontB f = true) (h : setM f x = true) : hasWid f x := by
 obtain ⟨e1, e2, _⟩ := fontB_codes hf
 unfold setM at h
 rw [Bool.or_eq_true] at h
 rcases h with h | h
 ·unfold bandM at h
  rw [Bool.and_eq_true, beq_iff_eq] at h
  left; omega
 ·unfold matB at h
  rw [Bool.and_eq_true] at h
  have := (inB_iff _ _ _).1 h.1
  right; omega
theorem magB_font {f : Fnt} {ms : List (List Mat)} (h : magB f ms = true) : fontB f = true := by unfold magB at h; rw [Bool.and_eq_true] at h; exact h.1

set_option maxRecDepth 100000 in
set_option maxHeartbeats 6400000 in
theorem specMachine_any (lo hi : Nat) (v : Value) (X : Mch) (w : World) (h : MchV w lo hi v X) (hhi : hi ≤ w.heap.size) (hs : SmallX X) :
  Calls Tryz.prog 31 #[v] w fun e w' => e = .returned (.bool (machB X)) ∧ Below w.heap.size w w' := by
 obtain ⟨s, A, n, c, A2, m, d, M, q, e0, L, l, lc, T, r, tc, rfl, hf, hq, hM, hqe, hem, hl, hL, hllc, hlm, hr, hT, hrt, htm⟩ := h.parts
 have Hq := Lib.hid hq; have Hl := Lib.hid hl; have Hr := Lib.hid hr; have HS := Lib.hid hs
 have hq1 : q ≤ 1048576 := by rw [← hq]; exact hs.ms
 have hl1 : l ≤ 1048576 := by rw [← hl]; exact hs.ln
 have hr1 : r ≤ 1048576 := by rw [← hr]; exact hs.wt
 obtain ⟨sp, hsp⟩ : ∃ x, X.sp = x := ⟨_, rfl⟩
 obtain ⟨W, hW⟩ : ∃ x, X.w = x := ⟨_, rfl⟩
 obtain ⟨t, ht⟩ : ∃ x, X.t = x := ⟨_, rfl⟩
 obtain ⟨k, hk⟩ : ∃ x, X.k = x := ⟨_, rfl⟩
 rw [hsp, hW, ht, hk] at h ⊢
 have HE : Hid (X.sp = sp ∧ X.m = ⟨W, t, k⟩) := ⟨hsp, by unfold Mch.m; rw [hW, ht, hk]⟩
 obtain ⟨w0, hw0, hb0, hz0, K0⟩ := mxWorld w #[.string s, .slice A n c, .slice A2 m d, .slice M q e0, .int .i64 sp, .int .i64 W, .int .i64 t, .int .i64 k, .slice L l lc, .slice T r tc] 37
 have T0 := Lib.hid hb0; have K0 := Lib.hid K0; have Z0 := Lib.hid hz0
 have F0 := Lib.hid (hf.below hhi hb0); have M0 := Lib.hid (hM.below hhi hb0); have L0 := Lib.hid (hL.below hhi hb0); have W0 := Lib.hid (hT.below hhi hb0)
 have z0 : w.heap.size < w0.heap.size := by omega
 clear h hf hq hM hqe hem hl hL hllc hlm hr hT hrt htm hsp hW ht hk hb0 hz0 hs
 obtain ⟨kc0, kc1, kc2, kc3, kc4, kc5, kc6, kc7, kc8, kc9⟩ := K0.out.ten
 cases hmg : magB X.f X.ms
 ·have HR : Hid (machB X = false) := machB_mag hmg
  have HMg := Lib.hid hmg
  clear hmg
  go_enter Tryz.func31, Tryz.ntmps31
  go_wp2_with (first
    | (go_at_call 63; refine (specMagOk_any lo hi lo hi _ X.f _ _ _ X.ms w0 F0.out (by omega) HS.out.f Hq.out hq1 M0.out (by omega)).mono ?_; rintro e w1 ⟨he, hb⟩; rw [HMg.out] at he; subst he; have K1 := Lib.hid (K0.out.below hb (by omega)); have T1 := Lib.hid (T0.out.trans (hb.mono (by omega))); have z1 : w.heap.size < w1.heap.size := Nat.lt_of_lt_of_le z0 hb.size; have F1 := Lib.hid (F0.out.below (by omega) hb); have M1 := Lib.hid (M0.out.below (by omega) hb); have L1 := Lib.hid (L0.out.below (by omega) hb); have W1 := Lib.hid (W0.out.below (by omega) hb); clear hb kc0 kc1 kc2 kc3 kc4 kc5 kc6 kc7 kc8 kc9; clear hw0; obtain ⟨kc0, kc1, kc2, kc3, kc4, kc5, kc6, kc7, kc8, kc9⟩ := K1.out.ten))
  go_ret
  exact ⟨ret_bool HR.out.symm, T1.out⟩
 have HMg := Lib.hid hmg
 cases hsp : inB sp 0 60
 ·have HR : Hid (machB X = false) := machB_sp (by rw [HE.out.1]; exact hsp)
  have HSp := Lib.hid hsp
  clear hsp hmg
  go_enter Tryz.func31, Tryz.ntmps31
  go_wp2_with (first
    | (go_at_call 63; refine (specMagOk_any lo hi lo hi _ X.f _ _ _ X.ms w0 F0.out (by omega) HS.out.f Hq.out hq1 M0.out (by omega)).mono ?_; rintro e w1 ⟨he, hb⟩; rw [HMg.out] at he; subst he; have K1 := Lib.hid (K0.out.below hb (by omega)); have T1 := Lib.hid (T0.out.trans (hb.mono (by omega))); have z1 : w.heap.size < w1.heap.size := Nat.lt_of_lt_of_le z0 hb.size; have F1 := Lib.hid (F0.out.below (by omega) hb); have M1 := Lib.hid (M0.out.below (by omega) hb); have L1 := Lib.hid (L0.out.below (by omega) hb); have W1 := Lib.hid (W0.out.below (by omega) hb); clear hb kc0 kc1 kc2 kc3 kc4 kc5 kc6 kc7 kc8 kc9; clear hw0; obtain ⟨kc0, kc1, kc2, kc3, kc4, kc5, kc6, kc7, kc8, kc9⟩ := K1.out.ten)
    | (go_at_call 64; refine (l1In_any _ _ _ _).mono ?_; rintro e w1' ⟨he, rfl⟩; rw [HSp.out] at he; subst he))
  go_ret
  exact ⟨ret_bool HR.out.symm, T1.out⟩
 have HSp := Lib.hid hsp
 cases hms : msrB ⟨W, t, k⟩
 ·have HR : Hid (machB X = false) := machB_ms (by rw [HE.out.2]; exact hms)
  have HMs := Lib.hid hms
  clear hsp hmg hms
  go_enter Tryz.func31, Tryz.ntmps31
  go_wp2_with (first
    | (go_at_call 63; refine (specMagOk_any lo hi lo hi _ X.f _ _ _ X.ms w0 F0.out (by omega) HS.out.f Hq.out hq1 M0.out (by omega)).mono ?_; rintro e w1 ⟨he, hb⟩; rw [HMg.out] at he; subst he; have K1 := Lib.hid (K0.out.below hb (by omega)); have T1 := Lib.hid (T0.out.trans (hb.mono (by omega))); have z1 : w.heap.size < w1.heap.size := Nat.lt_of_lt_of_le z0 hb.size; have F1 := Lib.hid (F0.out.below (by omega) hb); have M1 := Lib.hid (M0.out.below (by omega) hb); have L1 := Lib.hid (L0.out.below (by omega) hb); have W1 := Lib.hid (W0.out.below (by omega) hb); clear hb kc0 kc1 kc2 kc3 kc4 kc5 kc6 kc7 kc8 kc9; clear hw0; obtain ⟨kc0, kc1, kc2, kc3, kc4, kc5, kc6, kc7, kc8, kc9⟩ := K1.out.ten)
    | (go_at_call 64; refine (l1In_any _ _ _ _).mono ?_; rintro e w1' ⟨he, rfl⟩; rw [HSp.out] at he; subst he)
    | (go_at_call 65; refine (specMeasureOk_any W t k w1).mono ?_; rintro e w2 ⟨he, hb⟩; rw [HMs.out] at he; subst he; have K2 := Lib.hid (K1.out.below hb (by omega)); have T2 := Lib.hid (T1.out.trans (hb.mono (by omega))); have z2 : w.heap.size < w2.heap.size := Nat.lt_of_lt_of_le z1 hb.size; have F2 := Lib.hid (F1.out.below (by omega) hb); have M2 := Lib.hid (M1.out.below (by omega) hb); have L2 := Lib.hid (L1.out.below (by omega) hb); have W2 := Lib.hid (W1.out.below (by omega) hb); clear hb kc0 kc1 kc2 kc3 kc4 kc5 kc6 kc7 kc8 kc9; obtain ⟨kc0, kc1, kc2, kc3, kc4, kc5, kc6, kc7, kc8, kc9⟩ := K2.out.ten))
  go_ret
  exact ⟨ret_bool HR.out.symm, T2.out⟩
 have HMs := Lib.hid hms
 by_cases hwl : 240 < r
 ·have HR : Hid (machB X = false) := machB_wl (by rw [Hr.out]; omega)
  have g1 : decide (240 < (r : Int)) = true := decide_eq_true (by omega)
  clear hsp hmg hms hwl
  go_enter Tryz.func31, Tryz.ntmps31
  go_wp2_with (first
    | (go_at_call 63; refine (specMagOk_any lo hi lo hi _ X.f _ _ _ X.ms w0 F0.out (by omega) HS.out.f Hq.out hq1 M0.out (by omega)).mono ?_; rintro e w1 ⟨he, hb⟩; rw [HMg.out] at he; subst he; have K1 := Lib.hid (K0.out.below hb (by omega)); have T1 := Lib.hid (T0.out.trans (hb.mono (by omega))); have z1 : w.heap.size < w1.heap.size := Nat.lt_of_lt_of_le z0 hb.size; have F1 := Lib.hid (F0.out.below (by omega) hb); have M1 := Lib.hid (M0.out.below (by omega) hb); have L1 := Lib.hid (L0.out.below (by omega) hb); have W1 := Lib.hid (W0.out.below (by omega) hb); clear hb kc0 kc1 kc2 kc3 kc4 kc5 kc6 kc7 kc8 kc9; clear hw0; obtain ⟨kc0, kc1, kc2, kc3, kc4, kc5, kc6, kc7, kc8, kc9⟩ := K1.out.ten)
    | (go_at_call 64; refine (l1In_any _ _ _ _).mono ?_; rintro e w1' ⟨he, rfl⟩; rw [HSp.out] at he; subst he)
    | (go_at_call 65; refine (specMeasureOk_any W t k w1).mono ?_; rintro e w2 ⟨he, hb⟩; rw [HMs.out] at he; subst he; have K2 := Lib.hid (K1.out.below hb (by omega)); have T2 := Lib.hid (T1.out.trans (hb.mono (by omega))); have z2 : w.heap.size < w2.heap.size := Nat.lt_of_lt_of_le z1 hb.size; have F2 := Lib.hid (F1.out.below (by omega) hb); have M2 := Lib.hid (M1.out.below (by omega) hb); have L2 := Lib.hid (L1.out.below (by omega) hb); have W2 := Lib.hid (W1.out.below (by omega) hb); clear hb kc0 kc1 kc2 kc3 kc4 kc5 kc6 kc7 kc8 kc9; obtain ⟨kc0, kc1, kc2, kc3, kc4, kc5, kc6, kc7, kc8, kc9⟩ := K2.out.ten))
  go_ret
  exact ⟨ret_bool HR.out.symm, T2.out⟩
 have g1 : decide (240 < (r : Int)) = false := decide_eq_false (by omega)
 have HF := Lib.hid (magB_font hmg)
 have HWl : Hid (X.wt.length ≤ 240) := by show _ ≤ _; rw [Hr.out]; omega
 clear hsp hmg hms
 go_enter Tryz.func31, Tryz.ntmps31
 go_wp2_with (first
   | (go_at_call 63; refine (specMagOk_any lo hi lo hi _ X.f _ _ _ X.ms w0 F0.out (by omega) HS.out.f Hq.out hq1 M0.out (by omega)).mono ?_; rintro e w1 ⟨he, hb⟩; rw [HMg.out] at he; subst he; have K1 := Lib.hid (K0.out.below hb (by omega)); have T1 := Lib.hid (T0.out.trans (hb.mono (by omega))); have z1 : w.heap.size < w1.heap.size := Nat.lt_of_lt_of_le z0 hb.size; have F1 := Lib.hid (F0.out.below (by omega) hb); have M1 := Lib.hid (M0.out.below (by omega) hb); have L1 := Lib.hid (L0.out.below (by omega) hb); have W1 := Lib.hid (W0.out.below (by omega) hb); clear hb kc0 kc1 kc2 kc3 kc4 kc5 kc6 kc7 kc8 kc9; clear hw0; obtain ⟨kc0, kc1, kc2, kc3, kc4, kc5, kc6, kc7, kc8, kc9⟩ := K1.out.ten)
   | (go_at_call 64; refine (l1In_any _ _ _ _).mono ?_; rintro e w1' ⟨he, rfl⟩; rw [HSp.out] at he; subst he)
   | (go_at_call 65; refine (specMeasureOk_any W t k w1).mono ?_; rintro e w2 ⟨he, hb⟩; rw [HMs.out] at he; subst he; have K2 := Lib.hid (K1.out.below hb (by omega)); have T2 := Lib.hid (T1.out.trans (hb.mono (by omega))); have z2 : w.heap.size < w2.heap.size := Nat.lt_of_lt_of_le z1 hb.size; have F2 := Lib.hid (F1.out.below (by omega) hb); have M2 := Lib.hid (M1.out.below (by omega) hb); have L2 := Lib.hid (L1.out.below (by omega) hb); have W2 := Lib.hid (W1.out.below (by omega) hb); clear hb kc0 kc1 kc2 kc3 kc4 kc5 kc6 kc7 kc8 kc9; obtain ⟨kc0, kc1, kc2, kc3, kc4, kc5, kc6, kc7, kc8, kc9⟩ := K2.out.ten))
 have s2 := z2
 clear kc0 kc1 kc2 kc3 kc4 kc5 kc6 kc7 kc8 kc9 g1
 go_loopw [34] (fun i wr => ∃ j : Nat, j ≤ l ∧ i = .int .i64 j ∧ Below w2.heap.size w2 wr ∧ (X.ln.take j).all (setM X.f) = true) (fun i _ => l - (intOf i).toNat)
 case atStart => exact ⟨0, Nat.zero_le _, rfl, Below.refl _ _, rfl⟩
 case round =>
  obtain ⟨j, hj, rfl, hb, hall⟩ := hrel
  have HB := Lib.hid hb; have Hall := Lib.hid hall
  have zr := hb.size
  clear hb hall
  by_cases hlt : j < l
  ·obtain ⟨ad, x, rfl, hx, d1, e1⟩ := (L2.out.below (by omega) HB.out).at_ (k := j) (by rw [Hl.out]; exact hlt)
   obtain ⟨a, b⟩ := x
   simp only at d1 e1
   obtain ⟨wm, hwm⟩ : ∃ y, wr.alloc (.cells #[.int .i64 a, .int .i64 b] 64) = y := ⟨_, rfl⟩
   have bk : Blk wm wr.heap.size #[.int .i64 a, .int .i64 b] 64 := by rw [← hwm]; exact Blk.new _ _ _
   have bm : Below wr.heap.size wr wm := by rw [← hwm]; exact (Below.refl _ _).alloc (Nat.le_refl _) _
   have HBm := Lib.hid (HB.out.trans (bm.mono zr)); have zm : wr.heap.size < wm.heap.size := bk.lt
   have m0 : wm.cell? ⟨wr.heap.size, 0, none⟩ = some (.int .i64 a) := cellOfBlk bk 0
   have m1 : wm.cell? ⟨wr.heap.size, 1, none⟩ = some (.int .i64 b) := cellOfBlk bk 1
   have BK := Lib.hid bk
   have Fm := Lib.hid (F2.out.below (by omega) HBm.out); have Km := Lib.hid (K2.out.below HBm.out (by omega))
   obtain ⟨kc0, kc1, kc2, kc3, kc4, kc5, kc6, kc7, kc8, kc9⟩ := Km.out.ten
   clear bk bm
   cases hmb : matB X.f (a, b)
   ·by_cases ha : a = -1
    ·have g2 : (a != -1) = false := by rw [bne_eq_false_iff_eq]; exact ha
     by_cases hb0 : b = 0
     ·have g3 : (b != 0) = false := by rw [bne_eq_false_iff_eq]; exact hb0
      have HA := Lib.hid (show (X.ln.take (j + 1)).all (setM X.f) = true by rw [mats_all hx.out, Hall.out]; unfold setM bandM; rw [ha, hb0]; rfl)
      have HMb := Lib.hid hmb
      clear hmb ha hb0
      go_wp2_with (go_at_call 66; refine (l2Matrix_any lo hi _ X.f (a, b) wm Fm.out (by omega) HS.out.f HF.out).mono ?_; rintro e w3 ⟨he, hbb⟩; rw [HMb.out] at he; subst he; have HB3 := Lib.hid (HBm.out.trans (hbb.mono (by omega))); have bk3 := BK.out.below hbb zm; have m0' : w3.cell? ⟨wr.heap.size, 0, none⟩ = some (.int .i64 a) := cellOfBlk bk3 0; have m1' : w3.cell? ⟨wr.heap.size, 1, none⟩ = some (.int .i64 b) := cellOfBlk bk3 1; clear hbb bk3 m0 m1 hwm kc0 kc1 kc2 kc3 kc4 kc5 kc6 kc7 kc8 kc9)
      go_roundw
      case rel => exact ⟨j + 1, by omega, by go_num, HB3.out, HA.out⟩
      case measure => simp [intOf]; omega
     ·have HR : Hid (machB X = false) := machB_ln hx.out (by unfold setM bandM; rw [hmb]; simp; intro _; exact hb0)
      have g3 : (b != 0) = true := by rw [bne_iff_ne]; exact hb0
      have HMb := Lib.hid hmb
      clear hmb ha hb0
      go_wp2_with (go_at_call 66; refine (l2Matrix_any lo hi _ X.f (a, b) wm Fm.out (by omega) HS.out.f HF.out).mono ?_; rintro e w3 ⟨he, hbb⟩; rw [HMb.out] at he; subst he; have HB3 := Lib.hid (HBm.out.trans (hbb.mono (by omega))); have bk3 := BK.out.below hbb zm; have m0' : w3.cell? ⟨wr.heap.size, 0, none⟩ = some (.int .i64 a) := cellOfBlk bk3 0; have m1' : w3.cell? ⟨wr.heap.size, 1, none⟩ = some (.int .i64 b) := cellOfBlk bk3 1; clear hbb bk3 m0 m1 hwm kc0 kc1 kc2 kc3 kc4 kc5 kc6 kc7 kc8 kc9)
      go_ret
      exact ⟨ret_bool HR.out.symm, T2.out.trans (HB3.out.mono (by omega))⟩
    ·have HR : Hid (machB X = false) := machB_ln hx.out (by unfold setM bandM; rw [hmb]; simp; intro h; exact absurd h ha)
     have g2 : (a != -1) = true := by rw [bne_iff_ne]; exact ha
     have HMb := Lib.hid hmb
     clear hmb ha
     go_wp2_with (go_at_call 66; refine (l2Matrix_any lo hi _ X.f (a, b) wm Fm.out (by omega) HS.out.f HF.out).mono ?_; rintro e w3 ⟨he, hbb⟩; rw [HMb.out] at he; subst he; have HB3 := Lib.hid (HBm.out.trans (hbb.mono (by omega))); have bk3 := BK.out.below hbb zm; have m0' : w3.cell? ⟨wr.heap.size, 0, none⟩ = some (.int .i64 a) := cellOfBlk bk3 0; have m1' : w3.cell? ⟨wr.heap.size, 1, none⟩ = some (.int .i64 b) := cellOfBlk bk3 1; clear hbb bk3 m0 m1 hwm kc0 kc1 kc2 kc3 kc4 kc5 kc6 kc7 kc8 kc9)
     go_ret
     exact ⟨ret_bool HR.out.symm, T2.out.trans (HB3.out.mono (by omega))⟩
   ·have HA := Lib.hid (show (X.ln.take (j + 1)).all (setM X.f) = true by rw [mats_all hx.out, Hall.out]; unfold setM; rw [hmb]; simp)
    have HMb := Lib.hid hmb
    clear hmb
    go_wp2_with (go_at_call 66; refine (l2Matrix_any lo hi _ X.f (a, b) wm Fm.out (by omega) HS.out.f HF.out).mono ?_; rintro e w3 ⟨he, hbb⟩; rw [HMb.out] at he; subst he; have HB3 := Lib.hid (HBm.out.trans (hbb.mono (by omega))); have bk3 := BK.out.below hbb zm; have m0' : w3.cell? ⟨wr.heap.size, 0, none⟩ = some (.int .i64 a) := cellOfBlk bk3 0; have m1' : w3.cell? ⟨wr.heap.size, 1, none⟩ = some (.int .i64 b) := cellOfBlk bk3 1; clear hbb bk3 m0 m1 hwm kc0 kc1 kc2 kc3 kc4 kc5 kc6 kc7 kc8 kc9)
    go_roundw
    case rel => exact ⟨j + 1, by omega, by go_num, HB3.out, HA.out⟩
    case measure => simp [intOf]; omega
  ·obtain ⟨l2, hl2⟩ : ∃ x, x = j := ⟨_, rfl⟩
   subst hl2
   obtain rfl : l2 = l := by omega
   obtain ⟨wq, hwq⟩ : ∃ x, x = wr := ⟨_, rfl⟩
   subst hwq
   have HLn : Hid (X.ln.all (setM X.f) = true) := by have := Hall.out; rwa [mtake_all Hl.out] at this
   have K3 := Lib.hid (K2.out.below HB.out (by omega)); have T3 := Lib.hid (T2.out.trans (HB.out.mono (by omega)))
   have F3 := Lib.hid (F2.out.below (by omega) HB.out); have L3 := Lib.hid (L2.out.below (by omega) HB.out); have W3 := Lib.hid (W2.out.below (by omega) HB.out)
   have z3 : w.heap.size < wq.heap.size := by omega
   clear Hall HB K2 T2 F2 L2 W2 M2
   obtain ⟨kc0, kc1, kc2, kc3, kc4, kc5, kc6, kc7, kc8, kc9⟩ := K3.out.ten
   go_wp2
   clear kc0 kc1 kc2 kc3 kc4 kc5 kc6 kc7 kc8 kc9
   go_loopw [57] (fun i wr => ∃ j : Nat, j ≤ r ∧ i = .int .i64 j ∧ Below wq.heap.size wq wr ∧ (X.wt.take j).all (matB X.f) = true) (fun i _ => r - (intOf i).toNat)
   case atStart => exact ⟨0, Nat.zero_le _, rfl, Below.refl _ _, rfl⟩
   case round =>
    obtain ⟨j, hj, rfl, hb, hall⟩ := hrel
    have HB := Lib.hid hb; have Hall := Lib.hid hall
    have zs := hb.size
    clear hb hall
    by_cases hlt : j < r
    ·obtain ⟨ad, x, rfl, hx, d1, e1⟩ := (W3.out.below (by omega) HB.out).at_ (k := j) (by rw [Hr.out]; exact hlt)
     obtain ⟨a, b⟩ := x
     simp only at d1 e1
     obtain ⟨wm, hwm⟩ : ∃ y, wr.alloc (.cells #[.int .i64 a, .int .i64 b] 64) = y := ⟨_, rfl⟩
     have bk : Blk wm wr.heap.size #[.int .i64 a, .int .i64 b] 64 := by rw [← hwm]; exact Blk.new _ _ _
     have bm : Below wr.heap.size wr wm := by rw [← hwm]; exact (Below.refl _ _).alloc (Nat.le_refl _) _
     have HBm := Lib.hid (HB.out.trans (bm.mono zs)); have zm : wr.heap.size < wm.heap.size := bk.lt
     have m0 : wm.cell? ⟨wr.heap.size, 0, none⟩ = some (.int .i64 a) := cellOfBlk bk 0
     have m1 : wm.cell? ⟨wr.heap.size, 1, none⟩ = some (.int .i64 b) := cellOfBlk bk 1
     have BK := Lib.hid bk
     have Fm := Lib.hid (F3.out.below (by omega) HBm.out); have Km := Lib.hid (K3.out.below HBm.out (by omega))
     obtain ⟨kc0, kc1, kc2, kc3, kc4, kc5, kc6, kc7, kc8, kc9⟩ := Km.out.ten
     clear bk bm
     cases hmb : matB X.f (a, b)
     ·have HR : Hid (machB X = false) := machB_wt hx.out hmb
      have HMb := Lib.hid hmb
      clear hmb
      go_wp2_with (go_at_call 66; refine (l2Matrix_any lo hi _ X.f (a, b) wm Fm.out (by omega) HS.out.f HF.out).mono ?_; rintro e w3 ⟨he, hbb⟩; rw [HMb.out] at he; subst he; have HB3 := Lib.hid (HBm.out.trans (hbb.mono (by omega))); have bk3 := BK.out.below hbb zm; have m0' : w3.cell? ⟨wr.heap.size, 0, none⟩ = some (.int .i64 a) := cellOfBlk bk3 0; have m1' : w3.cell? ⟨wr.heap.size, 1, none⟩ = some (.int .i64 b) := cellOfBlk bk3 1; clear hbb bk3 m0 m1 hwm kc0 kc1 kc2 kc3 kc4 kc5 kc6 kc7 kc8 kc9)
      go_ret
      exact ⟨ret_bool HR.out.symm, T3.out.trans (HB3.out.mono (by omega))⟩
     ·have HA := Lib.hid (show (X.wt.take (j + 1)).all (matB X.f) = true by rw [mats_all hx.out, Hall.out, hmb]; rfl)
      have HMb := Lib.hid hmb
      clear hmb
      go_wp2_with (go_at_call 66; refine (l2Matrix_any lo hi _ X.f (a, b) wm Fm.out (by omega) HS.out.f HF.out).mono ?_; rintro e w3 ⟨he, hbb⟩; rw [HMb.out] at he; subst he; have HB3 := Lib.hid (HBm.out.trans (hbb.mono (by omega))); have bk3 := BK.out.below hbb zm; have m0' : w3.cell? ⟨wr.heap.size, 0, none⟩ = some (.int .i64 a) := cellOfBlk bk3 0; have m1' : w3.cell? ⟨wr.heap.size, 1, none⟩ = some (.int .i64 b) := cellOfBlk bk3 1; clear hbb bk3 m0 m1 hwm kc0 kc1 kc2 kc3 kc4 kc5 kc6 kc7 kc8 kc9)
      go_roundw
      case rel => exact ⟨j + 1, by omega, by go_num, HB3.out, HA.out⟩
      case measure => simp [intOf]; omega
    ·obtain rfl : j = r := by omega
     have HWt : Hid (X.wt.all (matB X.f) = true) := by have := Hall.out; rwa [mtake_all Hr.out] at this
     have HRes := Lib.hid (machB_fit HMg.out (by rw [HE.out.1]; exact HSp.out) (by rw [HE.out.2]; exact HMs.out) HWl.out HWt.out HLn.out)
     rw [HE.out.2] at HRes
     have K4 := Lib.hid (K3.out.below HB.out (by omega)); have T4 := Lib.hid (T3.out.trans (HB.out.mono (by omega)))
     have F4 := Lib.hid (F3.out.below (by omega) HB.out); have L4 := Lib.hid (L3.out.below (by omega) HB.out)
     have z4 : w.heap.size < wr.heap.size := by omega
     have HW2 : Hid (∀ x ∈ X.ln, hasWid X.f x) := fun x hx => set_hasWid HF.out (List.all_eq_true.1 HLn.out x hx)
     clear Hall HB K3 T3 F3 L3 W3
     obtain ⟨kc0, kc1, kc2, kc3, kc4, kc5, kc6, kc7, kc8, kc9⟩ := K4.out.ten
     go_wp2
     refine wp_region_plan (.take 0 (.take 1 (.take 2 (.take 3 (.take 4 (.take 5 (.one 6 (.one 7 (.one 8 .done))))))))) (fun w' => w'.cell? ⟨w.heap.size, 0, none⟩ = some (.string s) ∧ w'.cell? ⟨w.heap.size, 1, none⟩ = some (.slice A n c) ∧ w'.cell? ⟨w.heap.size, 2, none⟩ = some (.slice A2 m d) ∧ w'.cell? ⟨w.heap.size, 5, none⟩ = some (.int .i64 W) ∧ w'.cell? ⟨w.heap.size, 6, none⟩ = some (.int .i64 t) ∧ w'.cell? ⟨w.heap.size, 7, none⟩ = some (.int .i64 k) ∧ w'.cell? ⟨w.heap.size, 8, none⟩ = some (.slice L l2 lc)) (by kernel_rfl) (by kernel_rfl) (by kernel_rfl) (by intro c a d v w h; cases d <;> exact h) ⟨kc0, kc1, kc2, kc5, kc6, kc7, kc8⟩ ?_
     iterate 6 (refine plan_quiet rfl (by rfl) (v := ?_) ?_ ?_; rotate_left; (intro w1 hSw; (try dsimp only at hSw); go_simp; try (with_reducible rfl)); (try simp only [Act.put, List.setIfInBounds_toArray, List.set_cons_zero, List.set_cons_succ]))
     clear kc0 kc1 kc2 kc3 kc4 kc5 kc6 kc7 kc8 kc9
     refine plan_step rfl (fun K hK => ?_)
     rw [if_pos (by rfl)]
     go_simp
     refine (l5Items_any lo hi lo hi _ X.f _ _ _ X.ln _ (FontV.keep (w' := wr.drew) F4.out (fun p _ _ => rfl)) (by show hi ≤ wr.heap.size; omega) Hl.out hl1 (MatsI.keep (w' := wr.drew) L4.out (fun p _ _ => rfl)) (by show hi ≤ wr.heap.size; omega) HW2.out).mono ?_
     rintro e w5 ⟨u, rfl, hO, hb⟩
     have hb5 : Below wr.heap.size wr w5 := undrew hb
     have O5 : Own w5 wr.heap.size u (itemsM X.f X.ln) := hO
     obtain ⟨U, uc, rfl, hI5, -, huc, hum⟩ := O5.form
     have K5 := Lib.hid (K4.out.below hb5 z4); have T5 := Lib.hid (T4.out.trans (hb5.mono (by omega))); have I5 := Lib.hid hI5
     have hul : (itemsM X.f X.ln).length ≤ maxLen := by rw [itemsM_len, Hl.out]; unfold maxLen; omega
     have z5 : w.heap.size < w5.heap.size := Nat.lt_of_lt_of_le z4 hb5.size
     clear hb hb5 hO O5 hI5
     obtain ⟨kc0, kc1, kc2, kc3, kc4, kc5, kc6, kc7, kc8, kc9⟩ := K5.out.ten
     refine hK.out _ _ ⟨kc0, kc1, kc2, kc5, kc6, kc7, kc8⟩ ?_
     clear hK K kc0 kc1 kc2 kc3 kc4 kc5 kc6 kc7 kc8 kc9
     refine plan_step rfl (fun K hK => ?_)
     rw [if_pos (by rfl)]
     go_simp
     refine (l3Fits_any W t k _ _ _ (itemsM X.f X.ln) w5 HMs.out rfl hul I5.out).mono ?_
     rintro e w6 ⟨rfl, hb⟩
     have K6 := Lib.hid (K5.out.below hb z5); have T6 := Lib.hid (T5.out.trans (hb.mono (by omega)))
     clear hb
     obtain ⟨kc0, kc1, kc2, kc3, kc4, kc5, kc6, kc7, kc8, kc9⟩ := K6.out.ten
     refine hK.out _ _ ⟨kc0, kc1, kc2, kc5, kc6, kc7, kc8⟩ ?_
     clear hK K
     refine plan_step rfl (fun K hK => ?_)
     rw [if_pos (by rfl)]
     go_simp
     refine hK.out _ _ ⟨kc0, kc1, kc2, kc5, kc6, kc7, kc8⟩ ?_
     clear hK K
     refine plan_end ?_
     go_wp2
     go_ret
     exact ⟨ret_bool HRes.out.symm, T6.out⟩
end Go.Proofs.YtimhnkpccbcohaaGreatDoor

namespace Go.Proofs.YtimhnkpccbcohaaGreatDoor
open Go.RowKit
set_option linter.unusedVariables false

theorem may1_enter (args : Array Value) (w : World) : Sem.run Tryz.prog (callFunc 72 args) w = .ok (.enter 72 args) w := by kernel_rfl
theorem may2_enter (args : Array Value) (w : World) : Sem.run Tryz.prog (callFunc 74 args) w = .ok (.enter 74 args) w := by kernel_rfl
set_option maxRecDepth 100000 in
set_option maxHeartbeats 800000 in
theorem may1_any (lo hi g : Nat) (s : ByteArray) (A : Option Addr) (n c : Nat) (A2 : Option Addr) (m d : Nat) (v3 v4 v5 v6 v7 v8 v9 : Value) (T : TypeId) (f : Fnt) (x : Mat) (w : World) (h : FontV w lo hi (.agg #[.string s, .slice A n c, .slice A2 m d]) f) (hhi : hi ≤ w.heap.size) (hs : Small f) (hf : fontB f = true) (wf : (Lit.int .i64 x.2).wf = true)
  (hb : Blk w g #[.string s, .slice A n c, .slice A2 m d, v3, v4, v5, v6, v7, v8, v9] T) :
  Calls Tryz.prog 72 #[.agg #[.int .i64 x.1, .int .i64 x.2], .pointer (some ⟨g, 0, none⟩)] w fun e w' => e = .returned (.bool (matB f x)) ∧ Below w.heap.size w w' := by
 have hW : Below w.heap.size w (w.alloc (.cells #[.int .i64 x.1, .int .i64 x.2] 64)) := below_new _ _
 have V1 := Lib.hid (h.below hhi hW)
 have HW := Lib.hid hW
 have Hwf := Lib.hid wf; have HF := Lib.hid hf
 have q0 : w.cell? ⟨g, 0, none⟩ = some (.string s) := cellOfBlk hb 0
 have q1 : w.cell? ⟨g, 1, none⟩ = some (.slice A n c) := cellOfBlk hb 1
 have q2 : w.cell? ⟨g, 2, none⟩ = some (.slice A2 m d) := cellOfBlk hb 2
 have hg := hb.lt
 clear h hW wf hf hb
 go_enter Tryz.func72, Tryz.ntmps72
 go_wp2_with fail
 refine (isMatrix_any lo hi _ f x _ V1.out (by simp; omega) hs HF.out Hwf.out).mono ?_
 rintro e w1 ⟨rfl, hb1⟩
 have T1 := Lib.hid (HW.out.trans (hb1.mono (by simp)))
 clear hb1
 go_wp2
 go_ret
 exact ⟨rfl, T1.out⟩
set_option maxRecDepth 100000 in
set_option maxHeartbeats 800000 in
theorem may2_any (lo hi g : Nat) (s : ByteArray) (A : Option Addr) (n c : Nat) (A2 : Option Addr) (m d : Nat) (v3 v4 v5 v6 v7 v8 v9 : Value) (T : TypeId) (f : Fnt) (x : Mat) (w : World) (h : FontV w lo hi (.agg #[.string s, .slice A n c, .slice A2 m d]) f) (hhi : hi ≤ w.heap.size) (hs : Small f) (hf : fontB f = true) (wf : (Lit.int .i64 x.2).wf = true)
  (hb : Blk w g #[.string s, .slice A n c, .slice A2 m d, v3, v4, v5, v6, v7, v8, v9] T) :
  Calls Tryz.prog 74 #[.agg #[.int .i64 x.1, .int .i64 x.2], .pointer (some ⟨g, 0, none⟩)] w fun e w' => e = .returned (.bool (setM f x)) ∧ Below w.heap.size w w' := by
 obtain ⟨a, b⟩ := x
 simp only at wf
 obtain ⟨wm, hwm⟩ : ∃ y, w.alloc (.cells #[.int .i64 a, .int .i64 b] 64) = y := ⟨_, rfl⟩
 have bm : Below w.heap.size w wm := by rw [← hwm]; exact below_new _ _
 have bk : Blk wm w.heap.size #[.int .i64 a, .int .i64 b] 64 := by rw [← hwm]; exact Blk.new _ _ _
 have m0 : wm.cell? ⟨w.heap.size, 0, none⟩ = some (.int .i64 a) := cellOfBlk bk 0
 have m1 : wm.cell? ⟨w.heap.size, 1, none⟩ = some (.int .i64 b) := cellOfBlk bk 1
 have zm : w.heap.size < wm.heap.size := bk.lt
 have hg := hb.lt
 have V1 := Lib.hid (h.below hhi bm); have BM := Lib.hid bm; have BK := Lib.hid bk; have GK := Lib.hid (hb.below bm hg)
 have Hwf := Lib.hid wf; have HF := Lib.hid hf
 clear h wf hf hb bm bk
 cases hbd : bandM (a, b)
 ·have Hbd := Lib.hid hbd
  have HR : Hid (setM f (a, b) = matB f (a, b)) := by show _ = _; unfold setM; rw [hbd]; rfl
  clear hbd
  go_enter Tryz.func74, Tryz.ntmps74
  go_wp2_with fail
  refine (isBand_any _ _ _).mono ?_
  rintro e w1 ⟨he, hb1⟩
  rw [Hbd.out] at he; subst he
  have gk := GK.out.below hb1 (by omega)
  have bk1 := BK.out.below hb1 zm
  have m0' : w1.cell? ⟨w.heap.size, 0, none⟩ = some (.int .i64 a) := cellOfBlk bk1 0
  have m1' : w1.cell? ⟨w.heap.size, 1, none⟩ = some (.int .i64 b) := cellOfBlk bk1 1
  have q0 : w1.cell? ⟨g, 0, none⟩ = some (.string s) := cellOfBlk gk 0
  have q1 : w1.cell? ⟨g, 1, none⟩ = some (.slice A n c) := cellOfBlk gk 1
  have q2 : w1.cell? ⟨g, 2, none⟩ = some (.slice A2 m d) := cellOfBlk gk 2
  have V2 := Lib.hid (V1.out.below (by omega) hb1); have T1 := Lib.hid (BM.out.trans (hb1.mono (by omega))); have z1 : wm.heap.size ≤ w1.heap.size := hb1.size
  clear hb1 gk bk1 hwm m0 m1
  go_wp2_with fail
  refine (isMatrix_any lo hi _ f (a, b) w1 V2.out (by omega) hs HF.out Hwf.out).mono ?_
  rintro e w2 ⟨he, hb2⟩
  rw [← HR.out] at he; subst he
  have T2 := Lib.hid (T1.out.trans (hb2.mono (by omega)))
  clear hb2
  go_wp2
  go_ret
  exact ⟨rfl, T2.out⟩
 ·have Hbd := Lib.hid hbd
  have HR : Hid (setM f (a, b) = true) := by show _ = _; unfold setM; rw [hbd]; rfl
  clear hbd
  go_enter Tryz.func74, Tryz.ntmps74
  go_wp2_with fail
  refine (isBand_any _ _ _).mono ?_
  rintro e w1 ⟨he, hb1⟩
  rw [Hbd.out] at he; subst he
  have T1 := Lib.hid (BM.out.trans (hb1.mono (by omega)))
  clear hb1 hwm m0 m1
  go_wp2
  go_ret
  exact ⟨ret_bool HR.out.symm, T1.out⟩

theorem inB_nat (r b : Nat) : inB (r : Int) 0 b = decide (r ≤ b) := by
 unfold inB
 by_cases h : r ≤ b
 ·rw [decide_eq_true (show 0 ≤ (r : Int) ∧ (r : Int) ≤ b by omega), decide_eq_true h]
 ·rw [decide_eq_false (show ¬ (0 ≤ (r : Int) ∧ (r : Int) ≤ b) by omega), decide_eq_false h]
theorem set_item {f : Fnt} {x : Mat} (hf : fontB f = true) (h : setM f x = true) : bandM x = true ∨ (0 ≤ x.1 ∧ x.1.toNat < f.ws.length) := by
 obtain ⟨e1, e2, _⟩ := fontB_codes hf
 unfold setM at h
 rw [Bool.or_eq_true] at h
 rcases h with h | h
 ·exact .inl h
 ·unfold matB at h
  rw [Bool.and_eq_true] at h
  have := (inB_iff _ _ _).1 h.1
  right; omega
theorem machB_wait {X : Mch} {r : Nat} (hr : X.wt.length = r) (h : (inB (r : Int) 0 240 && X.wt.all (matB X.f)) = false) : machB X = false := by
 rw [show (240 : Int) = ((240 : Nat) : Int) from rfl, inB_nat] at h
 unfold machB; rw [hr, h]; simp
theorem machB_line {X : Mch} {l : Nat} (hl : X.ln.length = l) (h : (inB (l : Int) 0 120 && X.ln.all (setM X.f)) = false) : machB X = false := by
 rw [show (120 : Int) = ((120 : Nat) : Int) from rfl, inB_nat] at h
 unfold machB; rw [hl, h]; simp
theorem machB_good {X : Mch} {l r : Nat} (hl : X.ln.length = l) (hr : X.wt.length = r) (h1 : magB X.f X.ms = true) (h2 : inB X.sp 0 60 = true) (h3 : (inB (r : Int) 0 240 && X.wt.all (matB X.f)) = true) (h4 : (inB (l : Int) 0 120 && X.ln.all (setM X.f)) = true) : machB X = goodB X.m (itemsM X.f X.ln) := by
 rw [show (240 : Int) = ((240 : Nat) : Int) from rfl, inB_nat] at h3
 rw [show (120 : Int) = ((120 : Nat) : Int) from rfl, inB_nat] at h4
 unfold machB; rw [hl, hr, h1, h2, h3, h4]; simp

set_option maxRecDepth 100000 in
set_option maxHeartbeats 6400000 in
theorem implMachine_any (lo hi : Nat) (v : Value) (X : Mch) (w : World) (h : MchV w lo hi v X) (hhi : hi ≤ w.heap.size) (hs : SmallX X) (wf : WfX X) :
  Calls Tryz.prog 38 #[v] w fun e w' => e = .returned (.bool (machB X)) ∧ Below w.heap.size w w' := by
 have HWf := Lib.hid wf
 clear wf
 obtain ⟨s, A, n, c, A2, m, d, M, q, e0, L, l, lc, T, r, tc, rfl, hf, hq, hM, hqe, hem, hl, hL, hllc, hlm, hr, hT, hrt, htm⟩ := h.parts
 have Hq := Lib.hid hq; have Hl := Lib.hid hl; have Hr := Lib.hid hr; have HS := Lib.hid hs
 have hq1 : q ≤ 1048576 := by rw [← hq]; exact hs.ms
 have hl1 : l ≤ 1048576 := by rw [← hl]; exact hs.ln
 have hr1 : r ≤ 1048576 := by rw [← hr]; exact hs.wt
 obtain ⟨sp, hsp⟩ : ∃ x, X.sp = x := ⟨_, rfl⟩
 obtain ⟨W, hW⟩ : ∃ x, X.w = x := ⟨_, rfl⟩
 obtain ⟨t, ht⟩ : ∃ x, X.t = x := ⟨_, rfl⟩
 obtain ⟨k, hk⟩ : ∃ x, X.k = x := ⟨_, rfl⟩
 rw [hsp, hW, ht, hk] at h ⊢
 have HE : Hid (X.sp = sp ∧ X.m = ⟨W, t, k⟩) := ⟨hsp, by unfold Mch.m; rw [hW, ht, hk]⟩
 obtain ⟨w0, hw0, hb0, hz0, K0⟩ := mxWorld w #[.string s, .slice A n c, .slice A2 m d, .slice M q e0, .int .i64 sp, .int .i64 W, .int .i64 t, .int .i64 k, .slice L l lc, .slice T r tc] 37
 have T0 := Lib.hid hb0; have K0 := Lib.hid K0; have Z0 := Lib.hid hz0
 have F0 := Lib.hid (hf.below hhi hb0); have M0 := Lib.hid (hM.below hhi hb0); have L0 := Lib.hid (hL.below hhi hb0); have W0 := Lib.hid (hT.below hhi hb0)
 have z0 : w.heap.size < w0.heap.size := by omega
 clear h hf hq hM hqe hem hl hL hllc hlm hr hT hrt htm hsp hW ht hk hb0 hz0 hs
 obtain ⟨kc0, kc1, kc2, kc3, kc4, kc5, kc6, kc7, kc8, kc9⟩ := K0.out.ten
 cases hmg : magB X.f X.ms
 ·have HR : Hid (machB X = false) := machB_mag hmg
  have HMg := Lib.hid hmg
  clear hmg
  go_enter Tryz.func38, Tryz.ntmps38
  go_wp2
  clear hw0
  refine wp_region_plan (.take 0 (.take 1 (.take 2 (.take 3 (.one 4 (.take 5 (.take 6 (.take 7 (.one 8 (.take 9 (.take 10 (.take 11 (.take 12 (.take 13 (.one 14 (.take 15 (.take 16 (.take 17 (.take 18 (.take 19 (.one 20 (.take 21 (.take 22 (.take 23 (.take 24 (.take 25 (.take 26 (.take 27 (.take 28 (.one 29 (.one 30 (.take 31 (.one 32 .done))))))))))))))))))))))))))))))))) (fun w' => w'.cell? ⟨w.heap.size, 0, none⟩ = some (.string s) ∧ w'.cell? ⟨w.heap.size, 1, none⟩ = some (.slice A n c) ∧ w'.cell? ⟨w.heap.size, 2, none⟩ = some (.slice A2 m d) ∧ w'.cell? ⟨w.heap.size, 3, none⟩ = some (.slice M q e0) ∧ w'.cell? ⟨w.heap.size, 4, none⟩ = some (.int .i64 sp) ∧ w'.cell? ⟨w.heap.size, 5, none⟩ = some (.int .i64 W) ∧ w'.cell? ⟨w.heap.size, 6, none⟩ = some (.int .i64 t) ∧ w'.cell? ⟨w.heap.size, 7, none⟩ = some (.int .i64 k) ∧ w'.cell? ⟨w.heap.size, 8, none⟩ = some (.slice L l lc) ∧ w'.cell? ⟨w.heap.size, 9, none⟩ = some (.slice T r tc)) (by kernel_rfl) (by kernel_rfl) (by kernel_rfl) (by intro c a d v w h; cases d <;> exact h) K0.out.ten ?_
  clear kc0 kc1 kc2 kc3 kc4 kc5 kc6 kc7 kc8 kc9
  iterate 4 (refine plan_quiet rfl (by rfl) (v := ?_) ?_ ?_; rotate_left; (intro w1 hSw; (try dsimp only at hSw); go_simp; try (with_reducible rfl)); (try simp only [Act.put, List.setIfInBounds_toArray, List.set_cons_zero, List.set_cons_succ]))
  refine plan_step rfl (fun K hK => ?_)
  rw [if_pos (by rfl)]
  go_simp
  refine (implMagOk_any lo hi lo hi _ X.f _ _ _ X.ms w0.drew (FontV.keep (w' := w0.drew) F0.out (fun p _ _ => rfl)) (by show hi ≤ w0.heap.size; omega) HS.out.f Hq.out hq1 (MagI.keep (w' := w0.drew) M0.out (fun p _ _ => rfl)) (by show hi ≤ w0.heap.size; omega) HWf.out.ms).mono ?_
  rintro e w1 ⟨he, hb'⟩
  have hb := undrew hb'
  rw [HMg.out] at he; subst he
  have K1 := Lib.hid (K0.out.below hb z0); have T1 := Lib.hid (T0.out.trans (hb.mono (by omega))); have F1 := Lib.hid (F0.out.below (by omega) hb); have L1 := Lib.hid (L0.out.below (by omega) hb); have W1 := Lib.hid (W0.out.below (by omega) hb)
  have z1 : w.heap.size < w1.heap.size := Nat.lt_of_lt_of_le z0 hb.size
  clear hb hb'
  refine hK.out _ _ K1.out.ten ?_
  clear hK K
  refine plan_quiet rfl (by rfl) (v := ?_) ?_ ?_; rotate_left; (intro w1 hSw; (try dsimp only at hSw); go_simp; try (with_reducible rfl)); (try simp only [Act.put, List.setIfInBounds_toArray, List.set_cons_zero, List.set_cons_succ])
  iterate 2 (refine plan_skip rfl (by rfl) ?_; (try simp only [Act.put, List.setIfInBounds_toArray, List.set_cons_zero, List.set_cons_succ]))
  refine plan_step rfl (fun K hK => ?_)
  rw [if_neg (by intro h; cases h)]
  refine hK.out _ _ K1.out.ten ?_
  clear hK K
  iterate 2 (refine plan_quiet rfl (by rfl) (v := ?_) ?_ ?_; rotate_left; (intro w1 hSw; (try dsimp only at hSw); go_simp; try (with_reducible rfl)); (try simp only [Act.put, List.setIfInBounds_toArray, List.set_cons_zero, List.set_cons_succ]))
  iterate 3 (refine plan_skip rfl (by rfl) ?_; (try simp only [Act.put, List.setIfInBounds_toArray, List.set_cons_zero, List.set_cons_succ]))
  refine plan_step rfl (fun K hK => ?_)
  rw [if_neg (by intro h; cases h)]
  refine hK.out _ _ K1.out.ten ?_
  clear hK K
  iterate 2 (refine plan_quiet rfl (by rfl) (v := ?_) ?_ ?_; rotate_left; (intro w1 hSw; (try dsimp only at hSw); go_simp; try (with_reducible rfl)); (try simp only [Act.put, List.setIfInBounds_toArray, List.set_cons_zero, List.set_cons_succ]))
  iterate 3 (refine plan_skip rfl (by rfl) ?_; (try simp only [Act.put, List.setIfInBounds_toArray, List.set_cons_zero, List.set_cons_succ]))
  refine plan_step rfl (fun K hK => ?_)
  rw [if_neg (by intro h; cases h)]
  refine hK.out _ _ K1.out.ten ?_
  clear hK K
  iterate 2 (refine plan_quiet rfl (by rfl) (v := ?_) ?_ ?_; rotate_left; (intro w1 hSw; (try dsimp only at hSw); go_simp; try (with_reducible rfl)); (try simp only [Act.put, List.setIfInBounds_toArray, List.set_cons_zero, List.set_cons_succ]))
  iterate 6 (refine plan_skip rfl (by rfl) ?_; (try simp only [Act.put, List.setIfInBounds_toArray, List.set_cons_zero, List.set_cons_succ]))
  refine plan_step rfl (fun K hK => ?_)
  rw [if_neg (by intro h; cases h)]
  refine hK.out _ _ K1.out.ten ?_
  clear hK K
  refine plan_step rfl (fun K hK => ?_)
  rw [if_neg (by intro h; cases h)]
  refine hK.out _ _ K1.out.ten ?_
  clear hK K
  refine plan_quiet rfl (by rfl) (v := ?_) ?_ ?_; rotate_left; (intro w1 hSw; (try dsimp only at hSw); go_simp; try (with_reducible rfl)); (try simp only [Act.put, List.setIfInBounds_toArray, List.set_cons_zero, List.set_cons_succ])
  refine plan_step rfl (fun K hK => ?_)
  rw [if_pos (by rfl)]
  go_simp
  refine hK.out _ _ K1.out.ten ?_
  clear hK K
  refine plan_end ?_
  go_wp2
  go_ret
  exact ⟨ret_bool HR.out.symm, T1.out⟩
 have HMg := Lib.hid hmg
 have HF := Lib.hid (magB_font hmg)
 cases hsp : inB sp 0 60
 ·have HR : Hid (machB X = false) := machB_sp (by rw [HE.out.1]; exact hsp)
  have HSp := Lib.hid hsp
  clear hsp hmg
  go_enter Tryz.func38, Tryz.ntmps38
  go_wp2
  clear hw0
  refine wp_region_plan (.take 0 (.take 1 (.take 2 (.take 3 (.one 4 (.take 5 (.take 6 (.take 7 (.one 8 (.take 9 (.take 10 (.take 11 (.take 12 (.take 13 (.one 14 (.take 15 (.take 16 (.take 17 (.take 18 (.take 19 (.one 20 (.take 21 (.take 22 (.take 23 (.take 24 (.take 25 (.take 26 (.take 27 (.take 28 (.one 29 (.one 30 (.take 31 (.one 32 .done))))))))))))))))))))))))))))))))) (fun w' => w'.cell? ⟨w.heap.size, 0, none⟩ = some (.string s) ∧ w'.cell? ⟨w.heap.size, 1, none⟩ = some (.slice A n c) ∧ w'.cell? ⟨w.heap.size, 2, none⟩ = some (.slice A2 m d) ∧ w'.cell? ⟨w.heap.size, 3, none⟩ = some (.slice M q e0) ∧ w'.cell? ⟨w.heap.size, 4, none⟩ = some (.int .i64 sp) ∧ w'.cell? ⟨w.heap.size, 5, none⟩ = some (.int .i64 W) ∧ w'.cell? ⟨w.heap.size, 6, none⟩ = some (.int .i64 t) ∧ w'.cell? ⟨w.heap.size, 7, none⟩ = some (.int .i64 k) ∧ w'.cell? ⟨w.heap.size, 8, none⟩ = some (.slice L l lc) ∧ w'.cell? ⟨w.heap.size, 9, none⟩ = some (.slice T r tc)) (by kernel_rfl) (by kernel_rfl) (by kernel_rfl) (by intro c a d v w h; cases d <;> exact h) K0.out.ten ?_
  clear kc0 kc1 kc2 kc3 kc4 kc5 kc6 kc7 kc8 kc9
  iterate 4 (refine plan_quiet rfl (by rfl) (v := ?_) ?_ ?_; rotate_left; (intro w1 hSw; (try dsimp only at hSw); go_simp; try (with_reducible rfl)); (try simp only [Act.put, List.setIfInBounds_toArray, List.set_cons_zero, List.set_cons_succ]))
  refine plan_step rfl (fun K hK => ?_)
  rw [if_pos (by rfl)]
  go_simp
  refine (implMagOk_any lo hi lo hi _ X.f _ _ _ X.ms w0.drew (FontV.keep (w' := w0.drew) F0.out (fun p _ _ => rfl)) (by show hi ≤ w0.heap.size; omega) HS.out.f Hq.out hq1 (MagI.keep (w' := w0.drew) M0.out (fun p _ _ => rfl)) (by show hi ≤ w0.heap.size; omega) HWf.out.ms).mono ?_
  rintro e w1 ⟨he, hb'⟩
  have hb := undrew hb'
  rw [HMg.out] at he; subst he
  have K1 := Lib.hid (K0.out.below hb z0); have T1 := Lib.hid (T0.out.trans (hb.mono (by omega))); have F1 := Lib.hid (F0.out.below (by omega) hb); have L1 := Lib.hid (L0.out.below (by omega) hb); have W1 := Lib.hid (W0.out.below (by omega) hb)
  have z1 : w.heap.size < w1.heap.size := Nat.lt_of_lt_of_le z0 hb.size
  clear hb hb'
  refine hK.out _ _ K1.out.ten ?_
  clear hK K
  iterate 3 (refine plan_quiet rfl (by rfl) (v := ?_) ?_ ?_; rotate_left; (intro w1 hSw; (try dsimp only at hSw); go_simp; try (with_reducible rfl)); (try simp only [Act.put, List.setIfInBounds_toArray, List.set_cons_zero, List.set_cons_succ]))
  refine plan_step rfl (fun K hK => ?_)
  rw [if_pos (by rfl)]
  go_simp
  refine (isFrom_any _ _ _ _).mono ?_
  rintro e w1' ⟨he, rfl⟩
  rw [HSp.out] at he; subst he
  refine hK.out _ _ K1.out.ten ?_
  clear hK K
  iterate 2 (refine plan_quiet rfl (by rfl) (v := ?_) ?_ ?_; rotate_left; (intro w1 hSw; (try dsimp only at hSw); go_simp; try (with_reducible rfl)); (try simp only [Act.put, List.setIfInBounds_toArray, List.set_cons_zero, List.set_cons_succ]))
  iterate 3 (refine plan_skip rfl (by rfl) ?_; (try simp only [Act.put, List.setIfInBounds_toArray, List.set_cons_zero, List.set_cons_succ]))
  refine plan_step rfl (fun K hK => ?_)
  rw [if_neg (by intro h; cases h)]
  refine hK.out _ _ K1.out.ten ?_
  clear hK K
  iterate 2 (refine plan_quiet rfl (by rfl) (v := ?_) ?_ ?_; rotate_left; (intro w1 hSw; (try dsimp only at hSw); go_simp; try (with_reducible rfl)); (try simp only [Act.put, List.setIfInBounds_toArray, List.set_cons_zero, List.set_cons_succ]))
  iterate 3 (refine plan_skip rfl (by rfl) ?_; (try simp only [Act.put, List.setIfInBounds_toArray, List.set_cons_zero, List.set_cons_succ]))
  refine plan_step rfl (fun K hK => ?_)
  rw [if_neg (by intro h; cases h)]
  refine hK.out _ _ K1.out.ten ?_
  clear hK K
  iterate 2 (refine plan_quiet rfl (by rfl) (v := ?_) ?_ ?_; rotate_left; (intro w1 hSw; (try dsimp only at hSw); go_simp; try (with_reducible rfl)); (try simp only [Act.put, List.setIfInBounds_toArray, List.set_cons_zero, List.set_cons_succ]))
  iterate 6 (refine plan_skip rfl (by rfl) ?_; (try simp only [Act.put, List.setIfInBounds_toArray, List.set_cons_zero, List.set_cons_succ]))
  refine plan_step rfl (fun K hK => ?_)
  rw [if_neg (by intro h; cases h)]
  refine hK.out _ _ K1.out.ten ?_
  clear hK K
  refine plan_step rfl (fun K hK => ?_)
  rw [if_neg (by intro h; cases h)]
  refine hK.out _ _ K1.out.ten ?_
  clear hK K
  refine plan_quiet rfl (by rfl) (v := ?_) ?_ ?_; rotate_left; (intro w1 hSw; (try dsimp only at hSw); go_simp; try (with_reducible rfl)); (try simp only [Act.put, List.setIfInBounds_toArray, List.set_cons_zero, List.set_cons_succ])
  refine plan_step rfl (fun K hK => ?_)
  rw [if_pos (by rfl)]
  go_simp
  refine hK.out _ _ K1.out.ten ?_
  clear hK K
  refine plan_end ?_
  go_wp2
  go_ret
  exact ⟨ret_bool HR.out.symm, T1.out⟩
 have HSp := Lib.hid hsp
 cases hwt : (inB (r : Int) 0 240 && X.wt.all (matB X.f))
 ·have HR : Hid (machB X = false) := machB_wait Hr.out hwt
  have HWt := Lib.hid hwt
  clear hsp hmg hwt
  go_enter Tryz.func38, Tryz.ntmps38
  go_wp2
  clear hw0
  refine wp_region_plan (.take 0 (.take 1 (.take 2 (.take 3 (.one 4 (.take 5 (.take 6 (.take 7 (.one 8 (.take 9 (.take 10 (.take 11 (.take 12 (.take 13 (.one 14 (.take 15 (.take 16 (.take 17 (.take 18 (.take 19 (.one 20 (.take 21 (.take 22 (.take 23 (.take 24 (.take 25 (.take 26 (.take 27 (.take 28 (.one 29 (.one 30 (.take 31 (.one 32 .done))))))))))))))))))))))))))))))))) (fun w' => w'.cell? ⟨w.heap.size, 0, none⟩ = some (.string s) ∧ w'.cell? ⟨w.heap.size, 1, none⟩ = some (.slice A n c) ∧ w'.cell? ⟨w.heap.size, 2, none⟩ = some (.slice A2 m d) ∧ w'.cell? ⟨w.heap.size, 3, none⟩ = some (.slice M q e0) ∧ w'.cell? ⟨w.heap.size, 4, none⟩ = some (.int .i64 sp) ∧ w'.cell? ⟨w.heap.size, 5, none⟩ = some (.int .i64 W) ∧ w'.cell? ⟨w.heap.size, 6, none⟩ = some (.int .i64 t) ∧ w'.cell? ⟨w.heap.size, 7, none⟩ = some (.int .i64 k) ∧ w'.cell? ⟨w.heap.size, 8, none⟩ = some (.slice L l lc) ∧ w'.cell? ⟨w.heap.size, 9, none⟩ = some (.slice T r tc)) (by kernel_rfl) (by kernel_rfl) (by kernel_rfl) (by intro c a d v w h; cases d <;> exact h) K0.out.ten ?_
  clear kc0 kc1 kc2 kc3 kc4 kc5 kc6 kc7 kc8 kc9
  iterate 4 (refine plan_quiet rfl (by rfl) (v := ?_) ?_ ?_; rotate_left; (intro w1 hSw; (try dsimp only at hSw); go_simp; try (with_reducible rfl)); (try simp only [Act.put, List.setIfInBounds_toArray, List.set_cons_zero, List.set_cons_succ]))
  refine plan_step rfl (fun K hK => ?_)
  rw [if_pos (by rfl)]
  go_simp
  refine (implMagOk_any lo hi lo hi _ X.f _ _ _ X.ms w0.drew (FontV.keep (w' := w0.drew) F0.out (fun p _ _ => rfl)) (by show hi ≤ w0.heap.size; omega) HS.out.f Hq.out hq1 (MagI.keep (w' := w0.drew) M0.out (fun p _ _ => rfl)) (by show hi ≤ w0.heap.size; omega) HWf.out.ms).mono ?_
  rintro e w1 ⟨he, hb'⟩
  have hb := undrew hb'
  rw [HMg.out] at he; subst he
  have K1 := Lib.hid (K0.out.below hb z0); have T1 := Lib.hid (T0.out.trans (hb.mono (by omega))); have F1 := Lib.hid (F0.out.below (by omega) hb); have L1 := Lib.hid (L0.out.below (by omega) hb); have W1 := Lib.hid (W0.out.below (by omega) hb)
  have z1 : w.heap.size < w1.heap.size := Nat.lt_of_lt_of_le z0 hb.size
  clear hb hb'
  refine hK.out _ _ K1.out.ten ?_
  clear hK K
  iterate 3 (refine plan_quiet rfl (by rfl) (v := ?_) ?_ ?_; rotate_left; (intro w1 hSw; (try dsimp only at hSw); go_simp; try (with_reducible rfl)); (try simp only [Act.put, List.setIfInBounds_toArray, List.set_cons_zero, List.set_cons_succ]))
  refine plan_step rfl (fun K hK => ?_)
  rw [if_pos (by rfl)]
  go_simp
  refine (isFrom_any _ _ _ _).mono ?_
  rintro e w1' ⟨he, rfl⟩
  rw [HSp.out] at he; subst he
  refine hK.out _ _ K1.out.ten ?_
  clear hK K
  iterate 5 (refine plan_quiet rfl (by rfl) (v := ?_) ?_ ?_; rotate_left; (intro w1 hSw; (try dsimp only at hSw); go_simp; try (with_reducible rfl)); (try simp only [Act.put, List.setIfInBounds_toArray, List.set_cons_zero, List.set_cons_succ]))
  refine plan_step rfl (fun K hK => ?_)
  rw [if_pos (by rfl)]
  go_simp
  refine (listMats_any 72 may1_enter w.heap.size (matB X.f) lo hi _ _ _ X.wt _ _ w1 Hr.out (by unfold maxLen; omega) W1.out (by omega) (fun x wr hx hbr => may1_any lo hi w.heap.size _ _ _ _ _ _ _ _ _ _ _ _ _ _ _ X.f x wr (F1.out.below (by omega) hbr) (by have := hbr.size; omega) HS.out.f HF.out (HWf.out.wt x hx) (K1.out.below hbr z1))).mono ?_
  rintro e w2 ⟨he, hb⟩
  rw [HWt.out] at he; subst he
  have K2 := Lib.hid (K1.out.below hb z1); have T2 := Lib.hid (T1.out.trans (hb.mono (by omega))); have F2 := Lib.hid (F1.out.below (by omega) hb); have L2 := Lib.hid (L1.out.below (by omega) hb)
  have z2 : w.heap.size < w2.heap.size := Nat.lt_of_lt_of_le z1 hb.size
  clear hb
  refine hK.out _ _ K2.out.ten ?_
  clear hK K
  iterate 2 (refine plan_quiet rfl (by rfl) (v := ?_) ?_ ?_; rotate_left; (intro w1 hSw; (try dsimp only at hSw); go_simp; try (with_reducible rfl)); (try simp only [Act.put, List.setIfInBounds_toArray, List.set_cons_zero, List.set_cons_succ]))
  iterate 3 (refine plan_skip rfl (by rfl) ?_; (try simp only [Act.put, List.setIfInBounds_toArray, List.set_cons_zero, List.set_cons_succ]))
  refine plan_step rfl (fun K hK => ?_)
  rw [if_neg (by intro h; cases h)]
  refine hK.out _ _ K2.out.ten ?_
  clear hK K
  iterate 2 (refine plan_quiet rfl (by rfl) (v := ?_) ?_ ?_; rotate_left; (intro w1 hSw; (try dsimp only at hSw); go_simp; try (with_reducible rfl)); (try simp only [Act.put, List.setIfInBounds_toArray, List.set_cons_zero, List.set_cons_succ]))
  iterate 6 (refine plan_skip rfl (by rfl) ?_; (try simp only [Act.put, List.setIfInBounds_toArray, List.set_cons_zero, List.set_cons_succ]))
  refine plan_step rfl (fun K hK => ?_)
  rw [if_neg (by intro h; cases h)]
  refine hK.out _ _ K2.out.ten ?_
  clear hK K
  refine plan_step rfl (fun K hK => ?_)
  rw [if_neg (by intro h; cases h)]
  refine hK.out _ _ K2.out.ten ?_
  clear hK K
  refine plan_quiet rfl (by rfl) (v := ?_) ?_ ?_; rotate_left; (intro w1 hSw; (try dsimp only at hSw); go_simp; try (with_reducible rfl)); (try simp only [Act.put, List.setIfInBounds_toArray, List.set_cons_zero, List.set_cons_succ])
  refine plan_step rfl (fun K hK => ?_)
  rw [if_pos (by rfl)]
  go_simp
  refine hK.out _ _ K2.out.ten ?_
  clear hK K
  refine plan_end ?_
  go_wp2
  go_ret
  exact ⟨ret_bool HR.out.symm, T2.out⟩
 have HWt := Lib.hid hwt
 cases hln : (inB (l : Int) 0 120 && X.ln.all (setM X.f))
 ·have HR : Hid (machB X = false) := machB_line Hl.out hln
  have HLn := Lib.hid hln
  clear hsp hmg hwt hln
  go_enter Tryz.func38, Tryz.ntmps38
  go_wp2
  clear hw0
  refine wp_region_plan (.take 0 (.take 1 (.take 2 (.take 3 (.one 4 (.take 5 (.take 6 (.take 7 (.one 8 (.take 9 (.take 10 (.take 11 (.take 12 (.take 13 (.one 14 (.take 15 (.take 16 (.take 17 (.take 18 (.take 19 (.one 20 (.take 21 (.take 22 (.take 23 (.take 24 (.take 25 (.take 26 (.take 27 (.take 28 (.one 29 (.one 30 (.take 31 (.one 32 .done))))))))))))))))))))))))))))))))) (fun w' => w'.cell? ⟨w.heap.size, 0, none⟩ = some (.string s) ∧ w'.cell? ⟨w.heap.size, 1, none⟩ = some (.slice A n c) ∧ w'.cell? ⟨w.heap.size, 2, none⟩ = some (.slice A2 m d) ∧ w'.cell? ⟨w.heap.size, 3, none⟩ = some (.slice M q e0) ∧ w'.cell? ⟨w.heap.size, 4, none⟩ = some (.int .i64 sp) ∧ w'.cell? ⟨w.heap.size, 5, none⟩ = some (.int .i64 W) ∧ w'.cell? ⟨w.heap.size, 6, none⟩ = some (.int .i64 t) ∧ w'.cell? ⟨w.heap.size, 7, none⟩ = some (.int .i64 k) ∧ w'.cell? ⟨w.heap.size, 8, none⟩ = some (.slice L l lc) ∧ w'.cell? ⟨w.heap.size, 9, none⟩ = some (.slice T r tc)) (by kernel_rfl) (by kernel_rfl) (by kernel_rfl) (by intro c a d v w h; cases d <;> exact h) K0.out.ten ?_
  clear kc0 kc1 kc2 kc3 kc4 kc5 kc6 kc7 kc8 kc9
  iterate 4 (refine plan_quiet rfl (by rfl) (v := ?_) ?_ ?_; rotate_left; (intro w1 hSw; (try dsimp only at hSw); go_simp; try (with_reducible rfl)); (try simp only [Act.put, List.setIfInBounds_toArray, List.set_cons_zero, List.set_cons_succ]))
  refine plan_step rfl (fun K hK => ?_)
  rw [if_pos (by rfl)]
  go_simp
  refine (implMagOk_any lo hi lo hi _ X.f _ _ _ X.ms w0.drew (FontV.keep (w' := w0.drew) F0.out (fun p _ _ => rfl)) (by show hi ≤ w0.heap.size; omega) HS.out.f Hq.out hq1 (MagI.keep (w' := w0.drew) M0.out (fun p _ _ => rfl)) (by show hi ≤ w0.heap.size; omega) HWf.out.ms).mono ?_
  rintro e w1 ⟨he, hb'⟩
  have hb := undrew hb'
  rw [HMg.out] at he; subst he
  have K1 := Lib.hid (K0.out.below hb z0); have T1 := Lib.hid (T0.out.trans (hb.mono (by omega))); have F1 := Lib.hid (F0.out.below (by omega) hb); have L1 := Lib.hid (L0.out.below (by omega) hb); have W1 := Lib.hid (W0.out.below (by omega) hb)
  have z1 : w.heap.size < w1.heap.size := Nat.lt_of_lt_of_le z0 hb.size
  clear hb hb'
  refine hK.out _ _ K1.out.ten ?_
  clear hK K
  iterate 3 (refine plan_quiet rfl (by rfl) (v := ?_) ?_ ?_; rotate_left; (intro w1 hSw; (try dsimp only at hSw); go_simp; try (with_reducible rfl)); (try simp only [Act.put, List.setIfInBounds_toArray, List.set_cons_zero, List.set_cons_succ]))
  refine plan_step rfl (fun K hK => ?_)
  rw [if_pos (by rfl)]
  go_simp
  refine (isFrom_any _ _ _ _).mono ?_
  rintro e w1' ⟨he, rfl⟩
  rw [HSp.out] at he; subst he
  refine hK.out _ _ K1.out.ten ?_
  clear hK K
  iterate 5 (refine plan_quiet rfl (by rfl) (v := ?_) ?_ ?_; rotate_left; (intro w1 hSw; (try dsimp only at hSw); go_simp; try (with_reducible rfl)); (try simp only [Act.put, List.setIfInBounds_toArray, List.set_cons_zero, List.set_cons_succ]))
  refine plan_step rfl (fun K hK => ?_)
  rw [if_pos (by rfl)]
  go_simp
  refine (listMats_any 72 may1_enter w.heap.size (matB X.f) lo hi _ _ _ X.wt _ _ w1 Hr.out (by unfold maxLen; omega) W1.out (by omega) (fun x wr hx hbr => may1_any lo hi w.heap.size _ _ _ _ _ _ _ _ _ _ _ _ _ _ _ X.f x wr (F1.out.below (by omega) hbr) (by have := hbr.size; omega) HS.out.f HF.out (HWf.out.wt x hx) (K1.out.below hbr z1))).mono ?_
  rintro e w2 ⟨he, hb⟩
  rw [HWt.out] at he; subst he
  have K2 := Lib.hid (K1.out.below hb z1); have T2 := Lib.hid (T1.out.trans (hb.mono (by omega))); have F2 := Lib.hid (F1.out.below (by omega) hb); have L2 := Lib.hid (L1.out.below (by omega) hb)
  have z2 : w.heap.size < w2.heap.size := Nat.lt_of_lt_of_le z1 hb.size
  clear hb
  refine hK.out _ _ K2.out.ten ?_
  clear hK K
  iterate 5 (refine plan_quiet rfl (by rfl) (v := ?_) ?_ ?_; rotate_left; (intro w1 hSw; (try dsimp only at hSw); go_simp; try (with_reducible rfl)); (try simp only [Act.put, List.setIfInBounds_toArray, List.set_cons_zero, List.set_cons_succ]))
  refine plan_step rfl (fun K hK => ?_)
  rw [if_pos (by rfl)]
  go_simp
  refine (listMats_any 74 may2_enter w.heap.size (setM X.f) lo hi _ _ _ X.ln _ _ w2 Hl.out (by unfold maxLen; omega) L2.out (by omega) (fun x wr hx hbr => may2_any lo hi w.heap.size _ _ _ _ _ _ _ _ _ _ _ _ _ _ _ X.f x wr (F2.out.below (by omega) hbr) (by have := hbr.size; omega) HS.out.f HF.out (HWf.out.ln x hx) (K2.out.below hbr z2))).mono ?_
  rintro e w3 ⟨he, hb⟩
  rw [HLn.out] at he; subst he
  have K3 := Lib.hid (K2.out.below hb z2); have T3 := Lib.hid (T2.out.trans (hb.mono (by omega))); have F3 := Lib.hid (F2.out.below (by omega) hb); have L3 := Lib.hid (L2.out.below (by omega) hb)
  have z3 : w.heap.size < w3.heap.size := Nat.lt_of_lt_of_le z2 hb.size
  clear hb
  refine hK.out _ _ K3.out.ten ?_
  clear hK K
  iterate 2 (refine plan_quiet rfl (by rfl) (v := ?_) ?_ ?_; rotate_left; (intro w1 hSw; (try dsimp only at hSw); go_simp; try (with_reducible rfl)); (try simp only [Act.put, List.setIfInBounds_toArray, List.set_cons_zero, List.set_cons_succ]))
  iterate 6 (refine plan_skip rfl (by rfl) ?_; (try simp only [Act.put, List.setIfInBounds_toArray, List.set_cons_zero, List.set_cons_succ]))
  refine plan_step rfl (fun K hK => ?_)
  rw [if_neg (by intro h; cases h)]
  refine hK.out _ _ K3.out.ten ?_
  clear hK K
  refine plan_step rfl (fun K hK => ?_)
  rw [if_neg (by intro h; cases h)]
  refine hK.out _ _ K3.out.ten ?_
  clear hK K
  refine plan_quiet rfl (by rfl) (v := ?_) ?_ ?_; rotate_left; (intro w1 hSw; (try dsimp only at hSw); go_simp; try (with_reducible rfl)); (try simp only [Act.put, List.setIfInBounds_toArray, List.set_cons_zero, List.set_cons_succ])
  refine plan_step rfl (fun K hK => ?_)
  rw [if_pos (by rfl)]
  go_simp
  refine hK.out _ _ K3.out.ten ?_
  clear hK K
  refine plan_end ?_
  go_wp2
  go_ret
  exact ⟨ret_bool HR.out.symm, T3.out⟩
 have HLn := Lib.hid hln
 have HR := Lib.hid (machB_good Hl.out Hr.out hmg (by rw [HE.out.1]; exact hsp) hwt hln)
 have HW2 : Hid (∀ x ∈ X.ln, bandM x = true ∨ (0 ≤ x.1 ∧ x.1.toNat < X.f.ws.length)) := fun x hx => by
  rw [Bool.and_eq_true] at hln
  exact set_item HF.out (List.all_eq_true.1 hln.2 x hx)
 rw [HE.out.2] at HR
 obtain ⟨gd, hgd⟩ : ∃ y, goodB ⟨W, t, k⟩ (itemsM X.f X.ln) = y := ⟨_, rfl⟩
 have HGd := Lib.hid hgd
 rw [hgd] at HR
 clear hsp hmg hwt hln hgd
 go_enter Tryz.func38, Tryz.ntmps38
 go_wp2
 clear hw0
 refine wp_region_plan (.take 0 (.take 1 (.take 2 (.take 3 (.one 4 (.take 5 (.take 6 (.take 7 (.one 8 (.take 9 (.take 10 (.take 11 (.take 12 (.take 13 (.one 14 (.take 15 (.take 16 (.take 17 (.take 18 (.take 19 (.one 20 (.take 21 (.take 22 (.take 23 (.take 24 (.take 25 (.take 26 (.take 27 (.take 28 (.one 29 (.one 30 (.take 31 (.one 32 .done))))))))))))))))))))))))))))))))) (fun w' => w'.cell? ⟨w.heap.size, 0, none⟩ = some (.string s) ∧ w'.cell? ⟨w.heap.size, 1, none⟩ = some (.slice A n c) ∧ w'.cell? ⟨w.heap.size, 2, none⟩ = some (.slice A2 m d) ∧ w'.cell? ⟨w.heap.size, 3, none⟩ = some (.slice M q e0) ∧ w'.cell? ⟨w.heap.size, 4, none⟩ = some (.int .i64 sp) ∧ w'.cell? ⟨w.heap.size, 5, none⟩ = some (.int .i64 W) ∧ w'.cell? ⟨w.heap.size, 6, none⟩ = some (.int .i64 t) ∧ w'.cell? ⟨w.heap.size, 7, none⟩ = some (.int .i64 k) ∧ w'.cell? ⟨w.heap.size, 8, none⟩ = some (.slice L l lc) ∧ w'.cell? ⟨w.heap.size, 9, none⟩ = some (.slice T r tc)) (by kernel_rfl) (by kernel_rfl) (by kernel_rfl) (by intro c a d v w h; cases d <;> exact h) K0.out.ten ?_
 clear kc0 kc1 kc2 kc3 kc4 kc5 kc6 kc7 kc8 kc9
 iterate 4 (refine plan_quiet rfl (by rfl) (v := ?_) ?_ ?_; rotate_left; (intro w1 hSw; (try dsimp only at hSw); go_simp; try (with_reducible rfl)); (try simp only [Act.put, List.setIfInBounds_toArray, List.set_cons_zero, List.set_cons_succ]))
 refine plan_step rfl (fun K hK => ?_)
 rw [if_pos (by rfl)]
 go_simp
 refine (implMagOk_any lo hi lo hi _ X.f _ _ _ X.ms w0.drew (FontV.keep (w' := w0.drew) F0.out (fun p _ _ => rfl)) (by show hi ≤ w0.heap.size; omega) HS.out.f Hq.out hq1 (MagI.keep (w' := w0.drew) M0.out (fun p _ _ => rfl)) (by show hi ≤ w0.heap.size; omega) HWf.out.ms).mono ?_
 rintro e w1 ⟨he, hb'⟩
 have hb := undrew hb'
 rw [HMg.out] at he; subst he
 have K1 := Lib.hid (K0.out.below hb z0); have T1 := Lib.hid (T0.out.trans (hb.mono (by omega))); have F1 := Lib.hid (F0.out.below (by omega) hb); have L1 := Lib.hid (L0.out.below (by omega) hb); have W1 := Lib.hid (W0.out.below (by omega) hb)
 have z1 : w.heap.size < w1.heap.size := Nat.lt_of_lt_of_le z0 hb.size
 clear hb hb'
 refine hK.out _ _ K1.out.ten ?_
 clear hK K
 iterate 3 (refine plan_quiet rfl (by rfl) (v := ?_) ?_ ?_; rotate_left; (intro w1 hSw; (try dsimp only at hSw); go_simp; try (with_reducible rfl)); (try simp only [Act.put, List.setIfInBounds_toArray, List.set_cons_zero, List.set_cons_succ]))
 refine plan_step rfl (fun K hK => ?_)
 rw [if_pos (by rfl)]
 go_simp
 refine (isFrom_any _ _ _ _).mono ?_
 rintro e w1' ⟨he, rfl⟩
 rw [HSp.out] at he; subst he
 refine hK.out _ _ K1.out.ten ?_
 clear hK K
 iterate 5 (refine plan_quiet rfl (by rfl) (v := ?_) ?_ ?_; rotate_left; (intro w1 hSw; (try dsimp only at hSw); go_simp; try (with_reducible rfl)); (try simp only [Act.put, List.setIfInBounds_toArray, List.set_cons_zero, List.set_cons_succ]))
 refine plan_step rfl (fun K hK => ?_)
 rw [if_pos (by rfl)]
 go_simp
 refine (listMats_any 72 may1_enter w.heap.size (matB X.f) lo hi _ _ _ X.wt _ _ w1 Hr.out (by unfold maxLen; omega) W1.out (by omega) (fun x wr hx hbr => may1_any lo hi w.heap.size _ _ _ _ _ _ _ _ _ _ _ _ _ _ _ X.f x wr (F1.out.below (by omega) hbr) (by have := hbr.size; omega) HS.out.f HF.out (HWf.out.wt x hx) (K1.out.below hbr z1))).mono ?_
 rintro e w2 ⟨he, hb⟩
 rw [HWt.out] at he; subst he
 have K2 := Lib.hid (K1.out.below hb z1); have T2 := Lib.hid (T1.out.trans (hb.mono (by omega))); have F2 := Lib.hid (F1.out.below (by omega) hb); have L2 := Lib.hid (L1.out.below (by omega) hb)
 have z2 : w.heap.size < w2.heap.size := Nat.lt_of_lt_of_le z1 hb.size
 clear hb
 refine hK.out _ _ K2.out.ten ?_
 clear hK K
 iterate 5 (refine plan_quiet rfl (by rfl) (v := ?_) ?_ ?_; rotate_left; (intro w1 hSw; (try dsimp only at hSw); go_simp; try (with_reducible rfl)); (try simp only [Act.put, List.setIfInBounds_toArray, List.set_cons_zero, List.set_cons_succ]))
 refine plan_step rfl (fun K hK => ?_)
 rw [if_pos (by rfl)]
 go_simp
 refine (listMats_any 74 may2_enter w.heap.size (setM X.f) lo hi _ _ _ X.ln _ _ w2 Hl.out (by unfold maxLen; omega) L2.out (by omega) (fun x wr hx hbr => may2_any lo hi w.heap.size _ _ _ _ _ _ _ _ _ _ _ _ _ _ _ X.f x wr (F2.out.below (by omega) hbr) (by have := hbr.size; omega) HS.out.f HF.out (HWf.out.ln x hx) (K2.out.below hbr z2))).mono ?_
 rintro e w3 ⟨he, hb⟩
 rw [HLn.out] at he; subst he
 have K3 := Lib.hid (K2.out.below hb z2); have T3 := Lib.hid (T2.out.trans (hb.mono (by omega))); have F3 := Lib.hid (F2.out.below (by omega) hb); have L3 := Lib.hid (L2.out.below (by omega) hb)
 have z3 : w.heap.size < w3.heap.size := Nat.lt_of_lt_of_le z2 hb.size
 clear hb
 refine hK.out _ _ K3.out.ten ?_
 clear hK K
 iterate 8 (refine plan_quiet rfl (by rfl) (v := ?_) ?_ ?_; rotate_left; (intro w1 hSw; (try dsimp only at hSw); go_simp; try (with_reducible rfl)); (try simp only [Act.put, List.setIfInBounds_toArray, List.set_cons_zero, List.set_cons_succ]))
 refine plan_step rfl (fun K hK => ?_)
 rw [if_pos (by rfl)]
 go_simp
 refine (itemsOf_any lo hi lo hi _ X.f _ _ _ X.ln w3 F3.out (by omega) Hl.out hl1 L3.out (by omega) HW2.out).mono ?_
 rintro e w4 ⟨u, rfl, hO, hb⟩
 obtain ⟨U, uc, rfl, hI4, -, huc, hum⟩ := hO.form
 have hul : (itemsM X.f X.ln).length ≤ maxLen := by rw [itemsM_len, Hl.out]; unfold maxLen; omega
 have K4 := Lib.hid (K3.out.below hb z3); have T4 := Lib.hid (T3.out.trans (hb.mono (by omega))); have I4 := Lib.hid hI4
 have z4 : w.heap.size < w4.heap.size := Nat.lt_of_lt_of_le z3 hb.size
 clear hb hO hI4
 refine hK.out _ _ K4.out.ten ?_
 clear hK K
 refine plan_step rfl (fun K hK => ?_)
 rw [if_pos (by rfl)]
 go_simp
 refine (isFitting_any W t k _ _ _ (itemsM X.f X.ln) w4 rfl hul I4.out).mono ?_
 rintro e w5 ⟨he, hb⟩
 rw [HGd.out] at he; subst he
 have K5 := Lib.hid (K4.out.below hb z4); have T5 := Lib.hid (T4.out.trans (hb.mono (by omega)))
 clear hb
 refine hK.out _ _ K5.out.ten ?_
 clear hK K
 refine plan_quiet rfl (by rfl) (v := ?_) ?_ ?_; rotate_left; (intro w1 hSw; (try dsimp only at hSw); go_simp; try (with_reducible rfl)); (try simp only [Act.put, List.setIfInBounds_toArray, List.set_cons_zero, List.set_cons_succ])
 refine plan_step rfl (fun K hK => ?_)
 rw [if_pos (by rfl)]
 go_simp
 refine hK.out _ _ K5.out.ten ?_
 clear hK K
 refine plan_end ?_
 go_wp2
 go_ret
 exact ⟨ret_bool HR.out.symm, T5.out⟩
end Go.Proofs.YtimhnkpccbcohaaGreatDoor

namespace Go.Proofs.YtimhnkpccbcohaaGreatDoor
open Go.RowKit
set_option linter.unusedVariables false

theorem machB_parts {X : Mch} (h : machB X = true) : magB X.f X.ms = true ∧ inB X.sp 0 60 = true ∧ X.wt.length ≤ 240 ∧ X.wt.all (matB X.f) = true ∧ X.ln.length ≤ 120 ∧ X.ln.all (setM X.f) = true ∧ goodB X.m (itemsM X.f X.ln) = true := by
 unfold machB at h
 simp only [Bool.and_eq_true, decide_eq_true_eq] at h
 exact ⟨h.1, h.2.1, h.2.2.1.1, h.2.2.1.2, h.2.2.2.1.1, h.2.2.2.1.2, h.2.2.2.2⟩
theorem own_none (w : World) (B : Nat) : Own w B (.slice none 0 0) [] := ⟨rfl, .inl ⟨rfl, rfl⟩⟩
end Go.Proofs.YtimhnkpccbcohaaGreatDoor
