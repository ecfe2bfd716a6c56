/-
  Contracts and plain mathematics (Plan, PlanT, Once, GoM, GoP, GoT, GoF, GoOn, First, Long), each with its conditions in its own statement.
-/
import Derived.Test.YtobakeahbgodbaaGreatPkB
import Derived.Deep.RegionHeld3
import Derived.Test.YtobakeahbgodbaaGreatPkC
namespace Go.Proofs.YtobakeahbgodbaaGreat
open Go.RowKit Go.Shelf
set_option linter.unusedVariables false

section
variable {P : Program} {ops : Array Oper} {Q : Exit → Act → World → Prop} {S : World → Prop}
inductive Plan where
  | done
  | take (i : Nat) (p : Plan)
  | one (i : Nat) (p : Plan)
  | two (i j : Nat) (p q : Plan)
/-- is it a plan? take: operation i may be taken first; one: it alone may come up; two: one of two may -/
def planB (ops : Array Oper) : Plan → Nat → Array Bool → Bool
  | .done, k, listed => k == 0 && (Region.ready .any ops listed).isEmpty
  | .take i p, k + 1, listed => Region.free .any ops listed i && ((Region.ready .any ops listed).contains i && planB ops p k (listed.setIfInBounds i true))
  | .one i p, k + 1, listed => (Region.ready .any ops listed == [i]) && planB ops p k (listed.setIfInBounds i true)
  | .two i j p q, k + 1, listed => (Region.ready .any ops listed == [i, j]) && (planB ops p k (listed.setIfInBounds i true) && planB ops q k (listed.setIfInBounds j true))
  | _, 0, _ => false
def wpPlan (P : Program) (ops : Array Oper) (Q : Exit → Act → World → Prop) (S : World → Prop) : Plan → Act → World → Prop
  | .done, a, w => Q .normal a w
  | .take i p, a, w => ∃ o v, ops[i]? = some o ∧ YieldsIf P ops S o v a ∧ wpPlan P ops Q S p (a.put o.dst v) w
  | .one i p, a, w => wpOp P ops Q i (fun a' w' => S w' ∧ wpPlan P ops Q S p a' w') a w
  | .two i j p q, a, w => wpOp P ops Q i (fun a' w' => S w' ∧ wpPlan P ops Q S p a' w') a w ∧ wpOp P ops Q j (fun a' w' => S w' ∧ wpPlan P ops Q S q a' w') a w
theorem plan_any (hs : Region.noSelect ops = true) (hQ : ∀ c a d v w, Q (.panic c) (Act.put a d v) w → Q (.panic c) a w) : ∀ (pl : Plan) (k : Nat) (listed : Array Bool) (a : Act) (w : World), planB ops pl k listed = true → S w → wpPlan P ops Q S pl a w →
    wpAnyH P .any ops Q S k listed a w
  | .done, k, listed, a, w, hB, hS, h => by
    unfold planB at hB
    rw [Bool.and_eq_true] at hB
    exact wpAnyH_done (List.isEmpty_iff.1 hB.2) h k
  | .take i p, 0, listed, a, w, hB, hS, h => by simp [planB] at hB
  | .one i p, 0, listed, a, w, hB, hS, h => by simp [planB] at hB
  | .two i j p q, 0, listed, a, w, hB, hS, h => by simp [planB] at hB
  | .take i p, k + 1, listed, a, w, hB, hS, h => by
    unfold planB at hB
    rw [Bool.and_eq_true, Bool.and_eq_true] at hB
    obtain ⟨o, v, ho, hy, h⟩ := h
    exact wpAnyH_take ho hs hB.1 hB.2.1 (fun c a w => hQ c a _ _ w) hy hS (plan_any hs hQ p k _ _ _ hB.2.2 hS h)
  | .one i p, k + 1, listed, a, w, hB, hS, h => by
    unfold planB at hB
    rw [Bool.and_eq_true] at hB
    refine wpAnyH_all (eq_of_beq hB.1) (by simp) (fun j hj => ?_)
    rw [List.mem_singleton] at hj
    subst hj
    exact wpOp_mono (fun a' w' h' => ⟨h'.1, plan_any hs hQ p k _ _ _ hB.2 h'.1 h'.2⟩) h
  | .two i j p q, k + 1, listed, a, w, hB, hS, h => by
    unfold planB at hB
    rw [Bool.and_eq_true, Bool.and_eq_true] at hB
    refine wpAnyH_all (eq_of_beq hB.1) (by simp) (fun x hx => ?_)
    rw [List.mem_cons, List.mem_singleton] at hx
    rcases hx with rfl | rfl
    · exact wpOp_mono (fun a' w' h' => ⟨h'.1, plan_any hs hQ p k _ _ _ hB.2.1 h'.1 h'.2⟩) h.1
    · exact wpOp_mono (fun a' w' h' => ⟨h'.1, plan_any hs hQ q k _ _ _ hB.2.2 h'.1 h'.2⟩) h.2
theorem wp_region_plan {id : Nat} {a : Act} {w : World} (pl : Plan) (S : World → Prop) (hm : P.follows .mixedOrders = true) (hs : Region.noSelect ops = true) (hB : planB ops pl ops.size (Array.replicate ops.size false) = true)
    (hQ : ∀ c a d v w, Q (.panic c) (Act.put a d v) w → Q (.panic c) a w) (hS : S w.drew) (h : wpPlan P ops Q S pl a w.drew) : (Code.region id ops true).wp P Q a w :=
  wp_region_held hm (plan_any hs hQ pl _ _ a w.drew hB hS h)
theorem wpIn_region_plan {l n id : Nat} {a : Act} {w : World} (pl : Plan) (S : World → Prop) (hm : P.follows .mixedOrders = true) (hd : noDefer ops = true) (hs : Region.noSelect ops = true) (hq : ¬ LetsOut Q) (hB : planB ops pl ops.size (Array.replicate ops.size false) = true)
    (hQ : ∀ c a d v w, Q (.panic c) (Act.put a d v) w → Q (.panic c) a w) (hS : S w.drew) (h : wpPlan P ops Q S pl a w.drew) : (Code.region id ops true).wpIn (Fence.wide.inRound l) n P Q a w :=
  wpIn_region_held S hm hd hq hS (fun _ => plan_any hs hQ pl _ _ a w.drew hB hS h)
theorem plan_quiet {i : Nat} {p : Plan} {o : Oper} {v : Value} {a : Act} {w : World} (ho : ops.toList[i]? = some o) (hw : Region.wanted o (yielded ops a.tmps) = true) (hy : ∀ w1, S w1 → (execOp a.eval o).run P w1 = .ok (.value v) w1)
    (h : wpPlan P ops Q S p (a.put o.dst v) w) : wpPlan P ops Q S (.take i p) a w :=
  ⟨o, v, by rw [← Array.getElem?_toList]; exact ho, .inl ⟨hw, hy⟩, h⟩
theorem plan_skip {i : Nat} {p : Plan} {o : Oper} {a : Act} {w : World} (ho : ops.toList[i]? = some o) (hw : Region.wanted o (yielded ops a.tmps) = false)
    (h : wpPlan P ops Q S p (a.put o.dst undef) w) : wpPlan P ops Q S (.take i p) a w :=
  ⟨o, undef, by rw [← Array.getElem?_toList]; exact ho, .inr ⟨hw, rfl⟩, h⟩
theorem plan_step {i : Nat} {p : Plan} {o : Oper} {a : Act} {w : World} (ho : ops.toList[i]? = some o)
    (h : ∀ K : Act → World → Prop, Shut (∀ a w, S w → wpPlan P ops Q S p a w → K a w) → if Region.wanted o (yielded ops a.tmps) = true then Oper.wp P o a w K Q else K (a.put o.dst undef) w) : wpPlan P ops Q S (.one i p) a w :=
  wpOp_step (by rw [← Array.getElem?_toList]; exact ho) (fun K' hK => h K' (fun a w hS hW => hK a w ⟨hS, hW⟩))
theorem plan_fork {i j : Nat} {p q : Plan} {o o2 : Oper} {a : Act} {w : World} (ho : ops.toList[i]? = some o) (ho2 : ops.toList[j]? = some o2)
    (h : ∀ K : Act → World → Prop, Shut (∀ a w, S w → wpPlan P ops Q S p a w → K a w) → if Region.wanted o (yielded ops a.tmps) = true then Oper.wp P o a w K Q else K (a.put o.dst undef) w)
    (h2 : ∀ K : Act → World → Prop, Shut (∀ a w, S w → wpPlan P ops Q S q a w → K a w) → if Region.wanted o2 (yielded ops a.tmps) = true then Oper.wp P o2 a w K Q else K (a.put o2.dst undef) w) : wpPlan P ops Q S (.two i j p q) a w :=
  ⟨wpOp_step (by rw [← Array.getElem?_toList]; exact ho) (fun K' hK => h K' (fun a w hS hW => hK a w ⟨hS, hW⟩)), wpOp_step (by rw [← Array.getElem?_toList]; exact ho2) (fun K' hK => h2 K' (fun a w hS hW => hK a w ⟨hS, hW⟩))⟩
theorem plan_end {a : Act} {w : World} (h : Q .normal a w) : wpPlan P ops Q S .done a w := h
end
end Go.Proofs.YtobakeahbgodbaaGreat

namespace Go.Proofs.YtobakeahbgodbaaGreat
open Go.RowKit Go.Shelf
set_option linter.unusedVariables false

section
variable {P : Program} {ops : Array Oper} {Q : Exit → Act → World → Prop} {S : World → Prop} {md : Region.Mode} {L : Nat}
/-- whatever comes up, and S behind each operation but L -/
def wpAnyT (P : Program) (md : Region.Mode) (ops : Array Oper) (Q : Exit → Act → World → Prop) (S : World → Prop) (L : Nat) : Nat → Array Bool → Act → World → Prop
  | 0, listed, a, w => Region.ready md ops listed = [] ∧ Q .normal a w
  | k + 1, listed, a, w => (Region.ready md ops listed = [] → Q .normal a w) ∧ ∀ i ∈ Region.ready md ops listed, wpOp P ops Q i (fun a' w' => (i = L ∨ S w') ∧ wpAnyT P md ops Q S L k (listed.setIfInBounds i true) a' w') a w
theorem anyT_any : ∀ (k : Nat) (listed : Array Bool) (a : Act) (w : World), wpAnyT P md ops Q S L k listed a w → wpAny P md ops Q k listed a w
  | 0, _, _, _, h => h
  | k + 1, _, _, _, h => ⟨h.1, fun i hi => wpOp_mono (fun a' w' h' => anyT_any k _ a' w' h'.2) (h.2 i hi)⟩
/-- L waits for each other operation -/
def waitsB (md : Region.Mode) (ops : Array Oper) (L : Nat) : Bool := match ops[L]? with
  | some o => (List.range ops.size).all fun j => j == L || o.after.toList.any fun e => Region.binds md e && e.on == j
  | none => true
theorem waits_all (h : waitsB md ops L = true) {listed : Array Bool} (hz : listed.size = ops.size) (hr : L ∈ Region.ready md ops listed) {i : Nat} (hi : i ∈ Region.ready md ops listed) : i = L := by
  obtain ⟨hu, o, ho, hall⟩ := mem_ready.1 hr
  obtain ⟨hui, oi, hoi, -⟩ := mem_ready.1 hi
  unfold waitsB at h
  rw [ho] at h
  simp only at h
  rw [List.all_eq_true] at h
  have hil := (Array.getElem?_eq_some_iff.1 hoi).1
  have h1 := h i (List.mem_range.2 hil)
  rw [Bool.or_eq_true] at h1
  rcases h1 with h1 | h1
  · exact eq_of_beq h1
  · exfalso
    rw [List.any_eq_true] at h1
    obtain ⟨e, he, hb⟩ := h1
    rw [Bool.and_eq_true] at hb
    have h2 := hall e (by simpa using he) hb.1
    rw [eq_of_beq hb.2] at h2
    have hil2 : i < listed.size := by omega
    simp [hil2] at hui h2
    rw [hui] at h2; cases h2
theorem anyT_first {i : Nat} {oi : Oper} {v : Value} (hw : waitsB md ops L = true) (hiL : i ≠ L) (hi : ops[i]? = some oi) (hsel : ∀ (j : Nat) (o : Oper) cs b, ops[j]? = some o → o.op ≠ .select cs b)
    (hQ : ∀ c a w, Q (.panic c) (a.put oi.dst v) w → Q (.panic c) a w) :
    ∀ (k : Nat) (listed : Array Bool) (a : Act) (w : World), listed.size = ops.size →
      (∀ j oj, ops[j]? = some oj → j ≠ i → listed.getD j true = false → (∀ e ∈ oj.after, Region.binds md e = true → e.on ≠ i) → oi.apart ops oj = true) →
      i ∈ Region.ready md ops listed → YieldsIf P ops S oi v a → S w →
      wpAnyT P md ops Q S L k (listed.setIfInBounds i true) (a.put oi.dst v) w → wpAnyT P md ops Q S L (k + 1) listed a w := by
  intro k
  induction k with
  | zero =>
    intro listed a w hz _ hr hy hS H
    refine ⟨fun h => (by rw [h] at hr; cases hr), fun j hj => ?_⟩
    rcases Decidable.em (j = i) with rfl | hji
    · exact hy.wpOp hi hS ⟨.inr hS, H⟩
    · have h0 := ready_mono hj hji
      rw [H.1] at h0; cases h0
  | succ k ih =>
    intro listed a w hz hfree hr hy hS H
    refine ⟨fun h => (by rw [h] at hr; cases hr), fun j hj => ?_⟩
    rcases Decidable.em (j = i) with rfl | hji
    · exact hy.wpOp hi hS ⟨.inr hS, H⟩
    have hjL : j ≠ L := fun e => by subst e; exact hiL (waits_all hw hz hj hr)
    obtain ⟨hjun, oj, hoj, hall⟩ := mem_ready.1 hj
    have hnot : ∀ e ∈ oj.after, Region.binds md e = true → e.on ≠ i := fun e he hb heq => by
      have h1 := hall e he hb
      have h0 := (mem_ready.1 hr).1
      rw [heq] at h1
      have hil : i < listed.size := by rw [hz]; exact (Array.getElem?_eq_some_iff.1 hi).1
      simp [hil] at h0 h1
      rw [h0] at h1; cases h1
    have hput := wpOp_putIf hoj (hfree j oj hoj hji hjun hnot) (fun cs b => hsel i oi cs b hi) (fun cs b => hsel j oj cs b hoj) hQ hy (H.2 j (ready_mono hj hji))
    refine wpOp_mono (fun a' w' h3 => ?_) hput
    have hS' : S w' := h3.2.1.resolve_left hjL
    refine ⟨.inr hS', ih (listed.setIfInBounds j true) a' w' (by simp [hz]) ?_ (ready_mono hr (Ne.symm hji)) h3.1 hS' ?_⟩
    · intro x ox hx hxi hun hno
      refine hfree x ox hx hxi ?_ hno
      rcases Decidable.em (j = x) with rfl | hjx
      · exact hjun
      · rw [Go.getD_set_ne true hjx] at hun; exact hun
    · rw [Array.setIfInBounds_comm _ _ hji]
      exact h3.2.2
inductive PlanT where
  | done
  | last (i : Nat)
  | take (i : Nat) (p : PlanT)
  | one (i : Nat) (p : PlanT)
def planTB (ops : Array Oper) (L : Nat) : PlanT → Nat → Array Bool → Bool
  | .done, _, listed => (Region.ready .any ops listed).isEmpty
  | .last i, k + 1, listed => i == L && ((Region.ready .any ops listed == [i]) && (Region.ready .any ops (listed.setIfInBounds i true)).isEmpty)
  | .take i p, k + 1, listed => (i != L) && (Region.free .any ops listed i && ((Region.ready .any ops listed).contains i && planTB ops L p k (listed.setIfInBounds i true)))
  | .one i p, k + 1, listed => (Region.ready .any ops listed == [i]) && planTB ops L p k (listed.setIfInBounds i true)
  | _, 0, _ => false
def wpPlanT (P : Program) (ops : Array Oper) (Q : Exit → Act → World → Prop) (S : World → Prop) : PlanT → Act → World → Prop
  | .done, a, w => Q .normal a w
  | .last i, a, w => wpOp P ops Q i (fun a' w' => Q .normal a' w') a w
  | .take i p, a, w => ∃ o v, ops[i]? = some o ∧ YieldsIf P ops S o v a ∧ wpPlanT P ops Q S p (a.put o.dst v) w
  | .one i p, a, w => wpOp P ops Q i (fun a' w' => S w' ∧ wpPlanT P ops Q S p a' w') a w
theorem planT_any (hw : waitsB .any ops L = true) (hs : Region.noSelect ops = true) (hQ : ∀ c a d v w, Q (.panic c) (Act.put a d v) w → Q (.panic c) a w) : ∀ (pl : PlanT) (k : Nat) (listed : Array Bool) (a : Act) (w : World), listed.size = ops.size → planTB ops L pl k listed = true → S w → wpPlanT P ops Q S pl a w →
    wpAnyT P .any ops Q S L k listed a w
  | .done, 0, listed, a, w, hz, hB, hS, h => ⟨List.isEmpty_iff.1 hB, h⟩
  | .done, k + 1, listed, a, w, hz, hB, hS, h => by
    have hB : (Region.ready .any ops listed).isEmpty = true := hB
    rw [List.isEmpty_iff] at hB
    exact ⟨fun _ => h, by rw [hB]; simp⟩
  | .last i, 0, listed, a, w, hz, hB, hS, h => by simp [planTB] at hB
  | .take i p, 0, listed, a, w, hz, hB, hS, h => by simp [planTB] at hB
  | .one i p, 0, listed, a, w, hz, hB, hS, h => by simp [planTB] at hB
  | .last i, k + 1, listed, a, w, hz, hB, hS, h => by
    unfold planTB at hB
    rw [Bool.and_eq_true, Bool.and_eq_true] at hB
    have h1 := eq_of_beq hB.2.1
    refine ⟨fun h0 => (by rw [h0] at h1; cases h1), fun j hj => ?_⟩
    rw [h1, List.mem_singleton] at hj
    subst hj
    refine wpOp_mono (fun a' w' h' => ⟨.inl (eq_of_beq hB.1), ?_⟩) h
    have h2 := List.isEmpty_iff.1 hB.2.2
    cases k with
    | zero => exact ⟨h2, h'⟩
    | succ k => exact ⟨fun _ => h', by rw [h2]; simp⟩
  | .take i p, k + 1, listed, a, w, hz, hB, hS, h => by
    unfold planTB at hB
    rw [Bool.and_eq_true, Bool.and_eq_true, Bool.and_eq_true] at hB
    obtain ⟨o, v, ho, hy, h⟩ := h
    exact anyT_first hw (by simpa using hB.1) ho (Region.noSelect_spec hs) (fun c a w => hQ c a _ _ w) k listed a w hz (Region.free_spec ho hB.2.1) (by simpa using hB.2.2.1) hy hS (planT_any hw hs hQ p k _ _ _ (by simp [hz]) hB.2.2.2 hS h)
  | .one i p, k + 1, listed, a, w, hz, hB, hS, h => by
    unfold planTB at hB
    rw [Bool.and_eq_true] at hB
    have h1 := eq_of_beq hB.1
    refine ⟨fun h0 => (by rw [h0] at h1; cases h1), fun j hj => ?_⟩
    rw [h1, List.mem_singleton] at hj
    subst hj
    exact wpOp_mono (fun a' w' h' => ⟨.inr h'.1, planT_any hw hs hQ p k _ _ _ (by simp [hz]) hB.2 h'.1 h'.2⟩) h
theorem wp_region_planT {id : Nat} {a : Act} {w : World} (L : Nat) (pl : PlanT) (S : World → Prop) (hm : P.follows .mixedOrders = true) (hs : Region.noSelect ops = true) (hB : (waitsB .any ops L && planTB ops L pl ops.size (Array.replicate ops.size false)) = true)
    (hQ : ∀ c a d v w, Q (.panic c) (Act.put a d v) w → Q (.panic c) a w) (hS : S w.drew) (h : wpPlanT P ops Q S pl a w.drew) : (Code.region id ops true).wp P Q a w := by
  rw [Bool.and_eq_true] at hB
  exact wp_region_any hm (anyT_any _ _ _ _ (planT_any hB.1 hs hQ pl _ _ a w.drew (by simp) hB.2 hS h))
theorem wpIn_region_planT {l n id : Nat} {a : Act} {w : World} (L : Nat) (pl : PlanT) (S : World → Prop) (hm : P.follows .mixedOrders = true) (hd : noDefer ops = true) (hs : Region.noSelect ops = true) (hq : ¬ LetsOut Q) (hB : (waitsB .any ops L && planTB ops L pl ops.size (Array.replicate ops.size false)) = true)
    (hQ : ∀ c a d v w, Q (.panic c) (Act.put a d v) w → Q (.panic c) a w) (hS : S w.drew) (h : wpPlanT P ops Q S pl a w.drew) : (Code.region id ops true).wpIn (Fence.wide.inRound l) n P Q a w := by
  rw [Bool.and_eq_true] at hB
  exact wpIn_region_any hm (wpAnyIn_of (noDefer_spec hd) hq _ _ _ _ (anyT_any _ _ _ _ (planT_any hB.1 hs hQ pl _ _ a w.drew (by simp) hB.2 hS h)))
theorem planT_quiet {i : Nat} {p : PlanT} {o : Oper} {v : Value} {a : Act} {w : World} (ho : ops.toList[i]? = some o) (hw : Region.wanted o (yielded ops a.tmps) = true) (hy : ∀ w1, S w1 → (execOp a.eval o).run P w1 = .ok (.value v) w1)
    (h : wpPlanT P ops Q S p (a.put o.dst v) w) : wpPlanT P ops Q S (.take i p) a w :=
  ⟨o, v, by rw [← Array.getElem?_toList]; exact ho, .inl ⟨hw, hy⟩, h⟩
theorem planT_skip {i : Nat} {p : PlanT} {o : Oper} {a : Act} {w : World} (ho : ops.toList[i]? = some o) (hw : Region.wanted o (yielded ops a.tmps) = false)
    (h : wpPlanT P ops Q S p (a.put o.dst undef) w) : wpPlanT P ops Q S (.take i p) a w :=
  ⟨o, undef, by rw [← Array.getElem?_toList]; exact ho, .inr ⟨hw, rfl⟩, h⟩
theorem planT_step {i : Nat} {p : PlanT} {o : Oper} {a : Act} {w : World} (ho : ops.toList[i]? = some o)
    (h : ∀ K : Act → World → Prop, Shut (∀ a w, S w → wpPlanT P ops Q S p a w → K a w) → if Region.wanted o (yielded ops a.tmps) = true then Oper.wp P o a w K Q else K (a.put o.dst undef) w) : wpPlanT P ops Q S (.one i p) a w :=
  wpOp_step (by rw [← Array.getElem?_toList]; exact ho) (fun K' hK => h K' (fun a w hS hW => hK a w ⟨hS, hW⟩))
theorem planT_last {i : Nat} {o : Oper} {a : Act} {w : World} (ho : ops.toList[i]? = some o)
    (h : ∀ K : Act → World → Prop, Shut (∀ a w, Q .normal a w → K a w) → if Region.wanted o (yielded ops a.tmps) = true then Oper.wp P o a w K Q else K (a.put o.dst undef) w) : wpPlanT P ops Q S (.last i) a w :=
  wpOp_step (by rw [← Array.getElem?_toList]; exact ho) (fun K' hK => h K' hK)
theorem planT_end {a : Act} {w : World} (h : Q .normal a w) : wpPlanT P ops Q S .done a w := h
end
end Go.Proofs.YtobakeahbgodbaaGreat

namespace Go.Proofs.YtobakeahbgodbaaGreat
open Go.RowKit Go.Shelf
set_option linter.unusedVariables false

/-- only blocks of X, and new ones, differ -/
structure ExtX (X : Nat → Prop) (A B : World) : Prop where
  os : B.os = A.os
  tape : B.tape = A.tape
  output : B.output = A.output
  size : A.heap.size ≤ B.heap.size
  block : ∀ k, k < A.heap.size → ¬ X k → B.heap[k]? = A.heap[k]?
theorem ExtX.refl (X : Nat → Prop) (A : World) : ExtX X A A := ⟨rfl, rfl, rfl, Nat.le_refl _, fun _ _ _ => rfl⟩
theorem ExtX.trans {X : Nat → Prop} {A B C : World} (h : ExtX X A B) (k : ExtX X B C) : ExtX X A C :=
  ⟨k.os.trans h.os, k.tape.trans h.tape, k.output.trans h.output, Nat.le_trans h.size k.size, fun i hi hx => (k.block i (Nat.lt_of_lt_of_le hi h.size) hx).trans (h.block i hi hx)⟩
theorem ExtX.wide {X Y : Nat → Prop} {A B : World} (h : ExtX X A B) (hX : ∀ k, k < A.heap.size → X k → Y k) : ExtX Y A B := ⟨h.os, h.tape, h.output, h.size, fun k hk hy => h.block k hk (fun hx => hy (hX k hk hx))⟩
theorem ExtX.of {X : Nat → Prop} {A B : World} (h : Below A.heap.size A B) : ExtX X A B := ⟨h.os, h.tape, h.output, h.size, fun k hk _ => h.block k hk⟩
theorem ExtX.by_ {X : Nat → Prop} {A B : World} {row : Option Nat} (h : A.grownBy B row) (hr : ∀ r, row = some r → X r) : ExtX X A B := ⟨h.os, h.tape, h.output, h.size, fun k hk hx => h.block k hk (fun e => hx (hr k e.symm))⟩
theorem ExtX.below {X : Nat → Prop} {A B : World} (h : ExtX X A B) {g : Nat} (hg : g ≤ A.heap.size) (hX : ∀ k, X k → g ≤ k) : Below g A B :=
  ⟨h.os, h.tape, h.output, h.size, fun k hk => h.block k (Nat.lt_of_lt_of_le hk hg) (fun hx => by have := hX k hx; omega)⟩
theorem ExtX.drewN {X : Nat → Prop} {A B : World} (h : ExtX X A B) (j : Nat) : ExtX X A (B.drewN j) := ⟨h.os, h.tape, h.output, h.size, h.block⟩

section
variable {F : Fence} {n : Nat} {P : Program}
def OnceK {α : Type} (F : Fence) (n : Nat) (P : Program) (g : Nat) (lb : Array Value) (encs : α → Array Value) (XB : Nat → Prop) (own : α → Option Nat) (Pre : α → World → Prop) (Sn : Prop) (Sp : α → Prop) (w : World) : Prop :=
  ∀ (l : Nat) (J : World → Prop) (Jx : α → World → Prop) (W : World), Below w.heap.size w W → (∀ A B, J A → ExtX (fun k => XB k ∨ W.heap.size ≤ k) A B → J B) → OwnFrom W.heap.size Jx → (∀ x A B, Jx x A → ExtX (fun k => W.heap.size ≤ k ∧ own x ≠ some k) A B → Jx x B) →
    (∀ x W1, J W1 → Pre x W1 → YieldAt F (n - 1) P l (encs x) W1 fun e W' => e = .returned (.bool false) ∧ Jx x W' ∧ ExtX (fun k => k < W.heap.size) W1 W') → J W →
    CallsIn F n P g (#[.func (.yield l) #[] #[]] ++ lb) W fun e W' => (∃ v, e = .returned v) ∧ ((Sn ∧ J W') ∨ ∃ x, Sp x ∧ Jx x W')
/-- how the body's round is left: by a return -/
def oncePost {α : Type} (B : Nat) (Ix : α → World → Prop) (x : α) (W : World) : Exit → Act → World → Prop
  | .ret, _, W' => KeepsFrom B W W' ∧ Ix x W' ∧ ExtX (fun k => k < B) W W'
  | _, _, _ => False

theorem wpIn_rangeFunc_once {α : Type} {g : Operand} {ps : Array Tmp} {assign body : Code} {Q : Exit → Act → World → Prop} {a : Act} {w : World}
    (hro : F.round = none) (h1 : 1 ≤ n) {gf : Nat} {lb : Array Value} (hg : a.eval g = .func (.func gf) #[] lb) (hFg : F.fn gf) (eg : ∀ args w, (callFunc gf args).run P w = .ok (.enter gf args) w)
    {encs : α → Array Value} (hps : ∀ x, (encs x).size = ps.size) {XB : Nat → Prop} (hXB : ∀ k, XB k → k < w.heap.size) {own : α → Option Nat} {Pre : α → World → Prop} {Sn : Prop} {Sp : α → Prop} (hseq : OnceK F (n - 1) P gf lb encs XB own Pre Sn Sp w)
    (I : World → Prop) (hI : ∀ A B, I A → ExtX (fun k => XB k ∨ w.heap.size ≤ k) A B → I B) (h0 : I w) (Ix : α → World → Prop) (hIx : OwnFrom w.heap.size Ix) (hIx2 : ∀ x A B, Ix x A → ExtX (fun k => w.heap.size ≤ k ∧ own x ≠ some k) A B → Ix x B) (hPre : OwnFrom w.heap.size Pre) (a₁ : α → Act)
    (hassign : ∀ (l : Nat) (x : α) (W : World) (K : Act → World → Prop), K (a₁ x) W →
      assign.wpIn (F.inRound l) (n - 1 - 1) P (Exit.then K (fun _ _ _ => False)) { tmps := (ps.zip (encs x)).foldl (fun t (p, v) => t.setIfInBounds p v) a.tmps, defers := [] } W)
    (hbody : ∀ (l : Nat) (x : α) (W : World), I W → Pre x W → body.wpIn (F.inRound l) (n - 1 - 1) P (oncePost w.heap.size Ix x W) (a₁ x) W)
    (hdone : ∀ (D : Nat) (W : World), w.heap.size ≤ D → Sn → I W → W.heap[D]? = some (.deferred (some [])) → Q .normal { a with defers := { target := .collected D, args := #[] } :: a.defers } W)
    (hstop : ∀ (D : Nat) (x : α) (W : World), w.heap.size ≤ D → Sp x → Ix x W → W.heap[D]? = some (.deferred (some [])) → Code.ret.wpIn F n P Q { a with defers := { target := .collected D, args := #[] } :: a.defers } W) :
    (Code.rangeFunc g ps assign body).wpIn F n P Q a w := by
  refine wpIn_rangeFunc (fun fn hfn => ?_)
  rw [hro]
  -- the record of the loop, by its state and the jump that waits
  let rc : LoopState → Option Code → Loop := fun st pe => { state := st, pending := pe, fn, tmps := a.tmps, params := ps, assign, body, defers := w.heap.size }
  let V := (w.alloc (.deferred (some []))).alloc (.loop (rc .ready none))
  have zV : V.heap.size = w.heap.size + 2 := by simp [V]
  have vL : V.heap[w.heap.size + 1]? = some (.loop (rc .ready none)) := by
    have h := World.alloc_heap_new (w.alloc (.deferred (some []))) (.loop (rc .ready none))
    rwa [World.size_alloc] at h
  have vD : V.heap[w.heap.size]? = some (.deferred (some [])) := (Below.heap_alloc _ _ _ (by simp)).trans (World.alloc_heap_new w _)
  have bV : Below w.heap.size w V := ((Below.refl _ w).alloc (Nat.le_refl _) _).alloc (by simp) _
  have exit_ : ∀ (A : World) (o o' : Obj), A.heap[w.heap.size + 1]? = some o → w.heap.size ≤ w.heap.size + 1 → ExtX (fun k => XB k ∨ w.heap.size ≤ k) A (A.putObj (w.heap.size + 1) o') := fun A o o' _ _ =>
    ExtX.by_ (grownBy_putObj' A _ o') (fun r e => by cases e; exact .inr (by omega))
  refine ⟨w.heap.size + 1, [{ target := .collected w.heap.size, args := #[] }], V, { target := .fn (.func gf) lb, args := #[.func (.yield (w.heap.size + 1)) #[] #[]] }, V, gf,
    #[.func (.yield (w.heap.size + 1)) #[] #[]] ++ lb, V, run_enterLoop_outer _ _ _ _ _, ?_, ?_, ?_, fun _ => h1, ?_⟩
  · simp only [resolve, hg]
    simp [go_sem]
  · intro f' hf'
    simp [Target.leads] at hf'
    rw [← hf']; exact hFg
  · simp [invoke, go_sem, eg]
  have hcall := hseq (w.heap.size + 1) (fun W => I W ∧ W.heap[w.heap.size + 1]? = some (.loop (rc .ready none)) ∧ W.heap[w.heap.size]? = some (.deferred (some [])))
    (fun x W => Ix x W ∧ W.heap[w.heap.size + 1]? = some (.loop (rc .done (some .ret))) ∧ W.heap[w.heap.size]? = some (.deferred (some []))) V bV
    (fun A B hA hE => by
      have hl := (Array.getElem?_eq_some_iff.1 hA.2.1).1
      have no : ∀ k, k = w.heap.size ∨ k = w.heap.size + 1 → ¬ (XB k ∨ V.heap.size ≤ k) := fun k hk h => by
        rcases h with h | h
        · have := hXB k h; omega
        · omega
      exact ⟨hI A B hA.1 (hE.wide (fun k _ h => h.imp id (fun h => by omega))), (hE.block _ hl (no _ (.inr rfl))).trans hA.2.1, (hE.block _ (by omega) (no _ (.inl rfl))).trans hA.2.2⟩)
    (fun x A B row hA hgw hr => by
      have hl := (Array.getElem?_eq_some_iff.1 hA.2.1).1
      have hd := (Array.getElem?_eq_some_iff.1 hA.2.2).1
      exact ⟨hIx x A B row hA.1 hgw (fun r e => ⟨by have := (hr r e).1; omega, (hr r e).2⟩), (hgw.block _ hl (fun e => by have := (hr _ e.symm).1; omega)).trans hA.2.1, (hgw.block _ hd (fun e => by have := (hr _ e.symm).1; omega)).trans hA.2.2⟩)
    (fun x A B hA hE => by
      have hl := (Array.getElem?_eq_some_iff.1 hA.2.1).1
      exact ⟨hIx2 x A B hA.1 (hE.wide (fun k _ h => ⟨by have := h.1; omega, h.2⟩)), (hE.block _ hl (fun h => by have := h.1; omega)).trans hA.2.1, (hE.block _ (by omega) (fun h => by have := h.1; omega)).trans hA.2.2⟩)
    ?round ⟨hI w V h0 (ExtX.of bV), vL, vD⟩
  case round =>
    rintro x W ⟨hi, hl, hd⟩ hp
    have hlt := (Array.getElem?_eq_some_iff.1 hl).1
    let W2 := W.putObj (w.heap.size + 1) (.loop { rc .ready none with state := .busy })
    have hl2 : W2.heap[w.heap.size + 1]? = some (.loop { rc .ready none with state := .busy }) := World.putObj_heap_same hlt
    have hd2 : W2.heap[w.heap.size]? = some (.deferred (some [])) := (World.putObj_heap_other (by omega)).trans hd
    refine ⟨fn, _, assign, body, run_yield (P := P) (args := encs x) hl (hps x), roundIn_of_wpIn hfn (hassign _ x W _ ⟨_, run_beginRound hl rfl, ?_⟩)⟩
    refine wpIn_mono (hbody _ x W2 (hI _ _ hi (exit_ _ _ _ hl (by omega))) (hPre.putObj _ hp (by omega) hl rfl)) ?_
    rintro e a3 W3 hpost
    cases e with
    | ret =>
      obtain ⟨hk, hx, hE⟩ := hpost
      have hl3 := hk.same _ _ (by omega) hl2 rfl
      have hd3 := hk.same _ _ (Nat.le_refl _) hd2 rfl
      exact ⟨_, _, run_endRound (P := P) (some .ret) hl3, rfl, ⟨hIx.putObj _ hx (by omega) hl3 rfl, World.putObj_heap_same (Array.getElem?_eq_some_iff.1 hl3).1, (World.putObj_heap_other (by omega)).trans hd3⟩,
        ((ExtX.by_ (grownBy_putObj' W _ _) (fun r e => by cases e; show _ < V.heap.size; omega)).trans (hE.wide (fun k _ h => by show k < V.heap.size; have h : k < w.heap.size := h; omega))).trans (ExtX.by_ (grownBy_putObj' W3 _ _) (fun r e => by cases e; show _ < V.heap.size; omega))⟩
    | normal => exact hpost.elim
    | exit id => exact hpost.elim
    | goto t => exact hpost.elim
    | panic c => exact hpost.elim
    | outgrown => exact hpost.elim
  refine hcall.mono ?_
  rintro e W ⟨⟨v, rfl⟩, (⟨hS, hi, hl, hd⟩ | ⟨x, hS, hx, hl, hd⟩)⟩
  · exact ⟨none, _, run_endLoop (P := P) hl (by simp [rc]), hdone _ _ (Nat.le_refl _) hS (hI _ _ hi (exit_ _ _ _ hl (by omega))) ((World.putObj_heap_other (by omega)).trans hd)⟩
  · exact ⟨some .ret, _, run_endLoop (P := P) hl (by simp [rc]), hstop _ x _ (Nat.le_refl _) hS (hIx.putObj _ hx (by omega) hl rfl) ((World.putObj_heap_other (by omega)).trans hd)⟩
end
end Go.Proofs.YtobakeahbgodbaaGreat

namespace Go.Proofs.YtobakeahbgodbaaGreat
open Go.RowKit Go.Shelf
set_option linter.unusedVariables false

set_option maxRecDepth 100000 in
/-- where the row lies behind an append of one number: where it lay, with its capacity; or in a new block, all else as it was -/
theorem append_at3 {base : Nat} {v v' : Value} {zs : List Int} {q : Int} {w w' : World} {ty : TypeId} (hown : Own w base v zs) (ad : Addr) (hnews : w.cell? ad = some (.int .i64 q)) (hn : zs.length ≤ 1048576)
    (hr : (Builtin.append_ #[23, 23] ty #[v, .slice (some ad) 1 1]).run Tryz.prog w = .ok v' w') :
    (∃ h cap, v = .slice (some ⟨h, 0, none⟩) zs.length cap ∧ v' = .slice (some ⟨h, 0, none⟩) (zs.length + 1) cap) ∨ ((∃ cap, v' = .slice (some ⟨w.heap.size, 0, none⟩) (zs.length + 1) cap) ∧ Below w.heap.size w w') := by
  obtain ⟨i, hi, hz, hsz, hby⟩ := info_parts intInfo
  have hnews' : ∀ (j : Nat) (u : Value), [Value.int .i64 q][j]? = some u → w.cell? (ad.add j) = some u := by
    intro j u hj
    match j, hj with
    | 0, hj =>
      simp at hj; subst hj
      have : ad.add 0 = ad := by unfold Addr.add; cases ad; simp
      rw [this]; exact hnews
  have h1 : ∀ u ∈ [Value.int .i64 q], u.oneCell' = true := by intro u hu; simp at hu; subst hu; rfl
  rcases hown.2 with ⟨rfl, h0⟩ | ⟨g, cap, cur, rfl, hbg, hg, hnc, hcm, hcs, htake⟩
  · right
    have hr2 := run_append_nil (P := Tryz.prog) w 23 ty 3 i (.int .i64 0) Tryz.underlying23 hi hz ad 1 1 [.int .i64 q] (by simp [hsz]) hnews' (by omega) (by omega) (by rw [hby]; omega)
    rw [hr] at hr2
    injection hr2 with e1 e2
    exact ⟨⟨_, by rw [e1, h0]⟩, by rw [e2]; exact ((Below.refl w.heap.size w).drew).alloc (Nat.le_refl _) _⟩
  · by_cases hroom : zs.length + 1 ≤ cap
    · left
      have hr2 := run_append_room (P := Tryz.prog) w 23 ty 3 i Tryz.underlying23 hi g zs.length cap cur hg ad 1 1 [.int .i64 q] (by simp [hsz]) hnews' h1 hroom (by rw [hsz]; simp; rw [hcs]; omega)
      rw [hr] at hr2
      injection hr2 with e1 e2
      exact ⟨g, cap, rfl, e1⟩
    · right
      have hr2 := run_append_grow (P := Tryz.prog) w 23 ty 3 i (.int .i64 0) Tryz.underlying23 hi hz ⟨g, 0, none⟩ zs.length cap (zs.map (Value.int .i64)) (by rw [hsz]; exact hown.1) (World.ownsRow.cells hown (g := g) rfl) ad 1 1 [.int .i64 q] (by simp [hsz]) hnews' (by omega) (by omega) (growslice_fits (by omega) (by rw [hby]; omega))
      rw [hr] at hr2
      injection hr2 with e1 e2
      exact ⟨⟨_, e1⟩, by rw [e2]; exact ((Below.refl w.heap.size w).drew).alloc (Nat.le_refl _) _⟩

theorem step_push3 {ops : Array Oper} {o : Oper} {a : Act} {w : World} {K : Act → World → Prop} {Q : Exit → Act → World → Prop} {E : Prop} (hw : Region.wanted o (yielded ops a.tmps) = true) (s x : Operand)
    (ho : o.op = .call { callee := .builtin .append, args := #[s, x], argTypes := #[23, 23] })
    (B : Nat) (v : Value) (zs : List Int) (q : Int) (ad : Addr) (hs : a.eval s = v) (hx : a.eval x = .slice (some ad) 1 1) (hc : w.cell? ad = some (.int .i64 q)) (hown : Own w B v zs) (hB : B ≤ w.heap.size) (hlen : zs.length ≤ 1048576)
    (hK : ∀ v' w', Own w' B v' (zs ++ [q]) → w.grownBy w' v.ownBlock → ((∃ h cap, v = .slice (some ⟨h, 0, none⟩) zs.length cap ∧ v' = .slice (some ⟨h, 0, none⟩) (zs.length + 1) cap) ∨ ((∃ cap, v' = .slice (some ⟨w.heap.size, 0, none⟩) (zs.length + 1) cap) ∧ Below w.heap.size w w')) → K (a.put o.dst v') w') :
    if Region.wanted o (yielded ops a.tmps) = true then Oper.wp Tryz.prog o a w K Q else E := by
  rw [if_pos hw]
  obtain ⟨i0, hi, hz0, hz1, hz2⟩ := info_parts intInfo
  have hnews' : ∀ (j : Nat) (u : Value), [Value.int .i64 q][j]? = some u → w.cell? (ad.add j) = some u := by
    intro j u hj
    match j, hj with
    | 0, hj =>
      simp at hj; subst hj
      have : ad.add 0 = ad := by unfold Addr.add; cases ad; simp
      rw [this]; exact hc
  obtain ⟨v', w', hr, h2, h3, h4⟩ := run_append_own (P := Tryz.prog) w B 23 o.type 3 i0 (.int .i64 0) 1 8 Tryz.underlying23 hi hz0 hz1 hz2 rfl (by decide) v zs.length (zs.map (Value.int .i64)) hown ad 1 1 [.int .i64 q] (by simp) hnews' (by intro u hu; simp at hu; subst hu; rfl) (by unfold maxLen; omega) (by omega) hB
  have hat := append_at3 hown ad hc hlen hr
  unfold Oper.wp execOp
  simp only [ho, resolve, invoke, builtin, Sem.run_bind, Sem.run_pure, Result.andThen_ok, List.map_toArray, List.map_cons, List.map_nil, hs, hx, hr]
  refine hK v' w' ?_ h3 hat
  unfold Own
  rw [List.map_append, List.length_append]
  exact h2

theorem Own.ext {w w' : World} {B : Nat} {v : Value} {zs : List Int} {X : Nat → Prop} (h : Own w B v zs) (he : ExtX X w w') (hX : ∀ g, v.ownBlock = some g → ¬ X g) : Own w' B v zs := by
  refine ⟨h.1, ?_⟩
  rcases h.2 with hn | ⟨g, cap, cur, hv, hB, hh, rest⟩
  · exact .inl hn
  · exact .inr ⟨g, cap, cur, hv, hB, (he.block g (Array.getElem?_eq_some_iff.1 hh).1 (hX g (by rw [hv]; rfl))).trans hh, rest⟩
theorem Own.lt {w : World} {B : Nat} {v : Value} {zs : List Int} (h : Own w B v zs) : ∀ g, v.ownBlock = some g → B ≤ g ∧ g < w.heap.size := fun g hg => World.ownsRow.lt h g hg
theorem Own.cells {w : World} {B : Nat} {v : Value} {zs : List Int} (h : Own w B v zs) : ∀ g, v.ownBlock = some g → ∃ o : Obj, w.heap[g]? = some o ∧ o.isCells = true := by
  rcases h.2 with ⟨rfl, _⟩ | ⟨g, cap, cur, rfl, hB, hh, rest⟩
  · intro g hg; cases hg
  · intro g' hg'
    injection hg' with hg'
    subst hg'
    exact ⟨_, hh, rfl⟩
theorem IntsB.ext {w w' : World} {b : Nat} {A : Option Addr} {zs : List Int} {X : Nat → Prop} (h : IntsB w b A zs) (he : ExtX X w w') (hX : ∀ k, X k → b ≤ k) : IntsB w' b A zs := fun hn => by
  obtain ⟨ad, e, hl, hc⟩ := h hn
  exact ⟨ad, e, hl, fun j hj => (World.cell?_of_block (he.block _ (World.block_lt_of_cell? _ _ (hc j hj)) (fun hx => by have := hX _ hx; rw [block_add] at this; omega))).trans (hc j hj)⟩
theorem Blk.ext {w w' : World} {B : Nat} {cs : Array Value} {T : TypeId} {X : Nat → Prop} (h : Blk w B cs T) (he : ExtX X w w') (hX : ¬ X B) : Blk w' B cs T := (he.block B h.lt hX).trans h
/-- the row as it was, behind one that went on from it -/
theorem own_back {w w' : World} {B : Nat} {v v' : Value} {zs : List Int} {q : Int} {S : Nat} (h : Own w B v zs) (hat : (∃ h cap, v = .slice (some ⟨h, 0, none⟩) zs.length cap ∧ v' = .slice (some ⟨h, 0, none⟩) (zs.length + 1) cap) ∨ ((∃ cap, v' = .slice (some ⟨S, 0, none⟩) (zs.length + 1) cap) ∧ (∀ g, v.ownBlock = some g → w'.heap[g]? = w.heap[g]?)))
    (h' : Own w' B v' (zs ++ [q])) : Own w' B v zs := by
  rcases hat with ⟨hh, cap, rfl, rfl⟩ | ⟨-, hk⟩
  · have h1 := own_take (k := zs.length) h' (by simp) (by omega) ⟨_, rfl⟩
    rwa [List.take_left] at h1
  · refine ⟨h.1, ?_⟩
    rcases h.2 with hn | ⟨g, cap, cur, hv, hB, hh, rest⟩
    · exact .inl hn
    · exact .inr ⟨g, cap, cur, hv, hB, (hk g (by rw [hv]; rfl)).trans hh, rest⟩
end Go.Proofs.YtobakeahbgodbaaGreat

namespace Go.Proofs.YtobakeahbgodbaaGreat
open Go.RowKit Go.Shelf
set_option linter.unusedVariables false
attribute [local go_sem] Oper.semAt_some

/-- a function that tells which lines lead on: what it answers, what it may turn, what its state R minds not -/
structure LeadsOK (m : Msr) (zs : List Int) (fl : FuncId) (cap : Array Value) (g1 : Nat) (XB : Nat → Prop) (R : (Nat → Prop) → Int → World → Prop) (ld : Int → Nat → Nat → Bool × Int) : Prop where
  ent : ∀ args w, Sem.run Tryz.prog (callFunc fl args) w = .ok (.enter fl args) w
  ext : ∀ G s w w', R G s w → ExtX G w w' → R G s w'
  join : ∀ G G' s w, R G s w → (∀ k, G' k → G k ∨ w.heap.size ≤ k) → R G' s w
  kept : ∀ G s w w' row, R G s w → w.grownBy w' row → (∀ r, row = some r → g1 ≤ r ∧ ∃ o : Obj, w.heap[r]? = some o ∧ o.isCells = false) → R G s w'
  call : ∀ G s p q w, R G s w → (∀ k, G k → g1 ≤ k ∧ k < w.heap.size) → g1 ≤ w.heap.size → p < q → q ≤ zs.length → lineW m zs p q = true →
    Calls Tryz.prog fl (#[.int .i64 p, .int .i64 q] ++ cap) w fun e w' => e = .returned (.bool (ld s p q).1) ∧ R G (ld s p q).2 w' ∧ ExtX XB w w'
/-- what a breaking's list is handed over as -/
structure LinesV where
  A : Option Addr
  ls : List Int
  c : Nat
def LinesV.val (x : LinesV) : Value := .slice x.A x.ls.length x.c
def LinesV.pre (g : Nat) (x : LinesV) (w : World) : Prop := Own w g x.val x.ls
/-- how goOn ends -/
def GoPost (m : Msr) (zs : List Int) (ld : Int → Nat → Nat → Bool × Int) (f : Nat) (ls : List Int) (p : Nat) (s : Int) (g1 : Nat) (v : Value) (G XB : Nat → Prop) (R : (Nat → Prop) → Int → World → Prop) (J : World → Prop) (Jx : LinesV → World → Prop) (w : World) (e : Ending) (w' : World) : Prop :=
  (∃ s', goE m zs ld f ls p s = (none, s') ∧ e = .returned (.bool true) ∧ Own w' g1 v ls ∧ R G s' w' ∧ J w' ∧ ExtX (fun k => XB k ∨ v.ownBlock = some k) w w') ∨
  (∃ x s', goE m zs ld f ls p s = (some x.ls, s') ∧ e = .returned (.bool false) ∧ Jx x w' ∧ (∀ k, x.val.ownBlock = some k → w.heap.size ≤ k) ∧ ExtX (fun k => k < g1 ∨ v.ownBlock = some k) w w')
/-- the boxes of one call -/
structure GoBx (b0 b1 b2 b3 b4 b5 : Nat) (sc : Array Value) (v : Value) (p : Nat) (fv yv : Value) (V : World) : Prop where
  st : Blk V b0 sc 109
  li : Blk V b1 #[v] 23
  fr : Blk V b2 #[.int .i64 p] 3
  fl : Blk V b3 #[fv] 111
  yi : Blk V b4 #[yv] 88
  re : Blk V b5 #[.bool false] 4
section
variable {b0 b1 b2 b3 b4 b5 : Nat} {sc : Array Value} {v : Value} {p : Nat} {fv yv : Value} {V V' : World}
theorem GoBx.ext {X : Nat → Prop} (h : GoBx b0 b1 b2 b3 b4 b5 sc v p fv yv V) (he : ExtX X V V') (hX : ¬ X b0 ∧ ¬ X b1 ∧ ¬ X b2 ∧ ¬ X b3 ∧ ¬ X b4 ∧ ¬ X b5) : GoBx b0 b1 b2 b3 b4 b5 sc v p fv yv V' :=
  ⟨h.st.ext he hX.1, h.li.ext he hX.2.1, h.fr.ext he hX.2.2.1, h.fl.ext he hX.2.2.2.1, h.yi.ext he hX.2.2.2.2.1, h.re.ext he hX.2.2.2.2.2⟩
theorem GoBx.kept {row : Option Nat} (h : GoBx b0 b1 b2 b3 b4 b5 sc v p fv yv V) (hg : V.grownBy V' row) (hr : ∀ r, row = some r → ∃ o : Obj, V.heap[r]? = some o ∧ o.isCells = false) : GoBx b0 b1 b2 b3 b4 b5 sc v p fv yv V' :=
  ⟨h.st.kept hg hr, h.li.kept hg hr, h.fr.kept hg hr, h.fl.kept hg hr, h.yi.kept hg hr, h.re.kept hg hr⟩
end
theorem ExtX.newSet {X : Nat → Prop} {A B : World} (h : ExtX X A B) {b o : Nat} (hb : A.heap.size ≤ b) (u : Value) : ExtX X A (B.setCell ⟨b, o, none⟩ u) :=
  ⟨h.os, h.tape, h.output, by rw [setCell_size]; exact h.size, fun k hk hx => (setCell_blk B b o u k (by omega)).trans (h.block k hk hx)⟩
theorem ExtX.comp {X Y : Nat → Prop} {A B C : World} (h : ExtX X A B) (k : ExtX Y B C) (hY : ∀ i, i < A.heap.size → Y i → X i) : ExtX X A C :=
  ⟨k.os.trans h.os, k.tape.trans h.tape, k.output.trans h.output, Nat.le_trans h.size k.size, fun i hi hx => (k.block i (Nat.lt_of_lt_of_le hi h.size) (fun hy => hx (hY i hi hy))).trans (h.block i hi hx)⟩
theorem ExtX.newBy {X : Nat → Prop} {A B C : World} {row : Option Nat} (h : ExtX X A B) (hg : B.grownBy C row) (hr : ∀ r, row = some r → A.heap.size ≤ r) : ExtX X A C :=
  h.comp (Y := fun k => row = some k) (ExtX.by_ hg (fun r e => e)) (fun i hi e => by have := hr i e; omega)
theorem KpE.ext {X : Nat → Prop} {b g : Nat} {A B : World} (h : ExtX X A B) (hX : ∀ k, X k → g ≤ k ∧ k < b) : KpE b g A B :=
  ⟨h.size, fun p hp hb => World.cell?_of_block (h.block p.block hb (fun hx => by have := hX _ hx; omega))⟩
theorem KeepsFrom.ext {X : Nat → Prop} {b : Nat} {A B : World} (h : ExtX X A B) (hX : ∀ k, X k → k < b) : KeepsFrom b A B :=
  ⟨h.size, fun k o hB hk _ => (h.block k (Array.getElem?_eq_some_iff.1 hk).1 (fun hx => by have := hX k hx; omega)).trans hk⟩
/-- what lies in memory between two rounds -/
structure GoS (b0 b1 b2 b3 b4 b5 : Nat) (sc : Array Value) (v : Value) (p : Nat) (fv yv : Value) (g g1 : Nat) (ls : List Int) (XB G : Nat → Prop) (R : (Nat → Prop) → Int → World → Prop) (J : World → Prop) (A : Option Addr) (zs : List Int) (w : World) (s : Int) (V : World) : Prop where
  bx : GoBx b0 b1 b2 b3 b4 b5 sc v p fv yv V
  ow : Own V g1 v ls
  rr : R G s V
  jj : J V
  ii : IntsB V g A zs
  ee : ExtX (fun k => XB k ∨ v.ownBlock = some k) w V
section
variable {b0 b1 b2 b3 b4 b5 : Nat} {W t k : Int} {ad : Addr} {n c : Nat} {v : Value} {p : Nat} {fv yv : Value} {V V' : World}
theorem GoBx.cells (h : GoBx b0 b1 b2 b3 b4 b5 #[.int .i64 W, .int .i64 t, .int .i64 k, .slice (some ad) n c] v p fv yv V) :
    (V.cell? ⟨b0, 0, none⟩ = some (.int .i64 W) ∧ V.cell? ⟨b0, 1, none⟩ = some (.int .i64 t) ∧ V.cell? ⟨b0, 2, none⟩ = some (.int .i64 k) ∧ V.cell? ⟨b0, 3, none⟩ = some (.slice (some ad) n c)) ∧ V.cell? ⟨b1, 0, none⟩ = some v ∧ V.cell? ⟨b2, 0, none⟩ = some (.int .i64 p) ∧ V.cell? ⟨b3, 0, none⟩ = some fv ∧ V.cell? ⟨b4, 0, none⟩ = some yv :=
  ⟨h.st.st, h.li.one.1, h.fr.one.1, h.fl.one.1, h.yi.one.1⟩
variable {sc : Array Value} {g g1 : Nat} {ls : List Int} {XB G : Nat → Prop} {R : (Nat → Prop) → Int → World → Prop} {J : World → Prop} {A : Option Addr} {zs : List Int} {w : World} {s s' : Int} {m : Msr} {fl : FuncId} {cap : Array Value} {ld : Int → Nat → Nat → Bool × Int}
theorem GoS.kept {row : Option Nat} (h : GoS b0 b1 b2 b3 b4 b5 sc v p fv yv g g1 ls XB G R J A zs w s V) (hL : LeadsOK m zs fl cap g1 XB R ld) (hJ : ∀ A B, J A → ExtX (fun k => XB k ∨ g1 ≤ k) A B → J B) (hg1 : g ≤ g1) (hg : V.grownBy V' row)
    (hr : ∀ r, row = some r → (g1 ≤ r ∧ w.heap.size ≤ r) ∧ ∃ o : Obj, V.heap[r]? = some o ∧ o.isCells = false) : GoS b0 b1 b2 b3 b4 b5 sc v p fv yv g g1 ls XB G R J A zs w s V' :=
  ⟨h.bx.kept hg (fun q e => (hr q e).2), h.ow.keptC hg (fun q e => (hr q e).2), hL.kept _ _ _ _ _ h.rr hg (fun q e => ⟨(hr q e).1.1, (hr q e).2⟩), hJ _ _ h.jj (ExtX.by_ hg (fun q e => .inr (hr q e).1.1)), h.ii.ext (X := fun k => g1 ≤ k) (ExtX.by_ hg (fun q e => (hr q e).1.1)) (fun k hk => by omega), h.ee.newBy hg (fun q e => (hr q e).1.2)⟩
theorem GoS.lead (h : GoS b0 b1 b2 b3 b4 b5 sc v p fv yv g g1 ls XB G R J A zs w s V) (hb : GoBx b0 b1 b2 b3 b4 b5 sc v p fv yv V') (hR : R G s' V') (hJ : ∀ A B, J A → ExtX (fun k => XB k ∨ g1 ≤ k) A B → J B) (he : ExtX XB V V') (hX : ∀ k, XB k → g ≤ k ∧ k < g1) : GoS b0 b1 b2 b3 b4 b5 sc v p fv yv g g1 ls XB G R J A zs w s' V' :=
  ⟨hb, h.ow.ext he (fun k hk hx => by have := (hX k hx).2; have := (h.ow.lt k hk).1; omega), hR, hJ _ _ h.jj (he.wide (fun k _ hk => .inl hk)), h.ii.ext he (fun k hk => (hX k hk).1), h.ee.comp he (fun i _ hi => .inl hi)⟩
end

/-- the body of the loop over a function in a function's code -/
def rfBody : Code → Option Code
  | .rangeFunc _ _ _ b => some b
  | .seq a b => match rfBody a with
    | some c => some c
    | none => rfBody b
  | .block _ c => rfBody c
  | .scope c => rfBody c
  | .loop c => rfBody c
  | .cond _ a b => match rfBody a with
    | some c => some c
    | none => rfBody b
  | _ => none
noncomputable def goBody : Code := ((Tryz.f159.body.bind rfBody).getD .skip)
end Go.Proofs.YtobakeahbgodbaaGreat

namespace Go.Proofs.YtobakeahbgodbaaGreat
open Go.RowKit Go.Shelf
set_option linter.unusedVariables false
attribute [local go_sem] Oper.semAt_some

set_option maxRecDepth 100000 in
set_option maxHeartbeats 6400000 in
theorem go_true (W t k : Int) (ad : Addr) (n c : Nat) (zs : List Int) (g g1 : Nat) (hg1 : g ≤ g1) (XB : Nat → Prop) (fl : FuncId) (cap : Array Value) (R : (Nat → Prop) → Int → World → Prop) (ld : Int → Nat → Nat → Bool × Int) (l0 : Nat) (J : World → Prop) (Jx : LinesV → World → Prop)
    (hl1 : 1 ≤ n) (hl2 : n ≤ 40) (Hn : Hid (zs.length = n)) (HXB : Hid (∀ k, XB k → g ≤ k ∧ k < g1)) (HJ : Hid (∀ A B, J A → ExtX (fun k => XB k ∨ g1 ≤ k) A B → J B)) (HJx2 : Hid (∀ x A B, Jx x A → ExtX (fun k => g1 ≤ k ∧ x.val.ownBlock ≠ some k) A B → Jx x B)) (HL : Hid (LeadsOK ⟨W, t, k⟩ zs fl cap g1 XB R ld)) (hent : ∀ args w, Sem.run Tryz.prog (callFunc fl args) w = .ok (.enter fl args) w)
    (f p : Nat) (A : Option Addr) (cl : Nat) (ls : List Int) (l : Nat) (s : Int) (w : World) (hf : n < f + 1 + p) (hlp : l ≤ p) (hgw : g1 ≤ w.heap.size) (IH : Hid (∀ (p : Nat) (A : Option Addr) (cl : Nat) (ls : List Int) (l : Nat) (G : Nat → Prop) (s : Int) (w : World), ls.length = l → n < f + p → p ≤ n → l ≤ p → Own w g1 (.slice A l cl) ls → (∀ h, (Value.slice A l cl).ownBlock = some h → G h) → (∀ k, G k → g1 ≤ k ∧ k < w.heap.size) → R G s w → IntsB w g (some ad) zs → g1 ≤ w.heap.size → J w →
      Calls Tryz.prog 159 #[stV W t k ad n c, .slice A l cl, .int .i64 p, .func (.func fl) #[] cap, .func (.yield l0) #[] #[]] w (GoPost ⟨W, t, k⟩ zs ld f ls p s g1 (.slice A l cl) G XB R J Jx w))) (HLL : Hid (ls.length = l)) (HO : Hid (Own w g1 (.slice A l cl) ls))
    (b0 b1 b2 b3 b4 b5 : Nat) (hb0 : w.heap.size = b0) (hb1 : b0 + 1 = b1) (hb2 : b1 + 1 = b2) (hb3 : b2 + 1 = b3) (hb4 : b3 + 1 = b4) (hb5 : b4 + 1 = b5) (hgb : g1 ≤ b0) (HXb : Hid (∀ k, b0 ≤ k → ¬ XB k)) (Hvb : Hid (∀ k, b0 ≤ k → (Value.slice A l cl).ownBlock ≠ some k)) (hpn : p < n) (wg : World) (zG : wg.heap.size = b5 + 3) (G2 : Nat → Prop) (HG2 : Hid (∀ k, G2 k → g1 ≤ k ∧ k < b5 + 1)) (HvG2 : Hid (∀ h, (Value.slice A l cl).ownBlock = some h → G2 h)) (hmx : Tryz.prog.follows .mixedOrders = true)
    (lr : Nat) (pre : List (EndT ⟨W, t, k⟩ zs p n)) (V : World) (s2 : Int) (q : Nat) (hq1 : p < q) (hq2 : q ≤ n) (hq3 : lineW ⟨W, t, k⟩ zs p q = true)
    (HS : Hid (GoS b0 b1 b2 b3 b4 b5 #[.int .i64 W, .int .i64 t, .int .i64 k, .slice (some ad) n c] (.slice A l cl) p (.func (.func fl) #[] cap) (.func (.yield l0) #[] #[]) g g1 ls XB G2 R J (some ad) zs w s2 V)) (HTr : Hid (tryE ld (goE ⟨W, t, k⟩ zs ld f) ls p (pre.map (fun (x : EndT ⟨W, t, k⟩ zs p n) => x.1)) s = (none, s2))) (hb5V : b5 < V.heap.size)
    (HC : Hid (Calls Tryz.prog fl (#[.int .i64 p, .int .i64 q] ++ cap) V.drew fun e w' => e = .returned (.bool (ld s2 p q).1) ∧ R G2 (ld s2 p q).2 w' ∧ ExtX XB V.drew w')) (hqp : IntKind.i64.wrap ((q : Int) - (p : Int)) = (q : Int) - (p : Int)) (s3 : Int) (HLD : Hid (ld s2 p q = (true, s3))) :
    goBody.wpIn (Fence.wide.inRound lr) (9 - 1 - 1) Tryz.prog (ownPostG wg.heap.size (KpE (b5 + 1) g) (fun pre V => ∃ s2, tryE ld (goE ⟨W, t, k⟩ zs ld f) ls p (pre.map (fun (x : EndT ⟨W, t, k⟩ zs p n) => x.1)) s = (none, s2) ∧ GoS b0 b1 b2 b3 b4 b5 #[.int .i64 W, .int .i64 t, .int .i64 k, .slice (some ad) n c] (.slice A l cl) p (.func (.func fl) #[] cap) (.func (.yield l0) #[] #[]) g g1 ls XB G2 R J (some ad) zs w s2 V) (fun cx pre V => cx = .ret ∧ ∃ x s2, tryE ld (goE ⟨W, t, k⟩ zs ld f) ls p (pre.map (fun (x : EndT ⟨W, t, k⟩ zs p n) => x.1)) s = (some x.ls, s2) ∧ Jx x V ∧ Blk V b5 #[.bool false] 4 ∧ (∀ k, x.val.ownBlock = some k → b5 < k) ∧ ExtX (fun k => k < g1 ∨ (Value.slice A l cl).ownBlock = some k) w V) (pre ++ [⟨q, hq1, hq2, hq3⟩]) V) { tmps := #[(stV W t k ad n c : Value), .slice A l cl, .int .i64 p, .func (.func fl) #[] cap, .func (.yield l0) #[] #[], .pointer (some ⟨b0, 0, none⟩), .pointer (some ⟨b1, 0, none⟩), .pointer (some ⟨b2, 0, none⟩), .pointer (some ⟨b3, 0, none⟩), .pointer (some ⟨b4, 0, none⟩), .pointer (some ⟨b5, 0, none⟩), .int .i64 q, .int .i64 p, .pointer (some ⟨b0, 3, none⟩), .slice (some ad) n c, .int .i64 n, .bool false, undef, undef, undef, undef, .agg #[.int .i64 W, .int .i64 t, .int .i64 k, .slice (some ad) n c], .int .i64 p, .func (.func 160) #[] #[.pointer (some ⟨b5 + 2, 0, none⟩), .pointer (some ⟨b5 + 1, 0, none⟩)], .int .i64 q, undef, undef, undef, undef, undef, undef, undef, undef, undef, undef, undef, undef, undef, undef, undef, undef, undef, undef], defers := [] } V := by
  conv => arg 4; whnf
  gi_wp2
  refine wpIn_region_plan (.take 0 (.take 1 (.take 2 (.one 3 (.take 4 (.take 5 (.take 6 (.take 7 (.take 8 (.take 9 (.take 12 (.take 13 (.take 14 (.one 10 (.one 11 (.one 15 (.take 16 (.take 17 .done)))))))))))))))))) (fun w' => (w'.cell? ⟨b0, 0, none⟩ = some (.int .i64 W) ∧ w'.cell? ⟨b0, 1, none⟩ = some (.int .i64 t) ∧ w'.cell? ⟨b0, 2, none⟩ = some (.int .i64 k) ∧ w'.cell? ⟨b0, 3, none⟩ = some (.slice (some ad) n c)) ∧ w'.cell? ⟨b1, 0, none⟩ = some (.slice A l cl) ∧ w'.cell? ⟨b2, 0, none⟩ = some (.int .i64 p) ∧ w'.cell? ⟨b3, 0, none⟩ = some (.func (.func fl) #[] cap) ∧ w'.cell? ⟨b4, 0, none⟩ = some (.func (.yield l0) #[] #[])) hmx (by kernel_rfl) (by kernel_rfl) (fun hlo => (by obtain ⟨_, _, hlo⟩ := hlo; exact hlo)) (by kernel_rfl) (fun _ _ _ _ _ h => h) HS.out.bx.cells ?_
  iterate 3 (refine plan_quiet rfl (by rfl) (v := ?_) ?_ ?_; rotate_left; (intro w1 hSw; (try dsimp only at hSw); go_simp; try (with_reducible rfl)); (try simp only [Act.put, List.setIfInBounds_toArray, List.set_cons_zero, List.set_cons_succ]))
  refine plan_step rfl (fun K hK => ?_)
  go_wp2_with ((with_reducible refine HC.out.mono ?_); rintro e v1 ⟨rfl, hR1, hE1⟩; rw [HLD.out] at hR1 ⊢; have HE1 := Lib.hid (show ExtX XB V v1 from ⟨hE1.os, hE1.tape, hE1.output, hE1.size, hE1.block⟩); have HR1 := Lib.hid hR1; have BX1 := Lib.hid (HS.out.bx.ext HE1.out ⟨HXb.out _ (by omega), HXb.out _ (by omega), HXb.out _ (by omega), HXb.out _ (by omega), HXb.out _ (by omega), HXb.out _ (by omega)⟩); clear hE1 hR1)
  refine hK.out _ _ BX1.out.cells ?_
  clear hK K
  (refine plan_quiet rfl (by rfl) (v := ?_) ?_ ?_; rotate_left; (intro w1 hSw; (try dsimp only at hSw); go_simp; try (with_reducible rfl)); (try simp only [Act.put, List.setIfInBounds_toArray, List.set_cons_zero, List.set_cons_succ]))
  iterate 8 (refine plan_quiet rfl (by rfl) (v := ?_) ?_ ?_; rotate_left; (intro w1 hSw; (try dsimp only at hSw); go_simp; try (with_reducible rfl)); (try simp only [Act.put, List.setIfInBounds_toArray, List.set_cons_zero, List.set_cons_succ]))
  have zb1 := BX1.out.re.lt
  refine plan_step rfl (fun K hK => ?_)
  go_simp
  obtain ⟨v2, hv2⟩ : ∃ v, v1.alloc (.cells #[.int .i64 ((q : Int) - (p : Int))] 3) = v := ⟨_, rfl⟩
  have HB2 : Hid (Below v1.heap.size v1 v2) := by show Below _ _ _; rw [← hv2]; exact below_new _ _
  have hz2 : v2.heap.size = v1.heap.size + 1 := by rw [← hv2]; simp
  have BX2 := Lib.hid (BX1.out.ext (X := fun _ => False) (ExtX.of HB2.out) ⟨id, id, id, id, id, id⟩)
  have hc2 : Hid (v2.cell? ⟨v1.heap.size, 0, none⟩ = some (.int .i64 ((q : Int) - (p : Int)))) := by show _ = _; rw [← hv2]; exact (Blk.new _ _ _).one.1
  rw [hv2]
  refine hK.out _ _ BX2.out.cells ?_
  clear hK K hv2
  have HOw1 : Own v1 g1 (.slice A l cl) ls := HS.out.ow.ext HE1.out (fun h hh hx => by have h1 := (HXB.out h hx).2; have h2 := (HS.out.ow.lt h hh).1; omega)
  have HOw2 := Lib.hid (HOw1.below HB2.out)
  have HZ2 := Lib.hid hz2
  have hg12 : g1 ≤ v2.heap.size := by omega
  have hls20 : ls.length ≤ 1048576 := by rw [HLL.out]; omega
  clear HOw1 hz2
  refine plan_step rfl (fun K hK => ?_)
  refine step_push3 (by rfl) (.tmp 31) (.tmp 35) rfl g1 (.slice A l cl) ls ((q : Int) - (p : Int)) ⟨v1.heap.size, 0, none⟩ rfl rfl hc2.out HOw2.out hg12 hls20 ?_
  intro v' v4 hO4 hg4 hat
  obtain ⟨A4, cl4, rfl⟩ : ∃ A4 cl4, v' = .slice A4 (l + 1) cl4 := by rcases hat with ⟨h, cap', -, rfl⟩ | ⟨⟨cap', rfl⟩, -⟩ <;> exact ⟨_, _, by rw [HLL.out]⟩
  have HAT := Lib.hid hat; have HO4 := Lib.hid hO4; have HG4 := Lib.hid hg4
  have HV4 : Hid (∀ h, (Value.slice A4 (l + 1) cl4).ownBlock = some h → (Value.slice A l cl).ownBlock = some h ∨ h = v2.heap.size) := by
    intro h hh
    rcases HAT.out with ⟨h', cap', e1, e2⟩ | ⟨⟨cap', e2⟩, -⟩
    · left; rw [e1]; rw [e2] at hh; exact hh
    · right; rw [e2] at hh; injection hh with hh; exact hh.symm
  have BX4 := Lib.hid (BX2.out.ext (X := fun k => (Value.slice A l cl).ownBlock = some k) (ExtX.by_ HG4.out (fun r e => e)) ⟨Hvb.out _ (by omega), Hvb.out _ (by omega), Hvb.out _ (by omega), Hvb.out _ (by omega), Hvb.out _ (by omega), Hvb.out _ (by omega)⟩)
  simp only [Act.put, List.setIfInBounds_toArray, List.set_cons_zero, List.set_cons_succ]
  refine hK.out _ _ BX4.out.cells ?_
  clear hK K hO4 hg4 hat
  -- what the call of goOn asks
  obtain ⟨G3, hG3⟩ : ∃ G3 : Nat → Prop, G3 = fun k => G2 k ∨ (Value.slice A4 (l + 1) cl4).ownBlock = some k := ⟨_, rfl⟩
  have hz4 : v2.heap.size ≤ v4.heap.size := HG4.out.size
  have HG3 : Hid (∀ k, G3 k → g1 ≤ k ∧ k < v4.heap.size) := by
    intro k hk
    rw [hG3] at hk
    rcases hk with hk | hk
    · have h1 := HG2.out k hk; have := HZ2.out; omega
    · exact HO4.out.lt k hk
  have HvG3 : Hid (∀ h, (Value.slice A4 (l + 1) cl4).ownBlock = some h → G3 h) := fun h hh => by rw [hG3]; exact .inr hh
  have HR4 : Hid (R G3 s3 v4) := by
    have r2 := HL.out.ext _ _ _ _ HR1.out (ExtX.of (X := G2) HB2.out)
    have r3 := HL.out.join _ (fun k => G2 k ∨ v2.heap.size ≤ k) _ _ r2 (fun k hk => hk)
    have r4 := HL.out.ext _ _ _ _ r3 (ExtX.by_ HG4.out (fun r e => .inl (HvG2.out r e)))
    refine HL.out.join _ _ _ _ r4 (fun k hk => ?_)
    rw [hG3] at hk
    rcases hk with hk | hk
    · exact .inl (.inl hk)
    · rcases HV4.out k hk with h | h
      · exact .inl (.inl (HvG2.out k h))
      · exact .inl (.inr (by omega))
  have HE4 : Hid (ExtX (fun k => XB k ∨ (Value.slice A l cl).ownBlock = some k) V v4) := ((HE1.out.wide (fun k _ h => .inl h)).trans (ExtX.of HB2.out)).trans (ExtX.by_ HG4.out (fun r e => .inr e))
  have HII4 : Hid (IntsB v4 g (some ad) zs) := HS.out.ii.ext HE4.out (fun k hk => by rcases hk with hk | hk; exact (HXB.out k hk).1; exact Nat.le_trans hg1 (HO.out.lt k hk).1)
  have HJ4 : Hid (J v4) := HJ.out _ _ HS.out.jj (HE4.out.wide (fun k _ hk => by rcases hk with hk | hk; exact .inl hk; exact .inr (HO.out.lt k hk).1))
  have HGG3 : Hid (∀ k, G2 k → G3 k) := fun k hk => by rw [hG3]; exact .inl hk
  have HCG := Lib.hid (IH.out q A4 cl4 (ls ++ [(q : Int) - (p : Int)]) (l + 1) G3 s3 v4 (by rw [List.length_append, HLL.out]; rfl) (by omega) hq2 (by omega) HO4.out HvG3.out HG3.out HR4.out HII4.out (by have := HZ2.out; omega) HJ4.out)
  clear hG3 hc2
  refine plan_step rfl (fun K hK => ?_)
  go_simp
  refine HCG.out.mono ?_
  rintro e v5 (⟨s4, hgo, rfl, hO5, hR5, hJ5, hE5⟩ | ⟨x, s4, hgo, rfl, hx5, hown5, hE5⟩) <;> dsimp only
  · have BX5 := Lib.hid (BX4.out.ext hE5 (by
      have hno : ∀ b, b0 ≤ b → b ≤ b5 → ¬ (XB b ∨ (Value.slice A4 (l + 1) cl4).ownBlock = some b) := fun b h1 h2 h => by
        rcases h with h | h
        · exact HXb.out b h1 h
        · rcases HV4.out b h with h | h
          · exact Hvb.out b h1 h
          · have := HZ2.out; omega
      exact ⟨hno _ (by omega) (by omega), hno _ (by omega) (by omega), hno _ (by omega) (by omega), hno _ (by omega) (by omega), hno _ (by omega) (by omega), hno _ (by omega) (by omega)⟩))
    have HO5 := Lib.hid hO5; have HR5 := Lib.hid hR5; have HJ5 := Lib.hid hJ5; have HGO := Lib.hid hgo
    have HEA : Hid (ExtX (fun k => XB k ∨ (Value.slice A l cl).ownBlock = some k) V v5) := HE4.out.comp hE5 (fun i hi h => by
      rcases h with h | h
      · exact .inl h
      · rcases HV4.out i h with h | h
        · exact .inr h
        · have h1 := HE1.out.size; have h2 := HZ2.out; omega)
    have HOB : Hid (Own v5 g1 (.slice A l cl) ls) := by
      refine own_back (S := v2.heap.size) (q := (q : Int) - (p : Int)) HOw2.out ?_ HO5.out
      rcases HAT.out with h | ⟨⟨cap', h1⟩, h2⟩
      · exact .inl h
      · refine .inr ⟨⟨cap', h1⟩, fun b hb => ?_⟩
        have hbl := HOw2.out.lt b hb
        refine (hE5.block b (by omega) (fun h => ?_)).trans (h2.block b hbl.2)
        rcases h with h | h
        · have := (HXB.out b h).2; omega
        · rw [h1] at h; injection h with h; have h : v2.heap.size = b := h; omega
    clear hO5 hR5 hJ5 hE5 hgo
    refine hK.out _ _ BX5.out.cells ?_
    clear hK K
    (refine plan_quiet rfl (by rfl) (v := ?_) ?_ ?_; rotate_left; (intro w1 hSw; (try dsimp only at hSw); go_simp; try (with_reducible rfl)); (try simp only [Act.put, List.setIfInBounds_toArray, List.set_cons_zero, List.set_cons_succ]))
    (refine plan_quiet rfl (by rfl) (v := ?_) ?_ ?_; rotate_left; (intro w1 hSw; (try dsimp only at hSw); go_simp; try (with_reducible rfl)); (try simp only [Act.put, List.setIfInBounds_toArray, List.set_cons_zero, List.set_cons_succ]))
    refine plan_end ?_
    gi_wp2
    refine ⟨KeepsFrom.ext HEA.out (fun k hk => by rcases hk with hk | hk; exact Nat.lt_of_lt_of_le (HXB.out k hk).2 (by omega); have := (HO.out.lt k hk).2; omega), KpE.ext HEA.out (fun k hk => by rcases hk with hk | hk; have := HXB.out k hk; omega; have := HO.out.lt k hk; omega), s4, ?_, ⟨BX5.out, HOB.out, HL.out.join _ _ _ _ HR5.out (fun k hk => .inl (HGG3.out k hk)), HJ5.out, HS.out.ii.ext HEA.out (fun k hk => by rcases hk with hk | hk; exact (HXB.out k hk).1; exact Nat.le_trans hg1 (HO.out.lt k hk).1), HS.out.ee.trans HEA.out⟩⟩
    rw [List.map_append]
    show tryE _ _ _ _ ((pre.map (fun (x : EndT ⟨W, t, k⟩ zs p n) => x.1)) ++ [q]) _ = _
    rw [tryE_none HTr.out, tryE_dead HLD.out HGO.out]
    rfl
  · have BX5 := Lib.hid (BX4.out.ext hE5 (by
      have hno : ∀ b, b0 ≤ b → b ≤ b5 → ¬ (b < g1 ∨ (Value.slice A4 (l + 1) cl4).ownBlock = some b) := fun b h1 h2 h => by
        rcases h with h | h
        · omega
        · rcases HV4.out b h with h | h
          · exact Hvb.out b h1 h
          · have := HZ2.out; omega
      exact ⟨hno _ (by omega) (by omega), hno _ (by omega) (by omega), hno _ (by omega) (by omega), hno _ (by omega) (by omega), hno _ (by omega) (by omega), hno _ (by omega) (by omega)⟩))
    have HX5 := Lib.hid hx5; have HGO := Lib.hid hgo; have HOw5 := Lib.hid hown5
    have HEA : Hid (ExtX (fun k => k < g1 ∨ (Value.slice A l cl).ownBlock = some k) V v5) := (HE4.out.wide (fun k _ h => by rcases h with h | h; exact .inl (HXB.out k h).2; exact .inr h)).comp hE5 (fun i hi h => by
      rcases h with h | h
      · exact .inl h
      · rcases HV4.out i h with h | h
        · exact .inr h
        · have h1 := HE1.out.size; have h2 := HZ2.out; omega)
    clear hx5 hgo hown5 hE5
    refine hK.out _ _ BX5.out.cells ?_
    clear hK K
    (refine plan_quiet rfl (by rfl) (v := ?_) ?_ ?_; rotate_left; (intro w1 hSw; (try dsimp only at hSw); go_simp; try (with_reducible rfl)); (try simp only [Act.put, List.setIfInBounds_toArray, List.set_cons_zero, List.set_cons_succ]))
    (refine plan_quiet rfl (by rfl) (v := ?_) ?_ ?_; rotate_left; (intro w1 hSw; (try dsimp only at hSw); go_simp; try (with_reducible rfl)); (try simp only [Act.put, List.setIfInBounds_toArray, List.set_cons_zero, List.set_cons_succ]))
    refine plan_end ?_
    obtain ⟨r0, r1⟩ := BX5.out.re.one
    gi_wp2
    have hb54 : b5 < v4.heap.size := by have := HZ2.out; omega
    refine ⟨(KeepsFrom.ext HEA.out (fun k hk => by rcases hk with hk | hk; omega; have := (HO.out.lt k hk).2; omega)).trans (KeepsFrom.of_grownBy (row := some b5) (grown_cell v5 ⟨b5, 0, none⟩ _) (fun j e => by cases e; omega)), rfl, x, s4, ?_, HJx2.out _ _ _ HX5.out (ExtX.by_ (grown_cell v5 ⟨b5, 0, none⟩ _) (fun r e => by cases e; exact ⟨by show g1 ≤ b5; omega, fun h => by have := HOw5.out b5 h; omega⟩)), BX5.out.re.set1 _, fun k h => by have := HOw5.out k h; omega, ?_⟩
    · rw [List.map_append]
      show tryE _ _ _ _ ((pre.map (fun (x : EndT ⟨W, t, k⟩ zs p n) => x.1)) ++ [q]) _ = _
      rw [tryE_none HTr.out, tryE_found HLD.out HGO.out]
    · exact ((HS.out.ee.wide (fun k _ h => by rcases h with h | h; exact .inl (HXB.out k h).2; exact .inr h)).trans HEA.out).newSet (by omega) _
end Go.Proofs.YtobakeahbgodbaaGreat

namespace Go.Proofs.YtobakeahbgodbaaGreat
open Go.RowKit Go.Shelf
set_option linter.unusedVariables false
attribute [local go_sem] Oper.semAt_some

set_option maxRecDepth 100000 in
set_option maxHeartbeats 6400000 in
theorem go_false (W t k : Int) (ad : Addr) (n c : Nat) (zs : List Int) (g g1 : Nat) (hg1 : g ≤ g1) (XB : Nat → Prop) (fl : FuncId) (cap : Array Value) (R : (Nat → Prop) → Int → World → Prop) (ld : Int → Nat → Nat → Bool × Int) (l0 : Nat) (J : World → Prop) (Jx : LinesV → World → Prop)
    (hl1 : 1 ≤ n) (hl2 : n ≤ 40) (Hn : Hid (zs.length = n)) (HXB : Hid (∀ k, XB k → g ≤ k ∧ k < g1)) (HJ : Hid (∀ A B, J A → ExtX (fun k => XB k ∨ g1 ≤ k) A B → J B)) (HJx2 : Hid (∀ x A B, Jx x A → ExtX (fun k => g1 ≤ k ∧ x.val.ownBlock ≠ some k) A B → Jx x B)) (HL : Hid (LeadsOK ⟨W, t, k⟩ zs fl cap g1 XB R ld)) (hent : ∀ args w, Sem.run Tryz.prog (callFunc fl args) w = .ok (.enter fl args) w)
    (f p : Nat) (A : Option Addr) (cl : Nat) (ls : List Int) (l : Nat) (s : Int) (w : World) (hf : n < f + 1 + p) (hlp : l ≤ p) (hgw : g1 ≤ w.heap.size) (IH : Hid (∀ (p : Nat) (A : Option Addr) (cl : Nat) (ls : List Int) (l : Nat) (G : Nat → Prop) (s : Int) (w : World), ls.length = l → n < f + p → p ≤ n → l ≤ p → Own w g1 (.slice A l cl) ls → (∀ h, (Value.slice A l cl).ownBlock = some h → G h) → (∀ k, G k → g1 ≤ k ∧ k < w.heap.size) → R G s w → IntsB w g (some ad) zs → g1 ≤ w.heap.size → J w →
      Calls Tryz.prog 159 #[stV W t k ad n c, .slice A l cl, .int .i64 p, .func (.func fl) #[] cap, .func (.yield l0) #[] #[]] w (GoPost ⟨W, t, k⟩ zs ld f ls p s g1 (.slice A l cl) G XB R J Jx w))) (HLL : Hid (ls.length = l)) (HO : Hid (Own w g1 (.slice A l cl) ls))
    (b0 b1 b2 b3 b4 b5 : Nat) (hb0 : w.heap.size = b0) (hb1 : b0 + 1 = b1) (hb2 : b1 + 1 = b2) (hb3 : b2 + 1 = b3) (hb4 : b3 + 1 = b4) (hb5 : b4 + 1 = b5) (hgb : g1 ≤ b0) (HXb : Hid (∀ k, b0 ≤ k → ¬ XB k)) (Hvb : Hid (∀ k, b0 ≤ k → (Value.slice A l cl).ownBlock ≠ some k)) (hpn : p < n) (wg : World) (zG : wg.heap.size = b5 + 3) (G2 : Nat → Prop) (HG2 : Hid (∀ k, G2 k → g1 ≤ k ∧ k < b5 + 1)) (HvG2 : Hid (∀ h, (Value.slice A l cl).ownBlock = some h → G2 h)) (hmx : Tryz.prog.follows .mixedOrders = true)
    (lr : Nat) (pre : List (EndT ⟨W, t, k⟩ zs p n)) (V : World) (s2 : Int) (q : Nat) (hq1 : p < q) (hq2 : q ≤ n) (hq3 : lineW ⟨W, t, k⟩ zs p q = true)
    (HS : Hid (GoS b0 b1 b2 b3 b4 b5 #[.int .i64 W, .int .i64 t, .int .i64 k, .slice (some ad) n c] (.slice A l cl) p (.func (.func fl) #[] cap) (.func (.yield l0) #[] #[]) g g1 ls XB G2 R J (some ad) zs w s2 V)) (HTr : Hid (tryE ld (goE ⟨W, t, k⟩ zs ld f) ls p (pre.map (fun (x : EndT ⟨W, t, k⟩ zs p n) => x.1)) s = (none, s2))) (hb5V : b5 < V.heap.size)
    (HC : Hid (Calls Tryz.prog fl (#[.int .i64 p, .int .i64 q] ++ cap) V.drew fun e w' => e = .returned (.bool (ld s2 p q).1) ∧ R G2 (ld s2 p q).2 w' ∧ ExtX XB V.drew w')) (hqp : IntKind.i64.wrap ((q : Int) - (p : Int)) = (q : Int) - (p : Int)) (s3 : Int) (HLD : Hid (ld s2 p q = (false, s3))) :
    goBody.wpIn (Fence.wide.inRound lr) (9 - 1 - 1) Tryz.prog (ownPostG wg.heap.size (KpE (b5 + 1) g) (fun pre V => ∃ s2, tryE ld (goE ⟨W, t, k⟩ zs ld f) ls p (pre.map (fun (x : EndT ⟨W, t, k⟩ zs p n) => x.1)) s = (none, s2) ∧ GoS b0 b1 b2 b3 b4 b5 #[.int .i64 W, .int .i64 t, .int .i64 k, .slice (some ad) n c] (.slice A l cl) p (.func (.func fl) #[] cap) (.func (.yield l0) #[] #[]) g g1 ls XB G2 R J (some ad) zs w s2 V) (fun cx pre V => cx = .ret ∧ ∃ x s2, tryE ld (goE ⟨W, t, k⟩ zs ld f) ls p (pre.map (fun (x : EndT ⟨W, t, k⟩ zs p n) => x.1)) s = (some x.ls, s2) ∧ Jx x V ∧ Blk V b5 #[.bool false] 4 ∧ (∀ k, x.val.ownBlock = some k → b5 < k) ∧ ExtX (fun k => k < g1 ∨ (Value.slice A l cl).ownBlock = some k) w V) (pre ++ [⟨q, hq1, hq2, hq3⟩]) V) { tmps := #[(stV W t k ad n c : Value), .slice A l cl, .int .i64 p, .func (.func fl) #[] cap, .func (.yield l0) #[] #[], .pointer (some ⟨b0, 0, none⟩), .pointer (some ⟨b1, 0, none⟩), .pointer (some ⟨b2, 0, none⟩), .pointer (some ⟨b3, 0, none⟩), .pointer (some ⟨b4, 0, none⟩), .pointer (some ⟨b5, 0, none⟩), .int .i64 q, .int .i64 p, .pointer (some ⟨b0, 3, none⟩), .slice (some ad) n c, .int .i64 n, .bool false, undef, undef, undef, undef, .agg #[.int .i64 W, .int .i64 t, .int .i64 k, .slice (some ad) n c], .int .i64 p, .func (.func 160) #[] #[.pointer (some ⟨b5 + 2, 0, none⟩), .pointer (some ⟨b5 + 1, 0, none⟩)], .int .i64 q, undef, undef, undef, undef, undef, undef, undef, undef, undef, undef, undef, undef, undef, undef, undef, undef, undef, undef], defers := [] } V := by
  conv => arg 4; whnf
  gi_wp2
  refine wpIn_region_plan (.take 0 (.take 1 (.take 2 (.one 3 (.take 4 (.take 5 (.take 6 (.take 7 (.take 8 (.take 9 (.take 10 (.take 11 (.take 12 (.take 13 (.take 14 (.take 15 (.take 16 (.take 17 .done)))))))))))))))))) (fun w' => (w'.cell? ⟨b0, 0, none⟩ = some (.int .i64 W) ∧ w'.cell? ⟨b0, 1, none⟩ = some (.int .i64 t) ∧ w'.cell? ⟨b0, 2, none⟩ = some (.int .i64 k) ∧ w'.cell? ⟨b0, 3, none⟩ = some (.slice (some ad) n c)) ∧ w'.cell? ⟨b1, 0, none⟩ = some (.slice A l cl) ∧ w'.cell? ⟨b2, 0, none⟩ = some (.int .i64 p) ∧ w'.cell? ⟨b3, 0, none⟩ = some (.func (.func fl) #[] cap) ∧ w'.cell? ⟨b4, 0, none⟩ = some (.func (.yield l0) #[] #[])) hmx (by kernel_rfl) (by kernel_rfl) (fun hlo => (by obtain ⟨_, _, hlo⟩ := hlo; exact hlo)) (by kernel_rfl) (fun _ _ _ _ _ h => h) HS.out.bx.cells ?_
  iterate 3 (refine plan_quiet rfl (by rfl) (v := ?_) ?_ ?_; rotate_left; (intro w1 hSw; (try dsimp only at hSw); go_simp; try (with_reducible rfl)); (try simp only [Act.put, List.setIfInBounds_toArray, List.set_cons_zero, List.set_cons_succ]))
  refine plan_step rfl (fun K hK => ?_)
  go_wp2_with ((with_reducible refine HC.out.mono ?_); rintro e v1 ⟨rfl, hR1, hE1⟩; rw [HLD.out] at hR1 ⊢; have HE1 := Lib.hid (show ExtX XB V v1 from ⟨hE1.os, hE1.tape, hE1.output, hE1.size, hE1.block⟩); have HR1 := Lib.hid hR1; have BX1 := Lib.hid (HS.out.bx.ext HE1.out ⟨HXb.out _ (by omega), HXb.out _ (by omega), HXb.out _ (by omega), HXb.out _ (by omega), HXb.out _ (by omega), HXb.out _ (by omega)⟩); clear hE1 hR1)
  refine hK.out _ _ BX1.out.cells ?_
  clear hK K
  (refine plan_quiet rfl (by rfl) (v := ?_) ?_ ?_; rotate_left; (intro w1 hSw; (try dsimp only at hSw); go_simp; try (with_reducible rfl)); (try simp only [Act.put, List.setIfInBounds_toArray, List.set_cons_zero, List.set_cons_succ]))
  iterate 12 (refine plan_skip rfl (by rfl) ?_; (try simp only [Act.put, List.setIfInBounds_toArray, List.set_cons_zero, List.set_cons_succ]))
  (refine plan_quiet rfl (by rfl) (v := ?_) ?_ ?_; rotate_left; (intro w1 hSw; (try dsimp only at hSw); go_simp; try (with_reducible rfl)); (try simp only [Act.put, List.setIfInBounds_toArray, List.set_cons_zero, List.set_cons_succ]))
  refine plan_end ?_
  gi_wp2
  refine ⟨KeepsFrom.ext HE1.out (fun k hk => by have := (HXB.out k hk).2; omega), KpE.ext HE1.out (fun k hk => by have := HXB.out k hk; omega), s3, ?_, HS.out.lead BX1.out HR1.out HJ.out HE1.out (fun k hk => HXB.out k hk)⟩
  rw [List.map_append]
  show tryE _ _ _ _ ((pre.map (fun (x : EndT ⟨W, t, k⟩ zs p n) => x.1)) ++ [q]) _ = _
  rw [tryE_none HTr.out, tryE_skip HLD.out]
  rfl
end Go.Proofs.YtobakeahbgodbaaGreat

namespace Go.Proofs.YtobakeahbgodbaaGreat
open Go.RowKit Go.Shelf
set_option linter.unusedVariables false
attribute [local go_sem] Oper.semAt_some

set_option maxRecDepth 100000 in
set_option maxHeartbeats 6400000 in
theorem goOn_any (W t k : Int) (ad : Addr) (n c : Nat) (zs : List Int) (hn : zs.length = n) (hc : n ≤ c) (hcm : c ≤ maxLen) (hm : msrB ⟨W, t, k⟩ = true) (ht : textB zs = true) (g g1 : Nat) (hg1 : g ≤ g1) (XB : Nat → Prop) (hXB : ∀ k, XB k → g ≤ k ∧ k < g1)
    (fl : FuncId) (cap : Array Value) (R : (Nat → Prop) → Int → World → Prop) (ld : Int → Nat → Nat → Bool × Int) (hL : LeadsOK ⟨W, t, k⟩ zs fl cap g1 XB R ld)
    (l0 : Nat) (J : World → Prop) (Jx : LinesV → World → Prop) (hJ : ∀ A B, J A → ExtX (fun k => XB k ∨ g1 ≤ k) A B → J B) (hJx : OwnFrom g1 Jx) (hJx2 : ∀ x A B, Jx x A → ExtX (fun k => g1 ≤ k ∧ x.val.ownBlock ≠ some k) A B → Jx x B)
    (hY : ∀ m x w, J w → x.pre g1 w → YieldAt Fence.wide m Tryz.prog l0 #[x.val] w fun e w' => e = .returned (.bool false) ∧ Jx x w' ∧ ExtX (fun k => k < g1) w w') :
    ∀ (f p : Nat) (A : Option Addr) (cl : Nat) (ls : List Int) (l : Nat) (G : Nat → Prop) (s : Int) (w : World), ls.length = l → n < f + p → p ≤ n → l ≤ p → Own w g1 (.slice A l cl) ls → (∀ h, (Value.slice A l cl).ownBlock = some h → G h) → (∀ k, G k → g1 ≤ k ∧ k < w.heap.size) → R G s w → IntsB w g (some ad) zs → g1 ≤ w.heap.size → J w →
      Calls Tryz.prog 159 #[stV W t k ad n c, .slice A l cl, .int .i64 p, .func (.func fl) #[] cap, .func (.yield l0) #[] #[]] w (GoPost ⟨W, t, k⟩ zs ld f ls p s g1 (.slice A l cl) G XB R J Jx w) := by
  obtain ⟨hz, hl1, hl2⟩ := textB_parts ht
  rw [hn] at hl1 hl2
  have Hn := Lib.hid hn; have Hc := Lib.hid hc; have Hcm := Lib.hid hcm; have HM := Lib.hid hm; have HT := Lib.hid ht
  have HXB := Lib.hid hXB; have HJ := Lib.hid hJ; have HJx := Lib.hid hJx; have HJx2 := Lib.hid hJx2; have HY := Lib.hid hY; have HL := Lib.hid hL
  have hent := hL.ent
  clear hn hc hcm hm ht hXB hJ hJx hJx2 hY hL hz
  intro f
  induction f with
  | zero => intro p A cl ls l G s w _ h1 h2; omega
  | succ f ih =>
    intro p A cl ls l G s w hll hf hp hlp hO hvG hG hR hI hgw hJw
    have IH := Lib.hid ih
    have HLL := Lib.hid hll; have HO := Lib.hid hO; have HvG := Lib.hid hvG; have HG := Lib.hid hG; have HR := Lib.hid hR; have HI := Lib.hid hI; have HJw := Lib.hid hJw
    obtain ⟨b0, hb0⟩ : ∃ b, w.heap.size = b := ⟨_, rfl⟩
    obtain ⟨b1, hb1⟩ : ∃ b, b0 + 1 = b := ⟨_, rfl⟩
    obtain ⟨b2, hb2⟩ : ∃ b, b1 + 1 = b := ⟨_, rfl⟩
    obtain ⟨b3, hb3⟩ : ∃ b, b2 + 1 = b := ⟨_, rfl⟩
    obtain ⟨b4, hb4⟩ : ∃ b, b3 + 1 = b := ⟨_, rfl⟩
    obtain ⟨b5, hb5⟩ : ∃ b, b4 + 1 = b := ⟨_, rfl⟩
    obtain ⟨x1, hx1⟩ : ∃ v, w.alloc (.cells #[.int .i64 W, .int .i64 t, .int .i64 k, .slice (some ad) n c] 109) = v := ⟨_, rfl⟩
    have ex1 : Below b0 w x1 := by rw [← hx1, ← hb0]; exact below_new _ _
    have zx1 : x1.heap.size = b0 + 1 := by rw [← hx1, ← hb0]; simp
    have kx1 : Blk x1 b0 #[.int .i64 W, .int .i64 t, .int .i64 k, .slice (some ad) n c] 109 := by rw [← hx1, ← hb0]; exact Blk.new _ _ _
    rw [hb1] at zx1
    obtain ⟨x2, hx2⟩ : ∃ v, x1.alloc (.cells #[.slice A l cl] 23) = v := ⟨_, rfl⟩
    have ex2 : Below b1 x1 x2 := by rw [← hx2, ← zx1]; exact below_new _ _
    have zx2 : x2.heap.size = b1 + 1 := by rw [← hx2, ← zx1]; simp
    have kx2 : Blk x2 b1 #[.slice A l cl] 23 := by rw [← hx2, ← zx1]; exact Blk.new _ _ _
    rw [hb2] at zx2
    obtain ⟨x3, hx3⟩ : ∃ v, x2.alloc (.cells #[.int .i64 p] 3) = v := ⟨_, rfl⟩
    have ex3 : Below b2 x2 x3 := by rw [← hx3, ← zx2]; exact below_new _ _
    have zx3 : x3.heap.size = b2 + 1 := by rw [← hx3, ← zx2]; simp
    have kx3 : Blk x3 b2 #[.int .i64 p] 3 := by rw [← hx3, ← zx2]; exact Blk.new _ _ _
    rw [hb3] at zx3
    obtain ⟨x4, hx4⟩ : ∃ v, x3.alloc (.cells #[.func (.func fl) #[] cap] 111) = v := ⟨_, rfl⟩
    have ex4 : Below b3 x3 x4 := by rw [← hx4, ← zx3]; exact below_new _ _
    have zx4 : x4.heap.size = b3 + 1 := by rw [← hx4, ← zx3]; simp
    have kx4 : Blk x4 b3 #[.func (.func fl) #[] cap] 111 := by rw [← hx4, ← zx3]; exact Blk.new _ _ _
    rw [hb4] at zx4
    obtain ⟨x5, hx5⟩ : ∃ v, x4.alloc (.cells #[.func (.yield l0) #[] #[]] 88) = v := ⟨_, rfl⟩
    have ex5 : Below b4 x4 x5 := by rw [← hx5, ← zx4]; exact below_new _ _
    have zx5 : x5.heap.size = b4 + 1 := by rw [← hx5, ← zx4]; simp
    have kx5 : Blk x5 b4 #[.func (.yield l0) #[] #[]] 88 := by rw [← hx5, ← zx4]; exact Blk.new _ _ _
    rw [hb5] at zx5
    obtain ⟨x6, hx6⟩ : ∃ v, x5.alloc (.cells #[.bool false] 4) = v := ⟨_, rfl⟩
    have ex6 : Below b5 x5 x6 := by rw [← hx6, ← zx5]; exact below_new _ _
    have zx6 : x6.heap.size = b5 + 1 := by rw [← hx6, ← zx5]; simp
    have kx6 : Blk x6 b5 #[.bool false] 4 := by rw [← hx6, ← zx5]; exact Blk.new _ _ _
    have BX : GoBx b0 b1 b2 b3 b4 b5 #[.int .i64 W, .int .i64 t, .int .i64 k, .slice (some ad) n c] (.slice A l cl) p (.func (.func fl) #[] cap) (.func (.yield l0) #[] #[]) x6 :=
      ⟨((((kx1.below ex2 (by omega)).below ex3 (by omega)).below ex4 (by omega)).below ex5 (by omega)).below ex6 (by omega), (((kx2.below ex3 (by omega)).below ex4 (by omega)).below ex5 (by omega)).below ex6 (by omega), ((kx3.below ex4 (by omega)).below ex5 (by omega)).below ex6 (by omega), (kx4.below ex5 (by omega)).below ex6 (by omega), kx5.below ex6 (by omega), kx6⟩
    have B6 : Below b0 w x6 := (((((ex1.trans (ex2.mono (by omega))).trans (ex3.mono (by omega))).trans (ex4.mono (by omega))).trans (ex5.mono (by omega))).trans (ex6.mono (by omega)))
    have HBX := Lib.hid BX; have HB6 := Lib.hid B6
    have hgb : g1 ≤ b0 := by omega
    have hs6 : x6.heap.size = b5 + 1 := zx6
    have HO6 := Lib.hid (hO.below (by rw [hb0]; exact B6))
    have HE6 : Hid (∀ X, ExtX X w x6) := fun X => ExtX.of (by rw [hb0]; exact B6)
    have HR6 := Lib.hid (HL.out.ext _ _ _ _ hR (HE6.out G))
    have HI6 : Hid (IntsB x6 g (some ad) zs) := by show IntsB _ _ _ _; exact hI.keep (by omega) B6
    have HJ6 := Lib.hid (HJ.out _ _ hJw (HE6.out _))
    have HXb : Hid (∀ k, b0 ≤ k → ¬ XB k) := fun k hk h => by have := (HXB.out k h).2; omega
    have Hvb : Hid (∀ k, b0 ≤ k → (Value.slice A l cl).ownBlock ≠ some k) := fun k hk h => by have := (HO.out.lt k h).2; omega
    obtain ⟨s0, s1, s2, s3⟩ := BX.st.st
    obtain ⟨f0, f1⟩ := BX.fr.one
    obtain ⟨l0c, l1c⟩ := BX.li.one
    obtain ⟨y0, y1⟩ := BX.yi.one
    obtain ⟨r0, r1⟩ := BX.re.one
    clear ih hll hO hvG hG hR hI hJw BX B6 ex1 ex2 ex3 ex4 ex5 ex6 kx1 kx2 kx3 kx4 kx5 kx6 zx6
    refine (callsIn_wide (n := 9)).1 ?_
    refine callsIn_of_wp_marks Tryz.func159 rfl trivial ?_ rfl
    simp only [Tryz.ntmps159, List.size_toArray, List.length_cons, List.length_nil, Nat.reduceAdd, Nat.reduceSub, Array.replicate_succ, Array.replicate_zero, List.push_toArray, List.append_toArray, List.nil_append, List.cons_append]
    by_cases hpn : p < n
    · have hpp : ((p : Int) == (n : Int)) = false := by rw [beq_eq_false_iff_ne]; omega
      gi_wp2_with ((try refine ⟨trivial, ?_⟩); gi_at_call 153; refine (callsIn_wide.2 (ends_any W t k ad n c p _)).mono ?_; rintro e wg ⟨rfl, hwg⟩)
      try rw [← hwg]
      clear zx1 zx2 zx3 zx4 zx5 hx1 hx2 hx3 hx4 hx5 hx6 s0 s1 s2 s3 f0 f1 r0 r1 y0 y1 l0c l1c hpp
      have bG : Below (b5 + 1) x6 wg := by rw [hwg, ← hs6]; exact ((Below.refl _ _).alloc (Nat.le_refl _) _).alloc (by simp) _
      have zG : wg.heap.size = b5 + 3 := by rw [hwg]; simp [hs6]
      have sG : St wg (b5 + 1) W t k (.slice (some ad) n c) := by rw [hwg, ← hs6]; exact St.hold (below_new _ _) (by simp) (Blk.new x6 _ _).st
      have qG : wg.cell? ⟨b5 + 2, 0, none⟩ = some (.int .i64 p) := by rw [hwg]; have h1 := (Blk.new (x6.alloc (.cells #[.int .i64 W, .int .i64 t, .int .i64 k, .slice (some ad) n c] 109)) #[.int .i64 p] 3).one.1; rwa [World.size_alloc, hs6] at h1
      have HEG : Hid (∀ X, ExtX X x6 wg) := fun X => ExtX.of (by rw [hs6]; exact bG)
      obtain ⟨G2, hG2⟩ : ∃ G2 : Nat → Prop, G2 = fun k => G k ∨ (b0 ≤ k ∧ k ≤ b5) := ⟨_, rfl⟩
      have HG2 : Hid (∀ k, G2 k → g1 ≤ k ∧ k < b5 + 1) := by
        intro k hk
        rw [hG2] at hk
        rcases hk with hk | hk
        · have := HG.out k hk; omega
        · omega
      have HvG2 : Hid (∀ h, (Value.slice A l cl).ownBlock = some h → G2 h) := fun h hh => by rw [hG2]; exact .inl (HvG.out h hh)
      have HGG2 : Hid (∀ k, G k → G2 k) := fun k hk => by rw [hG2]; exact .inl hk
      have Hb5G : Hid (G2 b5) := by show G2 b5; rw [hG2]; exact .inr (by omega)
      have HRG : Hid (R G2 s wg) := by
        refine HL.out.ext _ _ _ _ (HL.out.join _ _ _ _ HR.out (fun k hk => ?_)) ((HE6.out G2).trans (HEG.out G2))
        rw [hG2] at hk
        rcases hk with hk | hk
        · exact .inl hk
        · exact .inr (by omega)
      have SG : Hid (GoS b0 b1 b2 b3 b4 b5 #[.int .i64 W, .int .i64 t, .int .i64 k, .slice (some ad) n c] (.slice A l cl) p (.func (.func fl) #[] cap) (.func (.yield l0) #[] #[]) g g1 ls XB G2 R J (some ad) zs w s wg) :=
        ⟨HBX.out.ext (X := fun _ => False) (HEG.out _) ⟨id, id, id, id, id, id⟩, HO6.out.ext (HEG.out (fun _ => False)) (fun _ _ => id), HRG.out, HJ.out _ _ HJ6.out (HEG.out _), HI6.out.ext (HEG.out (fun _ => False)) (fun _ h => h.elim), (HE6.out _).trans (HEG.out _)⟩
      have IG : IntsB wg g (some ad) zs := SG.out.ii
      have HZG := Lib.hid zG
      have hmx : Tryz.prog.follows .mixedOrders = true := by kernel_rfl
      clear hwg bG HR HvG
      refine wpIn_rangeFunc_ownG (α := EndT ⟨W, t, k⟩ zs p n) rfl (by omega) (gf := 160) (lb := #[.pointer (some ⟨b5 + 2, 0, none⟩), .pointer (some ⟨b5 + 1, 0, none⟩)]) rfl trivial (enters_of Tryz.func160 (by kernel_rfl) rfl)
        (ends_stops 8 (by omega) W t k ad n c p (b5 + 1) g zs wg Hn.out Hc.out Hcm.out HM.out HT.out hpn IG sG qG (by omega)) (fun h k => h.trans k) (fun V l o o' hl h _ _ => KpE.putObj o' (by omega) (by omega) hl h) (Below.refl _ _) (fun _ => rfl)
        (fun pre V => ∃ s2, tryE ld (goE ⟨W, t, k⟩ zs ld f) ls p (pre.map (fun (x : EndT ⟨W, t, k⟩ zs p n) => x.1)) s = (none, s2) ∧ GoS b0 b1 b2 b3 b4 b5 #[.int .i64 W, .int .i64 t, .int .i64 k, .slice (some ad) n c] (.slice A l cl) p (.func (.func fl) #[] cap) (.func (.yield l0) #[] #[]) g g1 ls XB G2 R J (some ad) zs w s2 V)
        (fun cx pre V => cx = .ret ∧ ∃ x s2, tryE ld (goE ⟨W, t, k⟩ zs ld f) ls p (pre.map (fun (x : EndT ⟨W, t, k⟩ zs p n) => x.1)) s = (some x.ls, s2) ∧ Jx x V ∧ Blk V b5 #[.bool false] 4 ∧ (∀ k, x.val.ownBlock = some k → b5 < k) ∧ ExtX (fun k => k < g1 ∨ (Value.slice A l cl).ownBlock = some k) w V)
        (fun pre V V' r h hg hr => by
          obtain ⟨s2, h1, h2⟩ := h
          exact ⟨s2, h1, h2.kept HL.out HJ.out hg1 hg (fun q e => ⟨by have h3 := (hr q e).1; omega, (hr q e).2⟩)⟩)
        (fun cx pre V V' r h hg hr => by
          obtain ⟨h0, x, s2, h1, h2, h3, h4, h5⟩ := h
          exact ⟨h0, x, s2, h1, HJx.out x V V' r h2 hg (fun q e => ⟨by have h3 := (hr q e).1; omega, (hr q e).2⟩), h3.kept hg (fun q e => (hr q e).2), h4, h5.newBy hg (fun q e => by have h3 := (hr q e).1; omega)⟩)
        ⟨s, rfl, SG.out⟩ (fun x => { tmps := #[(stV W t k ad n c : Value), .slice A l cl, .int .i64 p, .func (.func fl) #[] cap, .func (.yield l0) #[] #[], .pointer (some ⟨b0, 0, none⟩), .pointer (some ⟨b1, 0, none⟩), .pointer (some ⟨b2, 0, none⟩), .pointer (some ⟨b3, 0, none⟩), .pointer (some ⟨b4, 0, none⟩), .pointer (some ⟨b5, 0, none⟩), .int .i64 x.1, .int .i64 p, .pointer (some ⟨b0, 3, none⟩), .slice (some ad) n c, .int .i64 n, .bool false, undef, undef, undef, undef, .agg #[.int .i64 W, .int .i64 t, .int .i64 k, .slice (some ad) n c], .int .i64 p, .func (.func 160) #[] #[.pointer (some ⟨b5 + 2, 0, none⟩), .pointer (some ⟨b5 + 1, 0, none⟩)], .int .i64 x.1, undef, undef, undef, undef, undef, undef, undef, undef, undef, undef, undef, undef, undef, undef, undef, undef, undef, undef], defers := [] }) ?assign ?body ?done ?stop
      case assign =>
        intro l x V K hK
        gi_wp2
        exact hK
      case body =>
        rintro lr pre e V ⟨s2, hT, hS⟩ hlen
        obtain ⟨q, hq1, hq2, hq3⟩ := e
        have HS := Lib.hid hS; have HTr := Lib.hid hT
        have hb5V := hS.bx.re.lt
        have HC := Lib.hid (HL.out.call G2 s2 p q V.drew (HL.out.ext _ _ _ _ hS.rr ((ExtX.refl G2 V).drewN 1)) (fun k hk => ⟨(HG2.out k hk).1, by have := (HG2.out k hk).2; show k < V.heap.size; omega⟩) (by show g1 ≤ V.heap.size; omega) hq1 (by rw [Hn.out]; exact hq2) hq3)
        have hqp : IntKind.i64.wrap ((q : Int) - (p : Int)) = (q : Int) - (p : Int) := by rw [IntKind.wrap_i64]; omega
        clear hT hS
        rcases hld : ld s2 p q with ⟨bq, s3⟩
        have HLD := Lib.hid hld
        clear hld
        cases bq
        · exact go_false W t k ad n c zs g g1 hg1 XB fl cap R ld l0 J Jx hl1 hl2 Hn HXB HJ HJx2 HL hent f p A cl ls l s w hf hlp hgw IH HLL HO b0 b1 b2 b3 b4 b5 hb0 hb1 hb2 hb3 hb4 hb5 hgb HXb Hvb hpn wg zG G2 HG2 HvG2 hmx lr pre V s2 q hq1 hq2 hq3 HS HTr hb5V HC hqp s3 HLD
        · exact go_true W t k ad n c zs g g1 hg1 XB fl cap R ld l0 J Jx hl1 hl2 Hn HXB HJ HJx2 HL hent f p A cl ls l s w hf hlp hgw IH HLL HO b0 b1 b2 b3 b4 b5 hb0 hb1 hb2 hb3 hb4 hb5 hgb HXb Hvb hpn wg zG G2 HG2 HvG2 hmx lr pre V s2 q hq1 hq2 hq3 HS HTr hb5V HC hqp s3 HLD
      case done =>
        rintro D xs V hD hSx ⟨s2, hT, hS⟩ hK
        rw [hSx] at hT
        have HS := Lib.hid hS; have HT2 := Lib.hid hT; have HK := Lib.hid hK
        obtain ⟨r0, r1⟩ := hS.bx.re.one
        clear hS hT hK hSx
        gi_wp2
        have hD5 : D ≠ b5 := by omega
        have hc5 : ((V.setCell ⟨b5, 0, none⟩ (.bool true)).putObj D (.deferred none)).cell? ⟨b5, 0, none⟩ = some (.bool true) := (World.cell?_of_block (World.putObj_heap_other (Ne.symm hD5))).trans (HS.out.bx.re.set1 (.bool true)).one.1
        have hDk : (V.setCell ⟨b5, 0, none⟩ (.bool true)).heap[D]? = some (.deferred (some [])) := (setCell_blk V b5 0 _ D hD5).trans HK.out
        refine ⟨by simp, .inl ⟨_, _, rfl, run_takeDeferred hDk, ?_⟩⟩
        refine ⟨(.bool true : Value), by simp [results, Tryz.results159, go_sem, hc5], .inl ⟨s2, ?_, rfl, ?_, ?_, ?_, ?_⟩⟩
        · rw [goE_at (by rw [Hn.out]; exact hpn), Hn.out]; exact HT2.out
        all_goals
          have hE : ∀ X : Nat → Prop, (X b5) → X D → ExtX X V ((V.setCell ⟨b5, 0, none⟩ (.bool true)).putObj D (.deferred none)) := fun X h1 h2 => (ExtX.by_ (grown_cell V ⟨b5, 0, none⟩ (.bool true)) (fun r e => by cases e; exact h1)).trans (ExtX.by_ (grownBy_putObj' _ D _) (fun r e => by cases e; exact h2))
        · exact HS.out.ow.ext (hE (fun k => b5 ≤ k) (Nat.le_refl _) (by omega)) (fun h hh hx => by have := Hvb.out h (by omega); exact this hh)
        · refine HL.out.join _ _ _ _ (HL.out.kept _ _ _ _ _ (HL.out.ext _ _ _ _ HS.out.rr (ExtX.by_ (grown_cell V ⟨b5, 0, none⟩ (.bool true)) (fun r e => by cases e; exact Hb5G.out))) (grownBy_putObj' _ D _) (fun r e => by cases e; exact ⟨by omega, _, hDk, rfl⟩)) (fun k hk => .inl (HGG2.out k hk))
        · exact HJ.out _ _ HS.out.jj (hE _ (.inr (by omega)) (.inr (by omega)))
        · exact HS.out.ee.comp (hE (fun k => b5 ≤ k) (Nat.le_refl _) (by omega)) (fun i hi h => by omega)
      case stop =>
        rintro D cx pre V hD ⟨q', hq', hpre⟩ ⟨rfl, x, s2, hT, hjx, hb5, hown, hE⟩ hK
        rw [hpre] at hT
        have HT2 := Lib.hid hT; have HK := Lib.hid hK; have HJX := Lib.hid hjx; have HB5 := Lib.hid hb5; have HOW := Lib.hid hown; have HE := Lib.hid hE
        clear hT hK hjx hb5 hown hE hpre
        gi_wp2
        have hD5 : D ≠ b5 := by omega
        have hc5 : (V.putObj D (.deferred none)).cell? ⟨b5, 0, none⟩ = some (.bool false) := (World.cell?_of_block (World.putObj_heap_other (Ne.symm hD5))).trans HB5.out.one.1
        refine ⟨by simp, .inl ⟨_, _, rfl, run_takeDeferred HK.out, ?_⟩⟩
        refine ⟨(.bool false : Value), by simp [results, Tryz.results159, go_sem, hc5], .inr ⟨x, s2, ?_, rfl, HJx.out.putObj _ HJX.out (by omega) HK.out rfl, fun k h => by have := HOW.out k h; omega, HE.out.newBy (grownBy_putObj' V D _) (fun r e => by cases e; omega)⟩⟩
        obtain ⟨es, he⟩ := endsTo_split ⟨W, t, k⟩ zs p hq'
        rw [goE_at (by rw [Hn.out]; exact hpn), Hn.out, he]
        exact tryE_some HT2.out es
    · obtain rfl : p = n := by omega
      have hpp : ((p : Int) == (p : Int)) = true := by simp
      gi_wp2
      clear zx1 zx2 zx3 zx4 zx5 hx1 hx2 hx3 hx4 hx5 hx6 s0 s1 s2 s3 f0 f1 r0 r1 hpp
      have hIc : Hid (IntsB x6.drew x6.drew.heap.size A ls) := by
        obtain ⟨A', c', hv, hI', -⟩ := HO6.out.form
        injection hv with e1 e2 e3
        subst e1
        exact IntsB.of hI'
      have hmx : Tryz.prog.follows .mixedOrders = true := by kernel_rfl
      have hl20 : l ≤ 1048576 := by omega
      gi_region_with_o (first
        | ((try refine ⟨trivial, ?_⟩); gi_at_call 162; refine (callsIn_wide.2 (clone_any A l cl ls _ HLL.out hl20 hIc.out)).mono ?_; rintro e w4 ⟨v4, rfl, hO4, hb4⟩; obtain ⟨A4, c4, rfl, -⟩ := hO4.form; have hb46 : Below x6.heap.size x6 w4 := undrew hb4; have BX4 := Lib.hid (HBX.out.ext (X := fun _ => False) (ExtX.of hb46) ⟨id, id, id, id, id, id⟩); have HB4 := Lib.hid hb46; have HOw4 := Lib.hid hO4; obtain ⟨fn, tmps, assign, body, hy, hR⟩ := HY.out (9 - 1) ⟨A4, ls, c4⟩ w4 (HJ.out _ _ HJ6.out (ExtX.of hb46)) (own_base2 hO4 (by show g1 ≤ x6.heap.size; omega)); obtain ⟨y0, y1⟩ := BX4.out.yi.one; dsimp only [LinesV.val] at hy; clear hO4 hb4 hb46)
        | ((first | refine hR.mono ?_ | (refine ⟨trivial, ?_⟩; refine hR.mono ?_)); rintro e w5 ⟨rfl, hx5, hE5⟩; have BX5 := Lib.hid (BX4.out.ext hE5 (by refine ⟨?_, ?_, ?_, ?_, ?_, ?_⟩ <;> omega)); have HX5 := Lib.hid hx5; have HE5 := Lib.hid hE5; obtain ⟨r0, r1⟩ := BX5.out.re.one; clear hx5 hE5))
      all_goals
        gi_wp2
        have hc5 := (BX5.out.re.set1 (.bool false)).one.1
        have hown : ∀ k, (LinesV.val ⟨A4, ls, c4⟩).ownBlock = some k → b5 < k := fun k h => by have h1 : x6.heap.size ≤ k := (HOw4.out.lt k h).1; omega
        refine ⟨(.bool false : Value), by simp [results, Tryz.results159, go_sem, hc5], ?_⟩
        refine .inr ⟨⟨A4, ls, c4⟩, s, ?_, rfl, HJx2.out _ _ _ HX5.out (ExtX.by_ (grown_cell w5 ⟨b5, 0, none⟩ _) (fun r e => by cases e; exact ⟨by show g1 ≤ b5; omega, fun h => by have := hown b5 h; omega⟩)), fun k h => by have := hown k h; omega, ?_⟩
        · rw [← Hn.out]; exact goE_len f ls s
        · exact (((HE6.out (fun k => k < g1 ∨ (Value.slice A l cl).ownBlock = some k)).trans (ExtX.of HB4.out)).trans (HE5.out.wide (fun k _ h => .inl h))).newSet (by omega) _
end Go.Proofs.YtobakeahbgodbaaGreat

namespace Go.Proofs.YtobakeahbgodbaaGreat
open Go.RowKit Go.Shelf
set_option linter.unusedVariables false
attribute [local go_sem] Oper.semAt_some

theorem yield_any {m m' : Nat} {P : Program} {l : Nat} {args : Array Value} {W : World} {R : Ending → World → Prop} (h : YieldAt Fence.wide m P l args W R) : YieldAt Fence.wide m' P l args W R := by
  obtain ⟨fn, tmps, assign, body, hy, hR⟩ := h
  exact ⟨fn, tmps, assign, body, hy, ⟨hR.1, fun c cs _ => hR.2 c cs (room_wide _)⟩⟩

theorem breakings_any (W t k : Int) (ad : Addr) (n c : Nat) (fv : Value) (fl : FuncId) (cap : Array Value) (w : World) (hfv : fv = .func (.func fl) #[] cap) :
    Calls Tryz.prog 152 #[stV W t k ad n c, fv] w fun e w' => e = .returned (.func (.func 158) #[] #[.pointer (some ⟨w.heap.size, 0, none⟩), .pointer (some ⟨w.heap.size + 1, 0, none⟩)]) ∧ w' = (w.alloc (.cells #[.int .i64 W, .int .i64 t, .int .i64 k, .slice (some ad) n c] 109)).alloc (.cells #[fv] 111) := by
  subst hfv
  have hmf : ∀ (fn : Fn) (first cap : Array Value) (w : World), (Instr.makeFunc fn first cap).run Tryz.prog w = .ok (.func fn first cap) w := fun _ _ _ _ => rfl
  go_enter Tryz.func152, Tryz.ntmps152
  go_wp2
  go_ret
  exact ⟨rfl, rfl⟩

set_option maxRecDepth 100000 in
set_option maxHeartbeats 3200000 in
theorem breakings_once (W t k : Int) (ad : Addr) (n c : Nat) (zs : List Int) (hn : zs.length = n) (hc : n ≤ c) (hcm : c ≤ maxLen) (hm : msrB ⟨W, t, k⟩ = true) (ht : textB zs = true) (g : Nat) (XB : Nat → Prop)
    (fl : FuncId) (cap : Array Value) (R : (Nat → Prop) → Int → World → Prop) (ld : Int → Nat → Nat → Bool × Int) (s : Int) (sb : Nat) (w : World) (hgw : g ≤ w.heap.size) (hXB : ∀ k, XB k → g ≤ k ∧ k < w.heap.size)
    (hL : ∀ g1, w.heap.size ≤ g1 → LeadsOK ⟨W, t, k⟩ zs fl cap g1 XB R ld) (hR : R (fun _ => False) s w) (hI : IntsB w g (some ad) zs) (hS : Blk w sb #[.int .i64 W, .int .i64 t, .int .i64 k, .slice (some ad) n c] 109) (hF : Blk w (sb + 1) #[.func (.func fl) #[] cap] 111) (hsb : sb + 1 < w.heap.size) :
    OnceK Fence.wide 8 Tryz.prog 158 #[.pointer (some ⟨sb, 0, none⟩), .pointer (some ⟨sb + 1, 0, none⟩)] (fun x : LinesV => #[x.val]) XB (fun x => x.val.ownBlock) (fun x v => x.pre w.heap.size v)
      ((goE ⟨W, t, k⟩ zs ld (n + 1) [] 0 s).1 = none) (fun x => (goE ⟨W, t, k⟩ zs ld (n + 1) [] 0 s).1 = some x.ls) w := fun l J Jx V hV hJ hJx hJx2 hY h0 => by
  have HL := hL V.heap.size hV.size
  have HE : ∀ X, ExtX X w V := fun X => ExtX.of hV
  have hIV : IntsB V g (some ad) zs := hI.keep (Nat.le_trans hgw (Nat.le_refl _)) hV
  have HG := Lib.hid (goOn_any W t k ad n c zs hn hc hcm hm ht g V.heap.size (Nat.le_trans hgw hV.size) XB (fun k hk => ⟨(hXB k hk).1, Nat.lt_of_lt_of_le (hXB k hk).2 hV.size⟩) fl cap R ld HL l J Jx hJ hJx hJx2 (fun m x v hj hp => yield_any (hY x v hj (own_base2 hp hV.size)))
    (n + 1) 0 none 0 [] 0 (fun _ => False) s V rfl (by omega) (Nat.zero_le _) (Nat.le_refl _) (World.ownsRow_nil _ _ _ _) (fun h e => by cases e) (fun k h => h.elim) (HL.ext _ _ _ _ hR (HE _)) hIV (Nat.le_refl _) h0)
  obtain ⟨s0, s1, s2, s3⟩ := (hS.below hV (by omega)).st
  obtain ⟨f0, f1⟩ := (hF.below hV (by omega)).one
  clear hn hc hcm hm ht hXB hL hR hI hS hF HL HE hIV hJ hJx hJx2 hY h0 hV hsb hgw
  refine callsIn_of_wp Tryz.func158 rfl trivial ?_ rfl
  simp only [Tryz.ntmps158, List.size_toArray, List.length_cons, List.length_nil, Nat.reduceAdd, Nat.reduceSub, Array.replicate_succ, Array.replicate_zero, List.push_toArray, List.append_toArray, List.nil_append, List.cons_append]
  gi_wp2_with ((try refine ⟨trivial, ?_⟩); gi_at_call 159; refine (callsIn_wide.2 HG.out).mono ?_; rintro e v (⟨s', hgo, rfl, -, -, hj, -⟩ | ⟨x, s', hgo, rfl, hx, -, -⟩))
  · go_end0
    exact ⟨⟨_, rfl⟩, .inl ⟨by rw [hgo], hj⟩⟩
  · go_end0
    exact ⟨⟨_, rfl⟩, .inr ⟨x, by rw [hgo], hx⟩⟩

/-- what firstBreaking answers -/
def FirstPost (o : Option (List Int)) (g : Nat) (w : World) (e : Ending) (w' : World) : Prop :=
  match o with
  | none => e = .returned (.tuple #[.slice none 0 0, .bool false]) ∧ Below g w w'
  | some r => ∃ v, e = .returned (.tuple #[v, .bool true]) ∧ Own w' g v r ∧ Below g w w'

set_option maxRecDepth 100000 in
set_option maxHeartbeats 3200000 in
theorem firstBr_any (W t k : Int) (ad : Addr) (n c : Nat) (zs : List Int) (hn : zs.length = n) (hc : n ≤ c) (hcm : c ≤ maxLen) (hm : msrB ⟨W, t, k⟩ = true) (ht : textB zs = true) (g : Nat) (XB : Nat → Prop)
    (fl : FuncId) (cap : Array Value) (R : (Nat → Prop) → Int → World → Prop) (ld : Int → Nat → Nat → Bool × Int) (s : Int) (w : World) (hgw : g ≤ w.heap.size) (hXB : ∀ k, XB k → g ≤ k ∧ k < w.heap.size)
    (hL : ∀ g1, w.heap.size ≤ g1 → LeadsOK ⟨W, t, k⟩ zs fl cap g1 XB R ld) (hR : R (fun _ => False) s w) (hI : IntsB w g (some ad) zs) :
    Calls Tryz.prog 136 #[stV W t k ad n c, .func (.func fl) #[] cap] w (FirstPost (goE ⟨W, t, k⟩ zs ld (n + 1) [] 0 s).1 g w) := by
  obtain ⟨b0, hb0⟩ : ∃ b, w.heap.size = b := ⟨_, rfl⟩
  obtain ⟨b1, hb1⟩ : ∃ b, b0 + 1 = b := ⟨_, rfl⟩
  obtain ⟨b2, hb2⟩ : ∃ b, b1 + 1 = b := ⟨_, rfl⟩
  obtain ⟨x1, hx1⟩ : ∃ v, w.alloc (.cells #[.int .i64 W, .int .i64 t, .int .i64 k, .slice (some ad) n c] 109) = v := ⟨_, rfl⟩
  have ex1 : Below b0 w x1 := by rw [← hx1, ← hb0]; exact below_new _ _
  have zx1 : x1.heap.size = b1 := by rw [← hx1]; simp; omega
  have kx1 : Blk x1 b0 #[.int .i64 W, .int .i64 t, .int .i64 k, .slice (some ad) n c] 109 := by rw [← hx1, ← hb0]; exact Blk.new _ _ _
  obtain ⟨x2, hx2⟩ : ∃ v, x1.alloc (.cells #[.slice none 0 0] 23) = v := ⟨_, rfl⟩
  have ex2 : Below b1 x1 x2 := by rw [← hx2, ← zx1]; exact below_new _ _
  have zx2 : x2.heap.size = b2 := by rw [← hx2]; simp; omega
  have kx2 : Blk x2 b1 #[.slice none 0 0] 23 := by rw [← hx2, ← zx1]; exact Blk.new _ _ _
  obtain ⟨x3, hx3⟩ : ∃ v, x2.alloc (.cells #[.bool false] 4) = v := ⟨_, rfl⟩
  have ex3 : Below b2 x2 x3 := by rw [← hx3, ← zx2]; exact below_new _ _
  have zx3 : x3.heap.size = b2 + 1 := by rw [← hx3]; simp; omega
  have kx3 : Blk x3 b2 #[.bool false] 4 := by rw [← hx3, ← zx2]; exact Blk.new _ _ _
  have K1 := (kx1.below ex2 (by omega)).below ex3 (by omega)
  have HK2 := Lib.hid (kx2.below ex3 (by omega))
  have HK3 := Lib.hid kx3
  have HB3 := Lib.hid ((ex1.trans (ex2.mono (by omega))).trans (ex3.mono (B' := b0) (by omega)))
  have HXB := Lib.hid hXB; have HL := Lib.hid hL; have HR := Lib.hid hR; have HI := Lib.hid hI; have Hn := Lib.hid hn; have Hc := Lib.hid hc; have Hcm := Lib.hid hcm; have HM := Lib.hid hm; have HT := Lib.hid ht
  obtain ⟨s0, s1, s2, s3⟩ := K1.st
  clear hn hc hcm hm ht hXB hL hR hI kx1 kx2 kx3 ex1 ex2 ex3 K1
  refine (callsIn_wide (n := 9)).1 ?_
  refine callsIn_of_wp_marks Tryz.func136 rfl trivial ?_ rfl
  simp only [Tryz.ntmps136, List.size_toArray, List.length_cons, List.length_nil, Nat.reduceAdd, Nat.reduceSub, Array.replicate_succ, Array.replicate_zero, List.push_toArray, List.append_toArray, List.nil_append, List.cons_append]
  gi_wp2_with ((try refine ⟨trivial, ?_⟩); gi_at_call 152; refine (callsIn_wide.2 (breakings_any W t k ad n c _ fl cap _ rfl)).mono ?_; rintro e wg ⟨rfl, hwg⟩)
  try rw [← hwg]
  clear s0 s1 s2 s3 hx1 hx2 hx3
  have bG : Below (b2 + 1) x3 wg := by rw [hwg, ← zx3]; exact ((Below.refl _ _).alloc (Nat.le_refl _) _).alloc (by simp) _
  have zG : wg.heap.size = b2 + 3 := by rw [hwg]; simp [zx3]
  have SG : Blk wg (b2 + 1) #[.int .i64 W, .int .i64 t, .int .i64 k, .slice (some ad) n c] 109 := by rw [hwg, ← zx3]; exact (Blk.new x3 _ _).below (below_new _ _) (by simp)
  have FG : Blk wg (b2 + 1 + 1) #[.func (.func fl) #[] cap] 111 := by rw [hwg]; have h1 := Blk.new (x3.alloc (.cells #[.int .i64 W, .int .i64 t, .int .i64 k, .slice (some ad) n c] 109)) #[.func (.func fl) #[] cap] 111; rwa [World.size_alloc, zx3] at h1
  have K2 := Lib.hid (HK2.out.below bG (by omega)); have K3 := Lib.hid (HK3.out.below bG (by omega))
  have BG := Lib.hid (HB3.out.trans (bG.mono (B' := b0) (by omega)))
  have HEw : ∀ X, ExtX X w wg := fun X => ExtX.of (by rw [hb0]; exact BG.out)
  have IG : IntsB wg g (some ad) zs := HI.out.keep (by omega) BG.out
  have HON := breakings_once W t k ad n c zs Hn.out Hc.out Hcm.out HM.out HT.out g XB fl cap R ld s (b2 + 1) wg (by omega) (fun k hk => ⟨(HXB.out k hk).1, by have := (HXB.out k hk).2; omega⟩) (fun g1 h => HL.out g1 (by omega)) ((HL.out w.heap.size (Nat.le_refl _)).ext _ _ _ _ HR.out (HEw _)) IG SG FG (by omega)
  have HZ := Lib.hid zx3
  clear hwg bG SG FG HK2 HK3 HB3 zx1 zx2 zx3
  refine wpIn_rangeFunc_once (α := LinesV) rfl (by omega) (gf := 158) (lb := #[.pointer (some ⟨b2 + 1, 0, none⟩), .pointer (some ⟨b2 + 1 + 1, 0, none⟩)]) rfl trivial (enters_of Tryz.func158 (by kernel_rfl) rfl) (fun _ => rfl) (fun k hk => by have := (HXB.out k hk).2; omega) HON
    (fun V => Blk V b1 #[.slice none 0 0] 23 ∧ Blk V b2 #[.bool false] 4 ∧ Below g w V)
    (fun A B h hE => ⟨h.1.ext hE (fun hx => by rcases hx with hx | hx; have := (HXB.out _ hx).2; omega; omega), h.2.1.ext hE (fun hx => by rcases hx with hx | hx; have := (HXB.out _ hx).2; omega; omega), h.2.2.trans (hE.below (Nat.le_trans hgw h.2.2.size) (fun k hk => by rcases hk with hk | hk; exact (HXB.out k hk).1; omega))⟩)
    ⟨K2.out, K3.out, BG.out.mono (by omega)⟩
    (fun x V => Blk V b1 #[x.val] 23 ∧ Blk V b2 #[.bool true] 4 ∧ Own V g x.val x.ls ∧ Below g w V)
    (fun x A B row h hg hr => ⟨h.1.kept hg (fun q e => (hr q e).2), h.2.1.kept hg (fun q e => (hr q e).2), h.2.2.1.keptC hg (fun q e => (hr q e).2), h.2.2.2.grown hg (Nat.le_trans hgw h.2.2.2.size) (fun q e => by have := (hr q e).1; omega)⟩)
    (fun x A B h hE => ⟨h.1.ext hE (fun hx => by have := hx.1; omega), h.2.1.ext hE (fun hx => by have := hx.1; omega), h.2.2.1.ext hE (fun q hq hx => hx.2 hq), h.2.2.2.trans (hE.below (Nat.le_trans hgw h.2.2.2.size) (fun k hk => by have := hk.1; omega))⟩)
    (fun x A B row h hg hr => Own.keptC h hg (fun q e => (hr q e).2))
    (fun x => { tmps := #[(stV W t k ad n c : Value), .func (.func fl) #[] cap, .pointer (some ⟨b0, 0, none⟩), undef, .pointer (some ⟨b1, 0, none⟩), .pointer (some ⟨b2, 0, none⟩), x.val, .agg #[.int .i64 W, .int .i64 t, .int .i64 k, .slice (some ad) n c], .func (.func fl) #[] cap, .func (.func 158) #[] #[.pointer (some ⟨b2 + 1, 0, none⟩), .pointer (some ⟨b2 + 1 + 1, 0, none⟩)], x.val, undef], defers := [] }) ?assign ?body ?done ?stop
  case assign =>
    intro l x V K hK
    gi_wp2
    exact hK
  case body =>
    rintro l x V ⟨h1, h2, h3⟩ hp
    obtain ⟨A4, ls4, c4⟩ := x
    have H1 := Lib.hid h1; have H2 := Lib.hid h2; have H3 := Lib.hid h3; have HP := Lib.hid hp
    obtain ⟨c1, c2⟩ := h1.one
    obtain ⟨d1, d2⟩ := h2.one
    clear h1 h2 h3 hp
    dsimp only [LinesV.val]
    gi_wp2
    have hlt := H2.out.lt
    refine ⟨(KeepsFrom.of_grownBy (row := some b1) (grown_cell V ⟨b1, 0, none⟩ _) (fun j e => by cases e; omega)).trans (KeepsFrom.of_grownBy (row := some b2) (grown_cell _ ⟨b2, 0, none⟩ _) (fun j e => by cases e; omega)), ⟨?_, ?_, ?_, ?_⟩, ?_⟩
    · exact (H1.out.set1 _).other _ _ (by show b1 ≠ b2; omega)
    · exact (H2.out.other ⟨b1, 0, none⟩ _ (by show b2 ≠ b1; omega)).set1 _
    · exact ((own_base2 HP.out (by omega)).ext (X := fun k => k = b1) (ExtX.by_ (grown_cell V ⟨b1, 0, none⟩ _) (fun r e => by cases e; rfl)) (fun q hq hx => by have := (HP.out.lt q hq).1; omega)).ext (X := fun k => k = b2) (ExtX.by_ (grown_cell _ ⟨b2, 0, none⟩ _) (fun r e => by cases e; rfl)) (fun q hq hx => by have := (HP.out.lt q hq).1; omega)
    · exact (H3.out.setCell (p := ⟨b1, 0, none⟩) (by show g ≤ b1; omega) _).setCell (p := ⟨b2, 0, none⟩) (by show g ≤ b2; omega) _
    · exact (ExtX.by_ (grown_cell V ⟨b1, 0, none⟩ _) (fun r e => by cases e; show b1 < wg.heap.size; omega)).trans (ExtX.by_ (grown_cell _ ⟨b2, 0, none⟩ _) (fun r e => by cases e; show b2 < wg.heap.size; omega))
  case done =>
    rintro D V hD hS ⟨h1, h2, h3⟩ hK
    have H1 := Lib.hid h1; have H2 := Lib.hid h2; have H3 := Lib.hid h3; have HS := Lib.hid hS; have HK := Lib.hid hK
    obtain ⟨c1, c2⟩ := h1.one
    obtain ⟨d1, d2⟩ := h2.one
    clear h1 h2 h3 hS hK
    gi_wp2
    have e1 : D ≠ b1 := by omega
    have e2 : D ≠ b2 := by omega
    have hlt := H2.out.lt
    obtain ⟨V2, hV2⟩ : ∃ V2, (V.setCell ⟨b1, 0, none⟩ (.slice none 0 0)).setCell ⟨b2, 0, none⟩ (.bool false) = V2 := ⟨_, rfl⟩
    have HA : Blk V2 b1 #[.slice none 0 0] 23 := by rw [← hV2]; exact (H1.out.set1 _).other _ _ (by show b1 ≠ b2; omega)
    have HBb : Blk V2 b2 #[.bool false] 4 := by rw [← hV2]; exact (H2.out.other ⟨b1, 0, none⟩ _ (by show b2 ≠ b1; omega)).set1 _
    have HDk : V2.heap[D]? = some (.deferred (some [])) := by rw [← hV2]; exact (setCell_blk _ b2 0 _ D e2).trans ((setCell_blk V b1 0 _ D e1).trans HK.out)
    have HE : Below g w V2 := by rw [← hV2]; exact (H3.out.setCell (p := ⟨b1, 0, none⟩) (by show g ≤ b1; omega) _).setCell (p := ⟨b2, 0, none⟩) (by show g ≤ b2; omega) _
    rw [hV2]
    refine ⟨by simp, .inl ⟨_, _, rfl, run_takeDeferred HDk, ?_⟩⟩
    have hc1 := (World.cell?_of_block (a := ⟨b1, 0, none⟩) (World.putObj_heap_other (w := V2) (r := D) (o := .deferred none) (Ne.symm e1))).trans HA.one.1
    have hc2 := (World.cell?_of_block (a := ⟨b2, 0, none⟩) (World.putObj_heap_other (w := V2) (r := D) (o := .deferred none) (Ne.symm e2))).trans HBb.one.1
    refine ⟨.tuple #[.slice none 0 0, .bool false], by simp [results, Tryz.results136, go_sem, hc1, hc2], ?_⟩
    unfold FirstPost
    rw [HS.out]
    exact ⟨rfl, below_putObj HE HDk (by omega)⟩
  case stop =>
    rintro D x V hD hS ⟨h1, h2, h3, h4⟩ hK
    obtain ⟨A4, ls4, c4⟩ := x
    have H1 := Lib.hid h1; have H2 := Lib.hid h2; have H3 := Lib.hid h3; have H4 := Lib.hid h4; have HS := Lib.hid hS; have HK := Lib.hid hK
    clear h1 h2 h3 h4 hS hK
    gi_wp2
    have e1 : D ≠ b1 := by omega
    have e2 : D ≠ b2 := by omega
    refine ⟨by simp, .inl ⟨_, _, rfl, run_takeDeferred HK.out, ?_⟩⟩
    have hc1 := (World.cell?_of_block (a := ⟨b1, 0, none⟩) (World.putObj_heap_other (w := V) (r := D) (o := .deferred none) (Ne.symm e1))).trans H1.out.one.1
    have hc2 := (World.cell?_of_block (a := ⟨b2, 0, none⟩) (World.putObj_heap_other (w := V) (r := D) (o := .deferred none) (Ne.symm e2))).trans H2.out.one.1
    refine ⟨.tuple #[LinesV.val ⟨A4, ls4, c4⟩, .bool true], by simp [results, Tryz.results136, go_sem, hc1, hc2], ?_⟩
    unfold FirstPost
    rw [HS.out]
    exact ⟨_, rfl, own_putObj H3.out HK.out, below_putObj H4.out HK.out (by omega)⟩

theorem firstBr2_any (W t k : Int) (ad : Addr) (n c : Nat) (zs : List Int) (hn : zs.length = n) (hc : n ≤ c) (hcm : c ≤ maxLen) (hm : msrB ⟨W, t, k⟩ = true) (ht : textB zs = true) (g : Nat) (XB : Nat → Prop)
    (fl : FuncId) (cap : Array Value) (R : (Nat → Prop) → Int → World → Prop) (ld : Int → Nat → Nat → Bool × Int) (s : Int) (w : World) (hgw : g ≤ w.heap.size) (hXB : ∀ k, XB k → g ≤ k ∧ k < w.heap.size)
    (hL : ∀ g1, w.heap.size ≤ g1 → LeadsOK ⟨W, t, k⟩ zs fl cap g1 XB R ld) (hR : R (fun _ => False) s w) (hI : IntsB w g (some ad) zs) (o : Option (List Int)) (ho : (goE ⟨W, t, k⟩ zs ld (n + 1) [] 0 s).1 = o) :
    Calls Tryz.prog 136 #[stV W t k ad n c, .func (.func fl) #[] cap] w fun e w' => ∃ v, e = .returned (.tuple #[v, .bool o.isSome]) ∧ Own w' g v (o.getD []) ∧ Below g w w' := by
  refine (firstBr_any W t k ad n c zs hn hc hcm hm ht g XB fl cap R ld s w hgw hXB hL hR hI).mono ?_
  rintro e w' h
  rw [ho] at h
  cases o with
  | none => exact ⟨_, h.1, World.ownsRow_nil _ _ _ _, h.2⟩
  | some r => exact h
end Go.Proofs.YtobakeahbgodbaaGreat

namespace Go.Proofs.YtobakeahbgodbaaGreat
open Go.RowKit Go.Shelf
set_option linter.unusedVariables false
attribute [local go_sem] Oper.semAt_some

set_option maxRecDepth 100000 in
set_option maxHeartbeats 3200000 in
theorem lgEnd_any (W t k : Int) (ad : Addr) (n c p : Nat) (zs : List Int) (w : World) (hn : zs.length = n) (hc : n ≤ c) (hcm : c ≤ maxLen) (h : Ints w (some ad) zs) (hm : msrB ⟨W, t, k⟩ = true) (ht : textB zs = true) (hp : p < n) :
    Calls Tryz.prog 138 #[stV W t k ad n c, .int .i64 p] w fun e w' => e = .returned (.int .i64 (lastE ⟨W, t, k⟩ zs p)) ∧ Below w.heap.size w w' := by
  obtain ⟨g, hg⟩ : ∃ g, w.heap.size = g := ⟨_, rfl⟩
  have Hn := Lib.hid hn; have Hc := Lib.hid hc; have Hcm := Lib.hid hcm; have HM := Lib.hid hm; have HT := Lib.hid ht; have HG := Lib.hid hg
  have HI : Hid (IntsB w g (some ad) zs) := by show IntsB _ _ _ _; rw [← hg]; exact IntsB.of h
  obtain ⟨w1, hw1⟩ : ∃ v, w.alloc (.cells #[.int .i64 W, .int .i64 t, .int .i64 k, .slice (some ad) n c] 109) = v := ⟨_, rfl⟩
  have b1 : Below g w w1 := by rw [← hg, ← hw1]; exact below_new _ _
  have z1 : w1.heap.size = g + 1 := by rw [← hw1, ← hg]; simp
  have S1 : Blk w1 g #[.int .i64 W, .int .i64 t, .int .i64 k, .slice (some ad) n c] 109 := by rw [← hw1, ← hg]; exact Blk.new _ _ _
  obtain ⟨w2, hw2⟩ : ∃ v, w1.alloc (.cells #[.int .i64 p] 3) = v := ⟨_, rfl⟩
  have b2 : Below (g + 1) w1 w2 := by rw [← z1, ← hw2]; exact below_new _ _
  have z2 : w2.heap.size = g + 2 := by rw [← hw2]; simp [z1]
  have S2 := S1.below b2 (by omega)
  have E2 : Blk w2 (g + 1) #[.int .i64 p] 3 := by rw [← hw2, ← z1]; exact Blk.new _ _ _
  have T2 := b1.trans (b2.mono (by omega))
  have HS2 := Lib.hid S2; have HE2 := Lib.hid E2; have HT2 := Lib.hid T2
  obtain ⟨s0, s1, s2, s3⟩ := S2.st
  clear hn hc hcm h hm ht b1 b2 S1 S2 E2 T2
  refine (callsIn_wide (n := 9)).1 ?_
  refine callsIn_of_wp_marks Tryz.func138 rfl trivial ?_ rfl
  simp only [Tryz.ntmps138, List.size_toArray, List.length_cons, List.length_nil, Nat.reduceAdd, Nat.reduceSub, Array.replicate_succ, Array.replicate_zero, List.push_toArray, List.append_toArray, List.nil_append, List.cons_append]
  gi_wp2_with ((try refine ⟨trivial, ?_⟩); gi_at_call 153; refine (callsIn_wide.2 (ends_any W t k ad n c p _)).mono ?_; rintro e wg ⟨rfl, hwg⟩)
  try rw [← hwg]
  clear s0 s1 s2 s3 hw1 hw2
  have bG : Below (g + 2) w2 wg := by rw [hwg, ← z2]; exact ((Below.refl _ _).alloc (Nat.le_refl _) _).alloc (by simp) _
  have zG : wg.heap.size = g + 4 := by rw [hwg]; simp [z2]
  have sG : St wg (g + 2) W t k (.slice (some ad) n c) := by rw [hwg, ← z2]; exact St.hold (below_new _ _) (by simp) (Blk.new w2 _ _).st
  have qG : wg.cell? ⟨g + 3, 0, none⟩ = some (.int .i64 p) := by rw [hwg]; have h1 := (Blk.new (w2.alloc (.cells #[.int .i64 W, .int .i64 t, .int .i64 k, .slice (some ad) n c] 109)) #[.int .i64 p] 3).one.1; rwa [World.size_alloc, z2] at h1
  have EG := Lib.hid (HE2.out.below bG (by omega))
  have TG := Lib.hid (HT2.out.trans (bG.mono (by omega)))
  have IG : IntsB wg g (some ad) zs := HI.out.keep (Nat.le_refl _) TG.out
  have HZ2 := Lib.hid z2
  clear hwg bG z1 hg z2
  refine wpIn_rangeFunc_ownG (α := EndT ⟨W, t, k⟩ zs p n) rfl (by omega) (gf := 160) (lb := #[.pointer (some ⟨g + 3, 0, none⟩), .pointer (some ⟨g + 2, 0, none⟩)]) rfl trivial (enters_of Tryz.func160 (by kernel_rfl) rfl)
    (ends_stops 8 (by omega) W t k ad n c p (g + 2) g zs wg Hn.out Hc.out Hcm.out HM.out HT.out hp IG sG qG (by omega)) (fun h k => h.trans k) (fun V l o o' hl h _ _ => KpE.putObj o' (by omega) (by omega) hl h) (Below.refl _ _) (fun _ => rfl)
    (fun pre V => Blk V (g + 1) #[.int .i64 ((pre.map (fun (x : EndT ⟨W, t, k⟩ zs p n) => x.1)).getLastD p : Nat)] 3 ∧ Below g w V) (fun _ _ _ => False)
    (fun pre V V' r h hg hr => ⟨h.1.kept hg (fun s e => (hr s e).2), h.2.grown hg (by have := h.1.lt; omega) (fun s e => by have h1 := (hr s e).1; omega)⟩)
    (fun _ _ _ _ _ h _ _ => h) ⟨EG.out, TG.out⟩ (fun x => { tmps := #[(stV W t k ad n c : Value), .int .i64 p, .pointer (some ⟨g, 0, none⟩), undef, .int .i64 0, .pointer (some ⟨g + 1, 0, none⟩), .int .i64 x.1, .int .i64 p, .agg #[.int .i64 W, .int .i64 t, .int .i64 k, .slice (some ad) n c], .int .i64 p, .func (.func 160) #[] #[.pointer (some ⟨g + 3, 0, none⟩), .pointer (some ⟨g + 2, 0, none⟩)], .int .i64 x.1, undef, undef], defers := [] }) ?assign ?body ?done ?stop
  case assign =>
    intro l x V K hK
    gi_wp2
    exact hK
  case body =>
    rintro l pre e V ⟨hE, hB⟩ hlen
    obtain ⟨i, hi1, hi2, hi3⟩ := e
    have HE := Lib.hid hE; have HB := Lib.hid hB
    obtain ⟨e0, e1⟩ := hE.one
    clear hE hB
    gi_wp2
    refine ⟨KeepsFrom.of_grownBy (row := some (g + 1)) (grown_cell V ⟨g + 1, 0, none⟩ _) (fun j e => by cases e; omega), KpE.store _ (by show g ≤ g + 1; omega) (by show g + 1 < g + 2; omega), ?_, HB.out.setCell (p := ⟨g + 1, 0, none⟩) (by show g ≤ g + 1; omega) _⟩
    rw [List.map_append]
    show Blk _ _ #[.int .i64 ((pre.map (fun (x : EndT ⟨W, t, k⟩ zs p n) => x.1) ++ [i]).getLastD p : Nat)] _
    rw [show (pre.map (fun (x : EndT ⟨W, t, k⟩ zs p n) => x.1) ++ [i]).getLastD p = i by simp]
    exact HE.out.set1 _
  case done =>
    rintro D xs V hD hS ⟨hE, hB⟩ hK
    rw [hS] at hE
    have HL : Hid ((endsTo ⟨W, t, k⟩ zs p (n + 1)).getLastD p = lastE ⟨W, t, k⟩ zs p) := by show _ = _; unfold lastE; rw [Hn.out]
    have HB := Lib.hid hB; have HK := Lib.hid hK
    rw [HL.out] at hE
    obtain ⟨e0, e1⟩ := hE.one
    clear hE hB hS hK
    gi_wp2
    refine ⟨by simp, .inl ⟨_, _, rfl, run_takeDeferred HK.out, ?_⟩⟩
    exact ⟨_, results_tmp rfl _ _ _, rfl, by rw [HG.out]; exact below_putObj HB.out HK.out (by omega)⟩
  case stop =>
    rintro D c' pre V _ _ h _
    exact h.elim
end Go.Proofs.YtobakeahbgodbaaGreat
