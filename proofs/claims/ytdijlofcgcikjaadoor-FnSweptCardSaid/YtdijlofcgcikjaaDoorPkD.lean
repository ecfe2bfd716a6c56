/-
  Contracts and plain mathematics (Plan, PlanT), each with its conditions in its own statement.
-/
import Derived.Test.YtdijlofcgcikjaaDoorPkB
import Derived.Deep.RegionHeld3
namespace Go.Proofs.YtdijlofcgcikjaaDoor
open Go.RowKit Go.Shelf
set_option linter.unusedVariables false

section
variable {P : Program} {ops : Array Oper} {Q : Exit → Act → World → Prop} {S : World → Prop}
inductive Plan where
  | done
  | take (i : Nat) (p : Plan)
  | one (i : Nat) (p : Plan)
  | two (i j : Nat) (p q : Plan)
/-- is it a plan? take: operation i may be taken first; one: it alone may come up; two: one of two may -/
def planB (ops : Array Oper) : Plan → Nat → Array Bool → Bool
  | .done, k, listed => k == 0 && (Region.ready .any ops listed).isEmpty
  | .take i p, k + 1, listed => Region.free .any ops listed i && ((Region.ready .any ops listed).contains i && planB ops p k (listed.setIfInBounds i true))
  | .one i p, k + 1, listed => (Region.ready .any ops listed == [i]) && planB ops p k (listed.setIfInBounds i true)
  | .two i j p q, k + 1, listed => (Region.ready .any ops listed == [i, j]) && (planB ops p k (listed.setIfInBounds i true) && planB ops q k (listed.setIfInBounds j true))
  | _, 0, _ => false
def wpPlan (P : Program) (ops : Array Oper) (Q : Exit → Act → World → Prop) (S : World → Prop) : Plan → Act → World → Prop
  | .done, a, w => Q .normal a w
  | .take i p, a, w => ∃ o v, ops[i]? = some o ∧ YieldsIf P ops S o v a ∧ wpPlan P ops Q S p (a.put o.dst v) w
  | .one i p, a, w => wpOp P ops Q i (fun a' w' => S w' ∧ wpPlan P ops Q S p a' w') a w
  | .two i j p q, a, w => wpOp P ops Q i (fun a' w' => S w' ∧ wpPlan P ops Q S p a' w') a w ∧ wpOp P ops Q j (fun a' w' => S w' ∧ wpPlan P ops Q S q a' w') a w
theorem plan_any (hs : Region.noSelect ops = true) (hQ : ∀ c a d v w, Q (.panic c) (Act.put a d v) w → Q (.panic c) a w) : ∀ (pl : Plan) (k : Nat) (listed : Array Bool) (a : Act) (w : World), planB ops pl k listed = true → S w → wpPlan P ops Q S pl a w →
    wpAnyH P .any ops Q S k listed a w
  | .done, k, listed, a, w, hB, hS, h => by
    unfold planB at hB
    rw [Bool.and_eq_true] at hB
    exact wpAnyH_done (List.isEmpty_iff.1 hB.2) h k
  | .take i p, 0, listed, a, w, hB, hS, h => by simp [planB] at hB
  | .one i p, 0, listed, a, w, hB, hS, h => by simp [planB] at hB
  | .two i j p q, 0, listed, a, w, hB, hS, h => by simp [planB] at hB
  | .take i p, k + 1, listed, a, w, hB, hS, h => by
    unfold planB at hB
    rw [Bool.and_eq_true, Bool.and_eq_true] at hB
    obtain ⟨o, v, ho, hy, h⟩ := h
    exact wpAnyH_take ho hs hB.1 hB.2.1 (fun c a w => hQ c a _ _ w) hy hS (plan_any hs hQ p k _ _ _ hB.2.2 hS h)
  | .one i p, k + 1, listed, a, w, hB, hS, h => by
    unfold planB at hB
    rw [Bool.and_eq_true] at hB
    refine wpAnyH_all (eq_of_beq hB.1) (by simp) (fun j hj => ?_)
    rw [List.mem_singleton] at hj
    subst hj
    exact wpOp_mono (fun a' w' h' => ⟨h'.1, plan_any hs hQ p k _ _ _ hB.2 h'.1 h'.2⟩) h
  | .two i j p q, k + 1, listed, a, w, hB, hS, h => by
    unfold planB at hB
    rw [Bool.and_eq_true, Bool.and_eq_true] at hB
    refine wpAnyH_all (eq_of_beq hB.1) (by simp) (fun x hx => ?_)
    rw [List.mem_cons, List.mem_singleton] at hx
    rcases hx with rfl | rfl
    · exact wpOp_mono (fun a' w' h' => ⟨h'.1, plan_any hs hQ p k _ _ _ hB.2.1 h'.1 h'.2⟩) h.1
    · exact wpOp_mono (fun a' w' h' => ⟨h'.1, plan_any hs hQ q k _ _ _ hB.2.2 h'.1 h'.2⟩) h.2
theorem wp_region_plan {id : Nat} {a : Act} {w : World} (pl : Plan) (S : World → Prop) (hm : P.follows .mixedOrders = true) (hs : Region.noSelect ops = true) (hB : planB ops pl ops.size (Array.replicate ops.size false) = true)
    (hQ : ∀ c a d v w, Q (.panic c) (Act.put a d v) w → Q (.panic c) a w) (hS : S w.drew) (h : wpPlan P ops Q S pl a w.drew) : (Code.region id ops true).wp P Q a w :=
  wp_region_held hm (plan_any hs hQ pl _ _ a w.drew hB hS h)
theorem wpIn_region_plan {l n id : Nat} {a : Act} {w : World} (pl : Plan) (S : World → Prop) (hm : P.follows .mixedOrders = true) (hd : noDefer ops = true) (hs : Region.noSelect ops = true) (hq : ¬ LetsOut Q) (hB : planB ops pl ops.size (Array.replicate ops.size false) = true)
    (hQ : ∀ c a d v w, Q (.panic c) (Act.put a d v) w → Q (.panic c) a w) (hS : S w.drew) (h : wpPlan P ops Q S pl a w.drew) : (Code.region id ops true).wpIn (Fence.wide.inRound l) n P Q a w :=
  wpIn_region_held S hm hd hq hS (fun _ => plan_any hs hQ pl _ _ a w.drew hB hS h)
theorem plan_quiet {i : Nat} {p : Plan} {o : Oper} {v : Value} {a : Act} {w : World} (ho : ops.toList[i]? = some o) (hw : Region.wanted o (yielded ops a.tmps) = true) (hy : ∀ w1, S w1 → (execOp a.eval o).run P w1 = .ok (.value v) w1)
    (h : wpPlan P ops Q S p (a.put o.dst v) w) : wpPlan P ops Q S (.take i p) a w :=
  ⟨o, v, by rw [← Array.getElem?_toList]; exact ho, .inl ⟨hw, hy⟩, h⟩
theorem plan_skip {i : Nat} {p : Plan} {o : Oper} {a : Act} {w : World} (ho : ops.toList[i]? = some o) (hw : Region.wanted o (yielded ops a.tmps) = false)
    (h : wpPlan P ops Q S p (a.put o.dst undef) w) : wpPlan P ops Q S (.take i p) a w :=
  ⟨o, undef, by rw [← Array.getElem?_toList]; exact ho, .inr ⟨hw, rfl⟩, h⟩
theorem plan_step {i : Nat} {p : Plan} {o : Oper} {a : Act} {w : World} (ho : ops.toList[i]? = some o)
    (h : ∀ K : Act → World → Prop, Shut (∀ a w, S w → wpPlan P ops Q S p a w → K a w) → if Region.wanted o (yielded ops a.tmps) = true then Oper.wp P o a w K Q else K (a.put o.dst undef) w) : wpPlan P ops Q S (.one i p) a w :=
  wpOp_step (by rw [← Array.getElem?_toList]; exact ho) (fun K' hK => h K' (fun a w hS hW => hK a w ⟨hS, hW⟩))
theorem plan_fork {i j : Nat} {p q : Plan} {o o2 : Oper} {a : Act} {w : World} (ho : ops.toList[i]? = some o) (ho2 : ops.toList[j]? = some o2)
    (h : ∀ K : Act → World → Prop, Shut (∀ a w, S w → wpPlan P ops Q S p a w → K a w) → if Region.wanted o (yielded ops a.tmps) = true then Oper.wp P o a w K Q else K (a.put o.dst undef) w)
    (h2 : ∀ K : Act → World → Prop, Shut (∀ a w, S w → wpPlan P ops Q S q a w → K a w) → if Region.wanted o2 (yielded ops a.tmps) = true then Oper.wp P o2 a w K Q else K (a.put o2.dst undef) w) : wpPlan P ops Q S (.two i j p q) a w :=
  ⟨wpOp_step (by rw [← Array.getElem?_toList]; exact ho) (fun K' hK => h K' (fun a w hS hW => hK a w ⟨hS, hW⟩)), wpOp_step (by rw [← Array.getElem?_toList]; exact ho2) (fun K' hK => h2 K' (fun a w hS hW => hK a w ⟨hS, hW⟩))⟩
theorem plan_end {a : Act} {w : World} (h : Q .normal a w) : wpPlan P ops Q S .done a w := h
end
end Go.Proofs.YtdijlofcgcikjaaDoor

namespace Go.Proofs.YtdijlofcgcikjaaDoor
open Go.RowKit Go.Shelf
set_option linter.unusedVariables false

section
variable {P : Program} {ops : Array Oper} {Q : Exit → Act → World → Prop} {S : World → Prop} {md : Region.Mode} {L : Nat}
/-- whatever comes up, and S behind each operation but L -/
def wpAnyT (P : Program) (md : Region.Mode) (ops : Array Oper) (Q : Exit → Act → World → Prop) (S : World → Prop) (L : Nat) : Nat → Array Bool → Act → World → Prop
  | 0, listed, a, w => Region.ready md ops listed = [] ∧ Q .normal a w
  | k + 1, listed, a, w => (Region.ready md ops listed = [] → Q .normal a w) ∧ ∀ i ∈ Region.ready md ops listed, wpOp P ops Q i (fun a' w' => (i = L ∨ S w') ∧ wpAnyT P md ops Q S L k (listed.setIfInBounds i true) a' w') a w
theorem anyT_any : ∀ (k : Nat) (listed : Array Bool) (a : Act) (w : World), wpAnyT P md ops Q S L k listed a w → wpAny P md ops Q k listed a w
  | 0, _, _, _, h => h
  | k + 1, _, _, _, h => ⟨h.1, fun i hi => wpOp_mono (fun a' w' h' => anyT_any k _ a' w' h'.2) (h.2 i hi)⟩
/-- L waits for each other operation -/
def waitsB (md : Region.Mode) (ops : Array Oper) (L : Nat) : Bool := match ops[L]? with
  | some o => (List.range ops.size).all fun j => j == L || o.after.toList.any fun e => Region.binds md e && e.on == j
  | none => true
theorem waits_all (h : waitsB md ops L = true) {listed : Array Bool} (hz : listed.size = ops.size) (hr : L ∈ Region.ready md ops listed) {i : Nat} (hi : i ∈ Region.ready md ops listed) : i = L := by
  obtain ⟨hu, o, ho, hall⟩ := mem_ready.1 hr
  obtain ⟨hui, oi, hoi, -⟩ := mem_ready.1 hi
  unfold waitsB at h
  rw [ho] at h
  simp only at h
  rw [List.all_eq_true] at h
  have hil := (Array.getElem?_eq_some_iff.1 hoi).1
  have h1 := h i (List.mem_range.2 hil)
  rw [Bool.or_eq_true] at h1
  rcases h1 with h1 | h1
  · exact eq_of_beq h1
  · exfalso
    rw [List.any_eq_true] at h1
    obtain ⟨e, he, hb⟩ := h1
    rw [Bool.and_eq_true] at hb
    have h2 := hall e (by simpa using he) hb.1
    rw [eq_of_beq hb.2] at h2
    have hil2 : i < listed.size := by omega
    simp [hil2] at hui h2
    rw [hui] at h2; cases h2
theorem anyT_first {i : Nat} {oi : Oper} {v : Value} (hw : waitsB md ops L = true) (hiL : i ≠ L) (hi : ops[i]? = some oi) (hsel : ∀ (j : Nat) (o : Oper) cs b, ops[j]? = some o → o.op ≠ .select cs b)
    (hQ : ∀ c a w, Q (.panic c) (a.put oi.dst v) w → Q (.panic c) a w) :
    ∀ (k : Nat) (listed : Array Bool) (a : Act) (w : World), listed.size = ops.size →
      (∀ j oj, ops[j]? = some oj → j ≠ i → listed.getD j true = false → (∀ e ∈ oj.after, Region.binds md e = true → e.on ≠ i) → oi.apart ops oj = true) →
      i ∈ Region.ready md ops listed → YieldsIf P ops S oi v a → S w →
      wpAnyT P md ops Q S L k (listed.setIfInBounds i true) (a.put oi.dst v) w → wpAnyT P md ops Q S L (k + 1) listed a w := by
  intro k
  induction k with
  | zero =>
    intro listed a w hz _ hr hy hS H
    refine ⟨fun h => (by rw [h] at hr; cases hr), fun j hj => ?_⟩
    rcases Decidable.em (j = i) with rfl | hji
    · exact hy.wpOp hi hS ⟨.inr hS, H⟩
    · have h0 := ready_mono hj hji
      rw [H.1] at h0; cases h0
  | succ k ih =>
    intro listed a w hz hfree hr hy hS H
    refine ⟨fun h => (by rw [h] at hr; cases hr), fun j hj => ?_⟩
    rcases Decidable.em (j = i) with rfl | hji
    · exact hy.wpOp hi hS ⟨.inr hS, H⟩
    have hjL : j ≠ L := fun e => by subst e; exact hiL (waits_all hw hz hj hr)
    obtain ⟨hjun, oj, hoj, hall⟩ := mem_ready.1 hj
    have hnot : ∀ e ∈ oj.after, Region.binds md e = true → e.on ≠ i := fun e he hb heq => by
      have h1 := hall e he hb
      have h0 := (mem_ready.1 hr).1
      rw [heq] at h1
      have hil : i < listed.size := by rw [hz]; exact (Array.getElem?_eq_some_iff.1 hi).1
      simp [hil] at h0 h1
      rw [h0] at h1; cases h1
    have hput := wpOp_putIf hoj (hfree j oj hoj hji hjun hnot) (fun cs b => hsel i oi cs b hi) (fun cs b => hsel j oj cs b hoj) hQ hy (H.2 j (ready_mono hj hji))
    refine wpOp_mono (fun a' w' h3 => ?_) hput
    have hS' : S w' := h3.2.1.resolve_left hjL
    refine ⟨.inr hS', ih (listed.setIfInBounds j true) a' w' (by simp [hz]) ?_ (ready_mono hr (Ne.symm hji)) h3.1 hS' ?_⟩
    · intro x ox hx hxi hun hno
      refine hfree x ox hx hxi ?_ hno
      rcases Decidable.em (j = x) with rfl | hjx
      · exact hjun
      · rw [Go.getD_set_ne true hjx] at hun; exact hun
    · rw [Array.setIfInBounds_comm _ _ hji]
      exact h3.2.2
inductive PlanT where
  | done
  | last (i : Nat)
  | take (i : Nat) (p : PlanT)
  | one (i : Nat) (p : PlanT)
def planTB (ops : Array Oper) (L : Nat) : PlanT → Nat → Array Bool → Bool
  | .done, _, listed => (Region.ready .any ops listed).isEmpty
  | .last i, k + 1, listed => i == L && ((Region.ready .any ops listed == [i]) && (Region.ready .any ops (listed.setIfInBounds i true)).isEmpty)
  | .take i p, k + 1, listed => (i != L) && (Region.free .any ops listed i && ((Region.ready .any ops listed).contains i && planTB ops L p k (listed.setIfInBounds i true)))
  | .one i p, k + 1, listed => (Region.ready .any ops listed == [i]) && planTB ops L p k (listed.setIfInBounds i true)
  | _, 0, _ => false
def wpPlanT (P : Program) (ops : Array Oper) (Q : Exit → Act → World → Prop) (S : World → Prop) : PlanT → Act → World → Prop
  | .done, a, w => Q .normal a w
  | .last i, a, w => wpOp P ops Q i (fun a' w' => Q .normal a' w') a w
  | .take i p, a, w => ∃ o v, ops[i]? = some o ∧ YieldsIf P ops S o v a ∧ wpPlanT P ops Q S p (a.put o.dst v) w
  | .one i p, a, w => wpOp P ops Q i (fun a' w' => S w' ∧ wpPlanT P ops Q S p a' w') a w
theorem planT_any (hw : waitsB .any ops L = true) (hs : Region.noSelect ops = true) (hQ : ∀ c a d v w, Q (.panic c) (Act.put a d v) w → Q (.panic c) a w) : ∀ (pl : PlanT) (k : Nat) (listed : Array Bool) (a : Act) (w : World), listed.size = ops.size → planTB ops L pl k listed = true → S w → wpPlanT P ops Q S pl a w →
    wpAnyT P .any ops Q S L k listed a w
  | .done, 0, listed, a, w, hz, hB, hS, h => ⟨List.isEmpty_iff.1 hB, h⟩
  | .done, k + 1, listed, a, w, hz, hB, hS, h => by
    have hB : (Region.ready .any ops listed).isEmpty = true := hB
    rw [List.isEmpty_iff] at hB
    exact ⟨fun _ => h, by rw [hB]; simp⟩
  | .last i, 0, listed, a, w, hz, hB, hS, h => by simp [planTB] at hB
  | .take i p, 0, listed, a, w, hz, hB, hS, h => by simp [planTB] at hB
  | .one i p, 0, listed, a, w, hz, hB, hS, h => by simp [planTB] at hB
  | .last i, k + 1, listed, a, w, hz, hB, hS, h => by
    unfold planTB at hB
    rw [Bool.and_eq_true, Bool.and_eq_true] at hB
    have h1 := eq_of_beq hB.2.1
    refine ⟨fun h0 => (by rw [h0] at h1; cases h1), fun j hj => ?_⟩
    rw [h1, List.mem_singleton] at hj
    subst hj
    refine wpOp_mono (fun a' w' h' => ⟨.inl (eq_of_beq hB.1), ?_⟩) h
    have h2 := List.isEmpty_iff.1 hB.2.2
    cases k with
    | zero => exact ⟨h2, h'⟩
    | succ k => exact ⟨fun _ => h', by rw [h2]; simp⟩
  | .take i p, k + 1, listed, a, w, hz, hB, hS, h => by
    unfold planTB at hB
    rw [Bool.and_eq_true, Bool.and_eq_true, Bool.and_eq_true] at hB
    obtain ⟨o, v, ho, hy, h⟩ := h
    exact anyT_first hw (by simpa using hB.1) ho (Region.noSelect_spec hs) (fun c a w => hQ c a _ _ w) k listed a w hz (Region.free_spec ho hB.2.1) (by simpa using hB.2.2.1) hy hS (planT_any hw hs hQ p k _ _ _ (by simp [hz]) hB.2.2.2 hS h)
  | .one i p, k + 1, listed, a, w, hz, hB, hS, h => by
    unfold planTB at hB
    rw [Bool.and_eq_true] at hB
    have h1 := eq_of_beq hB.1
    refine ⟨fun h0 => (by rw [h0] at h1; cases h1), fun j hj => ?_⟩
    rw [h1, List.mem_singleton] at hj
    subst hj
    exact wpOp_mono (fun a' w' h' => ⟨.inr h'.1, planT_any hw hs hQ p k _ _ _ (by simp [hz]) hB.2 h'.1 h'.2⟩) h
theorem wp_region_planT {id : Nat} {a : Act} {w : World} (L : Nat) (pl : PlanT) (S : World → Prop) (hm : P.follows .mixedOrders = true) (hs : Region.noSelect ops = true) (hB : (waitsB .any ops L && planTB ops L pl ops.size (Array.replicate ops.size false)) = true)
    (hQ : ∀ c a d v w, Q (.panic c) (Act.put a d v) w → Q (.panic c) a w) (hS : S w.drew) (h : wpPlanT P ops Q S pl a w.drew) : (Code.region id ops true).wp P Q a w := by
  rw [Bool.and_eq_true] at hB
  exact wp_region_any hm (anyT_any _ _ _ _ (planT_any hB.1 hs hQ pl _ _ a w.drew (by simp) hB.2 hS h))
theorem wpIn_region_planT {l n id : Nat} {a : Act} {w : World} (L : Nat) (pl : PlanT) (S : World → Prop) (hm : P.follows .mixedOrders = true) (hd : noDefer ops = true) (hs : Region.noSelect ops = true) (hq : ¬ LetsOut Q) (hB : (waitsB .any ops L && planTB ops L pl ops.size (Array.replicate ops.size false)) = true)
    (hQ : ∀ c a d v w, Q (.panic c) (Act.put a d v) w → Q (.panic c) a w) (hS : S w.drew) (h : wpPlanT P ops Q S pl a w.drew) : (Code.region id ops true).wpIn (Fence.wide.inRound l) n P Q a w := by
  rw [Bool.and_eq_true] at hB
  exact wpIn_region_any hm (wpAnyIn_of (noDefer_spec hd) hq _ _ _ _ (anyT_any _ _ _ _ (planT_any hB.1 hs hQ pl _ _ a w.drew (by simp) hB.2 hS h)))
theorem planT_quiet {i : Nat} {p : PlanT} {o : Oper} {v : Value} {a : Act} {w : World} (ho : ops.toList[i]? = some o) (hw : Region.wanted o (yielded ops a.tmps) = true) (hy : ∀ w1, S w1 → (execOp a.eval o).run P w1 = .ok (.value v) w1)
    (h : wpPlanT P ops Q S p (a.put o.dst v) w) : wpPlanT P ops Q S (.take i p) a w :=
  ⟨o, v, by rw [← Array.getElem?_toList]; exact ho, .inl ⟨hw, hy⟩, h⟩
theorem planT_skip {i : Nat} {p : PlanT} {o : Oper} {a : Act} {w : World} (ho : ops.toList[i]? = some o) (hw : Region.wanted o (yielded ops a.tmps) = false)
    (h : wpPlanT P ops Q S p (a.put o.dst undef) w) : wpPlanT P ops Q S (.take i p) a w :=
  ⟨o, undef, by rw [← Array.getElem?_toList]; exact ho, .inr ⟨hw, rfl⟩, h⟩
theorem planT_step {i : Nat} {p : PlanT} {o : Oper} {a : Act} {w : World} (ho : ops.toList[i]? = some o)
    (h : ∀ K : Act → World → Prop, Shut (∀ a w, S w → wpPlanT P ops Q S p a w → K a w) → if Region.wanted o (yielded ops a.tmps) = true then Oper.wp P o a w K Q else K (a.put o.dst undef) w) : wpPlanT P ops Q S (.one i p) a w :=
  wpOp_step (by rw [← Array.getElem?_toList]; exact ho) (fun K' hK => h K' (fun a w hS hW => hK a w ⟨hS, hW⟩))
theorem planT_last {i : Nat} {o : Oper} {a : Act} {w : World} (ho : ops.toList[i]? = some o)
    (h : ∀ K : Act → World → Prop, Shut (∀ a w, Q .normal a w → K a w) → if Region.wanted o (yielded ops a.tmps) = true then Oper.wp P o a w K Q else K (a.put o.dst undef) w) : wpPlanT P ops Q S (.last i) a w :=
  wpOp_step (by rw [← Array.getElem?_toList]; exact ho) (fun K' hK => h K' hK)
theorem planT_end {a : Act} {w : World} (h : Q .normal a w) : wpPlanT P ops Q S .done a w := h
end
end Go.Proofs.YtdijlofcgcikjaaDoor
