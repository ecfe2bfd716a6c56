/-
  A region that draws its order, by a plan: the operations that only read (their values the same in every world that meets S) are taken where they stand in the plan; each of the others waits for all ahead of it, so it comes up alone. Plain rules for every program.
-/
import Derived.Test.YtddkedinkgnboaaBridge
import Derived.Deep.RegionHeld3
namespace Go.Proofs.Ytddkedinkgnboaa
open Go.RowKit Go.Shelf
set_option linter.unusedVariables false

section
variable {P : Program} {ops : Array Oper} {Q : Exit → Act → World → Prop} {S : World → Prop}
inductive Plan where
  | done
  | take (i : Nat) (p : Plan)
  | one (i : Nat) (p : Plan)
  | two (i j : Nat) (p q : Plan)
/-- is it a plan? take: operation i may be taken first; one: it alone may come up; two: one of two may -/
def planB (ops : Array Oper) : Plan → Nat → Array Bool → Bool
  | .done, k, listed => k == 0 && (Region.ready .any ops listed).isEmpty
  | .take i p, k + 1, listed => Region.free .any ops listed i && ((Region.ready .any ops listed).contains i && planB ops p k (listed.setIfInBounds i true))
  | .one i p, k + 1, listed => (Region.ready .any ops listed == [i]) && planB ops p k (listed.setIfInBounds i true)
  | .two i j p q, k + 1, listed => (Region.ready .any ops listed == [i, j]) && (planB ops p k (listed.setIfInBounds i true) && planB ops q k (listed.setIfInBounds j true))
  | _, 0, _ => false
def wpPlan (P : Program) (ops : Array Oper) (Q : Exit → Act → World → Prop) (S : World → Prop) : Plan → Act → World → Prop
  | .done, a, w => Q .normal a w
  | .take i p, a, w => ∃ o v, ops[i]? = some o ∧ YieldsIf P ops S o v a ∧ wpPlan P ops Q S p (a.put o.dst v) w
  | .one i p, a, w => wpOp P ops Q i (fun a' w' => S w' ∧ wpPlan P ops Q S p a' w') a w
  | .two i j p q, a, w => wpOp P ops Q i (fun a' w' => S w' ∧ wpPlan P ops Q S p a' w') a w ∧ wpOp P ops Q j (fun a' w' => S w' ∧ wpPlan P ops Q S q a' w') a w
theorem plan_any (hs : Region.noSelect ops = true) (hQ : ∀ c a d v w, Q (.panic c) (Act.put a d v) w → Q (.panic c) a w) : ∀ (pl : Plan) (k : Nat) (listed : Array Bool) (a : Act) (w : World), planB ops pl k listed = true → S w → wpPlan P ops Q S pl a w →
    wpAnyH P .any ops Q S k listed a w
  | .done, k, listed, a, w, hB, hS, h => by
    unfold planB at hB
    rw [Bool.and_eq_true] at hB
    exact wpAnyH_done (List.isEmpty_iff.1 hB.2) h k
  | .take i p, 0, listed, a, w, hB, hS, h => by simp [planB] at hB
  | .one i p, 0, listed, a, w, hB, hS, h => by simp [planB] at hB
  | .two i j p q, 0, listed, a, w, hB, hS, h => by simp [planB] at hB
  | .take i p, k + 1, listed, a, w, hB, hS, h => by
    unfold planB at hB
    rw [Bool.and_eq_true, Bool.and_eq_true] at hB
    obtain ⟨o, v, ho, hy, h⟩ := h
    exact wpAnyH_take ho hs hB.1 hB.2.1 (fun c a w => hQ c a _ _ w) hy hS (plan_any hs hQ p k _ _ _ hB.2.2 hS h)
  | .one i p, k + 1, listed, a, w, hB, hS, h => by
    unfold planB at hB
    rw [Bool.and_eq_true] at hB
    refine wpAnyH_all (eq_of_beq hB.1) (by simp) (fun j hj => ?_)
    rw [List.mem_singleton] at hj
    subst hj
    exact wpOp_mono (fun a' w' h' => ⟨h'.1, plan_any hs hQ p k _ _ _ hB.2 h'.1 h'.2⟩) h
  | .two i j p q, k + 1, listed, a, w, hB, hS, h => by
    unfold planB at hB
    rw [Bool.and_eq_true, Bool.and_eq_true] at hB
    refine wpAnyH_all (eq_of_beq hB.1) (by simp) (fun x hx => ?_)
    rw [List.mem_cons, List.mem_singleton] at hx
    rcases hx with rfl | rfl
    · exact wpOp_mono (fun a' w' h' => ⟨h'.1, plan_any hs hQ p k _ _ _ hB.2.1 h'.1 h'.2⟩) h.1
    · exact wpOp_mono (fun a' w' h' => ⟨h'.1, plan_any hs hQ q k _ _ _ hB.2.2 h'.1 h'.2⟩) h.2
theorem wp_region_plan {id : Nat} {a : Act} {w : World} (pl : Plan) (S : World → Prop) (hm : P.follows .mixedOrders = true) (hs : Region.noSelect ops = true) (hB : planB ops pl ops.size (Array.replicate ops.size false) = true)
    (hQ : ∀ c a d v w, Q (.panic c) (Act.put a d v) w → Q (.panic c) a w) (hS : S w.drew) (h : wpPlan P ops Q S pl a w.drew) : (Code.region id ops true).wp P Q a w :=
  wp_region_held hm (plan_any hs hQ pl _ _ a w.drew hB hS h)
theorem wpIn_region_plan {l n id : Nat} {a : Act} {w : World} (pl : Plan) (S : World → Prop) (hm : P.follows .mixedOrders = true) (hd : noDefer ops = true) (hs : Region.noSelect ops = true) (hq : ¬ LetsOut Q) (hB : planB ops pl ops.size (Array.replicate ops.size false) = true)
    (hQ : ∀ c a d v w, Q (.panic c) (Act.put a d v) w → Q (.panic c) a w) (hS : S w.drew) (h : wpPlan P ops Q S pl a w.drew) : (Code.region id ops true).wpIn (Fence.wide.inRound l) n P Q a w :=
  wpIn_region_held S hm hd hq hS (fun _ => plan_any hs hQ pl _ _ a w.drew hB hS h)
theorem plan_quiet {i : Nat} {p : Plan} {o : Oper} {v : Value} {a : Act} {w : World} (ho : ops.toList[i]? = some o) (hw : Region.wanted o (yielded ops a.tmps) = true) (hy : ∀ w1, S w1 → (execOp a.eval o).run P w1 = .ok (.value v) w1)
    (h : wpPlan P ops Q S p (a.put o.dst v) w) : wpPlan P ops Q S (.take i p) a w :=
  ⟨o, v, by rw [← Array.getElem?_toList]; exact ho, .inl ⟨hw, hy⟩, h⟩
theorem plan_skip {i : Nat} {p : Plan} {o : Oper} {a : Act} {w : World} (ho : ops.toList[i]? = some o) (hw : Region.wanted o (yielded ops a.tmps) = false)
    (h : wpPlan P ops Q S p (a.put o.dst undef) w) : wpPlan P ops Q S (.take i p) a w :=
  ⟨o, undef, by rw [← Array.getElem?_toList]; exact ho, .inr ⟨hw, rfl⟩, h⟩
theorem plan_step {i : Nat} {p : Plan} {o : Oper} {a : Act} {w : World} (ho : ops.toList[i]? = some o)
    (h : ∀ K : Act → World → Prop, Shut (∀ a w, S w → wpPlan P ops Q S p a w → K a w) → if Region.wanted o (yielded ops a.tmps) = true then Oper.wp P o a w K Q else K (a.put o.dst undef) w) : wpPlan P ops Q S (.one i p) a w :=
  wpOp_step (by rw [← Array.getElem?_toList]; exact ho) (fun K' hK => h K' (fun a w hS hW => hK a w ⟨hS, hW⟩))
theorem plan_fork {i j : Nat} {p q : Plan} {o o2 : Oper} {a : Act} {w : World} (ho : ops.toList[i]? = some o) (ho2 : ops.toList[j]? = some o2)
    (h : ∀ K : Act → World → Prop, Shut (∀ a w, S w → wpPlan P ops Q S p a w → K a w) → if Region.wanted o (yielded ops a.tmps) = true then Oper.wp P o a w K Q else K (a.put o.dst undef) w)
    (h2 : ∀ K : Act → World → Prop, Shut (∀ a w, S w → wpPlan P ops Q S q a w → K a w) → if Region.wanted o2 (yielded ops a.tmps) = true then Oper.wp P o2 a w K Q else K (a.put o2.dst undef) w) : wpPlan P ops Q S (.two i j p q) a w :=
  ⟨wpOp_step (by rw [← Array.getElem?_toList]; exact ho) (fun K' hK => h K' (fun a w hS hW => hK a w ⟨hS, hW⟩)), wpOp_step (by rw [← Array.getElem?_toList]; exact ho2) (fun K' hK => h2 K' (fun a w hS hW => hK a w ⟨hS, hW⟩))⟩
theorem plan_end {a : Act} {w : World} (h : Q .normal a w) : wpPlan P ops Q S .done a w := h
end
end Go.Proofs.Ytddkedinkgnboaa
