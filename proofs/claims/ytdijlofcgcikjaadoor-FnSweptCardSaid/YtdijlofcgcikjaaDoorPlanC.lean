/-
  A region that draws its order, with a send or a receive of one goroutine in it, by a plan. Plain rules for every program, no condition but those in each premise.
-/
import Derived.Test.YtdijlofcgcikjaaDoorRegA
import Derived.Test.YtdijlofcgcikjaaDoorPkD
namespace Go.Proofs.YtdijlofcgcikjaaDoor
open Go.RowKit Go.Conc Go.Shelf
set_option linter.unusedVariables false

/-- a communication that one goroutine does alone: what it yields, and the world behind it -/
inductive LoneComm : World → Array CommCase → Bool → CommShape → Value → World → Prop
  | send {w : World} {c cap s r : Nat} {buf : Array Value} {z v : Value} {tm : Bool} (hc : w.heap[c]? = some (.chan cap buf false s r tm)) (hroom : buf.size < cap) : LoneComm w #[scase c v z] true .send undef (w.setChan c cap (buf.push v) false (s + 1) r tm)
  | recv {w : World} {c cap s r : Nat} {buf : Array Value} {z : Value} {tm closed : Bool} (hc : w.heap[c]? = some (.chan cap buf closed s r tm)) (hsome : 0 < buf.size) : LoneComm w #[rcase c z] true (.recv false) (buf.getD 0 undef) (w.setChan c cap (buf.extract 1 buf.size) closed s (r + 1) tm)
section
variable {P : Program} {ops : Array Oper} {Q : Exit → Act → World → Prop} {S : World → Prop} {md : Region.Mode} {L : Nat}
def cStep (P : Program) (ops : Array Oper) (i : Nat) (K : Act → World → Prop) (a : Act) (w : World) : Prop :=
  ∃ o, ops[i]? = some o ∧ Region.wanted o (yielded ops a.tmps) = true ∧
    ((∃ u w', (execOp a.eval o).run P w = .ok (.value u) w' ∧ K (a.put o.dst u) w') ∨ (∃ w', (execOp a.eval o).run P w = .ok .skip w' ∧ K (a.put o.dst undef) w') ∨
      ∃ cs b sh u w', (execOp a.eval o).run P w = .ok (.comm cs b sh) w ∧ LoneComm w cs b sh u w' ∧ K (a.put o.dst u) w')
theorem cStep_mono {i : Nat} {K K' : Act → World → Prop} {a : Act} {w : World} (h : ∀ a w, K a w → K' a w) (hh : cStep P ops i K a w) : cStep P ops i K' a w := by
  obtain ⟨o, ho, hw, hh⟩ := hh
  refine ⟨o, ho, hw, ?_⟩
  rcases hh with ⟨u, w', h1, h2⟩ | ⟨w', h1, h2⟩ | ⟨cs, b, sh, u, w', h1, h2, h3⟩
  · exact .inl ⟨u, w', h1, h _ _ h2⟩
  · exact .inr (.inl ⟨w', h1, h _ _ h2⟩)
  · exact .inr (.inr ⟨cs, b, sh, u, w', h1, h2, h _ _ h3⟩)
theorem cStep_to {i : Nat} {K : Act → World → Prop} {a : Act} {w : World} (h : cStep P ops i K a w) : StepTo P ops Q i K a w := by
  intro rest hrest
  obtain ⟨o, ho, hw, h⟩ := h
  rcases h with ⟨u, w', h1, h2⟩ | ⟨w', h1, h2⟩ | ⟨cs, b, sh, u, w', h1, h2, h3⟩
  · exact RegTo.value ho hw h1 (hrest _ _ h2)
  · exact RegTo.skip ho hw h1 (hrest _ _ h2)
  · cases h2 with
    | send hc hroom => exact RegTo.send ho hw h1 hc hroom (hrest _ _ h3)
    | recv hc hsome => exact RegTo.recv ho hw h1 hc hsome (hrest _ _ h3)
def QuietAt (P : Program) (ops : Array Oper) (S : World → Prop) (o : Oper) (v : Value) (a : Act) : Prop :=
  Region.wanted o (yielded ops a.tmps) = true ∧ ∀ w, S w → (execOp a.eval o).run P w = .ok (.value v) w
theorem QuietAt.step {i : Nat} {o : Oper} {v : Value} {a : Act} (hi : ops[i]? = some o) (hy : QuietAt P ops S o v a) {K : Act → World → Prop} {w : World} (hS : S w) (h : K (a.put o.dst v) w) : cStep P ops i K a w :=
  ⟨o, hi, hy.1, .inl ⟨v, w, hy.2 w hS, h⟩⟩
theorem cStep_put {j : Nat} {oi oj : Oper} {v : Value} (hj : ops[j]? = some oj) (hap : oi.apart ops oj = true) (hsi : ∀ cs b, oi.op ≠ .select cs b) (hsj : ∀ cs b, oj.op ≠ .select cs b) {K : Act → World → Prop} {a : Act} {w : World}
    (hy : QuietAt P ops S oi v a) (h : cStep P ops j K (a.put oi.dst v) w) : cStep P ops j (fun a' w' => QuietAt P ops S oi v a' ∧ K (a'.put oi.dst v) w') a w := by
  obtain ⟨h1, h2, h3⟩ := Oper.apart_spec hap
  have keep : ∀ u, QuietAt P ops S oi v (a.put oj.dst u) := fun u => by
    unfold QuietAt at hy ⊢
    rw [execOp_put oi hsi a oj.dst u h3, wanted_put oi a oj.dst u h3]
    exact hy
  obtain ⟨o, ho, hw, h⟩ := h
  rw [hj] at ho; injection ho with ho; subst ho
  rw [wanted_put oj a oi.dst v h1] at hw
  rw [execOp_put oj hsj a oi.dst v h1] at h
  refine ⟨oj, hj, hw, ?_⟩
  rcases h with ⟨u, w', e1, e2⟩ | ⟨w', e1, e2⟩ | ⟨cs, b, sh, u, w', e1, e2, e3⟩
  · exact .inl ⟨u, w', e1, keep u, by rw [← Act.put_comm a v u h2]; exact e2⟩
  · exact .inr (.inl ⟨w', e1, keep undef, by rw [← Act.put_comm a v undef h2]; exact e2⟩)
  · exact .inr (.inr ⟨cs, b, sh, u, w', e1, e2, keep u, by rw [← Act.put_comm a v u h2]; exact e3⟩)
def wpAnyC (P : Program) (md : Region.Mode) (ops : Array Oper) (Q : Exit → Act → World → Prop) (S : World → Prop) (L : Nat) : Nat → Array Bool → Act → World → Prop
  | 0, listed, a, w => Region.ready md ops listed = [] ∧ Q .normal a w
  | k + 1, listed, a, w => (Region.ready md ops listed = [] → Q .normal a w) ∧ ∀ i ∈ Region.ready md ops listed, cStep P ops i (fun a' w' => (i = L ∨ S w') ∧ wpAnyC P md ops Q S L k (listed.setIfInBounds i true) a' w') a w
theorem anyC_first {i : Nat} {oi : Oper} {v : Value} (hw : waitsB md ops L = true) (hiL : i ≠ L) (hi : ops[i]? = some oi) (hsel : ∀ (j : Nat) (o : Oper) cs b, ops[j]? = some o → o.op ≠ .select cs b) :
    ∀ (k : Nat) (listed : Array Bool) (a : Act) (w : World), listed.size = ops.size →
      (∀ j oj, ops[j]? = some oj → j ≠ i → listed.getD j true = false → (∀ e ∈ oj.after, Region.binds md e = true → e.on ≠ i) → oi.apart ops oj = true) →
      i ∈ Region.ready md ops listed → QuietAt P ops S oi v a → S w →
      wpAnyC P md ops Q S L k (listed.setIfInBounds i true) (a.put oi.dst v) w → wpAnyC P md ops Q S L (k + 1) listed a w := by
  intro k
  induction k with
  | zero =>
    intro listed a w hz _ hr hy hS H
    refine ⟨fun h => (by rw [h] at hr; cases hr), fun j hj => ?_⟩
    rcases Decidable.em (j = i) with rfl | hji
    · exact hy.step hi hS ⟨.inr hS, H⟩
    · have h0 := ready_mono hj hji
      rw [H.1] at h0; cases h0
  | succ k ih =>
    intro listed a w hz hfree hr hy hS H
    refine ⟨fun h => (by rw [h] at hr; cases hr), fun j hj => ?_⟩
    rcases Decidable.em (j = i) with rfl | hji
    · exact hy.step hi hS ⟨.inr hS, H⟩
    have hjL : j ≠ L := fun e => by subst e; exact hiL (waits_all hw hz hj hr)
    obtain ⟨hjun, oj, hoj, hall⟩ := mem_ready.1 hj
    have hnot : ∀ e ∈ oj.after, Region.binds md e = true → e.on ≠ i := fun e he hb heq => by
      have h1 := hall e he hb
      have h0 := (mem_ready.1 hr).1
      rw [heq] at h1
      have hil : i < listed.size := by rw [hz]; exact (Array.getElem?_eq_some_iff.1 hi).1
      simp [hil] at h0 h1
      rw [h0] at h1; cases h1
    have hput := cStep_put hoj (hfree j oj hoj hji hjun hnot) (fun cs b => hsel i oi cs b hi) (fun cs b => hsel j oj cs b hoj) hy (H.2 j (ready_mono hj hji))
    refine cStep_mono (fun a' w' h3 => ?_) hput
    have hS' : S w' := h3.2.1.resolve_left hjL
    refine ⟨.inr hS', ih (listed.setIfInBounds j true) a' w' (by simp [hz]) ?_ (ready_mono hr (Ne.symm hji)) h3.1 hS' ?_⟩
    · intro x ox hx hxi hun hno
      refine hfree x ox hx hxi ?_ hno
      rcases Decidable.em (j = x) with rfl | hjx
      · exact hjun
      · rw [Go.getD_set_ne true hjx] at hun; exact hun
    · rw [Array.setIfInBounds_comm _ _ hji]
      exact h3.2.2
def wpPlanC (P : Program) (ops : Array Oper) (Q : Exit → Act → World → Prop) (S : World → Prop) : PlanT → Act → World → Prop
  | .done, a, w => Q .normal a w
  | .last i, a, w => cStep P ops i (fun a' w' => Q .normal a' w') a w
  | .take i p, a, w => ∃ o v, ops[i]? = some o ∧ QuietAt P ops S o v a ∧ wpPlanC P ops Q S p (a.put o.dst v) w
  | .one i p, a, w => cStep P ops i (fun a' w' => S w' ∧ wpPlanC P ops Q S p a' w') a w
theorem planC_any (hw : waitsB .any ops L = true) (hs : Region.noSelect ops = true) : ∀ (pl : PlanT) (k : Nat) (listed : Array Bool) (a : Act) (w : World), listed.size = ops.size → planTB ops L pl k listed = true → S w → wpPlanC P ops Q S pl a w →
    wpAnyC P .any ops Q S L k listed a w
  | .done, 0, listed, a, w, hz, hB, hS, h => ⟨List.isEmpty_iff.1 hB, h⟩
  | .done, k + 1, listed, a, w, hz, hB, hS, h => by
    have hB : (Region.ready .any ops listed).isEmpty = true := hB
    rw [List.isEmpty_iff] at hB
    exact ⟨fun _ => h, by rw [hB]; simp⟩
  | .last i, 0, listed, a, w, hz, hB, hS, h => by simp [planTB] at hB
  | .take i p, 0, listed, a, w, hz, hB, hS, h => by simp [planTB] at hB
  | .one i p, 0, listed, a, w, hz, hB, hS, h => by simp [planTB] at hB
  | .last i, k + 1, listed, a, w, hz, hB, hS, h => by
    unfold planTB at hB
    rw [Bool.and_eq_true, Bool.and_eq_true] at hB
    have h1 := eq_of_beq hB.2.1
    refine ⟨fun h0 => (by rw [h0] at h1; cases h1), fun j hj => ?_⟩
    rw [h1, List.mem_singleton] at hj
    subst hj
    refine cStep_mono (fun a' w' h' => ⟨.inl (eq_of_beq hB.1), ?_⟩) h
    have h2 := List.isEmpty_iff.1 hB.2.2
    cases k with
    | zero => exact ⟨h2, h'⟩
    | succ k => exact ⟨fun _ => h', by rw [h2]; simp⟩
  | .take i p, k + 1, listed, a, w, hz, hB, hS, h => by
    unfold planTB at hB
    rw [Bool.and_eq_true, Bool.and_eq_true, Bool.and_eq_true] at hB
    obtain ⟨o, v, ho, hy, h⟩ := h
    exact anyC_first hw (by simpa using hB.1) ho (Region.noSelect_spec hs) k listed a w hz (Region.free_spec ho hB.2.1) (by simpa using hB.2.2.1) hy hS (planC_any hw hs p k _ _ _ (by simp [hz]) hB.2.2.2 hS h)
  | .one i p, k + 1, listed, a, w, hz, hB, hS, h => by
    unfold planTB at hB
    rw [Bool.and_eq_true] at hB
    have h1 := eq_of_beq hB.1
    refine ⟨fun h0 => (by rw [h0] at h1; cases h1), fun j hj => ?_⟩
    rw [h1, List.mem_singleton] at hj
    subst hj
    exact cStep_mono (fun a' w' h' => ⟨.inr h'.1, planC_any hw hs p k _ _ _ (by simp [hz]) hB.2 h'.1 h'.2⟩) h
theorem wp_region_planC {id : Nat} {a : Act} {w : World} (L : Nat) (pl : PlanT) (S : World → Prop) (hm : P.follows .mixedOrders = true) (hs : Region.noSelect ops = true) (hB : (waitsB .any ops L && planTB ops L pl ops.size (Array.replicate ops.size false)) = true)
    (hS : S w.drew) (h : wpPlanC P ops Q S pl a w.drew) : (Code.region id ops true).wp P Q a w := by
  rw [Bool.and_eq_true] at hB
  refine wp_region_inv (fun listed a w => ∃ k, wpAnyC P .any ops Q S L k listed a w) hm ?_ ?_ ⟨_, planC_any hB.1 hs pl _ _ a w.drew (by simp) hB.2 hS h⟩
  · rintro listed a w ⟨k, hk⟩ i hi
    cases k with
    | zero => rw [hk.1] at hi; cases hi
    | succ k => exact cStep_to (cStep_mono (fun a' w' h' => ⟨k, h'.2⟩) (hk.2 i hi))
  · rintro listed a w ⟨k, hk⟩ hr
    cases k with
    | zero => exact hk.2
    | succ k => exact hk.1 hr
theorem planC_quiet {i : Nat} {p : PlanT} {o : Oper} {v : Value} {a : Act} {w : World} (ho : ops.toList[i]? = some o) (hw : Region.wanted o (yielded ops a.tmps) = true) (hy : ∀ w1, S w1 → (execOp a.eval o).run P w1 = .ok (.value v) w1)
    (h : wpPlanC P ops Q S p (a.put o.dst v) w) : wpPlanC P ops Q S (.take i p) a w :=
  ⟨o, v, by rw [← Array.getElem?_toList]; exact ho, ⟨hw, hy⟩, h⟩
theorem planC_value {i : Nat} {p : PlanT} {o : Oper} {u : Value} {a : Act} {w w' : World} (ho : ops.toList[i]? = some o) (hw : Region.wanted o (yielded ops a.tmps) = true) (hr : (execOp a.eval o).run P w = .ok (.value u) w') (hS : S w')
    (h : wpPlanC P ops Q S p (a.put o.dst u) w') : wpPlanC P ops Q S (.one i p) a w :=
  ⟨o, by rw [← Array.getElem?_toList]; exact ho, hw, .inl ⟨u, w', hr, hS, h⟩⟩
theorem planC_comm {i : Nat} {p : PlanT} {o : Oper} {u : Value} {cs : Array CommCase} {b : Bool} {sh : CommShape} {a : Act} {w w' : World} (ho : ops.toList[i]? = some o) (hw : Region.wanted o (yielded ops a.tmps) = true) (hr : (execOp a.eval o).run P w = .ok (.comm cs b sh) w) (hc : LoneComm w cs b sh u w') (hS : S w')
    (h : wpPlanC P ops Q S p (a.put o.dst u) w') : wpPlanC P ops Q S (.one i p) a w :=
  ⟨o, by rw [← Array.getElem?_toList]; exact ho, hw, .inr (.inr ⟨cs, b, sh, u, w', hr, hc, hS, h⟩)⟩
theorem planC_lastComm {i : Nat} {o : Oper} {u : Value} {cs : Array CommCase} {b : Bool} {sh : CommShape} {a : Act} {w w' : World} (ho : ops.toList[i]? = some o) (hw : Region.wanted o (yielded ops a.tmps) = true) (hr : (execOp a.eval o).run P w = .ok (.comm cs b sh) w) (hc : LoneComm w cs b sh u w')
    (h : Q .normal (a.put o.dst u) w') : wpPlanC P ops Q S (.last i) a w :=
  ⟨o, by rw [← Array.getElem?_toList]; exact ho, hw, .inr (.inr ⟨cs, b, sh, u, w', hr, hc, h⟩)⟩
theorem planC_lastSkip {i : Nat} {o : Oper} {a : Act} {w w' : World} (ho : ops.toList[i]? = some o) (hw : Region.wanted o (yielded ops a.tmps) = true) (hr : (execOp a.eval o).run P w = .ok .skip w')
    (h : Q .normal (a.put o.dst undef) w') : wpPlanC P ops Q S (.last i) a w :=
  ⟨o, by rw [← Array.getElem?_toList]; exact ho, hw, .inr (.inl ⟨w', hr, h⟩)⟩
end
end Go.Proofs.YtdijlofcgcikjaaDoor
