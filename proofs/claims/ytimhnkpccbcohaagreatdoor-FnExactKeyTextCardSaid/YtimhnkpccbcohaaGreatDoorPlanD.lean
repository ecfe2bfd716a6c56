/-
  A region that draws its order, by a plan whose last operation waits for each quiet one itself, for the others through these. Plain rules for every program.
-/
import Derived.Test.YtimhnkpccbcohaaGreatDoorPkI
namespace Go.Proofs.YtimhnkpccbcohaaGreatDoor
open Go.RowKit Go.Shelf Go.Conc
set_option linter.unusedVariables false
set_option linter.unusedSimpArgs false

section
variable {P : Program} {ops : Array Oper} {Q : Exit → Act → World → Prop} {S : World → Prop} {md : Region.Mode} {L : Nat}
/-- L waits for i itself -/
def waitsOn (md : Region.Mode) (ops : Array Oper) (L i : Nat) : Bool := match ops[L]? with
  | some o => o.after.toList.any fun e => Region.binds md e && e.on == i
  | none => true
theorem waitsOn_no {i : Nat} (h : waitsOn md ops L i = true) (hiL : i ≠ L) {listed : Array Bool} (hz : listed.size = ops.size) (hr : L ∈ Region.ready md ops listed) (hi : i ∈ Region.ready md ops listed) : False := by
  obtain ⟨hu, o, ho, hall⟩ := mem_ready.1 hr
  obtain ⟨hui, oi, hoi, -⟩ := mem_ready.1 hi
  unfold waitsOn at h
  rw [ho] at h
  simp only at h
  have hil := (Array.getElem?_eq_some_iff.1 hoi).1
  rw [List.any_eq_true] at h
  obtain ⟨e, he, hb⟩ := h
  rw [Bool.and_eq_true] at hb
  have h2 := hall e (by simpa using he) hb.1
  rw [eq_of_beq hb.2] at h2
  have hil2 : i < listed.size := by omega
  simp [hil2] at hui h2
  rw [hui] at h2; cases h2
def planDB (ops : Array Oper) (L : Nat) : PlanT → Nat → Array Bool → Bool
  | .done, _, listed => (Region.ready .any ops listed).isEmpty
  | .last i, k + 1, listed => i == L && ((Region.ready .any ops listed == [i]) && (Region.ready .any ops (listed.setIfInBounds i true)).isEmpty)
  | .take i p, k + 1, listed => (i != L) && (waitsOn .any ops L i && (Region.free .any ops listed i && ((Region.ready .any ops listed).contains i && planDB ops L p k (listed.setIfInBounds i true))))
  | .one i p, k + 1, listed => (Region.ready .any ops listed == [i]) && planDB ops L p k (listed.setIfInBounds i true)
  | _, 0, _ => false
theorem anyD_first {i : Nat} {oi : Oper} {v : Value} (hw : waitsOn md ops L i = true) (hiL : i ≠ L) (hi : ops[i]? = some oi) (hsel : ∀ (j : Nat) (o : Oper) cs b, ops[j]? = some o → o.op ≠ .select cs b) :
    ∀ (k : Nat) (listed : Array Bool) (a : Act) (w : World), listed.size = ops.size →
      (∀ j oj, ops[j]? = some oj → j ≠ i → listed.getD j true = false → (∀ e ∈ oj.after, Region.binds md e = true → e.on ≠ i) → oi.apart ops oj = true) →
      i ∈ Region.ready md ops listed → QuietAt P ops S oi v a → S w →
      wpAnyC P md ops Q S L k (listed.setIfInBounds i true) (a.put oi.dst v) w → wpAnyC P md ops Q S L (k + 1) listed a w := by
  intro k
  induction k with
  | zero =>
    intro listed a w hz _ hr hy hS H
    refine ⟨fun h => (by rw [h] at hr; cases hr), fun j hj => ?_⟩
    rcases Decidable.em (j = i) with rfl | hji
    · exact hy.step hi hS ⟨.inr hS, H⟩
    · have h0 := ready_mono hj hji
      rw [H.1] at h0; cases h0
  | succ k ih =>
    intro listed a w hz hfree hr hy hS H
    refine ⟨fun h => (by rw [h] at hr; cases hr), fun j hj => ?_⟩
    rcases Decidable.em (j = i) with rfl | hji
    · exact hy.step hi hS ⟨.inr hS, H⟩
    have hjL : j ≠ L := fun e => by subst e; exact waitsOn_no hw hiL hz hj hr
    obtain ⟨hjun, oj, hoj, hall⟩ := mem_ready.1 hj
    have hnot : ∀ e ∈ oj.after, Region.binds md e = true → e.on ≠ i := fun e he hb heq => by
      have h1 := hall e he hb
      have h0 := (mem_ready.1 hr).1
      rw [heq] at h1
      have hil : i < listed.size := by rw [hz]; exact (Array.getElem?_eq_some_iff.1 hi).1
      simp [hil] at h0 h1
      rw [h0] at h1; cases h1
    have hput := cStep_put hoj (hfree j oj hoj hji hjun hnot) (fun cs b => hsel i oi cs b hi) (fun cs b => hsel j oj cs b hoj) hy (H.2 j (ready_mono hj hji))
    refine cStep_mono (fun a' w' h3 => ?_) hput
    have hS' : S w' := h3.2.1.resolve_left hjL
    refine ⟨.inr hS', ih (listed.setIfInBounds j true) a' w' (by simp [hz]) ?_ (ready_mono hr (Ne.symm hji)) h3.1 hS' ?_⟩
    · intro x ox hx hxi hun hno
      refine hfree x ox hx hxi ?_ hno
      rcases Decidable.em (j = x) with rfl | hjx
      · exact hjun
      · rw [Go.getD_set_ne true hjx] at hun; exact hun
    · rw [Array.setIfInBounds_comm _ _ hji]
      exact h3.2.2
theorem planD_any (hs : Region.noSelect ops = true) : ∀ (pl : PlanT) (k : Nat) (listed : Array Bool) (a : Act) (w : World), listed.size = ops.size → planDB ops L pl k listed = true → S w → wpPlanC P ops Q S pl a w →
    wpAnyC P .any ops Q S L k listed a w
  | .done, 0, listed, a, w, hz, hB, hS, h => ⟨List.isEmpty_iff.1 hB, h⟩
  | .done, k + 1, listed, a, w, hz, hB, hS, h => by
    have hB : (Region.ready .any ops listed).isEmpty = true := hB
    rw [List.isEmpty_iff] at hB
    exact ⟨fun _ => h, by rw [hB]; simp⟩
  | .last i, 0, listed, a, w, hz, hB, hS, h => by simp [planDB] at hB
  | .take i p, 0, listed, a, w, hz, hB, hS, h => by simp [planDB] at hB
  | .one i p, 0, listed, a, w, hz, hB, hS, h => by simp [planDB] at hB
  | .last i, k + 1, listed, a, w, hz, hB, hS, h => by
    unfold planDB at hB
    rw [Bool.and_eq_true, Bool.and_eq_true] at hB
    have h1 := eq_of_beq hB.2.1
    refine ⟨fun h0 => (by rw [h0] at h1; cases h1), fun j hj => ?_⟩
    rw [h1, List.mem_singleton] at hj
    subst hj
    refine cStep_mono (fun a' w' h' => ⟨.inl (eq_of_beq hB.1), ?_⟩) h
    have h2 := List.isEmpty_iff.1 hB.2.2
    cases k with
    | zero => exact ⟨h2, h'⟩
    | succ k => exact ⟨fun _ => h', by rw [h2]; simp⟩
  | .take i p, k + 1, listed, a, w, hz, hB, hS, h => by
    unfold planDB at hB
    rw [Bool.and_eq_true, Bool.and_eq_true, Bool.and_eq_true, Bool.and_eq_true] at hB
    obtain ⟨o, v, ho, hy, h⟩ := h
    exact anyD_first hB.2.1 (by simpa using hB.1) ho (Region.noSelect_spec hs) k listed a w hz (Region.free_spec ho hB.2.2.1) (by simpa using hB.2.2.2.1) hy hS (planD_any hs p k _ _ _ (by simp [hz]) hB.2.2.2.2 hS h)
  | .one i p, k + 1, listed, a, w, hz, hB, hS, h => by
    unfold planDB at hB
    rw [Bool.and_eq_true] at hB
    have h1 := eq_of_beq hB.1
    refine ⟨fun h0 => (by rw [h0] at h1; cases h1), fun j hj => ?_⟩
    rw [h1, List.mem_singleton] at hj
    subst hj
    exact cStep_mono (fun a' w' h' => ⟨.inr h'.1, planD_any hs p k _ _ _ (by simp [hz]) hB.2 h'.1 h'.2⟩) h
theorem wp_region_planD {id : Nat} {a : Act} {w : World} (L : Nat) (pl : PlanT) (S : World → Prop) (hm : P.follows .mixedOrders = true) (hs : Region.noSelect ops = true) (hB : planDB ops L pl ops.size (Array.replicate ops.size false) = true)
    (hS : S w.drew) (h : wpPlanC P ops Q S pl a w.drew) : (Code.region id ops true).wp P Q a w := by
  refine wp_region_inv (fun listed a w => ∃ k, wpAnyC P .any ops Q S L k listed a w) hm ?_ ?_ ⟨_, planD_any hs pl _ _ a w.drew (by simp) hB hS h⟩
  · rintro listed a w ⟨k, hk⟩ i hi
    cases k with
    | zero => rw [hk.1] at hi; cases hi
    | succ k => exact cStep_to (cStep_mono (fun a' w' h' => ⟨k, h'.2⟩) (hk.2 i hi))
  · rintro listed a w ⟨k, hk⟩ hr
    cases k with
    | zero => exact hk.2
    | succ k => exact hk.1 hr
end
end Go.Proofs.YtimhnkpccbcohaaGreatDoor
