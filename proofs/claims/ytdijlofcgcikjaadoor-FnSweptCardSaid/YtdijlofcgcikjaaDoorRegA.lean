/-
  A region that draws its order, with a communication in it: an invariant over what has been done leads through every order. Plain rules for every program, no condition but those in each premise.
-/
import Derived.Test.YtdijlofcgcikjaaDoorChan
import Derived.Orders
namespace Go.Proofs.YtdijlofcgcikjaaDoor
open Go.RowKit Go.Conc
set_option linter.unusedVariables false

section
variable {P : Program} {md : Region.Mode} {ops : Array Oper} {Q : Exit → Act → World → Prop}
/-- operation i leads to K -/
def StepTo (P : Program) (ops : Array Oper) (Q : Exit → Act → World → Prop) (i : Nat) (K : Act → World → Prop) (a : Act) (w : World) : Prop :=
  ∀ rest, (∀ a' w', K a' w' → RegTo P ops Q rest a' w') → RegTo P ops Q (i :: rest) a w
theorem count_set_false : ∀ (l : List Bool) (i : Nat), l[i]? = some false → (l.set i true).count false + 1 = l.count false
  | [], i, h => by simp at h
  | b :: l, 0, h => by simp at h; subst h; simp
  | b :: l, i + 1, h => by
    have ih := count_set_false l i (by simpa using h)
    rw [List.set_cons_succ, List.count_cons, List.count_cons]
    omega
theorem ready_false {listed : Array Bool} {i : Nat} (h : i ∈ Region.ready md ops listed) : listed[i]? = some false := by
  unfold Region.ready at h
  rw [List.mem_filter] at h
  have h2 := h.2
  rw [Bool.and_eq_true] at h2
  have h3 := h2.1
  unfold Array.getD at h3
  by_cases hi : i < listed.size
  · rw [Array.getElem?_eq_getElem hi]
    simp [hi] at h3
    rw [h3]
  · simp [hi] at h3
theorem ready_none {listed : Array Bool} (h : listed.toList.count false = 0) : Region.ready md ops listed = [] := by
  cases hr : Region.ready md ops listed with
  | nil => rfl
  | cons i r =>
    have hf := ready_false (md := md) (ops := ops) (listed := listed) (i := i) (by rw [hr]; simp)
    have : false ∈ listed.toList := by
      rw [← Array.getElem?_toList] at hf
      exact List.mem_of_getElem? hf
    have := List.count_pos_iff.2 this
    omega
theorem regInv (I : Array Bool → Act → World → Prop)
    (step : ∀ listed a w, I listed a w → ∀ i ∈ Region.ready md ops listed, StepTo P ops Q i (I (listed.setIfInBounds i true)) a w)
    (fin : ∀ listed a w, I listed a w → Region.ready md ops listed = [] → Q .normal a w) :
    ∀ (fuel t : Nat) (listed : Array Bool) (a : Act) (w : World), listed.toList.count false ≤ fuel → I listed a w → RegTo P ops Q (Region.linearise.go md ops fuel t listed []) a w := by
  intro fuel
  induction fuel with
  | zero =>
    intro t listed a w hc h
    simp only [Region.linearise.go]
    exact RegTo.nil (fin _ _ _ h (ready_none (by omega)))
  | succ fuel ih =>
    intro t listed a w hc h
    simp only [Region.linearise.go]
    change RegTo P ops Q (match (Region.ready md ops listed)[t % (Region.ready md ops listed).length]? with
      | some i => Region.linearise.go md ops fuel (t / (Region.ready md ops listed).length) (listed.setIfInBounds i true) [i]
      | none => [].reverse) a w
    cases hi : (Region.ready md ops listed)[t % (Region.ready md ops listed).length]? with
    | none =>
      have hnil : Region.ready md ops listed = [] := by
        cases hr : Region.ready md ops listed with
        | nil => rfl
        | cons x xs =>
          rw [hr] at hi
          have hlt : t % (x :: xs).length < (x :: xs).length := Nat.mod_lt _ (by simp)
          rw [List.getElem?_eq_getElem hlt] at hi
          cases hi
      exact RegTo.nil (fin _ _ _ h hnil)
    | some i =>
      simp only []
      rw [linearise_go_acc, List.reverse_singleton, List.singleton_append]
      have hm := List.mem_of_getElem? hi
      refine step _ _ _ h i hm _ (fun a' w' h' => ih _ _ a' w' ?_ h')
      have hf := ready_false hm
      rw [← Array.getElem?_toList] at hf
      have := count_set_false _ _ hf
      rw [Array.toList_setIfInBounds]
      omega
theorem wp_region_inv {id : Nat} {a : Act} {w : World} (I : Array Bool → Act → World → Prop) (hm : P.follows .mixedOrders = true)
    (step : ∀ listed a w, I listed a w → ∀ i ∈ Region.ready .any ops listed, StepTo P ops Q i (I (listed.setIfInBounds i true)) a w)
    (fin : ∀ listed a w, I listed a w → Region.ready .any ops listed = [] → Q .normal a w)
    (h0 : I (Array.replicate ops.size false) a { w with drawn := w.drawn + 1 }) : (Code.region id ops true).wp P Q a w :=
  RegTo.draw fun t => by
    simp only [Region.schedule, hm, Bool.true_or, if_true]
    refine regInv I step fin ops.size t _ a _ ?_ h0
    simp
end
end Go.Proofs.YtdijlofcgcikjaaDoor
