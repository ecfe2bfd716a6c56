/-
  CountStrays and CountWorn by contract, model and program. Conditions: lengths of at most 2^20; for the program the teeth are in the range of int.
-/
import Derived.Test.YtimhnkpccbcohaaGreatDoorPkD
namespace Go.Proofs.YtimhnkpccbcohaaGreatDoor
open Go.RowKit
set_option linter.unusedVariables false

def cntR (q : Mat → Bool) (xs : List Mat) : Nat := (xs.filter q).length
def cntM (p : Nat → Mat → Bool) (ms : List (List Mat)) : Nat → Nat
  | 0 => 0
  | k + 1 => cntM p ms k + cntR (p k) (ms.getD k [])
theorem cntR_yes {q : Mat → Bool} {xs : List Mat} {k : Nat} {x : Mat} (hx : xs[k]? = some x) (h : q x = true) : cntR q (xs.take (k + 1)) = cntR q (xs.take k) + 1 := by
  unfold cntR; rw [mtake_at hx, List.filter_append]; simp [h]
theorem cntR_no {q : Mat → Bool} {xs : List Mat} {k : Nat} {x : Mat} (hx : xs[k]? = some x) (h : q x = false) : cntR q (xs.take (k + 1)) = cntR q (xs.take k) := by
  unfold cntR; rw [mtake_at hx, List.filter_append]; simp [h]
theorem cntR_le (q : Mat → Bool) (xs : List Mat) (k : Nat) : cntR q (xs.take k) ≤ k := by
  unfold cntR
  exact Nat.le_trans (List.length_filter_le _ _) (by rw [List.length_take]; omega)
theorem cntM_succ {p : Nat → Mat → Bool} {ms : List (List Mat)} {k : Nat} {xs : List Mat} (hx : ms[k]? = some xs) : cntM p ms (k + 1) = cntM p ms k + cntR (p k) xs := by
  show _ + _ = _
  simp [List.getD, hx]
theorem magB_rows {f : Fnt} {ms : List (List Mat)} (h : magB f ms = true) : fontB f = true ∧ ms.length = f.s.size ∧ ∀ xs ∈ ms, xs.length ≤ 20 ∧ ∀ x ∈ xs, matB f x = true := by
  unfold magB at h
  simp only [Bool.and_eq_true, beq_iff_eq, List.all_eq_true] at h
  refine ⟨h.1, h.2.1, fun xs hx => ?_⟩
  have := h.2.2 xs hx
  unfold rowB at this
  simp only [Bool.and_eq_true, decide_eq_true_eq, List.all_eq_true] at this
  exact this
theorem cntM_le {p : Nat → Mat → Bool} {ms : List (List Mat)} (h : ∀ xs ∈ ms, xs.length ≤ 20) : ∀ k, k ≤ ms.length → cntM p ms k ≤ 20 * k
  | 0, _ => by simp [cntM]
  | k + 1, hk => by
    have hx : ms[k]? = some (ms[k]'(by omega)) := List.getElem?_eq_getElem (by omega)
    rw [cntM_succ hx]
    have h1 := cntM_le (p := p) h k (by omega)
    have h2 := h _ (List.mem_of_getElem? hx)
    have h3 := cntR_le (p k) (ms[k]'(by omega)) 20
    rw [List.take_of_length_le h2] at h3
    omega
theorem fontForm2 {w : World} {lo hi : Nat} {v : Value} {f : Fnt} (h : FontV w lo hi v f) : ∃ A c B d, v = .agg #[.string f.s, .slice A f.ws.length c, .slice B f.cs.length d] ∧ IntsI w lo hi B f.cs := by
  obtain ⟨A, c, B, d, rfl, _, h2, _⟩ := h
  exact ⟨A, c, B, d, rfl, h2⟩
def strayP (i : Nat) (x : Mat) : Bool := x.1 != (i : Int)
def wornP (f : Fnt) (_ : Nat) (x : Mat) : Bool := x.2 != f.cs.getD x.1.toNat 0
def cntI (f : Fnt) (ms : List (List Mat)) (p : Nat → Mat → Bool) : Int := if magB f ms then cntM p ms ms.length else -1

end Go.Proofs.YtimhnkpccbcohaaGreatDoor
