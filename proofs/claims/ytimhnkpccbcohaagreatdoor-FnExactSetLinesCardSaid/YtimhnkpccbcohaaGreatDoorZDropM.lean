/-
 Dropping what waits, as lists: how many go, and what the magazine holds then. No condition.
-/
import Derived.Test.YtimhnkpccbcohaaGreatDoorZReadMG
import Derived.Test.YtimhnkpccbcohaaGreatDoorZCntMagG
namespace Go.Proofs.YtimhnkpccbcohaaGreatDoor
open Go.RowKit Go.Conc
set_option linter.unusedVariables false
set_option linter.unusedSimpArgs false

/-- has the channel below room? -/
def roomy (f : Fnt) (ms : List (List Mat)) (x : Mat) : Bool := decide ((ms.getD (fallOf f.cs x.2) []).length < 20)
def putD (f : Fnt) (ms : List (List Mat)) (x : Mat) : List (List Mat) := ms.set (fallOf f.cs x.2) (ms.getD (fallOf f.cs x.2) [] ++ [x])
def dropMs (f : Fnt) (ms : List (List Mat)) (wt : List Mat) (j : Nat) : List (List Mat) := (wt.take j).foldl (putD f) ms
/-- how many of at most k go -/
def dropC (f : Fnt) : Nat → List (List Mat) → List Mat → Nat
 | 0, _, _ => 0
 | _ + 1, _, [] => 0
 | k + 1, ms, x :: wt => if roomy f ms x then dropC f k (putD f ms x) wt + 1 else 0
theorem putD_len (f : Fnt) (ms : List (List Mat)) (x : Mat) : (putD f ms x).length = ms.length := by unfold putD; rw [List.length_set]
theorem dropMs_len (f : Fnt) (ms : List (List Mat)) (wt : List Mat) (j : Nat) : (dropMs f ms wt j).length = ms.length := by
 unfold dropMs
 generalize wt.take j = l
 induction l generalizing ms with
 | nil => rfl
 | cons x l ih => rw [List.foldl_cons, ih, putD_len]
theorem dropMs_next {f : Fnt} {ms : List (List Mat)} {wt : List Mat} {j : Nat} {x : Mat} (h : wt[j]? = some x) : dropMs f ms wt (j + 1) = putD f (dropMs f ms wt j) x := by
 unfold dropMs; rw [take_next h, List.foldl_append]; rfl
theorem putD_mag {f : Fnt} {ms : List (List Mat)} {x : Mat} (h : magB f ms = true) (hx : matB f x = true) (hr : roomy f ms x = true) : magB f (putD f ms x) = true := by
 unfold roomy at hr
 have hr' := of_decide_eq_true hr
 have hlt := drop_lt h hx
 unfold magB at h ⊢
 simp only [Bool.and_eq_true, beq_iff_eq, List.all_eq_true] at h ⊢
 refine ⟨h.1, by rw [putD_len]; exact h.2.1, fun ys hy => ?_⟩
 unfold putD at hy
 rcases List.mem_or_eq_of_mem_set hy with hy | rfl
 ·exact h.2.2 ys hy
 ·have h9 := h.2.2 _ (List.getElem_mem hlt)
  have e9 : ms.getD (fallOf f.cs x.2) [] = ms[fallOf f.cs x.2] := by rw [List.getD, List.getElem?_eq_getElem hlt]; rfl
  rw [e9] at hr' ⊢
  unfold rowB at h9 ⊢
  simp only [Bool.and_eq_true, decide_eq_true_eq, List.all_eq_true] at h9 ⊢
  refine ⟨by rw [List.length_append]; simp only [List.length_cons, List.length_nil]; omega, fun z hz => ?_⟩
  rcases List.mem_append.1 hz with hz | hz
  ·exact h9.2 z hz
  ·rw [List.mem_singleton] at hz; rw [hz]; exact hx
theorem putD_wf {f : Fnt} {ms : List (List Mat)} {x : Mat} (h : wfM ms) (hx : (Lit.int .i64 x.2).wf = true) : wfM (putD f ms x) := by
 intro ys hy z hz
 unfold putD at hy
 rcases List.mem_or_eq_of_mem_set hy with hy | rfl
 ·exact h ys hy z hz
 ·rcases List.mem_append.1 hz with hz | hz
  ·rw [List.getD] at hz
   cases hq : ms[fallOf f.cs x.2]? with
   | none => rw [hq] at hz; simp at hz
   | some ys => rw [hq] at hz; exact h ys (List.mem_of_getElem? hq) z hz
  ·rw [List.mem_singleton] at hz; rw [hz]; exact hx
/-- after j drops, all of them possible: what is told of the count -/
structure DropAt (f : Fnt) (ms : List (List Mat)) (wt : List Mat) (most j : Nat) : Prop where
 le : j ≤ most ∧ j ≤ wt.length
 cnt : dropC f most ms wt = j + dropC f (most - j) (dropMs f ms wt j) (wt.drop j)
 mag : magB f ms = true → (∀ x ∈ wt, matB f x = true) → magB f (dropMs f ms wt j) = true
 wf : wfM ms → (∀ x ∈ wt, (Lit.int .i64 x.2).wf = true) → wfM (dropMs f ms wt j)
theorem DropAt.start (f : Fnt) (ms : List (List Mat)) (wt : List Mat) (most : Nat) : DropAt f ms wt most 0 := ⟨⟨Nat.zero_le _, Nat.zero_le _⟩, by simp [dropMs], fun h _ => h, fun h _ => h⟩
theorem DropAt.enough {f : Fnt} {ms : List (List Mat)} {wt : List Mat} {most j : Nat} (h : DropAt f ms wt most j) (hj : j = most) : dropC f most ms wt = j := by
 have h1 := h.cnt
 rw [show most - j = 0 from by omega] at h1
 simpa [dropC] using h1
theorem DropAt.empty {f : Fnt} {ms : List (List Mat)} {wt : List Mat} {most j : Nat} (h : DropAt f ms wt most j) (hj : j = wt.length) : dropC f most ms wt = j := by
 have h1 := h.cnt
 rw [show wt.drop j = [] from by rw [hj]; exact List.drop_length] at h1
 cases hk : most - j <;> rw [hk] at h1 <;> simpa [dropC] using h1
theorem DropAt.stuck {f : Fnt} {ms : List (List Mat)} {wt : List Mat} {most j : Nat} {x : Mat} (h : DropAt f ms wt most j) (hx : wt[j]? = some x) (hr : roomy f (dropMs f ms wt j) x = false) : dropC f most ms wt = j := by
 have h1 := h.cnt
 have hlt := (List.getElem?_eq_some_iff.1 hx).1
 have e : wt.drop j = x :: wt.drop (j + 1) := by rw [List.drop_eq_getElem_cons hlt]; rw [(List.getElem?_eq_some_iff.1 hx).2]
 rw [e] at h1
 cases hk : most - j with
 | zero => rw [hk] at h1; simpa [dropC] using h1
 | succ k => rw [hk] at h1; simp only [dropC, hr] at h1; simpa using h1
theorem DropAt.step {f : Fnt} {ms : List (List Mat)} {wt : List Mat} {most j : Nat} {x : Mat} (h : DropAt f ms wt most j) (hm : j < most) (hx : wt[j]? = some x) (hr : roomy f (dropMs f ms wt j) x = true) : DropAt f ms wt most (j + 1) := by
 have h1 := h.cnt
 have hlt := (List.getElem?_eq_some_iff.1 hx).1
 have e : wt.drop j = x :: wt.drop (j + 1) := by rw [List.drop_eq_getElem_cons hlt]; rw [(List.getElem?_eq_some_iff.1 hx).2]
 refine ⟨⟨by omega, by omega⟩, ?_, fun h2 h3 => ?_, fun h2 h3 => ?_⟩
 ·rw [e, show most - j = (most - (j + 1)) + 1 from by omega] at h1
  simp only [dropC, hr, if_true] at h1
  rw [h1, dropMs_next hx]; omega
 ·rw [dropMs_next hx]; exact putD_mag (h.mag h2 h3) (h3 x (List.mem_of_getElem? hx)) hr
 ·rw [dropMs_next hx]; exact putD_wf (h.wf h2 h3) (h3 x (List.mem_of_getElem? hx))
/-- what comes out -/
def dropN (X : Mch) (most : Int) : Nat := dropC X.f most.toNat X.ms X.wt
/-- the last of the states that the drops go through -/
theorem dropC_at (f : Fnt) (ms : List (List Mat)) (wt : List Mat) (most : Nat) : ∀ (n j : Nat), wt.length - j ≤ n → DropAt f ms wt most j → DropAt f ms wt most (dropC f most ms wt)
 | n, j, hn, h => by
  by_cases h1 : j = most
  ·rw [h.enough h1]; exact h
  ·by_cases h2 : j = wt.length
   ·rw [h.empty h2]; exact h
   ·have hle := h.le
    have hx : wt[j]? = some (wt[j]'(by omega)) := List.getElem?_eq_getElem (by omega)
    cases hr : roomy f (dropMs f ms wt j) (wt[j]'(by omega))
    ·rw [h.stuck hx hr]; exact h
    ·cases n with
     | zero => omega
     | succ n => exact dropC_at f ms wt most n (j + 1) (by omega) (h.step (by omega) hx hr)
theorem drop_end (X : Mch) (most : Int) : DropAt X.f X.ms X.wt most.toNat (dropN X most) := dropC_at _ _ _ _ _ 0 (Nat.le_refl _) (DropAt.start _ _ _ _)
def dropGo (X : Mch) (j : Nat) : Mch := ⟨X.f, dropMs X.f X.ms X.wt j, X.sp, X.w, X.t, X.k, X.ln, X.wt.drop j⟩
def dropXOk (X : Mch) (most : Int) : Bool := machB X && decide (0 ≤ most)
def dropXX (X : Mch) (most : Int) : Mch := if dropXOk X most then dropGo X (dropN X most) else zeroX
def dropXN (X : Mch) (most : Int) : Int := if dropXOk X most then (dropN X most : Int) else -1
theorem dropX_off {X : Mch} {most : Int} (h : dropXOk X most = false) : dropXX X most = zeroX ∧ dropXN X most = -1 := by unfold dropXX dropXN; rw [h]; exact ⟨rfl, rfl⟩
theorem dropX_on {X : Mch} {most : Int} (h : dropXOk X most = true) : dropXX X most = dropGo X (dropN X most) ∧ dropXN X most = (dropN X most : Int) := by unfold dropXX dropXN; rw [h]; exact ⟨rfl, rfl⟩
end Go.Proofs.YtimhnkpccbcohaaGreatDoor
