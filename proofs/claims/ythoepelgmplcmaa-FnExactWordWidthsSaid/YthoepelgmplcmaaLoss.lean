/-
  LossBefore by contract, model and program. Condition of the contracts: the slice's length is at most its capacity.
-/
import Derived.Test.YthoepelgmplcmaaSets
import Derived.WalkLawsBesides
import Derived.Outline
namespace Go.Proofs.Ythoepelgmplcmaa
open Go.RowKit
set_option linter.unusedVariables false

def mn (a b : Int) : Int := if b < a then b else a
def lossTo (x m0 : Int) (l : List Int) : Int := l.foldl (fun m b => mn m (cnt (less x b))) m0
theorem lossTo_snoc {x m0 q b : Int} {zs : List Int} {k : Nat} (hb : zs[k]? = some b) (hq : q = lossTo x m0 (zs.take k)) :
    (if cnt (less x b) < q then cnt (less x b) else q) = lossTo x m0 (zs.take (k + 1)) := by
  rw [take_at hb]
  unfold lossTo at *
  rw [List.foldl_append, ← hq]
  rfl
theorem mn_bd {a b : Int} (h : 0 ≤ a) (h2 : a ≤ 7) (hb : 0 ≤ b ∧ b ≤ 7) : 0 ≤ (if b < a then b else a) ∧ (if b < a then b else a) ≤ 7 := by split <;> omega
theorem bar_set {zs : List Int} (hbar : isBar zs = true) : ∀ z ∈ zs, 0 ≤ z ∧ z ≤ 127 := by
  intro z hz
  have : allSet zs = true := by unfold isBar at hbar; simp at hbar; exact hbar.1
  exact (setB_iff z).1 (List.all_eq_true.1 this z hz)
theorem bar_len {zs : List Int} (hbar : isBar zs = true) : 1 ≤ zs.length ∧ zs.length ≤ 40 := by
  unfold isBar inB at hbar; simp at hbar; omega

/-- starting from 7 or from all teeth is the same once one set was looked at -/
theorem lossTo_start (x m0 m1 : Int) (l : List Int) (h : ∀ b ∈ l, cnt (less x b) ≤ m0 ∧ cnt (less x b) ≤ m1) (hl : l ≠ []) : lossTo x m0 l = lossTo x m1 l := by
  cases l with
  | nil => exact absurd rfl hl
  | cons b l =>
    have hb := h b (by simp)
    unfold lossTo
    simp only [List.foldl_cons]
    have e0 : mn m0 (cnt (less x b)) = cnt (less x b) := by unfold mn; split <;> omega
    have e1 : mn m1 (cnt (less x b)) = cnt (less x b) := by unfold mn; split <;> omega
    rw [e0, e1]

theorem hasPlace_any (A : Option Addr) (n c : Nat) (p : Int) (w : World) (hm : n ≤ maxLen) : Calls Try.prog 163 #[.slice A n c, .int .i64 p] w fun e w' => e = .returned (.bool (inB p 0 ((n : Int) - 1))) ∧ w = w' := by
  unfold maxLen at hm
  by_cases h1 : 0 ≤ p
  · by_cases h2 : p < n
    · have hr : inB p 0 ((n : Int) - 1) = true := by simp [inB]; omega
      rw [hr]; clear hr
      go_enter Try.func163, Try.ntmps163
      go_wp2
      go_ret
      exact ⟨rfl, rfl⟩
    · have hr : inB p 0 ((n : Int) - 1) = false := by simp [inB]; omega
      rw [hr]; clear hr
      go_enter Try.func163, Try.ntmps163
      go_wp2
      go_ret
      exact ⟨rfl, rfl⟩
  · have hr : inB p 0 ((n : Int) - 1) = false := by simp [inB]; omega
    rw [hr]; clear hr
    go_enter Try.func163, Try.ntmps163
    go_wp2
    go_ret
    exact ⟨rfl, rfl⟩

/-- what LossBefore answers -/
def lossI (zs : List Int) (p : Int) : Int := if isBar zs = true ∧ 1 ≤ p ∧ p < zs.length then lossTo (zs.getD p.toNat 0) 7 (zs.take p.toNat) else -1
end Go.Proofs.Ythoepelgmplcmaa
