/-
  Counts of orders at the sets that FnOrders lays: as many orders as a product, one order, none. No condition.
-/
import Derived.Test.YtpgokcilnejolaaCntI
namespace Go.Proofs.Ytpgokcilnejolaa
open Go.RowKit
set_option linter.unusedVariables false

/-- 'ways' with as many steps as one allows -/
def waysF : Nat → List Int → Nat → Nat
  | 0, _, M => if M = 0 then 1 else 0
  | f + 1, zs, M => if M = 0 then 1 else sumN (fun i => if outOk zs M i then waysF f zs (M - 2 ^ i) else 0) zs.length
theorem waysF_eq (zs : List Int) : ∀ f M, M ≤ f → ways zs M = waysF f zs M := by
  intro f
  induction f with
  | zero => intro M h; obtain rfl : M = 0 := by omega
            rw [ways]; rfl
  | succ f ih =>
    intro M h
    by_cases h0 : M = 0
    · subst h0; rw [ways]; rfl
    · rw [ways_eq zs M h0]
      unfold waysF
      rw [if_neg h0]
      apply sumN_congr
      intro i _
      by_cases hb : outOk zs M i = true
      · rw [if_pos hb, if_pos hb]
        have := Nat.two_pow_pos i
        exact ih _ (by omega)
      · rw [if_neg hb, if_neg hb]
def cntF (zs : List Int) : Int := if setsB zs = true ∧ zs.length ≤ 8 then wrap64 ((waysF (2 ^ zs.length - 1) zs (2 ^ zs.length - 1) : Nat) : Int) else -1
theorem cntF_eq (zs : List Int) : cntI zs = cntF zs := by
  unfold cntI cntF
  rw [waysF_eq zs _ _ (Nat.le_refl _)]
def flatL : Nat → List Int
  | 0 => []
  | i + 1 => (1 + 2 * 2 ^ i) :: flatL i
def chainL : Nat → List Int
  | 0 => []
  | i + 1 => (2 * 2 ^ i - 1) :: chainL i
def prodN : Nat → Nat
  | 0 => 1
  | i + 1 => prodN i * (i + 1)
theorem prod_bd : ∀ k, k < 7 → 0 < prodN k ∧ prodN k ≤ 720 := by decide
theorem flat_len : ∀ n, (flatL n).length = n
  | 0 => rfl
  | n + 1 => by rw [flatL, List.length_cons, flat_len n]
theorem chain_len : ∀ n, (chainL n).length = n
  | 0 => rfl
  | n + 1 => by rw [chainL, List.length_cons, chain_len n]
def turnL (n k : Nat) : List Int := (chainL n).drop k ++ (chainL n).take k
theorem cnt_flat : ∀ n, n < 6 → cntF (flatL (n + 1)) = ((prodN (n + 1) : Nat) : Int) := by decide +kernel
theorem cnt_chain : ∀ n, n < 6 → cntF (chainL (n + 1)) = 1 := by decide +kernel
theorem cnt_turn : ∀ n, n < 6 → ∀ k, k < n + 1 → cntF (turnL (n + 1) k) = 1 := by decide +kernel
theorem cnt_twice : ∀ n, n < 6 → cntF (chainL (n + 1) ++ [(chainL (n + 1)).getD 0 0]) = -1 := by decide +kernel
end Go.Proofs.Ytpgokcilnejolaa
