/-
  Counting teeth: the model counts by halving, the program by math/bits.OnesCount64; on sets of teeth both give 'cnt'. No condition on CountTeeth; the inner ones ask a set of teeth.
-/
import Derived.Test.YthoepelgmplcmaaPkA
import Derived.Test.YthoepelgmplcmaaLeaf
namespace Go.Proofs.Ythoepelgmplcmaa
open Go.RowKit

/-- the number of teeth of a set of teeth -/
def cnt (s : Int) : Int := s % 2 + s / 2 % 2 + s / 4 % 2 + s / 8 % 2 + s / 16 % 2 + s / 32 % 2 + s / 64 % 2
theorem cnt_half (x : Int) (h0 : 0 ≤ x) (h1 : x ≤ 127) : cnt x = x % 2 + cnt (x / 2) := by unfold cnt; omega
theorem cnt_zero : cnt 0 = 0 := by decide
theorem cnt_bd (x : Int) : 0 ≤ cnt x ∧ cnt x ≤ 7 := by unfold cnt; omega
theorem all128 (p : Int → Prop) [DecidablePred p] (h : ∀ n : Fin 128, p ((n : Nat) : Int)) (s : Int) (h0 : 0 ≤ s) (h1 : s ≤ 127) : p s := by
  have := h ⟨s.toNat, by omega⟩
  simpa [Int.toNat_of_nonneg h0] using this
theorem setB_iff (s : Int) : setB s = true ↔ 0 ≤ s ∧ s ≤ 127 := by simp [setB]

def countI (s : Int) : Int := if setB s then cnt s else -1
end Go.Proofs.Ythoepelgmplcmaa
