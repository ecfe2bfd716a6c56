/-
  The index of a breaking, plainly. Mathematics alone, no condition but at most 40 words.
-/
import Derived.Test.YtddkedinkgnboaaWaysM
namespace Go.Proofs.Ytddkedinkgnboaa
open Go.RowKit
set_option linter.unusedVariables false

theorem two_pow_le {d : Nat} (h : d ≤ 40) : (2 : Int) ^ d ≤ 1099511627776 := by
  have h1 : (2 : Nat) ^ d ≤ 2 ^ 40 := Nat.pow_le_pow_right (by omega) h
  have h2 : (2 : Int) ^ d = ((2 ^ d : Nat) : Int) := by norm_cast
  have h3 : (2 : Nat) ^ 40 = 1099511627776 := by decide
  omega
theorem wayF_range {m : Msr} {zs : List Int} (hz : zs.length ≤ 40) {i : Nat} (hi : i ≤ zs.length) : 0 ≤ wayF m zs i ∧ wayF m zs i ≤ 1099511627776 := by
  obtain ⟨⟨h1, h2⟩, -⟩ := way_bound m zs hz _ i rfl hi
  have := two_pow_le (d := zs.length - i) (by omega)
  omega
theorem befF_range {m : Msr} {zs : List Int} (hz : zs.length ≤ 40) {i p : Nat} (hi : i ≤ zs.length) (hp : p ≤ zs.length + 1) : 0 ≤ befF m zs i p ∧ befF m zs i p ≤ 1099511627776 := by
  by_cases h : i < p
  · obtain ⟨-, h1⟩ := way_bound m zs hz _ i rfl hi
    obtain ⟨h2, h3⟩ := h1 p h hp
    have h4 : (0 : Int) < 2 ^ (zs.length + 1 - p) := Int.pow_pos (by omega)
    have := two_pow_le (d := zs.length - i) (by omega)
    omega
  · rw [befF_low (by omega)]; omega
theorem befF_yes {m : Msr} {zs : List Int} (hz : zs.length ≤ 40) {i p : Nat} (h1 : i < p) (hp : p ≤ zs.length) (h2 : lineW m zs i p = true) : befF m zs i (p + 1) = befF m zs i p + wayF m zs p := by
  rw [befF_yesC h1 h2]
  have a := befF_range (m := m) hz (show i ≤ zs.length by omega) (show p ≤ zs.length + 1 by omega)
  have b := wayF_range (m := m) hz hp
  have := IntKind.wrap_i64 (befF m zs i p + wayF m zs p)
  unfold wrap64; omega
theorem befF_step {m : Msr} {zs : List Int} (hz : zs.length ≤ 40) {i p : Nat} (hp : p ≤ zs.length) : befF m zs i p ≤ befF m zs i (p + 1) := by
  cases h : (decide (i < p) && lineW m zs i p)
  · rw [befF_no h]; exact Int.le_refl _
  · rw [Bool.and_eq_true, decide_eq_true_eq] at h
    rw [befF_yes hz h.1 hp h.2]
    have := wayF_range (m := m) hz hp
    omega
theorem befF_mono {m : Msr} {zs : List Int} (hz : zs.length ≤ 40) {i p : Nat} (d : Nat) (hp : p + d ≤ zs.length + 1) : befF m zs i p ≤ befF m zs i (p + d) := by
  induction d with
  | zero => exact Int.le_refl _
  | succ d ih => exact Int.le_trans (ih (by omega)) (befF_step hz (by omega))
/-- the breakings whose first line ends at q are some of those from i on -/
theorem bef_way {m : Msr} {zs : List Int} (hz : zs.length ≤ 40) {i q : Nat} (h1 : i < q) (hq : q ≤ zs.length) (h2 : lineW m zs i q = true) : befF m zs i q + wayF m zs q ≤ wayF m zs i := by
  rw [wayF_at (i := i) (by omega), ← befF_yes hz h1 hq h2]
  have := befF_mono (m := m) hz (i := i) (p := q + 1) (zs.length - q) (by omega)
  rwa [show q + 1 + (zs.length - q) = zs.length + 1 by omega] at this

def idxF (m : Msr) (zs : List Int) : Nat → List Int → Int
  | _, [] => 0
  | p, x :: r => befF m zs p (p + x.toNat) + idxF m zs (p + x.toNat) r
def idxA (m : Msr) (zs ls : List Int) : Int := if isBrk m zs ls then idxF m zs 0 ls else -1
def cntA (m : Msr) (zs : List Int) : Int := if okW m zs then wayF m zs 0 else -1
theorem idxF_bound {m : Msr} {zs : List Int} (hz : zs.length ≤ 40) : ∀ (ls : List Int) (p : Nat), p ≤ zs.length → brkF m zs p ls = true → 0 ≤ idxF m zs p ls ∧ idxF m zs p ls < wayF m zs p
  | [], p, hp, hb => by
    have : p = zs.length := by simpa [brkF] using hb
    subst this
    rw [wayF_end]; simp [idxF]
  | x :: r, p, hp, hb => by
    rw [brkF, Bool.and_eq_true, Bool.and_eq_true] at hb
    have h1 := inB_true hb.1
    obtain ⟨q, rfl⟩ : ∃ q : Nat, x = (q : Int) := ⟨x.toNat, by omega⟩
    simp only [Int.toNat_natCast] at hb
    rw [idxF, Int.toNat_natCast]
    have h2 := idxF_bound hz r (p + q) (by omega) hb.2.2
    have h3 := bef_way hz (show p < p + q by omega) (by omega) hb.2.1
    have h4 := befF_range (m := m) hz hp (show p + q ≤ zs.length + 1 by omega)
    omega
theorem idxF_at {m : Msr} {zs ls : List Int} {p k : Nat} {x : Int} (h : ls[k]? = some x) : idxF m zs p (ls.drop k) = befF m zs p (p + x.toNat) + idxF m zs (p + x.toNat) (ls.drop (k + 1)) := by
  rw [drop_at h]; rfl
theorem idxF_end {m : Msr} {zs ls : List Int} {p k : Nat} (h : ls.length = k) : idxF m zs p (ls.drop k) = 0 := by
  rw [List.drop_of_length_le (by omega)]; rfl
end Go.Proofs.Ytddkedinkgnboaa
