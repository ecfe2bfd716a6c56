/-
  FnPlaces: its walk. No condition.
-/
import Derived.Test.YtpenmheacpapaaaDrawQ
import Derived.Test.YtpenmheacpapaaaSpecW
import Derived.Test.YtpenmheacpapaaaPlaceI
import Derived.Test.YtpenmheacpapaaaTurned
import Derived.Outline
import Derived.Deep.QuietTactic
import Derived.BigQuiet
namespace Go.Proofs.Ytpenmheacpapaaa
open Go.RowKit
set_option linter.unusedVariables false

theorem leftL_get (a e : Int) (zs : List Int) {n j : Nat} (h : j < n) : (leftL a e zs n)[j]? = some (leftW a e zs j) := by simp [leftL, h]
theorem leftW_sum {a e : Int} {zs : List Int} (he : 0 ≤ e) : ∀ k, k ≤ zs.length → leftW a e zs k = sumL (zs.take k) + (bandsN (zs.take k) : Int) * a + min e (bandsN (zs.take k))
  | 0, _ => by simp [leftW, wideL, sumL, bandsN]; omega
  | k + 1, hk => by
    have ih := leftW_sum (a := a) (zs := zs) he k (by omega)
    obtain ⟨x, hx⟩ : ∃ x, zs[k]? = some x := ⟨_, List.getElem?_eq_getElem (show k < zs.length by omega)⟩
    have h1 := sumL_at hx
    have h2 := bandsN_at hx
    rw [leftW_succ, ih, h1, h2]
    by_cases h0 : x = 0
    · subst h0
      rw [wideW_band hx, if_pos rfl]
      unfold bandW
      have h3 : ((bandsN (zs.take k) + 1 : Nat) : Int) * a = (bandsN (zs.take k) : Int) * a + a := by rw [Int.natCast_add, Int.add_mul]; simp
      rw [h3]
      generalize (bandsN (zs.take k) : Int) * a = y
      split <;> omega
    · rw [wideW_item hx h0, if_neg h0]
      have h3 : ((bandsN (zs.take k) + 0 : Nat) : Int) = (bandsN (zs.take k) : Int) := by omega
      rw [h3]
      omega
/-- the right side of the last item lies within the measure -/
theorem left_end {m : Msr} {zs : List Int} (hg : goodB m zs = true) : leftW (m.t + riseL m zs) (moreL m zs) zs zs.length ≤ m.w := by
  obtain ⟨m0, _⟩ := more_bound hg
  obtain ⟨p0, p1, p2, p3, p4⟩ := rise_spec hg
  rw [leftW_sum m0 _ (Nat.le_refl _), List.take_length]
  have hr : restL m zs = m.w - (sumL zs + (bandsN zs : Int) * (m.t + riseL m zs)) := rfl
  have hm : moreL m zs ≤ restL m zs := by unfold moreL; split <;> omega
  omega
theorem bandsN_room {zs : List Int} {k : Nat} (h : zs[k]? = some 0) : bandsN (zs.take k) < bandsN zs := by
  have h1 := bandsN_at h
  rw [if_pos rfl] at h1
  have h2 : bandsN (zs.take (k + 1)) ≤ bandsN zs := by
    conv => rhs; rw [← List.take_append_drop (k + 1) zs]
    rw [bandsN_append]; omega
  omega

end Go.Proofs.Ytpenmheacpapaaa
