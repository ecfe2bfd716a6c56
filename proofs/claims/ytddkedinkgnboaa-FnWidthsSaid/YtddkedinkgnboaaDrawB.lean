/-
  l3Blanks: at most nine numbers. No condition but the cursor.
-/
import Derived.Test.YtddkedinkgnboaaDrawP
import Derived.Test.YtddkedinkgnboaaPkC
namespace Go.Proofs.Ytddkedinkgnboaa
open Go.RowKit
set_option linter.unusedVariables false

theorem intsB_drop1 {w : World} {b x : Nat} {q : Int} {qs : List Int} (h : IntsB w b (some ⟨x, 0, none⟩) (q :: qs)) : IntsB w b (some ⟨x, 1, none⟩) qs := fun hn => by
  obtain ⟨ad, e, hb, hc⟩ := h (by simp)
  injection e with e
  subst e
  refine ⟨_, rfl, hb, fun j hj => ?_⟩
  have h1 := hc (j + 1) (by simp; omega)
  rw [add_zero_at] at h1
  have h2 : (⟨x, 1, none⟩ : Addr).add j = ⟨x, j + 1, none⟩ := by unfold Addr.add; split <;> simp_all <;> omega
  rw [h2, h1]
  simp [List.getD]
theorem own_intsA {w : World} {B n c : Nat} {A : Option Addr} {zs : List Int} (h : Own w B (.slice A n c) zs) : Ints w A zs := by
  obtain ⟨A', c', hv, hI, _⟩ := h.form
  injection hv with h1 h2 h3
  subst h1
  exact hI
theorem IntsB.keep_up {w : World} {b b' : Nat} {A : Option Addr} {zs : List Int} (h : IntsB w b A zs) (hb : b ≤ b') : IntsB w b' A zs := fun hn => by
  obtain ⟨ad, e, h1, h2⟩ := h hn
  exact ⟨ad, e, Nat.lt_of_lt_of_le h1 hb, h2⟩
theorem intsB_nil {w : World} {b : Nat} : IntsB w b none [] := fun hn => absurd hn (by simp)

end Go.Proofs.Ytddkedinkgnboaa
