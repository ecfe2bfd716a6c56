/-
  The exact law of FillMagazine: its walk. No condition.
-/
import Derived.Test.YtdijlofcgcikjaaDoorFill
import Derived.Test.YtdijlofcgcikjaaDoorPkF
import Derived.Deep.RegionHeld3
namespace Go.Proofs.YtdijlofcgcikjaaDoor
open Go.RowKit
set_option linter.unusedVariables false

theorem tot_bound {ms : List (List Mat)} {b : Nat} (h : ∀ xs ∈ ms, xs.length ≤ b) : tot ms ≤ b * ms.length := by
  induction ms with
  | nil => simp [tot]
  | cons xs ms ih =>
    rw [tot_cons, List.length_cons, Nat.mul_succ]
    have h1 := h xs (by simp)
    have h2 := ih (fun ys hy => h ys (by simp [hy]))
    omega
theorem fillL_lim (f : Fnt) (E : Int) : (fillL f E).length ≤ 40 ∧ ∀ xs ∈ fillL f E, xs.length ≤ 20 := by
  unfold fillL
  split
  · rename_i h
    unfold fillOk at h
    rw [Bool.and_eq_true] at h
    have hbl := bar_len (fontB_codes h.1).2.2
    have he := (inB_iff _ _ _).1 h.2
    refine ⟨by rw [fillTo_len (Nat.le_refl _)]; omega, fun xs hx => ?_⟩
    unfold fillTo at hx
    rw [List.mem_append] at hx
    rcases hx with hx | hx
    · rw [List.mem_map] at hx
      obtain ⟨i, -, rfl⟩ := hx
      rw [fillRow_len]; omega
    · rw [List.mem_replicate] at hx
      rw [hx.2]; simp
  · exact ⟨by simp, fun xs hx => by simp at hx⟩
theorem magMark {w : World} {B hi n c : Nat} {A : Option Addr} {hs : List Value} {ms : List (List Mat)} (h : OwnMag w B hi (.slice A n c) hs ms) : MagI w B hi A ms := h.reads

end Go.Proofs.YtdijlofcgcikjaaDoor
