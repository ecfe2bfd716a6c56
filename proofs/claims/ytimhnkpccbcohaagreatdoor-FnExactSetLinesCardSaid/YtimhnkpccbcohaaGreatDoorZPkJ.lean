/-
 Contracts and plain mathematics (Fill, MchZ), each with its conditions in its own statement.
-/
import Derived.Test.YtimhnkpccbcohaaGreatDoorZPkH
import Derived.Test.YtimhnkpccbcohaaGreatDoorZPkD
namespace Go.Proofs.YtimhnkpccbcohaaGreatDoor
open Go.RowKit
set_option linter.unusedVariables false

theorem ownMag_nil (w : World) (B hi : Nat) : OwnMag w B hi (.slice none 0 0) [] [] :=
 ⟨World.ownsRow_nil _ _ _ _, fun j xs h => by simp at h, fun i j h h' g e => by simp at e, fun i h g e => by simp at e, fun g h => by cases h⟩

end Go.Proofs.YtimhnkpccbcohaaGreatDoor

namespace Go.Proofs.YtimhnkpccbcohaaGreatDoor
open Go.RowKit
set_option linter.unusedVariables false

/-- the machine that is none -/
def zeroX : Mch := ⟨⟨⟨#[]⟩, [], []⟩, [], 0, 0, 0, 0, [], []⟩
theorem zeroX_own (w : World) (B : Nat) : MchX w B B (.agg #[.string ⟨#[]⟩, .slice none 0 0, .slice none 0 0, .slice none 0 0, .int .i64 0, .int .i64 0, .int .i64 0, .int .i64 0, .slice none 0 0, .slice none 0 0]) zeroX := by
 have hF : FontO w B B (.agg #[.string ⟨#[]⟩, .slice none 0 0, .slice none 0 0]) zeroX.f := ⟨none, 0, none, 0, B, rfl, own_none w B, fun k hk => (by cases hk), own_none w B, fun k hk => (by cases hk), Nat.le_refl _, Nat.le_refl _, by unfold maxLen; decide⟩
 exact MchX.build (X := zeroX) hF (ownMag_nil w B B) (show OwnM w B (.slice none 0 0) [] from ⟨rfl, .inl ⟨rfl, rfl⟩⟩) (fun k hk => by cases hk) (show OwnM w B (.slice none 0 0) [] from ⟨rfl, .inl ⟨rfl, rfl⟩⟩) (l1 := B) (t1 := B) (fun k hk => by cases hk) (by unfold Off; omega) (by unfold Off; omega) (by unfold Off; omega) (by unfold Off; omega) (by unfold Off; omega) (by unfold Off; omega) ⟨Nat.le_refl _, Nat.le_refl _⟩ ⟨Nat.le_refl _, Nat.le_refl _⟩ ⟨Nat.le_refl _, Nat.le_refl _⟩ ⟨Nat.le_refl _, Nat.le_refl _⟩
theorem mach_big {X : Mch} (h : machB X = true) : X.f.big ≤ 120 ∧ X.ms.length ≤ 40 ∧ (∀ xs ∈ X.ms, xs.length ≤ 20) ∧ X.ln.length ≤ 120 ∧ X.wt.length ≤ 240 := by
 obtain ⟨hm, -, hw, -, hl, -, -⟩ := machB_parts h
 have hf := magB_font hm
 obtain ⟨e1, e2, hbar⟩ := fontB_codes hf
 have hs := fontB_size hf
 unfold magB at hm
 rw [Bool.and_eq_true, Bool.and_eq_true, beq_iff_eq] at hm
 refine ⟨by unfold Fnt.big; omega, by omega, fun xs hx => ?_, hl, hw⟩
 have := List.all_eq_true.1 hm.2.2 xs hx
 unfold rowB at this
 rw [Bool.and_eq_true, decide_eq_true_eq] at this
 exact this.1
theorem tot_lim {ms : List (List Mat)} {b : Nat} (h : ∀ xs ∈ ms, xs.length ≤ b) : tot ms ≤ b * ms.length := by
 induction ms with
 | nil => simp [tot]
 | cons xs ms ih =>
  rw [show tot (xs :: ms) = xs.length + tot ms from by simp [tot], List.length_cons, Nat.mul_succ]
  have h1 := h xs (by simp)
  have h2 := ih (fun ys hy => h ys (by simp [hy]))
  omega
theorem big_lim {f : Fnt} {ms : List (List Mat)} {sp w t k : Int} {ln wt : List Mat} (h1 : f.big ≤ 120) (h2 : ms.length ≤ 40) (h3 : ∀ xs ∈ ms, xs.length ≤ 20) (h4 : ln.length ≤ 120) (h5 : wt.length ≤ 240) : (Mch.mk f ms sp w t k ln wt).big ≤ 1048575 := by
 unfold Mch.big magBig
 simp only
 have := tot_lim h3
 omega
theorem zeroX_big : zeroX.big ≤ 1048575 := by unfold zeroX Mch.big magBig Fnt.big tot; simp; decide
end Go.Proofs.YtimhnkpccbcohaaGreatDoor
