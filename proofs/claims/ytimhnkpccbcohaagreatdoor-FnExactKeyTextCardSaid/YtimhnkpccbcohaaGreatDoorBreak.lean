/-
  BreakRail by contract, model and program. Conditions of the contracts: a length of at most 2^20, which is at most the capacity.
-/
import Derived.Test.YtimhnkpccbcohaaGreatDoorPkB
import Derived.Test.YtimhnkpccbcohaaGreatDoorPkD
import Derived.Outline
namespace Go.Proofs.YtimhnkpccbcohaaGreatDoor
open Go.RowKit
set_option linter.unusedVariables false

/-- the set with the one tooth t -/
def one (t : Int) : Int := 2 ^ t.toNat
theorem tooth_cases {t : Int} (h0 : 0 ≤ t) (h1 : t ≤ 6) : t = 0 ∨ t = 1 ∨ t = 2 ∨ t = 3 ∨ t = 4 ∨ t = 5 ∨ t = 6 := by omega

theorem part_one (t : Int) (h0 : 0 ≤ t) (h1 : t ≤ 6) (x : Int) (hx0 : 0 ≤ x) (hx1 : x ≤ 127) : partB (one t) x = bt x t.toNat := by
  rcases tooth_cases h0 h1 with rfl | rfl | rfl | rfl | rfl | rfl | rfl
  all_goals (revert x; exact all128 _ (by decide +kernel))
theorem join_one (t : Int) (h0 : 0 ≤ t) (h1 : t ≤ 6) (x : Int) (hx0 : 0 ≤ x) (hx1 : x ≤ 127) : bt x t.toNat = false → x + one t = join x (one t) := by
  rcases tooth_cases h0 h1 with rfl | rfl | rfl | rfl | rfl | rfl | rfl
  all_goals (revert x; exact all128 _ (by decide +kernel))

def brkOk (zs : List Int) (p t : Int) : Bool := isBar zs && (inB p 0 (zs.length - 1) && (inB t 0 6 && !bt (zs.getD p.toNat 0) t.toNat))
def brkL (zs : List Int) (p t : Int) : List Int := if brkOk zs p t then zs.set p.toNat (join (zs.getD p.toNat 0) (one t)) else []
theorem own_none (w : World) (B : Nat) : Own w B (.slice none 0 0) [] := World.ownsRow_nil _ _ _ _

theorem brk_parts {zs : List Int} {p t : Int} {n : Nat} (hn : zs.length = n) (h : brkOk zs p t = true) : ∃ q : Nat, p = q ∧ q < n ∧ isBar zs = true ∧ 0 ≤ t ∧ t ≤ 6 ∧ bt (zs.getD q 0) t.toNat = false := by
  unfold brkOk at h
  simp only [Bool.and_eq_true] at h
  obtain ⟨hb, hp, ht, hx⟩ := h
  have hp' : 0 ≤ p ∧ p ≤ (n : Int) - 1 := by rw [hn] at hp; simpa [inB] using hp
  obtain ⟨q, rfl⟩ := Int.eq_ofNat_of_zero_le hp'.1
  have ht' : 0 ≤ t ∧ t ≤ 6 := by simpa [inB] using ht
  exact ⟨q, rfl, by omega, hb, ht'.1, ht'.2, by simpa using hx⟩

theorem shr_one (t : Int) (h0 : 0 ≤ t) (h1 : t ≤ 6) (x : Int) (hx0 : 0 ≤ x) (hx1 : x ≤ 127) : (bits .and .i64 (x / 2 ^ t.toNat) 1 == 1) = bt x t.toNat := by
  rcases tooth_cases h0 h1 with rfl | rfl | rfl | rfl | rfl | rfl | rfl
  all_goals (revert x; exact all128 _ (by decide +kernel))

theorem own_row {w : World} {B n : Nat} {v : Value} {zs : List Int} (h : Own w B v zs) (hn : zs.length = n) (hp : 0 < n) :
    ∃ g cap, v = .slice (some ⟨g, 0, none⟩) n cap ∧ B ≤ g ∧ w.ownsRow B 3 1 (.slice (some ⟨g, 0, none⟩) n cap) n (zs.map (Value.int .i64)) := by
  have h0 := h
  unfold Own at h0
  rcases h.2 with ⟨_, h2⟩ | ⟨g, cap, cur, rfl, hg, _⟩
  · omega
  · rw [hn] at h0
    exact ⟨g, cap, by rw [hn], hg, h0⟩

theorem brkL_len (zs : List Int) (p t : Int) : (brkL zs p t).length ≤ zs.length := by unfold brkL; split <;> simp
end Go.Proofs.YtimhnkpccbcohaaGreatDoor
