/-
  Plain facts on sets of teeth: what remains of a set, parts of it, and how many teeth they have, read off their teeth ('bt s i': s has tooth i).
-/
import Derived.Test.YthoepelgmplcmaaBars
import Derived.Test.YthoepelgmplcmaaCount
import Derived.Laws.BitsAllLaws
import Derived.Laws.BitsLemmas
namespace Go.Proofs.Ythoepelgmplcmaa
open Go.RowKit

/-- the teeth of s that t doesn't have -/
def less (s t : Int) : Int := bits .andNot .i64 s t
def both (s t : Int) : Int := bits .and .i64 s t
def join (s t : Int) : Int := bits .or .i64 s t
theorem partB_eq (s t : Int) : partB s t = (less s t == 0) := rfl

theorem ofInt_i64 (a : Nat) (ha : a < 9223372036854775808) : (BitVec.ofInt 64 (a : Int)).toNat = a := by
  rw [BitVec.ofInt_natCast, BitVec.toNat_ofNat]; exact Nat.mod_eq_of_lt (by omega)
theorem and_nat (a b : Nat) (ha : a < 128) (hb : b < 128) : both (a : Int) (b : Int) = ((a &&& b : Nat) : Int) := by
  have hx : a &&& b < 2 ^ 7 := Nat.and_lt_two_pow _ (by omega)
  show IntKind.i64.wrap ((BitVec.ofInt 64 (a : Int) &&& BitVec.ofInt 64 (b : Int)).toNat : Int) = _
  rw [BitVec.toNat_and, ofInt_i64 a (by omega), ofInt_i64 b (by omega), IntKind.wrap_i64]
  omega
theorem or_nat (a b : Nat) (ha : a < 128) (hb : b < 128) : join (a : Int) (b : Int) = ((a ||| b : Nat) : Int) := by
  have hx : a ||| b < 2 ^ 7 := Nat.or_lt_two_pow (by omega) (by omega)
  show IntKind.i64.wrap ((BitVec.ofInt 64 (a : Int) ||| BitVec.ofInt 64 (b : Int)).toNat : Int) = _
  rw [BitVec.toNat_or, ofInt_i64 a (by omega), ofInt_i64 b (by omega), IntKind.wrap_i64]
  omega
theorem less_nat (a b : Nat) (ha : a < 128) (hb : b < 128) : less (a : Int) (b : Int) = ((a ^^^ (a &&& b) : Nat) : Int) := by
  have hx : a ^^^ (a &&& b) < 2 ^ 7 := Nat.xor_lt_two_pow (by omega) (Nat.and_lt_two_pow _ (by omega))
  have hv : (BitVec.ofInt 64 (a : Int) &&& ~~~ BitVec.ofInt 64 (b : Int)).toNat = a ^^^ (a &&& b) := by
    apply Nat.eq_of_testBit_eq
    intro i
    rw [BitVec.testBit_toNat, BitVec.getLsbD_and, BitVec.getLsbD_not, ← BitVec.testBit_toNat, ← BitVec.testBit_toNat, ofInt_i64 a (by omega), ofInt_i64 b (by omega), Nat.testBit_xor, Nat.testBit_and]
    by_cases hi : i < 64
    · simp [hi]; cases a.testBit i <;> cases b.testBit i <;> rfl
    · have : a.testBit i = false := Nat.testBit_lt_two_pow (Nat.lt_of_lt_of_le ha (Nat.le_trans (by decide : 128 ≤ 2 ^ 7) (Nat.pow_le_pow_right (by omega) (by omega))))
      simp [this]
  show IntKind.i64.wrap ((BitVec.ofInt 64 (a : Int) &&& ~~~ BitVec.ofInt 64 (b : Int)).toNat : Int) = _
  rw [hv, IntKind.wrap_i64]
  omega

/-- s has tooth i -/
def bt (s : Int) (i : Nat) : Bool := s.toNat.testBit i
theorem bt_ext {s t : Int} (h0 : 0 ≤ s) (g0 : 0 ≤ t) (h : ∀ i, bt s i = bt t i) : s = t := by
  have : s.toNat = t.toNat := Nat.eq_of_testBit_eq h
  omega
theorem bt_high {s : Int} (h1 : s ≤ 127) {i : Nat} (hi : 7 ≤ i) : bt s i = false :=
  Nat.testBit_lt_two_pow (Nat.lt_of_lt_of_le (by omega : s.toNat < 2 ^ 7) (Nat.pow_le_pow_right (by omega) hi))
theorem bt_zero (i : Nat) : bt 0 i = false := by simp [bt]
section
variable {s t : Int} (h0 : 0 ≤ s) (h1 : s ≤ 127) (g0 : 0 ≤ t) (g1 : t ≤ 127)
include h0 h1 g0 g1
theorem less_cast : less s t = ((s.toNat ^^^ (s.toNat &&& t.toNat) : Nat) : Int) := by
  have := less_nat s.toNat t.toNat (by omega) (by omega)
  rwa [Int.toNat_of_nonneg h0, Int.toNat_of_nonneg g0] at this
theorem both_cast : both s t = ((s.toNat &&& t.toNat : Nat) : Int) := by
  have := and_nat s.toNat t.toNat (by omega) (by omega)
  rwa [Int.toNat_of_nonneg h0, Int.toNat_of_nonneg g0] at this
theorem join_cast : join s t = ((s.toNat ||| t.toNat : Nat) : Int) := by
  have := or_nat s.toNat t.toNat (by omega) (by omega)
  rwa [Int.toNat_of_nonneg h0, Int.toNat_of_nonneg g0] at this
theorem less_bd : 0 ≤ less s t ∧ less s t ≤ 127 := by
  rw [less_cast h0 h1 g0 g1]
  have hx : s.toNat ^^^ (s.toNat &&& t.toNat) < 2 ^ 7 := Nat.xor_lt_two_pow (by omega) (Nat.and_lt_two_pow _ (by omega))
  omega
theorem both_bd : 0 ≤ both s t ∧ both s t ≤ 127 := by
  rw [both_cast h0 h1 g0 g1]
  have hx : s.toNat &&& t.toNat < 2 ^ 7 := Nat.and_lt_two_pow _ (by omega)
  omega
theorem join_bd : 0 ≤ join s t ∧ join s t ≤ 127 := by
  rw [join_cast h0 h1 g0 g1]
  have hx : s.toNat ||| t.toNat < 2 ^ 7 := Nat.or_lt_two_pow (by omega) (by omega)
  omega
theorem bt_less (i : Nat) : bt (less s t) i = (bt s i && !bt t i) := by
  rw [less_cast h0 h1 g0 g1]
  unfold bt
  rw [Int.toNat_natCast, Nat.testBit_xor, Nat.testBit_and]
  cases s.toNat.testBit i <;> cases t.toNat.testBit i <;> rfl
theorem bt_both (i : Nat) : bt (both s t) i = (bt s i && bt t i) := by
  rw [both_cast h0 h1 g0 g1]
  unfold bt
  rw [Int.toNat_natCast, Nat.testBit_and]
theorem bt_join (i : Nat) : bt (join s t) i = (bt s i || bt t i) := by
  rw [join_cast h0 h1 g0 g1]
  unfold bt
  rw [Int.toNat_natCast, Nat.testBit_or]
theorem partB_iff : partB s t = true ↔ ∀ i, bt s i = true → bt t i = true := by
  rw [partB_eq, beq_iff_eq]
  constructor
  · intro h i hi
    have := bt_less h0 h1 g0 g1 i
    rw [h, bt_zero, hi] at this
    simpa using this.symm
  · intro h
    refine bt_ext (less_bd h0 h1 g0 g1).1 (by omega) fun i => ?_
    rw [bt_less h0 h1 g0 g1, bt_zero]
    cases hs : bt s i
    · rfl
    · simp [h i hs]
end
def b2 (b : Bool) : Int := if b then 1 else 0
theorem dig_bt (s : Int) (h0 : 0 ≤ s) (i : Nat) : s / (2 ^ i : Nat) % 2 = b2 (bt s i) := by
  unfold bt b2
  rw [Nat.testBit_eq_decide_div_mod_eq]
  obtain ⟨n, rfl⟩ := Int.eq_ofNat_of_zero_le h0
  rw [Int.toNat_natCast]
  have h2 : ((n / 2 ^ i % 2 : Nat) : Int) = (n : Int) / ((2 ^ i : Nat) : Int) % 2 := by simp
  rw [← h2]
  by_cases h : n / 2 ^ i % 2 = 1
  · simp [h]
  · have : n / 2 ^ i % 2 = 0 := by omega
    simp [this]
theorem cnt_bt (s : Int) (h0 : 0 ≤ s) : cnt s = b2 (bt s 0) + b2 (bt s 1) + b2 (bt s 2) + b2 (bt s 3) + b2 (bt s 4) + b2 (bt s 5) + b2 (bt s 6) := by
  have d0 := dig_bt s h0 0; have d1 := dig_bt s h0 1; have d2 := dig_bt s h0 2; have d3 := dig_bt s h0 3
  have d4 := dig_bt s h0 4; have d5 := dig_bt s h0 5; have d6 := dig_bt s h0 6
  simp only [Nat.reducePow] at d0 d1 d2 d3 d4 d5 d6
  rw [← d0, ← d1, ← d2, ← d3, ← d4, ← d5, ← d6]
  unfold cnt
  simp
theorem b2_mono {a b : Bool} (h : a = true → b = true) : b2 a ≤ b2 b := by cases a <;> cases b <;> simp_all [b2]
theorem cnt_mono {s t : Int} (h0 : 0 ≤ s) (g0 : 0 ≤ t) (h : ∀ i, bt s i = true → bt t i = true) : cnt s ≤ cnt t := by
  rw [cnt_bt s h0, cnt_bt t g0]
  have e0 := b2_mono (h 0); have e1 := b2_mono (h 1); have e2 := b2_mono (h 2); have e3 := b2_mono (h 3)
  have e4 := b2_mono (h 4); have e5 := b2_mono (h 5); have e6 := b2_mono (h 6)
  omega
theorem cnt_less_le {s t : Int} (h0 : 0 ≤ s) (h1 : s ≤ 127) (g0 : 0 ≤ t) (g1 : t ≤ 127) : cnt (less s t) ≤ cnt s :=
  cnt_mono (less_bd h0 h1 g0 g1).1 h0 fun i hi => by rw [bt_less h0 h1 g0 g1] at hi; simp at hi; exact hi.1
end Go.Proofs.Ythoepelgmplcmaa
