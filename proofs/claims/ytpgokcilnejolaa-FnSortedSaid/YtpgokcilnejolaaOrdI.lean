/-
  OrderBar of the program by contract. Conditions of the contracts: a length of at most 2^20, which is at most the capacity.
-/
import Derived.Test.YtpgokcilnejolaaOrdS
import Derived.Laws.Bits64
namespace Go.Proofs.Ytpgokcilnejolaa
open Go.RowKit
set_option linter.unusedVariables false

def seenTo (zs : List Int) (k : Nat) (t : Nat) : Bool := (zs.take k).contains (t : Int)

def seenRow (zs : List Int) (k : Nat) : List Value := (List.range 128).map (fun t => Value.bool (seenTo zs k t))
theorem seen_zero : Try.zeroCells69 = (List.replicate 128 (Value.bool false)).toArray := by kernel_rfl
theorem seen_none' (zs : List Int) (n : Nat) : List.replicate n (Value.bool false) = (List.range n).map (fun t => Value.bool (seenTo zs 0 t)) := by
  apply List.ext_getElem
  · simp
  · intro j h1 h2; simp [seenTo]
theorem seen_none (zs : List Int) : List.replicate 128 (Value.bool false) = seenRow zs 0 := seen_none' zs 128
theorem seen_get (zs : List Int) {k t : Nat} (h : t < 128) : (seenRow zs k).toArray[t]? = some (.bool (seenTo zs k t)) := by
  rw [List.getElem?_toArray]; exact range_get _ h
theorem seen_set {zs : List Int} {k t : Nat} (hx : zs[k]? = some (t : Int)) : (seenRow zs k).toArray.setIfInBounds t (.bool true) = (seenRow zs (k + 1)).toArray := by
  rw [List.setIfInBounds_toArray]
  congr 1
  apply List.ext_getElem
  · simp [seenRow]
  · intro j h1 h2
    rw [List.getElem_set]
    simp only [seenRow, List.getElem_map, List.getElem_range, seenTo]
    rw [take_at hx]
    split
    · rename_i e
      subst e; simp
    · rename_i e
      congr 1
      rw [Bool.eq_iff_iff]
      simp only [List.contains_eq_mem, decide_eq_true_eq, List.mem_append, List.mem_singleton]
      constructor
      · exact .inl
      · rintro (h | h)
        · exact h
        · exact absurd (by omega) e

set_option maxRecDepth 100000 in
set_option maxHeartbeats 1600000 in
theorem areOrd_any (A : Option Addr) (n c : Nat) (zs : List Int) (w : World) (hn : zs.length = n) (hm0 : n ≤ maxLen) (h : Ints w A zs) :
    Calls Try.prog 56 #[.slice A n c] w fun e w' => e = .returned (.bool (setsB zs)) ∧ Below w.heap.size w w' := by
  have Hn := Lib.hid hn; clear hn
  have hm := hm0
  unfold maxLen at hm
  cases hb : isBar zs
  · go_enter Try.func56, Try.ntmps56
    go_wp2_with (go_at_call 21; refine (implIsBar_any _ _ _ zs _ Hn.out hm0 h).mono ?_; rintro e w' ⟨rfl, rfl⟩)
    go_ret
    exact ⟨ret_bool (by unfold setsB; rw [hb]; simp), Below.refl _ _⟩
  · have Hset := Lib.hid (bar_set hb)
    go_enter Try.func56, Try.ntmps56
    go_wp2_with (go_at_call 21; refine (implIsBar_any _ _ _ zs _ Hn.out hm0 h).mono ?_; rintro e w' ⟨rfl, rfl⟩)
    have Hb := Lib.hid hb
    clear hb
    go_loopw [11] (fun q wr => ∃ k : Nat, k ≤ n ∧ q = .int .i64 k ∧ distTo zs k = true ∧ wr.heap[w.heap.size]? = some (.cells (seenRow zs k).toArray 69 (0, 0)) ∧ Below w.heap.size w wr) (fun q _ => n - (intOf q).toNat)
    case atStart => exact ⟨0, Nat.zero_le _, rfl, rfl, by rw [← seen_none, ← seen_zero]; exact heap_alloc_new w _, (Below.refl _ _).alloc (Nat.le_refl _) _⟩
    case round =>
      obtain ⟨k, hk, rfl, hd, hh, hB⟩ := hrel
      have Hd := Lib.hid hd; clear hd
      have hI := h.below hB
      by_cases hlt : k < n
      · obtain ⟨ad, x, hade, hx, hcx⟩ := hI.at_ (k := k) (by rw [Hn.out]; exact hlt)
        subst hade
        obtain ⟨hx0, hx1⟩ := Hset.out x (mem_at hx.out)
        obtain ⟨t, rfl⟩ := Int.eq_ofNat_of_zero_le hx0
        have ht : t < 128 := by omega
        have hct : wr.cell? ⟨w.heap.size, t, none⟩ = some (.bool (seenTo zs k t)) := by rw [cell_of_row wr w.heap.size t _ 69 (0, 0) hh]; exact seen_get zs ht
        have hft := frozen_of_row wr w.heap.size t _ 69 hh
        cases hs : seenTo zs k t
        · rw [hs] at hct
          have hst := heap_setCell_same wr w.heap.size t _ _ (.bool true) hh
          rw [seen_set hx.out] at hst
          have HS := Lib.hid hst
          have HD := Lib.hid (distTo_succ hx.out Hd.out hs)
          have HB := Lib.hid (hB.setCell (p := ⟨w.heap.size, t, none⟩) (Nat.le_refl _) (.bool true))
          clear hs hst hh
          go_wp2
          go_roundw
          case rel => exact ⟨k + 1, by omega, by go_num, HD.out, HS.out, HB.out⟩
          case measure => simp [intOf]; omega
        · rw [hs] at hct
          have HD := Lib.hid (distB_bad hx.out hs)
          clear hs hh
          go_wp2
          go_ret
          exact ⟨ret_bool (by unfold setsB; rw [HD.out]; rfl), hB⟩
      · have hkn : k = n := by omega
        subst hkn
        clear hh
        go_wp2
        go_ret
        exact ⟨ret_bool (by have := Hd.out; rw [distTo_full Hn.out] at this; unfold setsB; rw [this, Hb.out]; rfl), hB⟩

theorem ofInt_u64 (a : Nat) (ha : a < 2 ^ 64) : (BitVec.ofInt 64 (a : Int)).toNat = a := by
  rw [BitVec.ofInt_natCast, BitVec.toNat_ofNat]; exact Nat.mod_eq_of_lt ha
theorem wrap_small (a : Nat) (ha : a < 2 ^ 64) : IntKind.u64.wrap (a : Int) = (a : Int) := by
  rw [IntKind.wrap_u64]; omega
theorem or64 (a b : Nat) (ha : a < 2 ^ 64) (hb : b < 2 ^ 64) : bits .or .u64 (a : Int) (b : Int) = ((a ||| b : Nat) : Int) := by
  show IntKind.u64.wrap ((BitVec.ofInt 64 (a : Int) ||| BitVec.ofInt 64 (b : Int)).toNat : Int) = _
  rw [BitVec.toNat_or, ofInt_u64 a ha, ofInt_u64 b hb, wrap_small _ (Nat.or_lt_two_pow ha hb)]
theorem and64 (a b : Nat) (ha : a < 2 ^ 64) (hb : b < 2 ^ 64) : bits .and .u64 (a : Int) (b : Int) = ((a &&& b : Nat) : Int) := by
  show IntKind.u64.wrap ((BitVec.ofInt 64 (a : Int) &&& BitVec.ofInt 64 (b : Int)).toNat : Int) = _
  rw [BitVec.toNat_and, ofInt_u64 a ha, ofInt_u64 b hb, wrap_small _ (Nat.and_lt_two_pow _ hb)]
theorem andNot64 (a b : Nat) (ha : a < 2 ^ 64) (hb : b < 2 ^ 64) : bits .andNot .u64 (a : Int) (b : Int) = ((a ^^^ (a &&& b) : Nat) : Int) := by
  have hv : (BitVec.ofInt 64 (a : Int) &&& ~~~ BitVec.ofInt 64 (b : Int)).toNat = a ^^^ (a &&& b) := by
    apply Nat.eq_of_testBit_eq
    intro i
    rw [BitVec.testBit_toNat, BitVec.getLsbD_and, BitVec.getLsbD_not, ← BitVec.testBit_toNat, ← BitVec.testBit_toNat, ofInt_u64 a ha, ofInt_u64 b hb, Nat.testBit_xor, Nat.testBit_and]
    by_cases hi : i < 64
    · simp [hi]; cases a.testBit i <;> cases b.testBit i <;> rfl
    · have : a.testBit i = false := Nat.testBit_lt_two_pow (Nat.lt_of_lt_of_le ha (Nat.pow_le_pow_right (by omega) (by omega)))
      simp [this]
  show IntKind.u64.wrap ((BitVec.ofInt 64 (a : Int) &&& ~~~ BitVec.ofInt 64 (b : Int)).toNat : Int) = _
  rw [hv, wrap_small _ (Nat.xor_lt_two_pow ha (Nat.and_lt_two_pow _ hb))]
theorem pow_cast (i : Nat) : (2 : Int) ^ i = ((2 ^ i : Nat) : Int) := by simp
theorem pow_lt64 {i : Nat} (hi : i < 64) : 2 ^ i < 2 ^ 64 := Nat.pow_lt_pow_right (by omega) hi

theorem plWith_any (m i : Nat) (hm : m < 2 ^ 64) (hi : i < 64) (w : World) : Calls Try.prog 59 #[.int .u64 m, .int .i64 i] w fun e w' => e = .returned (.int .u64 ((m ||| 2 ^ i : Nat) : Int)) ∧ w = w' := by
  have Hm := Lib.hid hm; clear hm
  go_enter Try.func59, Try.ntmps59
  go_wp2
  go_ret
  refine ⟨ret_int ?_, rfl⟩
  show bits BinOp.or IntKind.u64 (m : Int) (IntKind.u64.wrap (2 ^ i)) = _
  rw [pow_cast, wrap_small _ (pow_lt64 hi), or64 _ _ Hm.out (pow_lt64 hi)]
theorem plHas_any (m i : Nat) (hm : m < 2 ^ 64) (hi : i < 64) (w : World) : Calls Try.prog 77 #[.int .u64 m, .int .i64 i] w fun e w' => e = .returned (.bool (m.testBit i)) ∧ w = w' := by
  have Hm := Lib.hid hm; clear hm
  go_enter Try.func77, Try.ntmps77
  go_wp2
  go_ret
  refine ⟨ret_bool ?_, rfl⟩
  show (bits BinOp.and IntKind.u64 ((m : Int) / 2 ^ i) 1 == 1) = _
  have e : (m : Int) / 2 ^ i = ((m / 2 ^ i : Nat) : Int) := by rw [pow_cast]; simp
  rw [e]
  have e1 : ((1 : Nat) : Int) = 1 := rfl
  rw [← e1, and64 _ 1 (Nat.lt_of_le_of_lt (Nat.div_le_self _ _) Hm.out) (by decide), Nat.and_one_is_mod, Nat.testBit_eq_decide_div_mod_eq, Bool.eq_iff_iff]
  simp only [beq_iff_eq, decide_eq_true_eq]
  omega
def partN (a b : Nat) : Bool := (a ^^^ (a &&& b)) == 0
theorem partN_iff {a b : Nat} : partN a b = true ↔ ∀ i, a.testBit i = true → b.testBit i = true := by
  unfold partN
  rw [beq_iff_eq]
  constructor
  · intro h i hi
    have := congrArg (fun n => n.testBit i) h
    simp only [Nat.testBit_xor, Nat.testBit_and, hi, Nat.zero_testBit] at this
    simpa using this
  · intro h
    apply Nat.eq_of_testBit_eq
    intro i
    rw [Nat.testBit_xor, Nat.testBit_and, Nat.zero_testBit]
    cases ha : a.testBit i
    · rfl
    · rw [h i ha]; rfl
theorem plPart_any (m k : Nat) (hm : m < 2 ^ 64) (hk : k < 2 ^ 64) (w : World) : Calls Try.prog 78 #[.int .u64 m, .int .u64 k] w fun e w' => e = .returned (.bool (partN m k)) ∧ w = w' := by
  have Hm := Lib.hid hm; have Hk := Lib.hid hk; clear hm hk
  go_enter Try.func78, Try.ntmps78
  go_wp2
  go_ret
  refine ⟨ret_bool ?_, rfl⟩
  show (bits BinOp.andNot IntKind.u64 (m : Int) (k : Int) == 0) = _
  rw [andNot64 _ _ Hm.out Hk.out]
  unfold partN
  rw [Bool.eq_iff_iff]
  simp only [beq_iff_eq]
  omega

/-- the numbers j below k at which f holds, as bits -/
def maskN (f : Nat → Bool) : Nat → Nat
  | 0 => 0
  | k + 1 => if f k then maskN f k ||| 2 ^ k else maskN f k
theorem mask_bit (f : Nat → Bool) : ∀ k i, (maskN f k).testBit i = (decide (i < k) && f i)
  | 0, i => by simp [maskN]
  | k + 1, i => by
    unfold maskN
    by_cases hk : f k = true
    · rw [if_pos hk, Nat.testBit_or, mask_bit f k i, Nat.testBit_two_pow]
      by_cases e : k = i
      · subst e; simp [hk]
      · have h1 : decide (i < k + 1) = decide (i < k) := by rw [Bool.eq_iff_iff]; simp; omega
        rw [h1]; simp [e]
    · rw [if_neg hk, mask_bit f k i]
      by_cases e : k = i
      · subst e; simp [hk]
      · have h1 : decide (i < k + 1) = decide (i < k) := by rw [Bool.eq_iff_iff]; simp; omega
        rw [h1]
theorem mask_lt (f : Nat → Bool) : ∀ k, maskN f k < 2 ^ k
  | 0 => by simp [maskN]
  | k + 1 => by
    have ih := mask_lt f k
    have h2 : 2 ^ k < 2 ^ (k + 1) := Nat.pow_lt_pow_right (by omega) (by omega)
    unfold maskN
    split
    · exact Nat.or_lt_two_pow (by omega) h2
    · omega
theorem mask_lt64 (f : Nat → Bool) {k : Nat} (hk : k ≤ 40) : maskN f k < 2 ^ 64 := Nat.lt_of_lt_of_le (mask_lt f k) (Nat.pow_le_pow_right (by omega) (by omega))
end Go.Proofs.Ytpgokcilnejolaa
