/-
  szStringS of the laws by contract: what is left behind a list of strings, or -1. Condition: at most 2^20 may be left.
-/
import Derived.Test.YtimhnkpccbcohaaGreatDoorZStrP
namespace Go.Proofs.YtimhnkpccbcohaaGreatDoor
open Go.RowKit
set_option linter.unusedVariables false

/-- the bytes of the first k strings -/
def szT (ss : List ByteArray) (k : Nat) : Nat := ((ss.take k).map ByteArray.size).sum
/-- strings and bytes -/
def szL (ss : List ByteArray) : Nat := ss.length + szT ss ss.length
def szI (left : Int) (ss : List ByteArray) : Int := if (szL ss : Int) ≤ left then left - szL ss else -1
theorem szT_succ {ss : List ByteArray} {k : Nat} {x : ByteArray} (h : ss[k]? = some x) : szT ss (k + 1) = szT ss k + x.size := by
  unfold szT; rw [stake_at h, List.map_append, List.sum_append]; simp
theorem szT_all (ss : List ByteArray) {n : Nat} (h : ss.length ≤ n) : szT ss n = szT ss ss.length := by
  unfold szT; rw [List.take_of_length_le h, List.take_of_length_le (Nat.le_refl _)]
theorem szT_mono (ss : List ByteArray) (k : Nat) : szT ss k ≤ szT ss (k + 1) := by
  cases h : ss[k]? with
  | none =>
    have hl : ss.length ≤ k := List.getElem?_eq_none_iff.1 h
    rw [szT_all ss hl, szT_all ss (Nat.le_succ_of_le hl)]; exact Nat.le_refl _
  | some x => rw [szT_succ h]; omega
theorem szT_le (ss : List ByteArray) {k m : Nat} (h : k ≤ m) : szT ss k ≤ szT ss m := by
  induction m with
  | zero => have : k = 0 := by omega
            subst this; exact Nat.le_refl _
  | succ m ih =>
    by_cases e : k = m + 1
    · subst e; exact Nat.le_refl _
    · exact Nat.le_trans (ih (by omega)) (szT_mono ss m)
theorem szI_good {left : Int} {ss : List ByteArray} (h : 0 ≤ szI left ss) : (szL ss : Int) ≤ left ∧ szI left ss = left - szL ss := by
  unfold szI at *
  by_cases e : (szL ss : Int) ≤ left
  · rw [if_pos e]; exact ⟨e, rfl⟩
  · rw [if_neg e] at h; omega
theorem szI_bad {left : Int} {ss : List ByteArray} (h : ¬ (szL ss : Int) ≤ left) : szI left ss = -1 := by unfold szI; rw [if_neg h]

set_option maxHeartbeats 800000 in
theorem szStringS_any (A : Option Addr) (n c : Nat) (ss : List ByteArray) (left : Int) (w : World) (hn : ss.length = n) (hm : n ≤ maxLen) (h : Strs w A ss) (hz : ∀ s ∈ ss, s.size ≤ maxLen) (h0 : 0 ≤ left) (h1 : left ≤ 1048576) :
    Calls Tryz.prog 21 #[.slice A n c, .int .i64 left] w fun e w' => e = .returned (.int .i64 (szI left ss)) ∧ w = w' := by
  unfold maxLen at hm hz
  have Hn := Lib.hid hn; have Hz := Lib.hid hz
  clear hn hz
  by_cases hlt : left < n
  · have HR : Hid (szI left ss = -1) := by
      show _ = _
      exact szI_bad (by unfold szL; rw [Hn.out]; omega)
    go_enter Tryz.func21, Tryz.ntmps21
    go_wp2
    go_ret
    exact ⟨ret_int HR.out.symm, rfl⟩
  go_enter Tryz.func21, Tryz.ntmps21
  go_wp2
  go_loop [1, 5] (fun l i => ∃ (k : Nat) (q : Int), k ≤ n ∧ i = .int .i64 k ∧ l = .int .i64 q ∧ 0 ≤ q ∧ q ≤ 1048576 ∧ q = left - n - szT ss k) (fun _ i => n - (intOf i).toNat)
  case atStart => exact ⟨0, left - n, Nat.zero_le _, rfl, rfl, by omega, by omega, by simp [szT]⟩
  case round =>
    obtain ⟨k, q, hk, rfl, rfl, hq0, hq1, hq⟩ := hrel
    have Hq := Lib.hid hq
    clear hq
    by_cases hkn : k < n
    · obtain ⟨ad, x, rfl, hx, hc⟩ := h.at_ (k := k) (by rw [Hn.out]; exact hkn)
      have hxs : x.size ≤ 9223372036854775807 := Hz.out x (smem_at hx.out)
      have HS := Lib.hid (szT_succ hx.out)
      by_cases hb : q < x.size
      · have HR : Hid (szI left ss = -1) := by
          show _ = _
          have h2 := szT_le ss (show k + 1 ≤ ss.length by rw [Hn.out]; omega)
          have h3 := Hq.out
          have h4 := HS.out
          exact szI_bad (by unfold szL; rw [Hn.out] at *; omega)
        go_wp2
        go_ret
        exact ⟨ret_int HR.out.symm, rfl⟩
      · have HQ : Hid (q - x.size = left - n - szT ss (k + 1)) := by
          show _ = _
          have h3 := Hq.out
          have h4 := HS.out
          omega
        go_wp2
        go_round
        case rel => exact ⟨k + 1, q - x.size, by omega, by go_num, rfl, by omega, by omega, HQ.out⟩
        case measure => simp [intOf]; omega
    · have hkn' : k = n := by omega
      subst hkn'
      have HR : Hid (szI left ss = q) := by
        show _ = _
        have h3 := Hq.out
        have e : szL ss = k + szT ss k := by unfold szL; rw [Hn.out]
        unfold szI
        rw [if_pos (by rw [e]; omega), e, h3]
        omega
      go_wp2
      go_ret
      exact ⟨ret_int HR.out.symm, rfl⟩
end Go.Proofs.YtimhnkpccbcohaaGreatDoor
