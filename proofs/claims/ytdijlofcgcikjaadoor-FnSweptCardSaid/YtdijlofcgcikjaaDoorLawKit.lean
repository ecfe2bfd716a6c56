/-
  Helpers of the laws: count (how often a number is in a list) and ints (two lists are equal). Condition: the lists are as long as a slice can be.
-/
import Derived.Test.YtdijlofcgcikjaaDoorPkA
import Derived.Outline
import Derived.Deep.QuietTactic
import Derived.BigQuiet
namespace Go.Proofs.YtdijlofcgcikjaaDoor
open Go.RowKit
set_option linter.unusedVariables false

/-- how often s is in zs -/
def cntOf (zs : List Int) (s : Int) : Nat := zs.count s
theorem cntOf_take {zs : List Int} {k : Nat} {x : Int} (s : Int) (h : zs[k]? = some x) : cntOf (zs.take (k + 1)) s = cntOf (zs.take k) s + (if x = s then 1 else 0) := by
  unfold cntOf
  rw [List.take_add_one, h, List.count_append]
  simp only [Option.toList, List.count_singleton, beq_iff_eq]
theorem cntOf_le (zs : List Int) (k : Nat) (s : Int) : cntOf (zs.take k) s ≤ k := by
  unfold cntOf
  have := List.count_le_length (a := s) (l := zs.take k)
  rw [List.length_take] at this
  omega
theorem take_eq_snoc {zs ys : List Int} {k : Nat} {x y : Int} (hx : zs[k]? = some x) (hy : ys[k]? = some y) (h : zs.take k = ys.take k) (e : x = y) : zs.take (k + 1) = ys.take (k + 1) := by
  rw [List.take_add_one, List.take_add_one, hx, hy, h, e]
/-- two lists of as many numbers: equal or not -/
theorem lawInts_any (A A2 : Option Addr) (n c n2 c2 : Nat) (zs ys : List Int) (w : World) (hn : zs.length = n) (hn2 : ys.length = n2) (hm : n ≤ maxLen) (hm2 : n2 ≤ maxLen) (h : Ints w A zs) (h2 : Ints w A2 ys) :
    Calls Tryd.prog 14 #[.slice A n c, .slice A2 n2 c2] w fun e w' => ∃ k, e = .returned (.bool (decide (zs = ys))) ∧ w' = w.drewN k := by
  unfold maxLen at hm hm2
  have Hn := Lib.hid hn; have Hn2 := Lib.hid hn2; clear hn hn2
  by_cases hnn : n = n2
  · subst hnn
    have hb : ((n : Int) != (n : Int)) = false := by simp
    go_enter Tryd.func14, Tryd.ntmps14
    go_wp2
    go_loopw [13] (fun i wr => ∃ k j : Nat, k ≤ n ∧ i = .int .i64 k ∧ zs.take k = ys.take k ∧ wr = w.drewN j) (fun i _ => n - (intOf i).toNat)
    case atStart => exact ⟨0, 0, Nat.zero_le _, rfl, rfl, rfl⟩
    case round =>
      obtain ⟨k, j, hk, rfl, hq, rfl⟩ := hrel
      have Hq := Lib.hid hq
      clear hq
      by_cases hlt : k < n
      · obtain ⟨ad, x, rfl, hx, hc⟩ := h.at_ (k := k) (by rw [Hn.out]; exact hlt)
        obtain ⟨ad2, y, rfl, hy, hc2⟩ := h2.at_ (k := k) (by rw [Hn2.out]; exact hlt)
        by_cases hs : x = y
        · have Hs := Lib.hid (take_eq_snoc hx.out hy.out Hq.out hs)
          have hb : (x != y) = false := by simpa using hs
          go_wp2
          go_quiet (fail)
          go_wp2
          go_roundw
          case rel => exact ⟨k + 1, _, by omega, by go_num, Hs.out, rfl⟩
          case measure => simp [intOf]; omega
        · have hb : (x != y) = true := by simpa using hs
          have hne : decide (zs = ys) = false := by
            rw [decide_eq_false_iff_not]
            intro e
            have h1 := hx.out
            rw [e, hy.out] at h1
            injection h1 with h1
            exact hs h1.symm
          go_wp2
          go_quiet (fail)
          go_wp2
          go_ret
          exact ⟨_, ret_bool hne.symm, World.drewN_drewN _ _ _⟩
      · have hkn : k = n := by omega
        subst hkn
        have e : decide (zs = ys) = true := by
          have h := Hq.out
          rw [List.take_of_length_le (by rw [Hn.out]; exact Nat.le_refl _), List.take_of_length_le (by rw [Hn2.out]; exact Nat.le_refl _)] at h
          simpa using h
        go_wp2
        go_ret
        exact ⟨j, ret_bool e.symm, rfl⟩
  · have hb : ((n : Int) != (n2 : Int)) = true := by rw [bne_iff_ne]; omega
    have hne : decide (zs = ys) = false := by
      rw [decide_eq_false_iff_not]
      intro e
      rw [e, Hn2.out] at Hn
      exact hnn Hn.out.symm
    go_enter Tryd.func14, Tryd.ntmps14
    go_wp2
    go_ret
    exact ⟨0, ret_bool hne.symm, rfl⟩
end Go.Proofs.YtdijlofcgcikjaaDoor
