/-
  The laws' own comparison of two galleys and their total of numbers. No condition.
-/
import Derived.Test.YtobakeahbgodbaaPick
import Derived.Test.YtobakeahbgodbaaLawKit
import Derived.Outline
namespace Go.Proofs.Ytobakeahbgodbaa
open Go.RowKit
set_option linter.unusedVariables false

theorem stake_eq_snocG {zs ys : List ByteArray} {k : Nat} {x y : ByteArray} (hx : zs[k]? = some x) (hy : ys[k]? = some y) (h : zs.take k = ys.take k) (e : x = y) : zs.take (k + 1) = ys.take (k + 1) := by
  rw [List.take_add_one, List.take_add_one, hx, hy, h, e]
/-- two lists of as many numbers: equal or not -/
theorem lawStrings_any (A A2 : Option Addr) (n c n2 c2 : Nat) (zs ys : List ByteArray) (w : World) (hn : zs.length = n) (hn2 : ys.length = n2) (hm : n ≤ maxLen) (hm2 : n2 ≤ maxLen) (h : Strs w A zs) (h2 : Strs w A2 ys) :
    Calls Try.prog 30 #[.slice A n c, .slice A2 n2 c2] w fun e w' => ∃ k, e = .returned (.bool (decide (zs = ys))) ∧ w' = w.drewN k := by
  unfold maxLen at hm hm2
  have Hn := Lib.hid hn; have Hn2 := Lib.hid hn2; clear hn hn2
  by_cases hnn : n = n2
  · subst hnn
    have hb : ((n : Int) != (n : Int)) = false := by simp
    go_enter Try.func30, Try.ntmps30
    go_wp2
    go_loopw [13] (fun i wr => ∃ k j : Nat, k ≤ n ∧ i = .int .i64 k ∧ zs.take k = ys.take k ∧ wr = w.drewN j) (fun i _ => n - (intOf i).toNat)
    case atStart => exact ⟨0, 0, Nat.zero_le _, rfl, rfl, rfl⟩
    case round =>
      obtain ⟨k, j, hk, rfl, hq, rfl⟩ := hrel
      have Hq := Lib.hid hq
      clear hq
      by_cases hlt : k < n
      · obtain ⟨ad, x, rfl, hx, hc⟩ := h.at_ (k := k) (by rw [Hn.out]; exact hlt)
        obtain ⟨ad2, y, rfl, hy, hc2⟩ := h2.at_ (k := k) (by rw [Hn2.out]; exact hlt)
        by_cases hs : x = y
        · have Hs := Lib.hid (stake_eq_snocG hx.out hy.out Hq.out hs)
          subst hs
          have hb := str_eq x
          go_wp2
          go_quiet (fail)
          go_wp2
          go_roundw
          case rel => exact ⟨k + 1, _, by omega, by go_num, Hs.out, rfl⟩
          case measure => simp [intOf]; omega
        · have hb := str_ne hs
          have hb2 := (Lib.bytes_beq_false_iff x y).2 hs
          have hne : decide (zs = ys) = false := by
            rw [decide_eq_false_iff_not]
            intro e
            have h1 := hx.out
            rw [e, hy.out] at h1
            injection h1 with h1
            exact hs h1.symm
          go_wp2
          go_quiet (fail)
          go_wp2
          go_ret
          exact ⟨_, ret_bool hne.symm, World.drewN_drewN _ _ _⟩
      · have hkn : k = n := by omega
        subst hkn
        have e : decide (zs = ys) = true := by
          have h := Hq.out
          rw [List.take_of_length_le (by rw [Hn.out]; exact Nat.le_refl _), List.take_of_length_le (by rw [Hn2.out]; exact Nat.le_refl _)] at h
          simpa using h
        go_wp2
        go_ret
        exact ⟨j, ret_bool e.symm, rfl⟩
  · have hb : ((n : Int) != (n2 : Int)) = true := by rw [bne_iff_ne]; omega
    have hne : decide (zs = ys) = false := by
      rw [decide_eq_false_iff_not]
      intro e
      rw [e, Hn2.out] at Hn
      exact hnn Hn.out.symm
    go_enter Try.func30, Try.ntmps30
    go_wp2
    go_ret
    exact ⟨0, ret_bool hne.symm, rfl⟩

theorem lawStrings_same (A A2 : Option Addr) (n c c2 : Nat) (zs : List ByteArray) (w : World) (hn : zs.length = n) (hm : n ≤ maxLen) (h : Strs w A zs) (h2 : Strs w A2 zs) :
    Calls Try.prog 30 #[.slice A n c, .slice A2 n c2] w fun e w' => ∃ k, e = .returned (.bool true) ∧ w' = w.drewN k :=
  (lawStrings_any A A2 n c n c2 zs zs w hn hn hm hm h h2).mono fun e w' ⟨k, he, hw⟩ => ⟨k, by rw [he, decide_eq_true rfl], hw⟩
/-! ### mathematics -/
theorem sumL_smallG {zs : List Int} (hz : ∀ x ∈ zs, 0 ≤ x ∧ x ≤ 2000) (k : Nat) : 0 ≤ sumL (zs.take k) ∧ sumL (zs.take k) ≤ 2000 * (k : Int) := by
  induction k with
  | zero => simp [sumL]
  | succ k ih =>
    cases h : zs[k]? with
    | none =>
      have hk : zs.length ≤ k := List.getElem?_eq_none_iff.1 h
      rw [List.take_of_length_le (by omega)] at ih ⊢
      omega
    | some x =>
      rw [sumL_at h]
      have := hz x (mem_at h)
      omega
theorem totalG_any (A : Option Addr) (n c : Nat) (zs : List Int) (w : World) (hn : zs.length = n) (h : Ints w A zs) (hz : ∀ x ∈ zs, 0 ≤ x ∧ x ≤ 2000) (hm : n ≤ 1000) :
    Calls Try.prog 31 #[.slice A n c] w fun e w' => e = .returned (.int .i64 (sumL zs)) ∧ w = w' := by
  have HL := Lib.hid (sumL_smallG hz)
  have HZ := Lib.hid hz
  have Hn := Lib.hid hn
  clear hz hn
  go_enter Try.func31, Try.ntmps31
  go_wp2
  go_loop [3, 8] (fun s i => ∃ k : Nat, k ≤ n ∧ i = .int .i64 k ∧ s = .int .i64 (sumL (zs.take k))) (fun _ i => n - (intOf i).toNat)
  case atStart => exact ⟨0, Nat.zero_le _, rfl, rfl⟩
  case round =>
    obtain ⟨k, hk, rfl, rfl⟩ := hrel
    by_cases hlt : k < n
    · obtain ⟨ad, x, rfl, hx, hc⟩ := h.at_ (k := k) (by rw [Hn.out]; exact hlt)
      have HS := Lib.hid (sumL_at hx.out)
      have hb1 := HL.out k
      have hx2 := HZ.out x (mem_at hx.out)
      obtain ⟨sm, hsm⟩ : ∃ s, sumL (zs.take k) = s := ⟨_, rfl⟩
      rw [hsm] at HS hb1 ⊢
      clear hsm
      go_wp2
      go_round
      case rel => exact ⟨k + 1, by omega, by go_num, by rw [HS.out]⟩
      case measure => simp [intOf]; omega
    · have hkn : k = n := by omega
      subst hkn
      rw [take_all Hn.out]
      go_wp2
      go_ret
      exact ⟨rfl, rfl⟩
end Go.Proofs.Ytobakeahbgodbaa
