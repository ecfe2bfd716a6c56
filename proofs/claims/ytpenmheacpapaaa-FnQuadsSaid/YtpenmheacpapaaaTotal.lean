/-
  Helpers of the laws of lines: total (the sum of a line), count of bands where a region only reads. Condition of total: the line is one.
-/
import Derived.Test.YtpenmheacpapaaaLineA
import Derived.Test.YtpenmheacpapaaaSpecL
import Derived.Test.YtpenmheacpapaaaLawKit
import Derived.Outline
namespace Go.Proofs.Ytpenmheacpapaaa
open Go.RowKit
set_option linter.unusedVariables false

theorem lawTotal_any (A : Option Addr) (n c : Nat) (zs : List Int) (w : World) (hn : zs.length = n) (h : Ints w A zs) (hl : lineB zs = true) :
    Calls Try.prog 27 #[.slice A n c] w fun e w' => e = .returned (.int .i64 (sumL zs)) ∧ w = w' := by
  obtain ⟨hz, hlen⟩ := lineB_parts hl
  have HZ := Lib.hid hz
  have HL := Lib.hid (lineB_take hl)
  have Hn := Lib.hid hn
  have hm : n ≤ 120 := by omega
  clear hz hlen hn hl
  go_enter Try.func27, Try.ntmps27
  go_wp2
  go_loop [3, 8] (fun s i => ∃ k : Nat, k ≤ n ∧ i = .int .i64 k ∧ s = .int .i64 (sumL (zs.take k))) (fun _ i => n - (intOf i).toNat)
  case atStart => exact ⟨0, Nat.zero_le _, rfl, rfl⟩
  case round =>
    obtain ⟨k, hk, rfl, rfl⟩ := hrel
    by_cases hlt : k < n
    · obtain ⟨ad, x, rfl, hx, hc⟩ := h.at_ (k := k) (by rw [Hn.out]; exact hlt)
      have HS := Lib.hid (sumL_at hx.out)
      have hb1 := HL.out k
      have hx2 := HZ.out x (mem_at hx.out)
      obtain ⟨sm, hsm⟩ : ∃ s, sumL (zs.take k) = s := ⟨_, rfl⟩
      rw [hsm] at HS hb1 ⊢
      clear hsm
      go_wp2
      go_round
      case rel => exact ⟨k + 1, by omega, by go_num, by rw [HS.out]⟩
      case measure => simp [intOf]; omega
    · have hkn : k = n := by omega
      subst hkn
      rw [take_all Hn.out]
      go_wp2
      go_ret
      exact ⟨rfl, rfl⟩
end Go.Proofs.Ytpenmheacpapaaa
