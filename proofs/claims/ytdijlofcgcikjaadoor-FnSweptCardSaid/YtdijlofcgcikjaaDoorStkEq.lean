/-
  Helpers of the laws: pieces and stocks at equal lists. Condition: lengths of at most 2^20.
-/
import Derived.Test.YtdijlofcgcikjaaDoorLawKit
import Derived.Test.YtdijlofcgcikjaaDoorPkF
namespace Go.Proofs.YtdijlofcgcikjaaDoor
open Go.RowKit
set_option linter.unusedVariables false
set_option linter.unusedSimpArgs false

theorem pieces_same (lo hi lo2 hi2 : Nat) (A A2 : Option Addr) (n c c2 : Nat) (xs : List Mat) (w : World) (hn : xs.length = n) (hm : n ≤ 1048576) (h : MatsI w lo hi A xs) (h2 : MatsI w lo2 hi2 A2 xs) :
    Calls Tryd.prog 59 #[.slice A n c, .slice A2 n c2] w fun e w' => ∃ k, e = .returned (.bool true) ∧ w' = w.drewN k := by
  have Hn := Lib.hid hn; clear hn
  have hb : ((n : Int) != (n : Int)) = false := by simp
  go_enter Tryd.func59, Tryd.ntmps59
  go_wp2
  go_loopw [13] (fun i wr => ∃ k j : Nat, k ≤ n ∧ i = .int .i64 k ∧ wr = w.drewN j) (fun i _ => n - (intOf i).toNat)
  case atStart => exact ⟨0, 0, Nat.zero_le _, rfl, rfl⟩
  case round =>
    obtain ⟨k, j, hk, rfl, rfl⟩ := hrel
    by_cases hlt : k < n
    · obtain ⟨ad, x, rfl, hx, c0, c1⟩ := h.at_ (k := k) (by rw [Hn.out]; exact hlt)
      obtain ⟨ad2, y, rfl, hy, d0, d1⟩ := h2.at_ (k := k) (by rw [Hn.out]; exact hlt)
      obtain rfl : x = y := by have h9 := hx.out; rw [hy.out] at h9; injection h9 with h9; exact h9.symm
      obtain ⟨k1, k2⟩ := x
      simp only at c0 c1 d0 d1
      go_wp2
      go_quiet (fail)
      go_wp2
      go_roundw
      case rel => exact ⟨k + 1, _, by omega, by go_num, rfl⟩
      case measure => simp [intOf]; omega
    · have hkn : k = n := by omega
      subst hkn
      go_wp2
      go_ret
      exact ⟨j, rfl, rfl⟩
theorem piecesJ_any {lo hi lo2 hi2 n c c2 j q : Nat} {A A2 : Option Addr} {xs : List Mat} {w : World} (hn : xs.length = n) (hm : n ≤ 1048576) (h : MatsI w lo hi A xs) (h2 : MatsI w lo2 hi2 A2 xs) :
    Calls Tryd.prog 59 #[.slice A n c, .slice A2 n c2] (w.drewN (j + q)) fun e w'' => e = .returned (.bool true) ∧ ∃ m, w'' = w.drewN (j + m) := by
  refine (pieces_same lo hi lo2 hi2 A A2 n c c2 xs (w.drewN (j + q)) hn hm (h.keep fun p _ _ => rfl) (h2.keep fun p _ _ => rfl)).mono ?_
  rintro e w' ⟨k, rfl, rfl⟩
  exact ⟨rfl, q + k, by rw [World.drewN_drewN, Nat.add_assoc]⟩
theorem stocks_same (lo hi lo2 hi2 : Nat) (A A2 : Option Addr) (n c c2 : Nat) (ms : List (List Mat)) (w : World) (hn : ms.length = n) (hm : n ≤ 1048576) (hlim : ∀ xs ∈ ms, xs.length ≤ 1048576) (h : MagI w lo hi A ms) (h2 : MagI w lo2 hi2 A2 ms) :
    Calls Tryd.prog 21 #[.slice A n c, .slice A2 n c2] w fun e w' => ∃ k, e = .returned (.bool true) ∧ w' = w.drewN k := by
  have Hn := Lib.hid hn; have HLIM := Lib.hid hlim; clear hn hlim
  have hb : ((n : Int) != (n : Int)) = false := by simp
  go_enter Tryd.func21, Tryd.ntmps21
  go_wp2
  go_loopw [13] (fun i wr => ∃ k j : Nat, k ≤ n ∧ i = .int .i64 k ∧ wr = w.drewN j) (fun i _ => n - (intOf i).toNat)
  case atStart => exact ⟨0, 0, Nat.zero_le _, rfl, rfl⟩
  case round =>
    obtain ⟨k, j, hk, rfl, rfl⟩ := hrel
    by_cases hlt : k < n
    · obtain ⟨ad, xs, Aj, cj, rfl, hx, c0, -, -, hI⟩ := h.at_ (k := k) (by rw [Hn.out]; exact hlt)
      obtain ⟨ad2, ys, Ak, ck, rfl, hy, d0, -, -, hJ⟩ := h2.at_ (k := k) (by rw [Hn.out]; exact hlt)
      obtain rfl : xs = ys := by have h9 := hx.out; rw [hy.out] at h9; injection h9 with h9; exact h9.symm
      have hxl := HLIM.out xs (List.mem_of_getElem? hx.out)
      obtain ⟨l, hl⟩ : ∃ l, xs.length = l := ⟨_, rfl⟩
      rw [hl] at c0 d0 hxl
      have HI := Lib.hid hI; have HJ := Lib.hid hJ; have HL := Lib.hid hl
      clear hI hJ hl
      go_wp2
      go_quiet ((go_at_call 59; exact piecesJ_any HL.out hxl HI.out HJ.out))
      go_wp2
      go_roundw
      case rel => exact ⟨k + 1, _, by omega, by go_num, rfl⟩
      case measure => simp [intOf]; omega
    · have hkn : k = n := by omega
      subst hkn
      go_wp2
      go_ret
      exact ⟨j, rfl, rfl⟩
end Go.Proofs.YtdijlofcgcikjaaDoor
