/-
  eqMatrixSS over magazines that read alike, by contract. Condition: at most 2^20 in each.
-/
import Derived.Test.YthoepelgmplcmaaMagH
namespace Go.Proofs.Ythoepelgmplcmaa
open Go.RowKit
set_option linter.unusedVariables false

set_option maxRecDepth 100000 in
set_option maxHeartbeats 1600000 in
theorem eqMatrixSS_same (lo hi lo2 hi2 : Nat) (A B : Option Addr) (n c d : Nat) (ms : List (List Mat)) (w : World) (hn : ms.length = n) (hl : n ≤ 1048576) (hlim : ∀ xs ∈ ms, xs.length ≤ 1048576) (hhi : hi ≤ w.heap.size) (hhi2 : hi2 ≤ w.heap.size) (h : MagI w lo hi A ms) (h2 : MagI w lo2 hi2 B ms) :
    Calls Try.prog 117 #[.slice A n c, .slice B n d] w fun e w' => e = .returned (.bool true) ∧ Below w.heap.size w w' := by
  have Hn := Lib.hid hn; have Hlim := Lib.hid hlim
  have H1 := Lib.hid h; have H2 := Lib.hid h2
  clear hn h h2 hlim
  go_enter Try.func117, Try.ntmps117
  go_wp2
  go_loopw [5] (fun i wr => ∃ k : Nat, k ≤ n ∧ i = .int .i64 k ∧ Below w.heap.size w wr) (fun i _ => n - (intOf i).toNat)
  case atStart => exact ⟨0, Nat.zero_le _, rfl, Below.refl _ _⟩
  case round =>
    obtain ⟨k, hk, rfl, hb⟩ := hrel
    have HB := Lib.hid hb
    clear hb
    by_cases hlt : k < n
    · obtain ⟨ad, xs, Aj, cj, rfl, hx, hc1, hp1, hp2, hI⟩ := (H1.out.below hhi HB.out).at_ (k := k) (by rw [Hn.out]; exact hlt)
      obtain ⟨bd, ys, Bj, dj, rfl, hy, hd1, hq1, hq2, hJ⟩ := (H2.out.below hhi2 HB.out).at_ (k := k) (by rw [Hn.out]; exact hlt)
      have hxy : xs = ys := by have := hx.out; rw [hy.out] at this; injection this with this; exact this.symm
      subst hxy
      have hxl := Hlim.out xs (List.mem_of_getElem? hx.out)
      have HI := Lib.hid hI; have HJ := Lib.hid hJ
      clear hI hJ hp1 hp2 hq1 hq2
      have hsz := HB.out.size
      obtain ⟨l, hl'⟩ : ∃ l, xs.length = l := ⟨_, rfl⟩
      rw [hl'] at hc1 hd1 hxl
      have HL := Lib.hid hl'
      clear hl'
      go_wp2
      go_still_tail 8, (by kernel_rfl)
      change wpList _ _ _ _ _ wr.drew
      have hIl : l ≤ maxLen := by unfold maxLen; omega
      go_wp2_with fail
      refine (eqMatrixS_any lo hi lo2 hi2 _ _ _ _ _ _ xs xs wr.drew HL.out HL.out hxl hIl (by show _ ≤ wr.heap.size; omega) (by show _ ≤ wr.heap.size; omega) (show MatsI wr.drew lo hi Aj xs from HI.out) (show MatsI wr.drew lo2 hi2 Bj xs from HJ.out)).mono ?_
      rintro e w2 ⟨rfl, hb2⟩
      have HB2 := Lib.hid (HB.out.drew.trans (hb2.mono hsz))
      have ht : decide (xs = xs) = true := by simp
      rw [ht]
      clear hb2 ht hsz
      go_wp2
      go_roundw
      case rel => exact ⟨k + 1, by omega, by go_num, HB2.out⟩
      case measure => simp [intOf]; omega
    · have hkn : k = n := by omega
      subst hkn
      go_wp2
      go_ret
      exact ⟨rfl, HB.out⟩
end Go.Proofs.Ythoepelgmplcmaa
