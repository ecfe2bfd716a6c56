/-
  heldMatrixS and heldMatrixSS over what the marks left, by contract. Conditions: sizes of at most 2^20.
-/
import Derived.Test.YthoepelgmplcmaaMarkS
namespace Go.Proofs.Ythoepelgmplcmaa
open Go.RowKit
set_option linter.unusedVariables false

theorem upMM_append (b : List (List Mat)) : ∀ (a : List (List Mat)) (k : Int), upMM k (a ++ b) = upMM k a ++ upMM (k + 2 * (tot a : Int)) b
  | [], k => by simp [upMM, tot]
  | xs :: a, k => by
    show upM k xs.length :: upMM (k + 2 * (xs.length : Int)) (a ++ b) = upM k xs.length :: (upMM (k + 2 * (xs.length : Int)) a ++ upMM (k + 2 * (tot (xs :: a) : Int)) b)
    rw [upMM_append b a, tot_cons]
    have : k + 2 * (xs.length : Int) + 2 * (tot a : Int) = k + 2 * ((xs.length + tot a : Nat) : Int) := by push_cast; omega
    rw [this]
theorem upMM_get {ms : List (List Mat)} {j : Nat} {xs : List Mat} (k : Int) (h : ms[j]? = some xs) : (upMM k ms)[j]? = some (upM (k + 2 * (tot (ms.take j) : Int)) xs.length) := by
  have hj := (List.getElem?_eq_some_iff.1 h).1
  have e : ms = ms.take j ++ (xs :: ms.drop (j + 1)) := by
    have h1 : ms.drop j = ms[j] :: ms.drop (j + 1) := List.drop_eq_getElem_cons hj
    have h2 : ms[j] = xs := by rw [List.getElem?_eq_getElem hj] at h; injection h
    rw [← h2, ← h1, List.take_append_drop]
  have hl : (upMM k (ms.take j)).length = j := by rw [upMM_len, List.length_take]; omega
  have e2 : upMM k ms = upMM k (ms.take j) ++ upMM (k + 2 * (tot (ms.take j) : Int)) (xs :: ms.drop (j + 1)) := by
    conv => lhs; rw [e]
    rw [upMM_append]
  rw [e2, List.getElem?_append_right (by omega), hl, Nat.sub_self]
  rfl

set_option maxRecDepth 100000 in
set_option maxHeartbeats 800000 in
theorem heldMatrixS_any (lo hi : Nat) (A : Option Addr) (n c : Nat) (k : Int) (w : World) (hk0 : 0 ≤ k) (hk1 : k ≤ 4194304) (hl : n ≤ 1048576) (h : MatsI w lo hi A (upM k n)) :
    Calls Try.prog 129 #[.slice A n c, .int .i64 k] w fun e w' => e = .returned (.int .i64 (k + 2 * n)) ∧ w = w' := by
  go_enter Try.func129, Try.ntmps129
  go_wp2
  go_loop [1, 5] (fun q i => ∃ j : Nat, j ≤ n ∧ i = .int .i64 j ∧ q = .int .i64 (k + 2 * j)) (fun _ i => n - (intOf i).toNat)
  case atStart => exact ⟨0, Nat.zero_le _, rfl, by simp⟩
  case round =>
    obtain ⟨j, hj, rfl, rfl⟩ := hrel
    by_cases hlt : j < n
    · obtain ⟨ad, x, rfl, hx, c1, c2⟩ := h.at_ (k := j) (by rw [upM_len]; exact hlt)
      have hxe : (k + 2 * (j : Int), k + 2 * (j : Int) + 1) = x := by have := hx.out; rw [upM_get _ hlt] at this; injection this
      subst hxe
      simp only at c1 c2
      have hkb : 0 ≤ k + 2 * (j : Int) := by omega
      have hkc : k + 2 * (j : Int) ≤ 8388608 := by omega
      clear h hx
      go_wp2
      go_round
      case rel => exact ⟨j + 1, by omega, by go_num, by (first | go_num | (congr 1; push_cast; omega))⟩
      case measure => simp [intOf]; omega
    · have hjn : j = n := by omega
      subst hjn
      go_wp2
      go_ret
      exact ⟨rfl, rfl⟩

set_option maxRecDepth 100000 in
set_option maxHeartbeats 800000 in
theorem heldMatrixSS_any (lo hi : Nat) (A : Option Addr) (n c : Nat) (k : Int) (ms : List (List Mat)) (w : World) (hn : ms.length = n) (hk0 : 0 ≤ k) (hk1 : k ≤ 2097152) (hl : n ≤ 1048576) (ht : tot ms ≤ 1048576) (h : MagI w lo hi A (upMM k ms)) :
    Calls Try.prog 128 #[.slice A n c, .int .i64 k] w fun e w' => e = .returned (.int .i64 (k + 2 * tot ms)) ∧ w = w' := by
  have Hn := Lib.hid hn; clear hn
  have HT := Lib.hid ht; clear ht
  go_enter Try.func128, Try.ntmps128
  go_wp2
  go_loop [1, 5] (fun q i => ∃ j : Nat, j ≤ n ∧ i = .int .i64 j ∧ q = .int .i64 (k + 2 * (tot (ms.take j) : Int))) (fun _ i => n - (intOf i).toNat)
  case atStart => exact ⟨0, Nat.zero_le _, rfl, by simp [tot]⟩
  case round =>
    obtain ⟨j, hj, rfl, rfl⟩ := hrel
    by_cases hlt : j < n
    · obtain ⟨ad, xs', Aj, cj, rfl, hx', hc, hcap, hcm, hI⟩ := h.at_ (k := j) (by rw [upMM_len, Hn.out]; exact hlt)
      obtain ⟨xs, hx⟩ : ∃ xs, ms[j]? = some xs := ⟨_, List.getElem?_eq_getElem (by rw [Hn.out]; exact hlt)⟩
      have hxe : upM (k + 2 * (tot (ms.take j) : Int)) xs.length = xs' := by have := hx'.out; rw [upMM_get k hx] at this; injection this
      subst hxe
      rw [upM_len] at hc hcap
      have htl := tot_le hx
      have htk := tot_snoc (ms.take j) xs
      rw [← ttake_at hx] at htk
      have hTo := HT.out
      obtain ⟨q, hq⟩ : ∃ q, k + 2 * (tot (ms.take j) : Int) = q := ⟨_, rfl⟩
      rw [hq] at hI ⊢
      have hq0 : 0 ≤ q := by omega
      have hq1 : q ≤ 4194304 := by omega
      have hxl : xs.length ≤ 1048576 := by omega
      have HQ : Hid (q + 2 * (xs.length : Int) = k + 2 * (tot (ms.take (j + 1)) : Int)) := by show _ = _; rw [htk, ← hq]; push_cast; omega
      obtain ⟨q2, hq2⟩ : ∃ q2, q + 2 * (xs.length : Int) = q2 := ⟨_, rfl⟩
      have hd : decide (q2 < 0) = false := by rw [decide_eq_false_iff_not]; omega
      have HQ2 := Lib.hid hq2
      have HI := Lib.hid hI
      clear hTo htl htk hq hx hx' hI h hcap hcm hq2
      go_wp2_with fail
      refine (heldMatrixS_any lo hi _ _ _ q _ hq0 hq1 hxl HI.out).mono ?_
      rintro e w' ⟨rfl, rfl⟩
      rw [HQ2.out]
      go_wp2
      go_round
      case rel => exact ⟨j + 1, by omega, by go_num, by rw [← HQ.out, HQ2.out]⟩
      case measure => simp [intOf]; omega
    · have hjn : j = n := by omega
      subst hjn
      rw [ttake_all Hn.out]
      go_wp2
      go_ret
      exact ⟨rfl, rfl⟩
end Go.Proofs.Ythoepelgmplcmaa
