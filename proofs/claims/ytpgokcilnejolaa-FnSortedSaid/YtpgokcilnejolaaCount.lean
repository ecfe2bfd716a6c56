/-
  Counting teeth: the model counts by halving, the program by math/bits.OnesCount64; on sets of teeth both give 'cnt'. No condition on CountTeeth; the inner ones ask a set of teeth.
-/
import Derived.Test.YtpgokcilnejolaaBase
import Derived.Test.YtpgokcilnejolaaLeaf
namespace Go.Proofs.Ytpgokcilnejolaa
open Go.RowKit

/-- the number of teeth of a set of teeth -/
def cnt (s : Int) : Int := s % 2 + s / 2 % 2 + s / 4 % 2 + s / 8 % 2 + s / 16 % 2 + s / 32 % 2 + s / 64 % 2
theorem cnt_half (x : Int) (h0 : 0 ≤ x) (h1 : x ≤ 127) : cnt x = x % 2 + cnt (x / 2) := by unfold cnt; omega
theorem cnt_zero : cnt 0 = 0 := by decide
theorem cnt_bd (x : Int) : 0 ≤ cnt x ∧ cnt x ≤ 7 := by unfold cnt; omega
theorem all128 (p : Int → Prop) [DecidablePred p] (h : ∀ n : Fin 128, p ((n : Nat) : Int)) (s : Int) (h0 : 0 ≤ s) (h1 : s ≤ 127) : p s := by
  have := h ⟨s.toNat, by omega⟩
  simpa [Int.toNat_of_nonneg h0] using this
theorem setB_iff (s : Int) : setB s = true ↔ 0 ≤ s ∧ s ≤ 127 := by simp [setB]

set_option maxHeartbeats 400000 in
theorem l1Count_any (s : Int) (w : World) (h0 : 0 ≤ s) (h1 : s ≤ 127) : Calls Try.prog 66 #[.int .i64 s] w fun e w' => e = .returned (.int .i64 (cnt s)) ∧ w = w' := by
  go_enter Try.func66, Try.ntmps66
  go_wp2
  go_loop [0, 3] (fun x m => ∃ a b : Int, 0 ≤ a ∧ a ≤ 127 ∧ 0 ≤ b ∧ b ≤ 7 ∧ x = .int .i64 a ∧ m = .int .i64 b ∧ b + cnt a = cnt s) (fun x _ => (intOf x).toNat)
  case atStart => exact ⟨s, 0, h0, h1, by omega, by omega, rfl, rfl, by simp⟩
  case round =>
    obtain ⟨a, b, ha0, ha1, hb0, hb1, rfl, rfl, hs⟩ := hrel
    have Hs := Lib.hid hs; clear hs h0 h1
    by_cases hp : 0 < a
    · have Hh : Hid (b + a % 2 + cnt (a / 2) = cnt s) := by show _ = _; rw [← Hs.out, cnt_half a ha0 ha1]; omega
      have hbb := (cnt_bd s).2
      have hcc := (cnt_bd (a / 2)).1
      have hlim : b + a % 2 ≤ 7 := by have := Hh.out; omega
      clear hbb hcc
      go_wp2
      go_round
      case rel => exact ⟨a / 2, b + a % 2, by omega, by omega, by omega, hlim, rfl, rfl, Hh.out⟩
      case measure => simp [intOf]; omega
    · have ha : a = 0 := by omega
      subst ha
      go_wp2
      go_ret
      exact ⟨ret_int (by have := Hs.out; rw [cnt_zero] at this; omega), rfl⟩

set_option maxHeartbeats 400000 in
theorem count_any (s : Int) (w : World) (h0 : 0 ≤ s) (h1 : s ≤ 127) : Calls Try.prog 67 #[.int .i64 s] w fun e w' => e = .returned (.int .i64 (cnt s)) ∧ w = w' := by
  go_enter Try.func67, Try.ntmps67
  go_wp2
  go_ret
  refine ⟨congrArg (fun z => Ending.returned (.int .i64 z)) ?_, rfl⟩
  revert s
  exact all128 _ (by decide +kernel)

def countI (s : Int) : Int := if setB s then cnt s else -1
set_option maxHeartbeats 400000 in
theorem specCount_any (s : Int) (w : World) : Calls Try.prog 28 #[.int .i64 s] w fun e w' => e = .returned (.int .i64 (countI s)) ∧ w = w' := by
  by_cases hs : setB s = true
  · have Hf : Hid (countI s = cnt s) := by show _ = _; unfold countI; rw [hs]; rfl
    obtain ⟨h0, h1⟩ := (setB_iff s).1 hs
    go_enter Try.func28, Try.ntmps28
    go_wp2_with (first
      | (go_at_call 51; refine (l1Set_any _ _).mono ?_; rintro e w' ⟨rfl, rfl⟩)
      | (go_at_call 66; refine (l1Count_any _ _ h0 h1).mono ?_; rintro e w' ⟨rfl, rfl⟩))
    go_ret
    exact ⟨ret_int Hf.out.symm, rfl⟩
  · have hs' : setB s = false := by simpa using hs
    have Hf : Hid (countI s = -1) := by show _ = _; unfold countI; rw [hs']; rfl
    clear hs
    go_enter Try.func28, Try.ntmps28
    go_wp2_with (go_at_call 51; refine (l1Set_any _ _).mono ?_; rintro e w' ⟨rfl, rfl⟩)
    go_ret
    exact ⟨ret_int Hf.out.symm, rfl⟩
set_option maxHeartbeats 400000 in
theorem implCount_any (s : Int) (w : World) : Calls Try.prog 29 #[.int .i64 s] w fun e w' => e = .returned (.int .i64 (countI s)) ∧ w = w' := by
  by_cases hs : setB s = true
  · have Hf : Hid (countI s = cnt s) := by show _ = _; unfold countI; rw [hs]; rfl
    obtain ⟨h0, h1⟩ := (setB_iff s).1 hs
    go_enter Try.func29, Try.ntmps29
    go_wp2_with (first
      | (go_at_call 55; refine (isSet_any _ _).mono ?_; rintro e w' ⟨rfl, rfl⟩)
      | (go_at_call 67; refine (count_any _ _ h0 h1).mono ?_; rintro e w' ⟨rfl, rfl⟩))
    go_ret
    exact ⟨ret_int Hf.out.symm, rfl⟩
  · have hs' : setB s = false := by simpa using hs
    have Hf : Hid (countI s = -1) := by show _ = _; unfold countI; rw [hs']; rfl
    clear hs
    go_enter Try.func29, Try.ntmps29
    go_wp2_with (go_at_call 55; refine (isSet_any _ _).mono ?_; rintro e w' ⟨rfl, rfl⟩)
    go_ret
    exact ⟨ret_int Hf.out.symm, rfl⟩

theorem fnExactCountTeeth_walk (s : Int) (w : World) (_ws : (Lit.int .i64 s).wf = true) : Calls Try.prog 10 #[.int .i64 s] w fun e w' => e = .returned (.bool true) ∧ Below w.heap.size w w' := by
  go_enter Try.func10, Try.ntmps10
  go_wp2_with (first
    | (go_at_call 28; refine (specCount_any _ _).mono ?_; rintro e w' ⟨rfl, rfl⟩)
    | (go_at_call 29; refine (implCount_any _ _).mono ?_; rintro e w' ⟨rfl, rfl⟩))
  go_ret
  exact ⟨rfl, Below.refl _ _⟩
end Go.Proofs.Ytpgokcilnejolaa
