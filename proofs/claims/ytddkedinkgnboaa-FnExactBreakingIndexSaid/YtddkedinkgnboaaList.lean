/-
  isListOf of the program at whole numbers, by contract: a list has a permitted length and permitted elements. Condition: the function that is handed in returns what its plain function says and leaves the world as it was.
-/
import Derived.Test.YtddkedinkgnboaaBase
import Derived.Test.YtddkedinkgnboaaIn
import Derived.Outline
namespace Go.Proofs.Ytddkedinkgnboaa
open Go.RowKit
set_option linter.unusedVariables false

theorem all_take {p : Int → Bool} {zs : List Int} {k : Nat} {x : Int} (h : zs[k]? = some x) : (zs.take (k + 1)).all p = ((zs.take k).all p && p x) := by
  rw [take_at h]; simp
theorem all_bad {p : Int → Bool} {zs : List Int} {k : Nat} {x : Int} (h : zs[k]? = some x) (hb : p x = false) : zs.all p = false := by
  rw [List.all_eq_false]
  exact ⟨x, mem_at h, by rw [hb]; simp⟩

set_option maxHeartbeats 800000 in
theorem isListOf_any (F : Nat) (hF : ∀ (args : Array Value) (w : World), Sem.run Try.prog (callFunc F args) w = .ok (.enter F args) w) (p : Int → Bool) (hp : ∀ (x : Int) (w : World), Calls Try.prog F #[.int .i64 x] w fun e w' => e = .returned (.bool (p x)) ∧ w = w')
    (A : Option Addr) (n c : Nat) (zs : List Int) (lo hi : Int) (w : World) (hn : zs.length = n) (hm : n ≤ maxLen) (h : Ints w A zs) :
    Calls Try.prog 82 #[.slice A n c, .int .i64 lo, .int .i64 hi, .func (.func F) #[] #[]] w fun e w' => e = .returned (.bool (inB n lo hi && zs.all p)) ∧ w = w' := by
  unfold maxLen at hm
  have Hn := Lib.hid hn; clear hn
  by_cases hlo : (n : Int) < lo
  · have H0 : Hid (inB n lo hi = false) := by show _ = _; unfold inB; rw [decide_eq_false_iff_not]; omega
    go_enter Try.func82, Try.ntmps82
    go_wp2
    go_ret
    exact ⟨ret_bool (by rw [H0.out]; rfl), rfl⟩
  by_cases hhi : hi < (n : Int)
  · have H0 : Hid (inB n lo hi = false) := by show _ = _; unfold inB; rw [decide_eq_false_iff_not]; omega
    go_enter Try.func82, Try.ntmps82
    go_wp2
    go_ret
    exact ⟨ret_bool (by rw [H0.out]; rfl), rfl⟩
  have H1 : Hid (inB n lo hi = true) := by show _ = _; unfold inB; rw [decide_eq_true_eq]; omega
  go_enter Try.func82, Try.ntmps82
  go_wp2
  go_loop [23] (fun i => ∃ k : Nat, k ≤ n ∧ i = .int .i64 k ∧ (zs.take k).all p = true) (fun i => n - (intOf i).toNat)
  case atStart => exact ⟨0, Nat.zero_le _, rfl, rfl⟩
  case round =>
    obtain ⟨k, hk, rfl, hall⟩ := hrel
    have Hall := Lib.hid hall; clear hall
    by_cases hlt : k < n
    · obtain ⟨ad, x, rfl, hx, hc⟩ := h.at_ (k := k) (by rw [Hn.out]; exact hlt)
      cases hs : p x
      · have Hb := Lib.hid (all_bad hx.out hs)
        go_wp2_with fail
        refine (hp _ _).mono ?_
        rintro e w' ⟨rfl, rfl⟩
        rw [hs]
        go_wp2
        go_ret
        exact ⟨ret_bool (by rw [Hb.out]; simp), rfl⟩
      · have Hs := Lib.hid (all_take (p := p) hx.out)
        go_wp2_with fail
        refine (hp _ _).mono ?_
        rintro e w' ⟨rfl, rfl⟩
        rw [hs]
        go_wp2
        go_round
        case rel => exact ⟨k + 1, by omega, by go_num, by rw [Hs.out, Hall.out, hs]; rfl⟩
        case measure => simp [intOf]; omega
    · have hkn : k = n := by omega
      subst hkn
      go_wp2
      go_ret
      refine ⟨ret_bool ?_, rfl⟩
      have := Hall.out
      rw [take_all Hn.out] at this
      rw [this, H1.out]; rfl

end Go.Proofs.Ytddkedinkgnboaa
