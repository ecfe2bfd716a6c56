/-
  Chapter 2, the functions that read a bar: each by contract at its plain function. Conditions: lengths are within the reach of a slice.
-/
import Derived.Test.YthoepelgmplcmaaPkA
import Derived.Test.YthoepelgmplcmaaLeaf
import Derived.Outline
namespace Go.Proofs.Ythoepelgmplcmaa
open Go.RowKit
def allSet (zs : List Int) : Bool := zs.all setB
def isBar (zs : List Int) : Bool := allSet zs && inB zs.length 1 40
theorem allSet_take {zs : List Int} {k : Nat} {x : Int} (h : zs[k]? = some x) : allSet (zs.take (k + 1)) = (allSet (zs.take k) && setB x) := by
  rw [take_at h]; simp [allSet]
theorem allSet_bad {zs : List Int} {k : Nat} {x : Int} (h : zs[k]? = some x) (hb : setB x = false) : allSet zs = false := by
  unfold allSet
  rw [List.all_eq_false]
  exact ⟨x, mem_at h, by rw [hb]; simp⟩

set_option maxHeartbeats 400000 in
theorem specIsBar_any (A : Option Addr) (n c : Nat) (zs : List Int) (w : World) (hn : zs.length = n) (hm : n ≤ maxLen) (h : Ints w A zs) :
    Calls Try.prog 162 #[.slice A n c] w fun e w' => e = .returned (.bool (isBar zs)) ∧ w = w' := by
  unfold maxLen at hm
  have Hn := Lib.hid hn; clear hn
  go_enter Try.func162, Try.ntmps162
  go_wp2
  go_loop [7] (fun i => ∃ k : Nat, k ≤ n ∧ i = .int .i64 k ∧ allSet (zs.take k) = true) (fun i => n - (intOf i).toNat)
  case atStart => exact ⟨0, Nat.zero_le _, rfl, rfl⟩
  case round =>
    obtain ⟨k, hk, rfl, hall⟩ := hrel
    have Hall := Lib.hid hall; clear hall
    by_cases hlt : k < n
    · obtain ⟨ad, x, rfl, hx, hc⟩ := h.at_ (k := k) (by rw [Hn.out]; exact hlt)
      by_cases hs : setB x = true
      · have Hs := Lib.hid (allSet_take hx.out)
        go_wp2_with (go_at_call 155; refine (l1Set_any _ _).mono ?_; rintro e w' ⟨rfl, rfl⟩)
        go_round
        case rel => exact ⟨k + 1, by omega, by go_num, by rw [Hs.out, Hall.out, hs]; rfl⟩
        case measure => simp [intOf]; omega
      · have hs' : setB x = false := by simpa using hs
        have Hb := Lib.hid (allSet_bad hx.out hs')
        clear hs
        go_wp2_with (go_at_call 155; refine (l1Set_any _ _).mono ?_; rintro e w' ⟨rfl, rfl⟩)
        go_ret
        exact ⟨ret_bool (by unfold isBar; rw [Hb.out]; rfl), rfl⟩
    · have hkn : k = n := by omega
      subst hkn
      go_wp2_with (go_at_call 80; refine (l1In_any _ _ _ _).mono ?_; rintro e w' ⟨rfl, rfl⟩)
      go_ret
      refine ⟨ret_bool ?_, rfl⟩
      have := Hall.out
      rw [take_all Hn.out] at this
      unfold isBar
      rw [this, Hn.out]; rfl

theorem barFn_any (x : Int) (w : World) : Calls Try.prog 206 #[.int .i64 x] w fun e w' => e = .returned (.bool (setB x)) ∧ w = w' := by
  go_enter Try.func206, Try.ntmps206
  go_wp2_with fail
  refine (isSet_any _ _).mono ?_
  rintro e w' ⟨rfl, rfl⟩
  go_wp2
  go_ret
  exact ⟨rfl, rfl⟩
theorem barFn_enter (args : Array Value) (w : World) : Sem.run Try.prog (callFunc 206 args) w = .ok (.enter 206 args) w := by kernel_rfl
set_option maxHeartbeats 400000 in
theorem implIsBar_any (A : Option Addr) (n c : Nat) (zs : List Int) (w : World) (hn : zs.length = n) (hm : n ≤ maxLen) (h : Ints w A zs) :
    Calls Try.prog 191 #[.slice A n c] w fun e w' => e = .returned (.bool (isBar zs)) ∧ w = w' := by
  have Hn := Lib.hid hn; clear hn
  go_enter Try.func191, Try.ntmps191
  go_wp2_with fail
  refine (isListOf_any 206 barFn_enter setB barFn_any _ _ _ zs _ _ _ Hn.out hm h).mono ?_
  rintro e w' ⟨rfl, rfl⟩
  go_wp2
  go_ret
  exact ⟨ret_bool (by unfold isBar allSet; rw [Hn.out, Bool.and_comm]), rfl⟩

/-- s is part of t -/
def partB (s t : Int) : Bool := bits .andNot .i64 s t == 0

theorem l1Part_any (s t : Int) (w : World) : Calls Try.prog 156 #[.int .i64 s, .int .i64 t] w fun e w' => e = .returned (.bool (partB s t)) ∧ w = w' := by
  go_enter Try.func156, Try.ntmps156
  go_wp2
  go_ret
  exact ⟨rfl, rfl⟩
theorem isPartOf_any (s t : Int) (w : World) : Calls Try.prog 86 #[.int .i64 s, .int .i64 t] w fun e w' => e = .returned (.bool (partB s t)) ∧ w = w' := by
  go_enter Try.func86, Try.ntmps86
  go_wp2
  go_ret
  exact ⟨rfl, rfl⟩
theorem without_any (s t : Int) (w : World) : Calls Try.prog 88 #[.int .i64 s, .int .i64 t] w fun e w' => e = .returned (.int .i64 (bits .andNot .i64 s t)) ∧ w = w' := by
  go_enter Try.func88, Try.ntmps88
  go_wp2
  go_ret
  exact ⟨rfl, rfl⟩

/-- where a set falls -/
def fallOf (zs : List Int) (s : Int) : Nat := zs.findIdx (partB s)
theorem fallOf_le (zs : List Int) (s : Int) : fallOf zs s ≤ zs.length := List.findIdx_le_length
theorem fallOf_hit {zs : List Int} {s : Int} {k : Nat} {x : Int} (hx : zs[k]? = some x) (hp : partB s x = true) (hno : (zs.take k).any (partB s) = false) : fallOf zs s = k := by
  have hk := lt_at hx
  unfold fallOf
  rw [List.findIdx_eq hk]
  refine ⟨by have : zs[k] = x := (List.getElem?_eq_some_iff.1 hx).2; rw [this]; exact hp, fun j hj => ?_⟩
  rw [List.any_eq_false] at hno
  have := hno zs[j] (List.mem_iff_getElem.2 ⟨j, by rw [List.length_take]; omega, by simp⟩)
  simpa using this
theorem fallOf_end {zs : List Int} {s : Int} (hno : zs.any (partB s) = false) : fallOf zs s = zs.length := by
  unfold fallOf
  rw [List.findIdx_eq_length]
  intro x hx
  rw [List.any_eq_false] at hno
  simpa using hno x hx
theorem any_take {zs : List Int} {s : Int} {k : Nat} {x : Int} (hx : zs[k]? = some x) (hp : partB s x = false) (hno : (zs.take k).any (partB s) = false) : (zs.take (k + 1)).any (partB s) = false := by
  rw [take_at hx, List.any_append, hno]; simp [hp]

set_option maxHeartbeats 400000 in
theorem l1Fall_any (A : Option Addr) (n c : Nat) (zs : List Int) (s : Int) (w : World) (hn : zs.length = n) (hm : n ≤ maxLen) (h : Ints w A zs) :
    Calls Try.prog 161 #[.slice A n c, .int .i64 s] w fun e w' => e = .returned (.int .i64 (fallOf zs s)) ∧ w = w' := by
  unfold maxLen at hm
  have Hn := Lib.hid hn; clear hn
  go_enter Try.func161, Try.ntmps161
  go_wp2
  go_loop [9] (fun i => ∃ k : Nat, k ≤ n ∧ i = .int .i64 k ∧ (zs.take k).any (partB s) = false) (fun i => n - (intOf i).toNat)
  case atStart => exact ⟨0, Nat.zero_le _, rfl, rfl⟩
  case round =>
    obtain ⟨k, hk, rfl, hno⟩ := hrel
    have Hno := Lib.hid hno; clear hno
    by_cases hlt : k < n
    · obtain ⟨ad, x, rfl, hx, hc⟩ := h.at_ (k := k) (by rw [Hn.out]; exact hlt)
      by_cases hs : partB s x = true
      · have Hf := Lib.hid (fallOf_hit hx.out hs Hno.out)
        go_wp2_with (go_at_call 156; refine (l1Part_any _ _ _).mono ?_; rintro e w' ⟨rfl, rfl⟩)
        go_ret
        exact ⟨ret_int (by rw [Hf.out]), rfl⟩
      · have hs' : partB s x = false := by simpa using hs
        have Ht := Lib.hid (any_take hx.out hs' Hno.out)
        clear hs
        go_wp2_with (go_at_call 156; refine (l1Part_any _ _ _).mono ?_; rintro e w' ⟨rfl, rfl⟩)
        go_round
        case rel => exact ⟨k + 1, by omega, by go_num, Ht.out⟩
        case measure => simp [intOf]; omega
    · have hkn : k = n := by omega
      subst hkn
      have Hf : Hid (fallOf zs s = k) := by
        show _ = _
        have := Hno.out
        rw [take_all Hn.out] at this
        rw [fallOf_end this, Hn.out]
      go_wp2
      go_ret
      exact ⟨ret_int (by rw [Hf.out]), rfl⟩

set_option maxHeartbeats 400000 in
theorem fall_any (A : Option Addr) (n c : Nat) (zs : List Int) (s : Int) (w : World) (hn : zs.length = n) (hm : n ≤ maxLen) (h : Ints w A zs) :
    Calls Try.prog 192 #[.slice A n c, .int .i64 s] w fun e w' => e = .returned (.int .i64 (fallOf zs s)) ∧ w = w' := by
  unfold maxLen at hm
  have Hn := Lib.hid hn; clear hn
  go_enter Try.func192, Try.ntmps192
  go_wp2
  go_loop [9] (fun i => ∃ k : Nat, k ≤ n ∧ i = .int .i64 k ∧ (zs.take k).any (partB s) = false) (fun i => n - (intOf i).toNat)
  case atStart => exact ⟨0, Nat.zero_le _, rfl, rfl⟩
  case round =>
    obtain ⟨k, hk, rfl, hno⟩ := hrel
    have Hno := Lib.hid hno; clear hno
    by_cases hlt : k < n
    · obtain ⟨ad, x, rfl, hx, hc⟩ := h.at_ (k := k) (by rw [Hn.out]; exact hlt)
      by_cases hs : partB s x = true
      · have Hf := Lib.hid (fallOf_hit hx.out hs Hno.out)
        go_wp2_with (go_at_call 86; refine (isPartOf_any _ _ _).mono ?_; rintro e w' ⟨rfl, rfl⟩)
        go_ret
        exact ⟨ret_int (by rw [Hf.out]), rfl⟩
      · have hs' : partB s x = false := by simpa using hs
        have Ht := Lib.hid (any_take hx.out hs' Hno.out)
        clear hs
        go_wp2_with (go_at_call 86; refine (isPartOf_any _ _ _).mono ?_; rintro e w' ⟨rfl, rfl⟩)
        go_round
        case rel => exact ⟨k + 1, by omega, by go_num, Ht.out⟩
        case measure => simp [intOf]; omega
    · have hkn : k = n := by omega
      subst hkn
      have Hf : Hid (fallOf zs s = k) := by
        show _ = _
        have := Hno.out
        rw [take_all Hn.out] at this
        rw [fallOf_end this, Hn.out]
      go_wp2
      go_ret
      exact ⟨ret_int (by rw [Hf.out]), rfl⟩

/-- FallOf, as both sides have it. -/
def fallI (zs : List Int) (s : Int) : Int := if isBar zs && setB s then fallOf zs s else -1

/-- all sets fall at their own places -/
def sortsB (zs : List Int) : Bool := (List.range zs.length).all (fun i => fallOf zs (zs.getD i 0) == i)
def sortsAll (zs : List Int) : Bool := sortsB zs && isBar zs
def sortsUp (zs : List Int) (k : Nat) : Bool := (List.range k).all (fun i => fallOf zs (zs.getD i 0) == i)
theorem sortsUp_succ {zs : List Int} {k : Nat} {x : Int} (hx : zs[k]? = some x) (hf : (((fallOf zs x : Nat) : Int) != (k : Int)) = false) (h : sortsUp zs k = true) : sortsUp zs (k + 1) = true := by
  unfold sortsUp at *
  rw [List.range_succ, List.all_append, h]
  simp only [List.all_cons, List.all_nil, Bool.and_true, Bool.true_and, getD_at hx]
  rw [bne_eq_false_iff_eq] at hf
  simp; omega
theorem sortsB_bad {zs : List Int} {k : Nat} {x : Int} (hx : zs[k]? = some x) (hf : (((fallOf zs x : Nat) : Int) != (k : Int)) = true) : sortsB zs = false := by
  unfold sortsB
  rw [List.all_eq_false]
  refine ⟨k, List.mem_range.2 (lt_at hx), ?_⟩
  rw [getD_at hx]
  rw [bne_iff_ne] at hf
  simp; omega

theorem sortsUp_full {zs : List Int} {n : Nat} (hn : zs.length = n) : sortsUp zs n = sortsB zs := by unfold sortsUp sortsB; rw [hn]

set_option maxHeartbeats 400000 in
theorem specSortsAll_any (A : Option Addr) (n c : Nat) (zs : List Int) (w : World) (hn : zs.length = n) (hm : n ≤ maxLen) (h : Ints w A zs) :
    Calls Try.prog 96 #[.slice A n c] w fun e w' => e = .returned (.bool (sortsAll zs)) ∧ w = w' := by
  have hm0 := hm
  unfold maxLen at hm
  have Hn := Lib.hid hn; clear hn
  go_enter Try.func96, Try.ntmps96
  go_wp2
  go_loop [7] (fun i => ∃ k : Nat, k ≤ n ∧ i = .int .i64 k ∧ sortsUp zs k = true) (fun i => n - (intOf i).toNat)
  case atStart => exact ⟨0, Nat.zero_le _, rfl, rfl⟩
  case round =>
    obtain ⟨k, hk, rfl, hup⟩ := hrel
    have Hup := Lib.hid hup; clear hup
    have h' := h
    by_cases hlt : k < n
    · obtain ⟨ad, x, rfl, hx, hc⟩ := h'.at_ (k := k) (by rw [Hn.out]; exact hlt)
      by_cases hs : (((fallOf zs x : Nat) : Int) != (k : Int)) = false
      · have Hs := Lib.hid (sortsUp_succ hx.out hs Hup.out)
        go_wp2_with (go_at_call 161; refine (l1Fall_any _ _ _ zs _ _ Hn.out hm0 h).mono ?_; rintro e w' ⟨rfl, rfl⟩)
        go_round
        case rel => exact ⟨k + 1, by omega, by go_num, Hs.out⟩
        case measure => simp [intOf]; omega
      · have hs' : (((fallOf zs x : Nat) : Int) != (k : Int)) = true := by simpa using hs
        have Hb := Lib.hid (sortsB_bad hx.out hs')
        clear hs
        go_wp2_with (go_at_call 161; refine (l1Fall_any _ _ _ zs _ _ Hn.out hm0 h).mono ?_; rintro e w' ⟨rfl, rfl⟩)
        go_ret
        exact ⟨ret_bool (by unfold sortsAll; rw [Hb.out]; rfl), rfl⟩
    · have hkn : k = n := by omega
      subst hkn
      go_wp2_with (go_at_call 162; refine (specIsBar_any _ _ _ zs _ Hn.out hm0 h).mono ?_; rintro e w' ⟨rfl, rfl⟩)
      go_ret
      exact ⟨ret_bool (by have := Hup.out; rw [sortsUp_full Hn.out] at this; unfold sortsAll; rw [this]; rfl), rfl⟩

set_option maxHeartbeats 400000 in
theorem implSortsAll_any (A : Option Addr) (n c : Nat) (zs : List Int) (w : World) (hn : zs.length = n) (hm : n ≤ maxLen) (h : Ints w A zs) :
    Calls Try.prog 157 #[.slice A n c] w fun e w' => e = .returned (.bool (sortsAll zs)) ∧ w = w' := by
  have hm0 := hm
  unfold maxLen at hm
  have Hn := Lib.hid hn; clear hn
  by_cases hb : isBar zs = true
  · go_enter Try.func157, Try.ntmps157
    go_wp2_with (go_at_call 191; refine (implIsBar_any _ _ _ zs _ Hn.out hm0 h).mono ?_; rintro e w' ⟨rfl, rfl⟩)
    have Hbar := Lib.hid hb; clear hb
    go_loop [10] (fun i => ∃ k : Nat, k ≤ n ∧ i = .int .i64 k ∧ sortsUp zs k = true) (fun i => n - (intOf i).toNat)
    case atStart => exact ⟨0, Nat.zero_le _, rfl, rfl⟩
    case round =>
      obtain ⟨k, hk, rfl, hup⟩ := hrel
      have Hup := Lib.hid hup; clear hup
      have h' := h
      by_cases hlt : k < n
      · obtain ⟨ad, x, rfl, hx, hc⟩ := h'.at_ (k := k) (by rw [Hn.out]; exact hlt)
        by_cases hs : (((fallOf zs x : Nat) : Int) != (k : Int)) = false
        · have Hs := Lib.hid (sortsUp_succ hx.out hs Hup.out)
          go_wp2_with (go_at_call 192; refine (fall_any _ _ _ zs _ _ Hn.out hm0 h).mono ?_; rintro e w' ⟨rfl, rfl⟩)
          go_round
          case rel => exact ⟨k + 1, by omega, by go_num, Hs.out⟩
          case measure => simp [intOf]; omega
        · have hs' : (((fallOf zs x : Nat) : Int) != (k : Int)) = true := by simpa using hs
          have Hb := Lib.hid (sortsB_bad hx.out hs')
          clear hs
          go_wp2_with (go_at_call 192; refine (fall_any _ _ _ zs _ _ Hn.out hm0 h).mono ?_; rintro e w' ⟨rfl, rfl⟩)
          go_ret
          exact ⟨ret_bool (by unfold sortsAll; rw [Hb.out]; rfl), rfl⟩
      · have hkn : k = n := by omega
        subst hkn
        go_wp2
        go_ret
        exact ⟨ret_bool (by have := Hup.out; rw [sortsUp_full Hn.out] at this; unfold sortsAll; rw [this, Hbar.out]; rfl), rfl⟩
  · have hb' : isBar zs = false := by simpa using hb
    have Hf : Hid (sortsAll zs = false) := by show _ = _; unfold sortsAll; rw [hb']; simp
    clear hb
    go_enter Try.func157, Try.ntmps157
    go_wp2_with (go_at_call 191; refine (implIsBar_any _ _ _ zs _ Hn.out hm0 h).mono ?_; rintro e w' ⟨rfl, rfl⟩)
    go_ret
    exact ⟨ret_bool Hf.out.symm, rfl⟩
end Go.Proofs.Ythoepelgmplcmaa
