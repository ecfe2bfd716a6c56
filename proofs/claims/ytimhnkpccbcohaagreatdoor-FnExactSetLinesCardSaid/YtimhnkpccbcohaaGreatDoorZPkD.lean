/-
 Contracts and plain mathematics (Leaf, Bars, Count, Sets, Loss, FontOk, Keys, FontI, LawsFont, MatOk, MagOk), each with its conditions in its own statement.
-/
import Derived.Test.YtimhnkpccbcohaaGreatDoorZPkC
import Derived.WalkKit
import Derived.WalkSpells
import Derived.BigQuiet
import Derived.Test.YtimhnkpccbcohaaGreatDoorZPkA
import Derived.Outline
import Derived.Laws.BitsAllLaws
import Derived.Laws.BitsLemmas
import Derived.WalkLawsBesides
import Derived.Test.YtimhnkpccbcohaaGreatDoorZPkB
import Derived.Maps.Own
import Derived.Maps.OwnOps
import Derived.Maps.OwnSet
import Derived.Laws.RangeAny
import Derived.Deep.RegionHeld3
namespace Go.Proofs.YtimhnkpccbcohaaGreatDoor
open Go.RowKit

/-- 0 ≤ s ≤ 127 -/
def setB (s : Int) : Bool := decide (0 ≤ s ∧ s ≤ 127)
theorem l1Set_any (s : Int) (w : World) : Calls Tryz.prog 104 #[.int .i64 s] w fun e w' => e = .returned (.bool (setB s)) ∧ w = w' := by
 go_enter Tryz.func104, Tryz.ntmps104
 go_wp2_with (go_at_call 64; refine (l1In_any _ _ _ _).mono ?_; rintro e w' ⟨rfl, rfl⟩)
 go_ret
 exact ⟨rfl, rfl⟩

theorem isSet_any (s : Int) (w : World) : Calls Tryz.prog 145 #[.int .i64 s] w fun e w' => e = .returned (.bool (setB s)) ∧ w = w' := by
 by_cases h1 : 0 ≤ s
 ·by_cases h2 : s ≤ 127
  ·have hr : setB s = true := by simp [setB, h1, h2]
   rw [hr]; clear hr
   go_enter Tryz.func145, Tryz.ntmps145
   go_wp2
   go_ret
   exact ⟨rfl, rfl⟩
  ·have hr : setB s = false := by simp [setB, h2]
   rw [hr]; clear hr
   go_enter Tryz.func145, Tryz.ntmps145
   go_wp2
   go_ret
   exact ⟨rfl, rfl⟩
 ·have hr : setB s = false := by simp [setB, h1]
  rw [hr]; clear hr
  go_enter Tryz.func145, Tryz.ntmps145
  go_wp2
  go_ret
  exact ⟨rfl, rfl⟩
end Go.Proofs.YtimhnkpccbcohaaGreatDoor

namespace Go.Proofs.YtimhnkpccbcohaaGreatDoor
open Go.RowKit
def allSet (zs : List Int) : Bool := zs.all setB
def isBar (zs : List Int) : Bool := allSet zs && inB zs.length 1 40
theorem allSet_take {zs : List Int} {k : Nat} {x : Int} (h : zs[k]? = some x) : allSet (zs.take (k + 1)) = (allSet (zs.take k) && setB x) := by
 rw [take_at h]; simp [allSet]
theorem allSet_bad {zs : List Int} {k : Nat} {x : Int} (h : zs[k]? = some x) (hb : setB x = false) : allSet zs = false := by
 unfold allSet
 rw [List.all_eq_false]
 exact ⟨x, mem_at h, by rw [hb]; simp⟩

set_option maxHeartbeats 400000 in
theorem specIsBar_any (A : Option Addr) (n c : Nat) (zs : List Int) (w : World) (hn : zs.length = n) (hm : n ≤ maxLen) (h : Ints w A zs) :
  Calls Tryz.prog 142 #[.slice A n c] w fun e w' => e = .returned (.bool (isBar zs)) ∧ w = w' := by
 unfold maxLen at hm
 have Hn := Lib.hid hn; clear hn
 go_enter Tryz.func142, Tryz.ntmps142
 go_wp2
 go_loop [7] (fun i => ∃ k : Nat, k ≤ n ∧ i = .int .i64 k ∧ allSet (zs.take k) = true) (fun i => n - (intOf i).toNat)
 case atStart => exact ⟨0, Nat.zero_le _, rfl, rfl⟩
 case round =>
  obtain ⟨k, hk, rfl, hall⟩ := hrel
  have Hall := Lib.hid hall; clear hall
  by_cases hlt : k < n
  ·obtain ⟨ad, x, rfl, hx, hc⟩ := h.at_ (k := k) (by rw [Hn.out]; exact hlt)
   by_cases hs : setB x = true
   ·have Hs := Lib.hid (allSet_take hx.out)
    go_wp2_with (go_at_call 104; refine (l1Set_any _ _).mono ?_; rintro e w' ⟨rfl, rfl⟩)
    go_round
    case rel => exact ⟨k + 1, by omega, by go_num, by rw [Hs.out, Hall.out, hs]; rfl⟩
    case measure => simp [intOf]; omega
   ·have hs' : setB x = false := by simpa using hs
    have Hb := Lib.hid (allSet_bad hx.out hs')
    clear hs
    go_wp2_with (go_at_call 104; refine (l1Set_any _ _).mono ?_; rintro e w' ⟨rfl, rfl⟩)
    go_ret
    exact ⟨ret_bool (by unfold isBar; rw [Hb.out]; rfl), rfl⟩
  ·have hkn : k = n := by omega
   subst hkn
   go_wp2_with (go_at_call 64; refine (l1In_any _ _ _ _).mono ?_; rintro e w' ⟨rfl, rfl⟩)
   go_ret
   refine ⟨ret_bool ?_, rfl⟩
   have := Hall.out
   rw [take_all Hn.out] at this
   unfold isBar
   rw [this, Hn.out]; rfl

theorem barFn_any (x : Int) (w : World) : Calls Tryz.prog 144 #[.int .i64 x] w fun e w' => e = .returned (.bool (setB x)) ∧ w = w' := by
 go_enter Tryz.func144, Tryz.ntmps144
 go_wp2_with fail
 refine (isSet_any _ _).mono ?_
 rintro e w' ⟨rfl, rfl⟩
 go_wp2
 go_ret
 exact ⟨rfl, rfl⟩
theorem barFn_enter (args : Array Value) (w : World) : Sem.run Tryz.prog (callFunc 144 args) w = .ok (.enter 144 args) w := by kernel_rfl
set_option maxHeartbeats 400000 in
theorem implIsBar_any (A : Option Addr) (n c : Nat) (zs : List Int) (w : World) (hn : zs.length = n) (hm : n ≤ maxLen) (h : Ints w A zs) :
  Calls Tryz.prog 143 #[.slice A n c] w fun e w' => e = .returned (.bool (isBar zs)) ∧ w = w' := by
 have Hn := Lib.hid hn; clear hn
 go_enter Tryz.func143, Tryz.ntmps143
 go_wp2_with fail
 refine (isListOf_any 144 barFn_enter setB barFn_any _ _ _ zs _ _ _ Hn.out hm h).mono ?_
 rintro e w' ⟨rfl, rfl⟩
 go_wp2
 go_ret
 exact ⟨ret_bool (by unfold isBar allSet; rw [Hn.out, Bool.and_comm]), rfl⟩

/-- s is part of t -/
def partB (s t : Int) : Bool := bits .andNot .i64 s t == 0

theorem l1Part_any (s t : Int) (w : World) : Calls Tryz.prog 105 #[.int .i64 s, .int .i64 t] w fun e w' => e = .returned (.bool (partB s t)) ∧ w = w' := by
 go_enter Tryz.func105, Tryz.ntmps105
 go_wp2
 go_ret
 exact ⟨rfl, rfl⟩
theorem isPartOf_any (s t : Int) (w : World) : Calls Tryz.prog 108 #[.int .i64 s, .int .i64 t] w fun e w' => e = .returned (.bool (partB s t)) ∧ w = w' := by
 go_enter Tryz.func108, Tryz.ntmps108
 go_wp2
 go_ret
 exact ⟨rfl, rfl⟩
/-- where a set falls -/
def fallOf (zs : List Int) (s : Int) : Nat := zs.findIdx (partB s)
theorem fallOf_hit {zs : List Int} {s : Int} {k : Nat} {x : Int} (hx : zs[k]? = some x) (hp : partB s x = true) (hno : (zs.take k).any (partB s) = false) : fallOf zs s = k := by
 have hk := lt_at hx
 unfold fallOf
 rw [List.findIdx_eq hk]
 refine ⟨by have : zs[k] = x := (List.getElem?_eq_some_iff.1 hx).2; rw [this]; exact hp, fun j hj => ?_⟩
 rw [List.any_eq_false] at hno
 have := hno zs[j] (List.mem_iff_getElem.2 ⟨j, by rw [List.length_take]; omega, by simp⟩)
 simpa using this
theorem fallOf_end {zs : List Int} {s : Int} (hno : zs.any (partB s) = false) : fallOf zs s = zs.length := by
 unfold fallOf
 rw [List.findIdx_eq_length]
 intro x hx
 rw [List.any_eq_false] at hno
 simpa using hno x hx
theorem any_take {zs : List Int} {s : Int} {k : Nat} {x : Int} (hx : zs[k]? = some x) (hp : partB s x = false) (hno : (zs.take k).any (partB s) = false) : (zs.take (k + 1)).any (partB s) = false := by
 rw [take_at hx, List.any_append, hno]; simp [hp]

set_option maxHeartbeats 400000 in
theorem l1Fall_any (A : Option Addr) (n c : Nat) (zs : List Int) (s : Int) (w : World) (hn : zs.length = n) (hm : n ≤ maxLen) (h : Ints w A zs) :
  Calls Tryz.prog 69 #[.slice A n c, .int .i64 s] w fun e w' => e = .returned (.int .i64 (fallOf zs s)) ∧ w = w' := by
 unfold maxLen at hm
 have Hn := Lib.hid hn; clear hn
 go_enter Tryz.func69, Tryz.ntmps69
 go_wp2
 go_loop [9] (fun i => ∃ k : Nat, k ≤ n ∧ i = .int .i64 k ∧ (zs.take k).any (partB s) = false) (fun i => n - (intOf i).toNat)
 case atStart => exact ⟨0, Nat.zero_le _, rfl, rfl⟩
 case round =>
  obtain ⟨k, hk, rfl, hno⟩ := hrel
  have Hno := Lib.hid hno; clear hno
  by_cases hlt : k < n
  ·obtain ⟨ad, x, rfl, hx, hc⟩ := h.at_ (k := k) (by rw [Hn.out]; exact hlt)
   by_cases hs : partB s x = true
   ·have Hf := Lib.hid (fallOf_hit hx.out hs Hno.out)
    go_wp2_with (go_at_call 105; refine (l1Part_any _ _ _).mono ?_; rintro e w' ⟨rfl, rfl⟩)
    go_ret
    exact ⟨ret_int (by rw [Hf.out]), rfl⟩
   ·have hs' : partB s x = false := by simpa using hs
    have Ht := Lib.hid (any_take hx.out hs' Hno.out)
    clear hs
    go_wp2_with (go_at_call 105; refine (l1Part_any _ _ _).mono ?_; rintro e w' ⟨rfl, rfl⟩)
    go_round
    case rel => exact ⟨k + 1, by omega, by go_num, Ht.out⟩
    case measure => simp [intOf]; omega
  ·have hkn : k = n := by omega
   subst hkn
   have Hf : Hid (fallOf zs s = k) := by
    show _ = _
    have := Hno.out
    rw [take_all Hn.out] at this
    rw [fallOf_end this, Hn.out]
   go_wp2
   go_ret
   exact ⟨ret_int (by rw [Hf.out]), rfl⟩

set_option maxHeartbeats 400000 in
theorem fall_any (A : Option Addr) (n c : Nat) (zs : List Int) (s : Int) (w : World) (hn : zs.length = n) (hm : n ≤ maxLen) (h : Ints w A zs) :
  Calls Tryz.prog 117 #[.slice A n c, .int .i64 s] w fun e w' => e = .returned (.int .i64 (fallOf zs s)) ∧ w = w' := by
 unfold maxLen at hm
 have Hn := Lib.hid hn; clear hn
 go_enter Tryz.func117, Tryz.ntmps117
 go_wp2
 go_loop [9] (fun i => ∃ k : Nat, k ≤ n ∧ i = .int .i64 k ∧ (zs.take k).any (partB s) = false) (fun i => n - (intOf i).toNat)
 case atStart => exact ⟨0, Nat.zero_le _, rfl, rfl⟩
 case round =>
  obtain ⟨k, hk, rfl, hno⟩ := hrel
  have Hno := Lib.hid hno; clear hno
  by_cases hlt : k < n
  ·obtain ⟨ad, x, rfl, hx, hc⟩ := h.at_ (k := k) (by rw [Hn.out]; exact hlt)
   by_cases hs : partB s x = true
   ·have Hf := Lib.hid (fallOf_hit hx.out hs Hno.out)
    go_wp2_with (go_at_call 108; refine (isPartOf_any _ _ _).mono ?_; rintro e w' ⟨rfl, rfl⟩)
    go_ret
    exact ⟨ret_int (by rw [Hf.out]), rfl⟩
   ·have hs' : partB s x = false := by simpa using hs
    have Ht := Lib.hid (any_take hx.out hs' Hno.out)
    clear hs
    go_wp2_with (go_at_call 108; refine (isPartOf_any _ _ _).mono ?_; rintro e w' ⟨rfl, rfl⟩)
    go_round
    case rel => exact ⟨k + 1, by omega, by go_num, Ht.out⟩
    case measure => simp [intOf]; omega
  ·have hkn : k = n := by omega
   subst hkn
   have Hf : Hid (fallOf zs s = k) := by
    show _ = _
    have := Hno.out
    rw [take_all Hn.out] at this
    rw [fallOf_end this, Hn.out]
   go_wp2
   go_ret
   exact ⟨ret_int (by rw [Hf.out]), rfl⟩

/-- all sets fall at their own places -/
def sortsB (zs : List Int) : Bool := (List.range zs.length).all (fun i => fallOf zs (zs.getD i 0) == i)
def sortsAll (zs : List Int) : Bool := sortsB zs && isBar zs
def sortsUp (zs : List Int) (k : Nat) : Bool := (List.range k).all (fun i => fallOf zs (zs.getD i 0) == i)
theorem sortsUp_succ {zs : List Int} {k : Nat} {x : Int} (hx : zs[k]? = some x) (hf : (((fallOf zs x : Nat) : Int) != (k : Int)) = false) (h : sortsUp zs k = true) : sortsUp zs (k + 1) = true := by
 unfold sortsUp at *
 rw [List.range_succ, List.all_append, h]
 simp only [List.all_cons, List.all_nil, Bool.and_true, Bool.true_and, getD_at hx]
 rw [bne_eq_false_iff_eq] at hf
 simp; omega
theorem sortsB_bad {zs : List Int} {k : Nat} {x : Int} (hx : zs[k]? = some x) (hf : (((fallOf zs x : Nat) : Int) != (k : Int)) = true) : sortsB zs = false := by
 unfold sortsB
 rw [List.all_eq_false]
 refine ⟨k, List.mem_range.2 (lt_at hx), ?_⟩
 rw [getD_at hx]
 rw [bne_iff_ne] at hf
 simp; omega

theorem sortsUp_full {zs : List Int} {n : Nat} (hn : zs.length = n) : sortsUp zs n = sortsB zs := by unfold sortsUp sortsB; rw [hn]

set_option maxHeartbeats 400000 in
theorem specSortsAll_any (A : Option Addr) (n c : Nat) (zs : List Int) (w : World) (hn : zs.length = n) (hm : n ≤ maxLen) (h : Ints w A zs) :
  Calls Tryz.prog 128 #[.slice A n c] w fun e w' => e = .returned (.bool (sortsAll zs)) ∧ w = w' := by
 have hm0 := hm
 unfold maxLen at hm
 have Hn := Lib.hid hn; clear hn
 go_enter Tryz.func128, Tryz.ntmps128
 go_wp2
 go_loop [7] (fun i => ∃ k : Nat, k ≤ n ∧ i = .int .i64 k ∧ sortsUp zs k = true) (fun i => n - (intOf i).toNat)
 case atStart => exact ⟨0, Nat.zero_le _, rfl, rfl⟩
 case round =>
  obtain ⟨k, hk, rfl, hup⟩ := hrel
  have Hup := Lib.hid hup; clear hup
  have h' := h
  by_cases hlt : k < n
  ·obtain ⟨ad, x, rfl, hx, hc⟩ := h'.at_ (k := k) (by rw [Hn.out]; exact hlt)
   by_cases hs : (((fallOf zs x : Nat) : Int) != (k : Int)) = false
   ·have Hs := Lib.hid (sortsUp_succ hx.out hs Hup.out)
    go_wp2_with (go_at_call 69; refine (l1Fall_any _ _ _ zs _ _ Hn.out hm0 h).mono ?_; rintro e w' ⟨rfl, rfl⟩)
    go_round
    case rel => exact ⟨k + 1, by omega, by go_num, Hs.out⟩
    case measure => simp [intOf]; omega
   ·have hs' : (((fallOf zs x : Nat) : Int) != (k : Int)) = true := by simpa using hs
    have Hb := Lib.hid (sortsB_bad hx.out hs')
    clear hs
    go_wp2_with (go_at_call 69; refine (l1Fall_any _ _ _ zs _ _ Hn.out hm0 h).mono ?_; rintro e w' ⟨rfl, rfl⟩)
    go_ret
    exact ⟨ret_bool (by unfold sortsAll; rw [Hb.out]; rfl), rfl⟩
  ·have hkn : k = n := by omega
   subst hkn
   go_wp2_with (go_at_call 142; refine (specIsBar_any _ _ _ zs _ Hn.out hm0 h).mono ?_; rintro e w' ⟨rfl, rfl⟩)
   go_ret
   exact ⟨ret_bool (by have := Hup.out; rw [sortsUp_full Hn.out] at this; unfold sortsAll; rw [this]; rfl), rfl⟩

set_option maxHeartbeats 400000 in
theorem implSortsAll_any (A : Option Addr) (n c : Nat) (zs : List Int) (w : World) (hn : zs.length = n) (hm : n ≤ maxLen) (h : Ints w A zs) :
  Calls Tryz.prog 130 #[.slice A n c] w fun e w' => e = .returned (.bool (sortsAll zs)) ∧ w = w' := by
 have hm0 := hm
 unfold maxLen at hm
 have Hn := Lib.hid hn; clear hn
 by_cases hb : isBar zs = true
 ·go_enter Tryz.func130, Tryz.ntmps130
  go_wp2_with (go_at_call 143; refine (implIsBar_any _ _ _ zs _ Hn.out hm0 h).mono ?_; rintro e w' ⟨rfl, rfl⟩)
  have Hbar := Lib.hid hb; clear hb
  go_loop [10] (fun i => ∃ k : Nat, k ≤ n ∧ i = .int .i64 k ∧ sortsUp zs k = true) (fun i => n - (intOf i).toNat)
  case atStart => exact ⟨0, Nat.zero_le _, rfl, rfl⟩
  case round =>
   obtain ⟨k, hk, rfl, hup⟩ := hrel
   have Hup := Lib.hid hup; clear hup
   have h' := h
   by_cases hlt : k < n
   ·obtain ⟨ad, x, rfl, hx, hc⟩ := h'.at_ (k := k) (by rw [Hn.out]; exact hlt)
    by_cases hs : (((fallOf zs x : Nat) : Int) != (k : Int)) = false
    ·have Hs := Lib.hid (sortsUp_succ hx.out hs Hup.out)
     go_wp2_with (go_at_call 117; refine (fall_any _ _ _ zs _ _ Hn.out hm0 h).mono ?_; rintro e w' ⟨rfl, rfl⟩)
     go_round
     case rel => exact ⟨k + 1, by omega, by go_num, Hs.out⟩
     case measure => simp [intOf]; omega
    ·have hs' : (((fallOf zs x : Nat) : Int) != (k : Int)) = true := by simpa using hs
     have Hb := Lib.hid (sortsB_bad hx.out hs')
     clear hs
     go_wp2_with (go_at_call 117; refine (fall_any _ _ _ zs _ _ Hn.out hm0 h).mono ?_; rintro e w' ⟨rfl, rfl⟩)
     go_ret
     exact ⟨ret_bool (by unfold sortsAll; rw [Hb.out]; rfl), rfl⟩
   ·have hkn : k = n := by omega
    subst hkn
    go_wp2
    go_ret
    exact ⟨ret_bool (by have := Hup.out; rw [sortsUp_full Hn.out] at this; unfold sortsAll; rw [this, Hbar.out]; rfl), rfl⟩
 ·have hb' : isBar zs = false := by simpa using hb
  have Hf : Hid (sortsAll zs = false) := by show _ = _; unfold sortsAll; rw [hb']; simp
  clear hb
  go_enter Tryz.func130, Tryz.ntmps130
  go_wp2_with (go_at_call 143; refine (implIsBar_any _ _ _ zs _ Hn.out hm0 h).mono ?_; rintro e w' ⟨rfl, rfl⟩)
  go_ret
  exact ⟨ret_bool Hf.out.symm, rfl⟩
end Go.Proofs.YtimhnkpccbcohaaGreatDoor

namespace Go.Proofs.YtimhnkpccbcohaaGreatDoor
open Go.RowKit

/-- the number of teeth of a set of teeth -/
def cnt (s : Int) : Int := s % 2 + s / 2 % 2 + s / 4 % 2 + s / 8 % 2 + s / 16 % 2 + s / 32 % 2 + s / 64 % 2
theorem setB_iff (s : Int) : setB s = true ↔ 0 ≤ s ∧ s ≤ 127 := by simp [setB]

end Go.Proofs.YtimhnkpccbcohaaGreatDoor

namespace Go.Proofs.YtimhnkpccbcohaaGreatDoor
open Go.RowKit

/-- the teeth of s that t doesn't have -/
def less (s t : Int) : Int := bits .andNot .i64 s t
def both (s t : Int) : Int := bits .and .i64 s t
theorem partB_eq (s t : Int) : partB s t = (less s t == 0) := rfl

theorem ofInt_i64 (a : Nat) (ha : a < 9223372036854775808) : (BitVec.ofInt 64 (a : Int)).toNat = a := by
 rw [BitVec.ofInt_natCast, BitVec.toNat_ofNat]; exact Nat.mod_eq_of_lt (by omega)
section
variable {s t : Int} (h0 : 0 ≤ s) (h1 : s ≤ 127) (g0 : 0 ≤ t) (g1 : t ≤ 127)
include h0 h1 g0 g1
end
def b2 (b : Bool) : Int := if b then 1 else 0
end Go.Proofs.YtimhnkpccbcohaaGreatDoor

namespace Go.Proofs.YtimhnkpccbcohaaGreatDoor
open Go.RowKit
set_option linter.unusedVariables false

theorem bar_set {zs : List Int} (hbar : isBar zs = true) : ∀ z ∈ zs, 0 ≤ z ∧ z ≤ 127 := by
 intro z hz
 have : allSet zs = true := by unfold isBar at hbar; simp at hbar; exact hbar.1
 exact (setB_iff z).1 (List.all_eq_true.1 this z hz)
theorem bar_len {zs : List Int} (hbar : isBar zs = true) : 1 ≤ zs.length ∧ zs.length ≤ 40 := by
 unfold isBar inB at hbar; simp at hbar; omega

theorem hasPlace_any (A : Option Addr) (n c : Nat) (p : Int) (w : World) (hm : n ≤ maxLen) : Calls Tryz.prog 107 #[.slice A n c, .int .i64 p] w fun e w' => e = .returned (.bool (inB p 0 ((n : Int) - 1))) ∧ w = w' := by
 unfold maxLen at hm
 by_cases h1 : 0 ≤ p
 ·by_cases h2 : p < n
  ·have hr : inB p 0 ((n : Int) - 1) = true := by simp [inB]; omega
   rw [hr]; clear hr
   go_enter Tryz.func107, Tryz.ntmps107
   go_wp2
   go_ret
   exact ⟨rfl, rfl⟩
  ·have hr : inB p 0 ((n : Int) - 1) = false := by simp [inB]; omega
   rw [hr]; clear hr
   go_enter Tryz.func107, Tryz.ntmps107
   go_wp2
   go_ret
   exact ⟨rfl, rfl⟩
 ·have hr : inB p 0 ((n : Int) - 1) = false := by simp [inB]; omega
  rw [hr]; clear hr
  go_enter Tryz.func107, Tryz.ntmps107
  go_wp2
  go_ret
  exact ⟨rfl, rfl⟩

end Go.Proofs.YtimhnkpccbcohaaGreatDoor

namespace Go.Proofs.YtimhnkpccbcohaaGreatDoor
open Go.RowKit
set_option linter.unusedVariables false

/-- byte i as a number -/
def byt (s : ByteArray) (i : Nat) : Nat := if h : i < s.size then s[i].toNat else 0
theorem byt_eq {s : ByteArray} {i : Nat} (h : i < s.size) : byt s i = s[i].toNat := by unfold byt; rw [dif_pos h]
def letOk (s : ByteArray) (i : Nat) : Bool := decide (33 ≤ byt s i ∧ byt s i ≤ 126)
def diffs (s : ByteArray) (i : Nat) : Bool := (List.range i).all (fun k => byt s i != byt s k)
def widOk (ws : List Int) (i : Nat) : Bool := inB (ws.getD i 0) 1 60
def lettersB (s : ByteArray) : Bool := (List.range s.size).all (letOk s) && (List.range s.size).all (diffs s)
def widthsB (ws : List Int) : Bool := ws.all (fun x => inB x 1 60)
def fontB (f : Fnt) : Bool := sortsAll f.cs && (f.s.size == f.cs.length && (f.ws.length == f.cs.length && (lettersB f.s && widthsB f.ws)))

def goodTo (s : ByteArray) (ws : List Int) (n : Nat) : Bool := (List.range n).all (fun i => letOk s i && (widOk ws i && diffs s i))
theorem goodTo_succ {s : ByteArray} {ws : List Int} {n : Nat} (h : goodTo s ws n = true) (h1 : letOk s n = true) (h2 : widOk ws n = true) (h3 : diffs s n = true) : goodTo s ws (n + 1) = true := by
 unfold goodTo at *
 rw [List.range_succ, List.all_append, h]; simp [h1, h2, h3]
theorem goodTo_full {s : ByteArray} {ws : List Int} (hl : ws.length = s.size) : goodTo s ws s.size = (lettersB s && widthsB ws) := by
 rw [Bool.eq_iff_iff]
 unfold goodTo lettersB widthsB
 simp only [List.all_eq_true, Bool.and_eq_true, List.mem_range]
 constructor
 ·intro h
  refine ⟨⟨fun i hi => (h i hi).1, fun i hi => (h i hi).2.2⟩, fun x hx => ?_⟩
  obtain ⟨i, hi, rfl⟩ := List.mem_iff_getElem.1 hx
  have := (h i (by omega)).2.1
  unfold widOk at this
  simpa [List.getD, hi] using this
 ·rintro ⟨⟨h1, h2⟩, h3⟩ i hi
  refine ⟨h1 i hi, ?_, h2 i hi⟩
  unfold widOk
  have hi' : i < ws.length := by omega
  simp only [List.getD, List.getElem?_eq_getElem hi', Option.getD_some]
  exact h3 _ (List.getElem_mem hi')
theorem fontB_good {f : Fnt} (h1 : f.ws.length = f.s.size) (h2 : f.cs.length = f.s.size) (h3 : sortsAll f.cs = true) : fontB f = goodTo f.s f.ws f.s.size := by
 rw [goodTo_full h1]
 unfold fontB
 rw [h3, h1, h2]; simp
theorem sortsAll_len {cs : List Int} (h : sortsAll cs = true) : 1 ≤ cs.length ∧ cs.length ≤ 40 := by
 unfold sortsAll at h
 rw [Bool.and_eq_true] at h
 exact bar_len h.2
/-- what a font is, besides its letters -/
theorem fontB_bad {f : Fnt} (h : ¬ (1 ≤ f.s.size ∧ f.s.size ≤ 40 ∧ f.ws.length = f.s.size ∧ f.cs.length = f.s.size ∧ sortsAll f.cs = true)) : fontB f = false := by
 cases hb : fontB f
 ·rfl
 ·unfold fontB at hb
  simp only [Bool.and_eq_true, beq_iff_eq] at hb
  obtain ⟨h1, h2, h3, _⟩ := hb
  have := sortsAll_len h1
  exact absurd ⟨by omega, by omega, by omega, by omega, h1⟩ h
theorem goodTo_bad {s : ByteArray} {ws : List Int} {n i : Nat} (hi : i < n) (h : (letOk s i && (widOk ws i && diffs s i)) = false) : goodTo s ws n = false := by
 unfold goodTo
 rw [List.all_eq_false]
 exact ⟨i, List.mem_range.2 hi, by rw [h]; simp⟩
def diffTo (s : ByteArray) (i j : Nat) : Bool := (List.range j).all (fun k => byt s i != byt s k)
theorem diffTo_succ {s : ByteArray} {i j : Nat} (h : diffTo s i j = true) (h1 : byt s i ≠ byt s j) : diffTo s i (j + 1) = true := by
 unfold diffTo at *
 rw [List.range_succ, List.all_append, h]; simp [h1]
theorem diffs_bad {s : ByteArray} {i j : Nat} (hj : j < i) (h : byt s i = byt s j) : diffs s i = false := by
 unfold diffs
 rw [List.all_eq_false]
 exact ⟨j, List.mem_range.2 hj, by simp [h]⟩

set_option maxHeartbeats 1600000 in
theorem specFontOk_any (lo hi : Nat) (v : Value) (f : Fnt) (w : World) (h : FontV w lo hi v f) (hhi : hi ≤ w.heap.size) (hs : Small f) :
  Calls Tryz.prog 103 #[v] w fun e w' => e = .returned (.bool (fontB f)) ∧ Below w.heap.size w w' := by
 obtain ⟨A, c, A2, d, rfl, hI1, hI2, hc1, hc2, hd1, hd2, hss⟩ := h
 obtain ⟨s, ws, cs⟩ := f
 obtain ⟨hs1, hs2, hs3⟩ := hs
 simp only at *
 obtain ⟨n, hn⟩ : ∃ n, ws.length = n := ⟨_, rfl⟩
 obtain ⟨m, hm⟩ : ∃ m, cs.length = m := ⟨_, rfl⟩
 have Hn := Lib.hid hn; have Hm := Lib.hid hm
 rw [hn, hm]
 rw [hn] at hs2
 rw [hm] at hs3
 have hW : Below w.heap.size w (w.alloc (.cells #[.string s, .slice A n c, .slice A2 m d] 32)) := (Below.refl _ _).alloc (Nat.le_refl _) _
 have G1 := Lib.hid (hI1.below hhi hW); have G2 := Lib.hid (hI2.below hhi hW)
 have HW := Lib.hid hW
 clear hI1 hI2 hc1 hc2 hd1 hd2 hss hW
 by_cases hall : 1 ≤ s.size ∧ s.size ≤ 40 ∧ n = s.size ∧ m = s.size ∧ sortsAll cs = true
 ·obtain ⟨p1, p2, rfl, rfl, p5⟩ := hall
  have Hf : Hid (fontB ⟨s, ws, cs⟩ = goodTo s ws s.size) := fontB_good hn hm p5
  rw [Hf.out]
  have hb1 : inB s.size 1 40 = true := by
   have : inB s.size 1 40 = decide ((1 : Int) ≤ s.size ∧ (s.size : Int) ≤ 40) := rfl
   rw [this, decide_eq_true_eq]; omega
  have hb2 : ((s.size : Int) != (s.size : Int)) = false := by simp
  clear hn hm Hf
  go_enter Tryz.func103, Tryz.ntmps103
  go_wp2_with (first
   | (go_at_call 64; refine (l1In_any _ _ _ _).mono ?_; rintro e w' ⟨rfl, rfl⟩)
   | (go_at_call 128; refine (specSortsAll_any _ _ _ cs _ Hm.out (by unfold maxLen; omega) G2.out.ints).mono ?_; rintro e w' ⟨rfl, rfl⟩))
  clear hb1 hb2 p5
  go_loopw [4] (fun i wr => ∃ k q : Nat, k ≤ s.size ∧ i = .int .i64 k ∧ wr = (w.alloc (.cells #[.string s, .slice A s.size c, .slice A2 s.size d] 32)).drewN q ∧ goodTo s ws k = true) (fun i _ => s.size - (intOf i).toNat)
  case atStart => exact ⟨0, 0, Nat.zero_le _, rfl, rfl, rfl⟩
  case round =>
   obtain ⟨k, q, hk, rfl, rfl, hg⟩ := hrel
   have Hg := Lib.hid hg; clear hg
   by_cases hlt : k < s.size
   ·obtain ⟨ad, x, rfl, hx, hc⟩ := (G1.out.ints.drewN q).at_ (k := k) (by rw [Hn.out]; exact hlt)
    have Hb := Lib.hid (byt_eq hlt)
    have HX := Lib.hid (getD_at hx.out)
    by_cases h1 : (s[k].toNat : Int) < 33
    ·have Hbad := Lib.hid (goodTo_bad (ws := ws) hlt (show (letOk s k && (widOk ws k && diffs s k)) = false by
      have : letOk s k = false := by unfold letOk; rw [Hb.out, decide_eq_false_iff_not]; omega
      rw [this]; rfl))
     have hd1 : decide ((s[k].toNat : Int) < 33) = true := by simpa using h1
     clear h1
     go_wp2
     go_ret
     exact ⟨ret_bool Hbad.out.symm, below_drewN HW.out _⟩
    have hd1 : decide ((s[k].toNat : Int) < 33) = false := by simpa using h1
    by_cases h2 : (126 : Int) < (s[k].toNat : Int)
    ·have Hbad := Lib.hid (goodTo_bad (ws := ws) hlt (show (letOk s k && (widOk ws k && diffs s k)) = false by
      have : letOk s k = false := by unfold letOk; rw [Hb.out, decide_eq_false_iff_not]; omega
      rw [this]; rfl))
     have hd2 : decide ((126 : Int) < (s[k].toNat : Int)) = true := by simpa using h2
     clear h1 h2
     go_wp2
     go_ret
     exact ⟨ret_bool Hbad.out.symm, below_drewN HW.out _⟩
    have hd2 : decide ((126 : Int) < (s[k].toNat : Int)) = false := by simpa using h2
    have HL : Hid (letOk s k = true) := by show _ = _; unfold letOk; rw [Hb.out, decide_eq_true_eq]; omega
    clear h1 h2
    cases h3 : inB x 1 60
    ·have Hbad := Lib.hid (goodTo_bad (ws := ws) hlt (show (letOk s k && (widOk ws k && diffs s k)) = false by
      have : widOk ws k = false := by unfold widOk; rw [HX.out]; exact h3
      rw [this]; simp))
     go_wp2_with (go_at_call 64; refine (l1In_any _ _ _ _).mono ?_; rintro e w' ⟨rfl, rfl⟩)
     go_ret
     exact ⟨ret_bool Hbad.out.symm, below_drewN HW.out _⟩
    have HD : Hid (widOk ws k = true) := by show _ = _; unfold widOk; rw [HX.out]; exact h3
    go_wp2_with (go_at_call 64; refine (l1In_any _ _ _ _).mono ?_; rintro e w' ⟨rfl, rfl⟩)
    go_loopw [5] (fun i wr => ∃ j q : Nat, j ≤ k ∧ i = .int .i64 j ∧ wr = (w.alloc (.cells #[.string s, .slice (some ad) s.size c, .slice A2 s.size d] 32)).drewN q ∧ diffTo s k j = true) (fun i _ => k - (intOf i).toNat)
    case atStart => exact ⟨0, q, Nat.zero_le _, rfl, rfl, rfl⟩
    case round =>
     obtain ⟨j, q2, hj, rfl, rfl, hdf⟩ := hrel
     have Hdf := Lib.hid hdf; clear hdf
     by_cases hjk : j < k
     ·have hjs : j < s.size := by omega
      have Hbj := Lib.hid (byt_eq hjs)
      by_cases he : s[k].toNat = s[j].toNat
      ·have Hbad := Lib.hid (goodTo_bad (ws := ws) hlt (show (letOk s k && (widOk ws k && diffs s k)) = false by
        have : diffs s k = false := diffs_bad hjk (by rw [Hb.out, Hbj.out]; exact he)
        rw [this]; simp))
       have he1 : ((s[k].toNat : Int) == (s[j].toNat : Int)) = true := by rw [beq_iff_eq]; omega
       clear he
       go_wp2
       go_quiet (fail)
       go_wp2
       go_ret
       exact ⟨ret_bool Hbad.out.symm, by rw [World.drewN_drewN]; exact below_drewN HW.out _⟩
      ·have Hs := Lib.hid (diffTo_succ Hdf.out (show byt s k ≠ byt s j by rw [Hb.out, Hbj.out]; exact he))
       have he1 : ((s[k].toNat : Int) == (s[j].toNat : Int)) = false := by rw [beq_eq_false_iff_ne]; omega
       clear he
       go_wp2
       go_quiet (fail)
       go_wp2
       go_roundw
       case rel => exact ⟨j + 1, _, by omega, by go_num, rfl, Hs.out⟩
       case measure => simp [intOf]; omega
     ·have hjn : j = k := by omega
      subst hjn
      have Hs := Lib.hid (goodTo_succ Hg.out HL.out HD.out Hdf.out)
      go_wp2
      go_roundw
      case rel => exact ⟨j + 1, _, by omega, by go_num, rfl, Hs.out⟩
      case measure => simp [intOf]; omega
   ·have hkn : k = s.size := by omega
    subst hkn
    go_wp2
    go_ret
    exact ⟨ret_bool Hg.out.symm, below_drewN HW.out _⟩
 ·have Hf : Hid (fontB ⟨s, ws, cs⟩ = false) := fontB_bad (f := ⟨s, ws, cs⟩) (by simp only; rw [hn, hm]; exact hall)
  rw [Hf.out]
  clear hn hm Hf
  cases hb1 : inB s.size 1 40
  ·go_enter Tryz.func103, Tryz.ntmps103
   go_wp2_with (go_at_call 64; refine (l1In_any _ _ _ _).mono ?_; rintro e w' ⟨rfl, rfl⟩)
   go_ret
   exact ⟨rfl, HW.out⟩
  by_cases hb2 : n = s.size
  ·have hb2' : ((n : Int) != (s.size : Int)) = false := by rw [bne_eq_false_iff_eq]; omega
   by_cases hb3 : m = s.size
   ·have hb3' : ((m : Int) != (s.size : Int)) = false := by rw [bne_eq_false_iff_eq]; omega
    have hb4 : sortsAll cs = false := by
     cases h5 : sortsAll cs
     ·rfl
     ·have : inB s.size 1 40 = decide ((1 : Int) ≤ s.size ∧ (s.size : Int) ≤ 40) := rfl
      rw [this, decide_eq_true_eq] at hb1
      exact absurd ⟨by omega, by omega, hb2, hb3, h5⟩ hall
    clear hall hb2 hb3
    go_enter Tryz.func103, Tryz.ntmps103
    go_wp2_with (first
     | (go_at_call 64; refine (l1In_any _ _ _ _).mono ?_; rintro e w' ⟨rfl, rfl⟩)
     | (go_at_call 128; refine (specSortsAll_any _ _ _ cs _ Hm.out (by unfold maxLen; omega) G2.out.ints).mono ?_; rintro e w' ⟨rfl, rfl⟩))
    go_ret
    exact ⟨rfl, HW.out⟩
   ·have hb3' : ((m : Int) != (s.size : Int)) = true := by rw [bne_iff_ne]; omega
    clear hall hb2 hb3
    go_enter Tryz.func103, Tryz.ntmps103
    go_wp2_with (go_at_call 64; refine (l1In_any _ _ _ _).mono ?_; rintro e w' ⟨rfl, rfl⟩)
    go_ret
    exact ⟨rfl, HW.out⟩
  ·have hb2' : ((n : Int) != (s.size : Int)) = true := by rw [bne_iff_ne]; omega
   clear hall hb2
   go_enter Tryz.func103, Tryz.ntmps103
   go_wp2_with (go_at_call 64; refine (l1In_any _ _ _ _).mono ?_; rintro e w' ⟨rfl, rfl⟩)
   go_ret
   exact ⟨rfl, HW.out⟩
end Go.Proofs.YtimhnkpccbcohaaGreatDoor

namespace Go.Proofs.YtimhnkpccbcohaaGreatDoor
open Go.RowKit Go.Maps
set_option linter.unusedVariables false

theorem keyLaw : Keyed Tryz.prog 21 := int_keyed Tryz.underlying21
theorem zeroInt (w : World) : (zeroValue 3).run Tryz.prog w = .ok (.int .i64 0) w := by kernel_rfl

theorem run_makeHint {P : Program} (t k e : TypeId) (ht : P.underlying t = some (.map k e)) (n : Int) (w : World) : (Instr.makeMap t (some (.int .i64 n))).run P w = .ok (.map (some w.heap.size)) (w.alloc (.map #[] 0)) := by
 simp [Instr.makeMap, run_underlying ht, asInt, asIntOf]

/-- the next letter of a string whose bytes are ASCII, the iterator being in block g -/
def itSet (w : World) (g : Nat) (s : ByteArray) (p : Nat) : World := { w with heap := w.heap.setIfInBounds g (.stringIter s p) }
theorem next_at {P : Program} (w : World) (g : Nat) (s : ByteArray) (pos : Nat) (ty : TypeId) (hit : w.heap[g]? = some (.stringIter s pos)) (h : pos < s.size) (ha : (s[pos]'h).toNat < 128) :
  (Instr.next (.pointer (some ⟨g, 0, none⟩)) true ty).run P w = .ok (.tuple #[.bool true, .int .i64 pos, .int .i32 (s[pos]'h).toNat]) (itSet w g s (pos + 1)) := by
 simp only [Instr.next, getObj, setObj, Sem.run_bind, Sem.run, hit, Result.andThen, h, if_true, decode_ascii s pos h ha]
 simp [goInt, itSet]
theorem next_end {P : Program} (w : World) (g : Nat) (s : ByteArray) (pos : Nat) (ty : TypeId) (hit : w.heap[g]? = some (.stringIter s pos)) (h : ¬ pos < s.size) :
  (Instr.next (.pointer (some ⟨g, 0, none⟩)) true ty).run P w = .ok (.tuple #[.bool false]) w := by
 simp [Instr.next, getObj, Sem.run, hit, h]
theorem itSet_heap {w : World} {g p p' : Nat} {s : ByteArray} (hit : w.heap[g]? = some (.stringIter s p)) : (itSet w g s p').heap[g]? = some (.stringIter s p') := by
 have : g < w.heap.size := by
  rcases Nat.lt_or_ge g w.heap.size with h | h
  ·exact h
  ·rw [Array.getElem?_eq_none h] at hit; cases hit
 simp [itSet, this]
theorem itSet_grown (w : World) (g p : Nat) (s : ByteArray) : w.grownBy (itSet w g s p) (some g) :=
 ⟨rfl, rfl, rfl, by simp [itSet], fun j hj hne => by simp only [itSet]; rw [Array.getElem?_setIfInBounds_ne (fun e => hne (by rw [e]))]⟩

theorem i32_wf {b : Nat} (h : b < 128) : (Lit.int .i32 (b : Int)).wf = true := by
 have h2 : ∀ b : Fin 128, (Lit.int .i32 ((b : Nat) : Int)).wf = true := by decide +kernel
 exact h2 ⟨b, h⟩
/-- the keys of the first k letters -/
def keysD (s : ByteArray) : Nat → DataW Unit
 | 0 => .map []
 | k + 1 => (keysD s k).put (.int .i32 (byt s k)) (.lit (.int .i64 k))
theorem keyLit (b : Int) : WideAt.IsKeyLit (.int .i32 b) := by simp [WideAt.IsKeyLit]
theorem keysD_tidy (s : ByteArray) : ∀ k, Tidy (keysD s k)
 | 0 => tidy_empty
 | k + 1 => (keysD_tidy s k).put (keyLit _) _
theorem keysD_has (s : ByteArray) (b : Nat) : ∀ k, Maps.has (keysD s k) (.int .i32 (b : Int)) = (List.range k).any (fun j => byt s j == b)
 | 0 => rfl
 | k + 1 => by
  rw [List.range_succ, List.any_append]
  unfold keysD
  by_cases e : byt s k = b
  ·subst e
   rw [has_put_same (keysD_tidy s k).isMap (keyLit _)]
   simp
  ·rw [has_put_other (by intro h; injection h with h1 h2; exact e (by omega)), keysD_has s b k]
   simp [e]
theorem keysD_size (s : ByteArray) : ∀ k, Maps.size (keysD s k) ≤ k ∧ (Maps.size (keysD s k) = k ↔ ∀ i, i < k → diffs s i = true)
 | 0 => ⟨Nat.le_refl _, fun _ i h => absurd h (by omega), fun _ => rfl⟩
 | k + 1 => by
  obtain ⟨h1, h2⟩ := keysD_size s k
  have hp := size_put (k := .int .i32 (byt s k : Int)) (keysD_tidy s k) (.lit (.int .i64 k))
  have hd : diffs s k = !Maps.has (keysD s k) (.int .i32 (byt s k : Int)) := by
   rw [keysD_has, Bool.eq_iff_iff]
   unfold diffs
   simp only [List.all_eq_true, Bool.not_eq_true', List.any_eq_false, bne_iff_ne, beq_iff_eq, List.mem_range]
   constructor
   ·intro h j hj e; exact h j hj e.symm
   ·intro h j hj e; exact h j hj e.symm
  show Maps.size ((keysD s k).put _ _) ≤ k + 1 ∧ (Maps.size ((keysD s k).put _ _) = k + 1 ↔ _)
  rw [hp]
  cases hh : Maps.has (keysD s k) (.int .i32 (byt s k : Int))
  ·rw [if_neg (by simp)]
   rw [hh] at hd
   refine ⟨by omega, fun e i hi => ?_, fun h => ?_⟩
   ·by_cases ei : i = k
    ·subst ei; simpa using hd
    ·exact h2.1 (by omega) i (by omega)
   ·have := h2.2 (fun i hi => h i (by omega)); omega
  ·rw [if_pos rfl]
   rw [hh] at hd
   refine ⟨by omega, fun e => by omega, fun h => ?_⟩
   have := h k (by omega)
   rw [hd] at this; cases this

theorem letOk_lt {s : ByteArray} {k : Nat} (hk : k < s.size) (h : letOk s k = true) : (s[k]'hk).toNat < 128 := by
 unfold letOk at h
 rw [decide_eq_true_eq, byt_eq hk] at h
 omega

set_option maxRecDepth 100000 in
set_option maxHeartbeats 800000 in
theorem keysOf_any (s : ByteArray) (w : World) (hs : s.size ≤ 1048576) (hall : ∀ i, i < s.size → letOk s i = true) :
  Calls Tryz.prog 83 #[.string s] w fun e w' => e = .returned (.map (some w.heap.size)) ∧ w'.ownsMap Tryz.prog 21 (plainElem (H := Unit) Tryz.prog 3) w.heap.size s.size (keysD s s.size) ∧ Below w.heap.size w w' := by
 have Hall := Lib.hid hall; clear hall
 have hmm := fun n w => run_makeHint (P := Tryz.prog) 115 _ _ Tryz.underlying115 n w
 go_enter Tryz.func83, Tryz.ntmps83
 go_wp2
 have hz := (World.ownsMap_made w Tryz.prog 21 (plainElem (H := Unit) Tryz.prog 3)).alloc (.stringIter s 0)
 have HZ := Lib.hid hz
 clear hz hmm
 go_loopw [4, 5] (fun i j wr => ∃ k : Nat, k ≤ s.size ∧ wr.ownsMap Tryz.prog 21 (plainElem (H := Unit) Tryz.prog 3) w.heap.size k (keysD s k) ∧ wr.heap[w.heap.size + 1]? = some (.stringIter s k) ∧ Below w.heap.size w wr) (fun i j wr => s.size - wr.iterPos (w.heap.size + 1))
 case atStart => exact ⟨0, Nat.zero_le _, HZ.out, by simpa using World.iter_heap (w.alloc (.map #[] 0)) s 0, ((Below.refl _ _).alloc (Nat.le_refl _) _).alloc (by simp) _⟩
 case round =>
  obtain ⟨k, hk, hown, hit, hb⟩ := hrel
  have Hit := Lib.hid hit
  by_cases hlt : k < s.size
  ·have hc := letOk_lt hlt (Hall.out k hlt)
   have hnx := fun ty => next_at (P := Tryz.prog) wr (w.heap.size + 1) s k ty hit hlt hc
   have hkey : keyOf Tryz.prog 21 (.int .i32 ((s[k]'hlt).toNat : Int)) = some (.int .i32 ((s[k]'hlt).toNat : Int)) := keyOf_int_mk Tryz.underlying21 (i32_wf hc)
   have HO2 := Lib.hid (hown.kept (itSet_grown wr (w.heap.size + 1) (k + 1) s) (by simp))
   have HB2 := Lib.hid (hb.grown (itSet_grown wr (w.heap.size + 1) (k + 1) s) hb.size (fun j hj => by cases hj; omega))
   have HE := Lib.hid (byt_eq hlt)
   have hkm : k < maxLen := by unfold maxLen; omega
   clear hown hb hc hit
   go_wp2_with (at_mapUpdate; refine wpList_mapUpdate_own _ rfl _ _ _ 115 rfl 21 3 keyLaw Tryz.underlying115 (plainElem (H := Unit) Tryz.prog 3) w.heap.size k _ rfl HO2.out hkm _ _ _ rfl rfl hkey _ [] (plainElem_int Tryz.underlying3 (WalkArith.wf_i64 (by omega))) ?_; intro w1 hown1 hgrow1)
   have hit1 : w1.heap[w.heap.size + 1]? = some (.stringIter s (k + 1)) := (hgrow1.block _ (by
    have := itSet_heap (p' := k + 1) Hit.out
    exact (Array.getElem?_eq_some_iff.1 this).1) (by simp)).trans (itSet_heap Hit.out)
   have hb1 := HB2.out.grown hgrow1 HB2.out.size (fun j hj => by cases hj; exact Nat.le_refl _)
   have hD : keysD s (k + 1) = (keysD s k).put (.int .i32 ((s[k]'hlt).toNat : Int)) (.lit (.int .i64 (k : Int))) := by
    show (keysD s k).put _ _ = _
    rw [HE.out]
   rw [← hD] at hown1
   have HP := Lib.hid hown1; have HI := Lib.hid hit1; have HB := Lib.hid hb1
   have hpos : w1.iterPos (w.heap.size + 1) = k + 1 := by unfold World.iterPos; rw [hit1]
   have hpos0 : wr.iterPos (w.heap.size + 1) = k := by unfold World.iterPos; rw [Hit.out]
   clear hown1 hit1 hb1 hD hgrow1
   go_wp2
   simp only [Act.put]
   go_roundw
   case rel => exact ⟨k + 1, by omega, HP.out, HI.out, HB.out⟩
   case measure => rw [hpos, hpos0]; omega
  ·have hkn : k = s.size := by omega
   subst hkn
   have hnx := fun ty => next_end (P := Tryz.prog) wr (w.heap.size + 1) s s.size ty hit (Nat.lt_irrefl _)
   go_wp2
   go_ret
   exact ⟨rfl, hown, hb⟩

theorem lettersB_of {s : ByteArray} (h : ∀ i, i < s.size → letOk s i = true) : ((Maps.size (keysD s s.size) : Int) == (s.size : Int)) = lettersB s := by
 obtain ⟨h1, h2⟩ := keysD_size s s.size
 have ha : (List.range s.size).all (letOk s) = true := by
  rw [List.all_eq_true]; intro i hi; exact h i (List.mem_range.1 hi)
 unfold lettersB
 rw [ha, Bool.true_and, Bool.eq_iff_iff, beq_iff_eq, List.all_eq_true]
 constructor
 ·intro e i hi
  exact h2.1 (by omega) i (List.mem_range.1 hi)
 ·intro hd
  have := h2.2 (fun i hi => hd i (List.mem_range.2 hi))
  omega
theorem lettersB_bad {s : ByteArray} {k : Nat} (hk : k < s.size) (h : letOk s k = false) : lettersB s = false := by
 unfold lettersB
 have : (List.range s.size).all (letOk s) = false := by
  rw [List.all_eq_false]
  exact ⟨k, List.mem_range.2 hk, by rw [h]; simp⟩
 rw [this]; rfl

set_option maxRecDepth 100000 in
set_option maxHeartbeats 800000 in
theorem areLetters_any (s : ByteArray) (w : World) (hs : s.size ≤ 1048576) :
  Calls Tryz.prog 131 #[.string s] w fun e w' => e = .returned (.bool (lettersB s)) ∧ Below w.heap.size w w' := by
 go_enter Tryz.func131, Tryz.ntmps131
 go_wp2
 go_loopw [4] (fun j wr => ∃ k : Nat, k ≤ s.size ∧ wr = w.iter s k ∧ ∀ i, i < k → letOk s i = true) (fun j wr => s.size - wr.iterPos w.heap.size)
 case atStart => exact ⟨0, Nat.zero_le _, rfl, fun i h => absurd h (by omega)⟩
 case round =>
  obtain ⟨k, hk, rfl, hall⟩ := hrel
  have Hall := Lib.hid hall; clear hall
  by_cases hlt : k < s.size
  ·have hb8 := Lib.hid (byt_eq hlt)
   by_cases hhi : 128 ≤ (s[k]'hlt).toNat
   ·have hnx := fun ty => run_next_any (P := Tryz.prog) w s k ty hlt
    obtain ⟨d1, d2⟩ := decode_high s k hlt hhi
    have d3 := decode_le s k
    have Hbad := Lib.hid (lettersB_bad hlt (show letOk s k = false by unfold letOk; rw [hb8.out, decide_eq_false_iff_not]; omega))
    obtain ⟨r, hr⟩ : ∃ r, (Utf8.decode s k).1 = r := ⟨_, rfl⟩
    rw [hr] at d1 d3
    rw [hr] at hnx
    have t1 : decide (r < 33) = false := by rw [decide_eq_false_iff_not]; omega
    have t2 : decide (126 < r) = true := by rw [decide_eq_true_eq]; omega
    clear hr hhi d2
    go_wp2
    go_ret
    exact ⟨ret_bool Hbad.out.symm, (Below.refl _ _).alloc (Nat.le_refl _) _⟩
   ·have hc : (s[k]'hlt).toNat < 128 := by omega
    have hnx := fun ty => run_next_ascii (P := Tryz.prog) w s k ty hlt hc
    clear hhi
    by_cases h1 : (s[k]'hlt).toNat < 33
    ·have Hbad := Lib.hid (lettersB_bad hlt (show letOk s k = false by unfold letOk; rw [hb8.out, decide_eq_false_iff_not]; omega))
     have t1 : decide (((s[k]'hlt).toNat : Int) < 33) = true := by rw [decide_eq_true_eq]; omega
     clear h1
     go_wp2
     go_ret
     exact ⟨ret_bool Hbad.out.symm, (Below.refl _ _).alloc (Nat.le_refl _) _⟩
    have t1 : decide (((s[k]'hlt).toNat : Int) < 33) = false := by rw [decide_eq_false_iff_not]; omega
    by_cases h2 : 126 < (s[k]'hlt).toNat
    ·have Hbad := Lib.hid (lettersB_bad hlt (show letOk s k = false by unfold letOk; rw [hb8.out, decide_eq_false_iff_not]; omega))
     have t2 : decide (126 < ((s[k]'hlt).toNat : Int)) = true := by rw [decide_eq_true_eq]; omega
     clear h1 h2
     go_wp2
     go_ret
     exact ⟨ret_bool Hbad.out.symm, (Below.refl _ _).alloc (Nat.le_refl _) _⟩
    have t2 : decide (126 < ((s[k]'hlt).toNat : Int)) = false := by rw [decide_eq_false_iff_not]; omega
    have HL : Hid (∀ i, i < k + 1 → letOk s i = true) := fun i hi => by
     by_cases e : i = k
     ·subst e; unfold letOk; rw [hb8.out, decide_eq_true_eq]; omega
     ·exact Hall.out i (by omega)
    clear h1 h2
    go_wp2
    go_roundw
    case rel => exact ⟨k + 1, by omega, rfl, HL.out⟩
    case measure => simp; omega
  ·have hkn : k = s.size := by omega
   subst hkn
   have hnx := fun ty => run_next_end (P := Tryz.prog) w s s.size ty (Nat.lt_irrefl _)
   have Hl := Lib.hid (lettersB_of Hall.out)
   have Hk := Lib.hid (Below.refl w.heap.size w |>.alloc (Nat.le_refl _) (.stringIter s s.size))
   go_wp2_with fail
   refine (keysOf_any s _ hs Hall.out).mono ?_
   rintro e w1 ⟨rfl, hown, hb⟩
   have HB := Lib.hid hb
   go_wp2_with (at_len; refine wpList_len_own _ rfl _ 115 rfl 21 3 Tryz.underlying115 _ _ _ _ rfl hown ?_)
   go_ret
   exact ⟨ret_bool Hl.out, Hk.out.trans (HB.out.mono (by simp [World.iter]))⟩

end Go.Proofs.YtimhnkpccbcohaaGreatDoor

namespace Go.Proofs.YtimhnkpccbcohaaGreatDoor
open Go.RowKit Go.Maps
set_option linter.unusedVariables false

theorem fontWidth_enter (args : Array Value) (w : World) : Sem.run Tryz.prog (callFunc 133 args) w = .ok (.enter 133 args) w := by kernel_rfl
theorem fontB_chain {f : Fnt} {a b : Bool} (ha : (f.s.size == f.cs.length) = a) (hb : (f.ws.length == f.cs.length) = b) : fontB f = (sortsAll f.cs && (a && (b && (lettersB f.s && widthsB f.ws)))) := by
 unfold fontB; rw [ha, hb]
set_option maxHeartbeats 1600000 in
theorem implFontOk_any (lo hi : Nat) (v : Value) (f : Fnt) (w : World) (h : FontV w lo hi v f) (hhi : hi ≤ w.heap.size) (hs : Small f) :
  Calls Tryz.prog 109 #[v] w fun e w' => e = .returned (.bool (fontB f)) ∧ Below w.heap.size w w' := by
 obtain ⟨A, c, A2, d, rfl, hI1, hI2, hc1, hc2, hd1, hd2, hss⟩ := h
 obtain ⟨s, ws, cs⟩ := f
 obtain ⟨hs1, hs2, hs3⟩ := hs
 simp only at *
 obtain ⟨n, hn⟩ : ∃ n, ws.length = n := ⟨_, rfl⟩
 obtain ⟨m, hm⟩ : ∃ m, cs.length = m := ⟨_, rfl⟩
 have Hn := Lib.hid hn; have Hm := Lib.hid hm
 rw [hn] at hs2
 rw [hm] at hs3
 have hm0 : m ≤ maxLen := by unfold maxLen; omega
 have hW : Below w.heap.size w (w.alloc (.cells #[.string s, .slice A n c, .slice A2 m d] 32)) := (Below.refl _ _).alloc (Nat.le_refl _) _
 have G1 := Lib.hid (hI1.below hhi hW); have G2 := Lib.hid (hI2.below hhi hW)
 have HW := Lib.hid hW
 have HC : ∀ a b : Bool, (s.size == m) = a → (n == m) = b → Hid (fontB ⟨s, ws, cs⟩ = (sortsAll cs && (a && (b && (lettersB s && widthsB ws))))) := fun a b ha hb =>
  fontB_chain (f := ⟨s, ws, cs⟩) (by simp only; rw [hm]; exact ha) (by simp only; rw [hn, hm]; exact hb)
 rw [hn, hm]
 clear hI1 hI2 hc1 hc2 hd1 hd2 hss hW hn hm
 cases h1 : sortsAll cs
 ·have Hf := HC _ _ rfl rfl
  have HF : Hid (fontB ⟨s, ws, cs⟩ = false) := by show _ = _; rw [Hf.out, h1]; rfl
  clear HC Hf
  go_enter Tryz.func109, Tryz.ntmps109
  go_wp2_with (go_at_call 130; refine (implSortsAll_any _ _ _ cs _ Hm.out hm0 G2.out.ints).mono ?_; rintro e w' ⟨rfl, rfl⟩; rw [h1])
  go_ret
  exact ⟨ret_bool HF.out.symm, HW.out⟩
 by_cases h2 : s.size = m
 ·have t2 : ((s.size : Int) == (m : Int)) = true := by rw [beq_iff_eq]; omega
  have Hf := HC true _ (by rw [beq_iff_eq]; exact h2) rfl
  cases h4 : lettersB s
  ·have HF : Hid (fontB ⟨s, ws, cs⟩ = false) := by show _ = _; rw [Hf.out, h1, h4]; simp
   clear HC Hf h2
   go_enter Tryz.func109, Tryz.ntmps109
   go_wp2_with (first
    | (go_at_call 130; refine (implSortsAll_any _ _ _ cs _ Hm.out hm0 G2.out.ints).mono ?_; rintro e w' ⟨rfl, rfl⟩; rw [h1])
    | (go_at_call 131; refine (areLetters_any s _ hs1).mono ?_; rintro e w1 ⟨rfl, hb1⟩; rw [h4]; have HB1 := Lib.hid hb1; clear hb1))
   go_ret
   exact ⟨ret_bool HF.out.symm, HW.out.trans (HB1.out.mono (by simp))⟩
  ·have HF : Hid ((inB n m m && ws.all (fun x => inB x 1 60)) = fontB ⟨s, ws, cs⟩) := by
    show _ = _
    rw [Hf.out, h1, h4]
    show (inB n m m && widthsB ws) = _
    by_cases h3 : n = m
    ·subst h3; simp [inB]
    ·have e1 : inB n m m = false := by unfold inB; rw [decide_eq_false_iff_not]; omega
     have e2 : (n == m) = false := by rw [beq_eq_false_iff_ne]; exact h3
     rw [e1, e2]; rfl
   clear HC Hf h2
   go_enter Tryz.func109, Tryz.ntmps109
   go_wp2_with (first
    | (go_at_call 130; refine (implSortsAll_any _ _ _ cs _ Hm.out hm0 G2.out.ints).mono ?_; rintro e w' ⟨rfl, rfl⟩; rw [h1])
    | (go_at_call 131; refine (areLetters_any s _ hs1).mono ?_; rintro e w1 ⟨rfl, hb1⟩; rw [h4]; have HB1 := Lib.hid hb1; have HI1 := Lib.hid ((G1.out.below (B := w.heap.size + 1) (by omega) (hb1.mono (by simp))).ints); have k1 : w1.cell? ⟨w.heap.size, 1, none⟩ = some (.slice A n c) := (hb1.cell (p := ⟨w.heap.size, 1, none⟩) (by simp)).trans (by rw [World.cell?_alloc_at _ _ _ _ rfl]; rfl); clear hb1)
    | (go_at_call 132; refine (isListOf_any 133 fontWidth_enter (fun x => inB x 1 60) isWidth_any _ _ _ ws _ _ _ Hn.out (by unfold maxLen; omega) HI1.out).mono ?_; rintro e w' ⟨rfl, rfl⟩))
   go_ret
   exact ⟨ret_bool HF.out, HW.out.trans (HB1.out.mono (by simp))⟩
 ·have t2 : ((s.size : Int) == (m : Int)) = false := by rw [beq_eq_false_iff_ne]; omega
  have Hf := HC false _ (by rw [beq_eq_false_iff_ne]; exact h2) rfl
  have HF : Hid (fontB ⟨s, ws, cs⟩ = false) := by show _ = _; rw [Hf.out, h1]; rfl
  clear HC Hf h2
  go_enter Tryz.func109, Tryz.ntmps109
  go_wp2_with (go_at_call 130; refine (implSortsAll_any _ _ _ cs _ Hm.out hm0 G2.out.ints).mono ?_; rintro e w' ⟨rfl, rfl⟩; rw [h1])
  go_ret
  exact ⟨ret_bool HF.out.symm, HW.out⟩

theorem wrap64_byte (b : UInt8) : wrap64 (b.toNat : Int) = (b.toNat : Int) := by
 rw [show wrap64 (b.toNat : Int) = IntKind.i64.wrap (b.toNat : Int) from by unfold wrap64; exact (IntKind.wrap_i64 _).symm]
 have := UInt8.toNat_lt b
 exact wrap_small _ (by omega) (by omega)
/-- the place of a letter, -1 if there is none: of letters below n -/
def keyTo (s : ByteArray) (x : Int) (n : Nat) : Int := match (List.range n).find? (fun i => (byt s i : Int) == x) with | some i => i | none => -1
def keyI (f : Fnt) (x : Int) : Int := if fontB f = true then keyTo f.s x f.s.size else -1
theorem keyTo_hit {s : ByteArray} {x : Int} {n k : Nat} (hk : k < n) (h : (byt s k : Int) = x) (hno : ∀ j, j < k → (byt s j : Int) ≠ x) : keyTo s x n = k := by
 unfold keyTo
 have : (List.range n).find? (fun i => (byt s i : Int) == x) = some k := by
  rw [List.find?_range_eq_some]
  exact ⟨by rw [h]; simp, List.mem_range.2 hk, fun j hj => by have := hno j hj; simp [this]⟩
 rw [this]
theorem keyTo_none {s : ByteArray} {x : Int} {n : Nat} (hno : ∀ j, j < n → (byt s j : Int) ≠ x) : keyTo s x n = -1 := by
 unfold keyTo
 have : (List.range n).find? (fun i => (byt s i : Int) == x) = none := by
  rw [List.find?_eq_none]
  intro j hj
  have := hno j (List.mem_range.1 hj)
  simpa using this
 rw [this]
theorem keyI_good {f : Fnt} {x : Int} (h : fontB f = true) : keyI f x = keyTo f.s x f.s.size := by unfold keyI; rw [if_pos h]
theorem keyI_bad {f : Fnt} {x : Int} (h : fontB f = false) : keyI f x = -1 := by unfold keyI; rw [h]; rfl

set_option maxHeartbeats 1600000 in
theorem specKeyOf_any (lo hi : Nat) (v : Value) (f : Fnt) (x : Int) (w : World) (h : FontV w lo hi v f) (hhi : hi ≤ w.heap.size) (hs : Small f) :
  Calls Tryz.prog 97 #[v, .int .i64 x] w fun e w' => e = .returned (.int .i64 (keyI f x)) ∧ Below w.heap.size w w' := by
 obtain ⟨A, c, A2, d, hv, hrest⟩ := id h
 have hsz := hs.1
 obtain ⟨s, hs0⟩ : ∃ s, f.s = s := ⟨_, rfl⟩
 obtain ⟨n, hn⟩ : ∃ n, f.ws.length = n := ⟨_, rfl⟩
 obtain ⟨m, hm⟩ : ∃ m, f.cs.length = m := ⟨_, rfl⟩
 rw [hs0, hn, hm] at hv
 rw [hs0] at hsz
 have hW : Below w.heap.size w (w.alloc (.cells #[.string s, .slice A n c, .slice A2 m d] 32)) := (Below.refl _ _).alloc (Nat.le_refl _) _
 have HV := Lib.hid (h.below hhi hW)
 have HW := Lib.hid hW
 rw [hv] at HV
 rw [hv]
 have Hs0 := Lib.hid hs0
 have HS := Lib.hid hs
 clear hrest hv hs0 hn hm h hW hs
 cases hf : fontB f
 ·have HK := Lib.hid (keyI_bad (x := x) hf)
  go_enter Tryz.func97, Tryz.ntmps97
  go_wp2_with (go_at_call 103; refine (specFontOk_any lo hi _ f _ HV.out (by simp; omega) HS.out).mono ?_; rintro e w1 ⟨rfl, hb1⟩; have HB := Lib.hid hb1; clear hb1)
  go_ret
  exact ⟨ret_int HK.out.symm, HW.out.trans (HB.out.mono (by simp))⟩
 ·have HK := Lib.hid (keyI_good (x := x) hf)
  rw [Hs0.out] at HK
  go_enter Tryz.func97, Tryz.ntmps97
  go_wp2_with (go_at_call 103; refine (specFontOk_any lo hi _ f _ HV.out (by simp; omega) HS.out).mono ?_; rintro e w1 ⟨rfl, hb1⟩; have HB := Lib.hid hb1; have k0 : w1.cell? ⟨w.heap.size, 0, none⟩ = some (.string s) := (hb1.cell (p := ⟨w.heap.size, 0, none⟩) (by simp)).trans (by rw [World.cell?_alloc_at _ _ _ _ rfl]; rfl); clear hb1)
  go_loop [5] (fun i => ∃ k : Nat, k ≤ s.size ∧ i = .int .i64 k ∧ ∀ j, j < k → (byt s j : Int) ≠ x) (fun i => s.size - (intOf i).toNat)
  case atStart => exact ⟨0, Nat.zero_le _, rfl, fun j hj => absurd hj (by omega)⟩
  case round =>
   obtain ⟨k, hk, rfl, hno⟩ := hrel
   have Hno := Lib.hid hno; clear hno
   by_cases hlt : k < s.size
   ·have hb8 := Lib.hid (byt_eq hlt)
    by_cases he : ((s[k]'hlt).toNat : Int) = x
    ·have HR := Lib.hid (keyTo_hit (s := s) (x := x) hlt (by rw [hb8.out]; exact he) Hno.out)
     have t1 : (wrap64 ((s[k]'hlt).toNat : Int) == x) = true := by rw [wrap64_byte, beq_iff_eq]; exact he
     clear he
     go_wp2
     go_ret
     exact ⟨ret_int (by rw [HK.out, HR.out]), HW.out.trans (HB.out.mono (by simp))⟩
    ·have HN : Hid (∀ j, j < k + 1 → (byt s j : Int) ≠ x) := fun j hj => by
      by_cases e : j = k
      ·subst e; rw [hb8.out]; exact he
      ·exact Hno.out j (by omega)
     have t1 : (wrap64 ((s[k]'hlt).toNat : Int) == x) = false := by rw [wrap64_byte, beq_eq_false_iff_ne]; exact he
     clear he
     go_wp2
     go_round
     case rel => exact ⟨k + 1, by omega, by go_num, HN.out⟩
     case measure => simp [intOf]; omega
   ·have hkn : k = s.size := by omega
    subst hkn
    have HR := Lib.hid (keyTo_none (s := s) (x := x) Hno.out)
    go_wp2
    go_ret
    exact ⟨ret_int (by rw [HK.out, HR.out]), HW.out.trans (HB.out.mono (by simp))⟩

/-- what the map of the keys says -/
theorem keysD_at {s : ByteArray} {k n : Nat} (hk : k < n) (hd : ∀ j, j < n → byt s j = byt s k → j = k) (z : DataW Unit) : (keysD s n).atKey (.int .i32 (byt s k : Int)) z = .lit (.int .i64 k) := by
 induction n with
 | zero => omega
 | succ n ih =>
  show ((keysD s n).put _ _).atKey _ _ = _
  by_cases e : byt s n = byt s k
  ·have := hd n (by omega) e
   subst this
   exact atKey_put_same (keysD_tidy s n).isMap (keyLit _) _ _
  ·rw [atKey_put_other (by intro h; injection h with h1 h2; exact e (by omega))]
   exact ih (by
    by_cases ek : k = n
    ·subst ek; exact absurd rfl e
    ·omega) (fun j hj => hd j (by omega))
theorem lettersB_dist {s : ByteArray} (h : lettersB s = true) : ∀ i j, i < s.size → j < s.size → byt s i = byt s j → i = j := by
 unfold lettersB at h
 rw [Bool.and_eq_true] at h
 have hd := h.2
 rw [List.all_eq_true] at hd
 have key : ∀ i j, j < i → i < s.size → byt s i ≠ byt s j := fun i j hij hi => by
  have := hd i (List.mem_range.2 hi)
  unfold diffs at this
  rw [List.all_eq_true] at this
  simpa using this j (List.mem_range.2 hij)
 intro i j hi hj e
 rcases Nat.lt_trichotomy i j with hlt | heq | hgt
 ·exact absurd e.symm (key j i hlt hj)
 ·exact heq
 ·exact absurd e (key i j hgt hi)
theorem fontB_letters {f : Fnt} (h : fontB f = true) : lettersB f.s = true := by
 unfold fontB at h
 simp only [Bool.and_eq_true] at h
 exact h.2.2.2.1
theorem letters_all {s : ByteArray} (h : lettersB s = true) : ∀ i, i < s.size → letOk s i = true := by
 unfold lettersB at h
 rw [Bool.and_eq_true, List.all_eq_true] at h
 exact fun i hi => h.1 i (List.mem_range.2 hi)
theorem keyTo_out {s : ByteArray} (hl : lettersB s = true) {x : Int} (hx : x < 33 ∨ 126 < x) : keyTo s x s.size = -1 := by
 refine keyTo_none fun j hj e => ?_
 have := letters_all hl j hj
 unfold letOk at this
 rw [decide_eq_true_eq] at this
 omega
end Go.Proofs.YtimhnkpccbcohaaGreatDoor

namespace Go.Proofs.YtimhnkpccbcohaaGreatDoor
open Go.RowKit
set_option linter.unusedVariables false

theorem keep3 {w w' : World} {B g : Nat} {a b c : Value} (hb : Below B w w') (hg : g < B) (h : w.cell? ⟨g, 0, none⟩ = some a ∧ w.cell? ⟨g, 1, none⟩ = some b ∧ w.cell? ⟨g, 2, none⟩ = some c) :
  w'.cell? ⟨g, 0, none⟩ = some a ∧ w'.cell? ⟨g, 1, none⟩ = some b ∧ w'.cell? ⟨g, 2, none⟩ = some c :=
 ⟨(hb.cell (p := ⟨g, 0, none⟩) hg).trans h.1, (hb.cell (p := ⟨g, 1, none⟩) hg).trans h.2.1, (hb.cell (p := ⟨g, 2, none⟩) hg).trans h.2.2⟩
theorem new3 (w : World) (a b c : Value) (t : TypeId) : (w.alloc (.cells #[a, b, c] t)).cell? ⟨w.heap.size, 0, none⟩ = some a ∧ (w.alloc (.cells #[a, b, c] t)).cell? ⟨w.heap.size, 1, none⟩ = some b ∧ (w.alloc (.cells #[a, b, c] t)).cell? ⟨w.heap.size, 2, none⟩ = some c := by
 refine ⟨?_, ?_, ?_⟩ <;> (rw [World.cell?_alloc_at _ _ _ _ rfl]; rfl)
theorem fontForm {w : World} {lo hi : Nat} {v : Value} {f : Fnt} (h : FontV w lo hi v f) : ∃ A c B d, v = .agg #[.string f.s, .slice A f.ws.length c, .slice B f.cs.length d] := by
 obtain ⟨A, c, B, d, rfl, _⟩ := h
 exact ⟨A, c, B, d, rfl⟩
end Go.Proofs.YtimhnkpccbcohaaGreatDoor

namespace Go.Proofs.YtimhnkpccbcohaaGreatDoor
open Go.RowKit
set_option linter.unusedVariables false

theorem part_set {s t : Int} (wf : (Lit.int .i64 s).wf = true) (h0 : 0 ≤ t) (h1 : t ≤ 127) (h : partB s t = true) : setB s = true := by
 have hw : -9223372036854775808 ≤ s ∧ s ≤ 9223372036854775807 := by
  simp [Lit.wf, IntKind.min, IntKind.max, IntKind.signed, IntKind.bits] at wf
  omega
 obtain ⟨b, rfl⟩ := Int.eq_ofNat_of_zero_le h0
 have hb : b < 128 := by omega
 rw [partB_eq, beq_iff_eq] at h
 have e : IntKind.i64.wrap ((BitVec.ofInt 64 s &&& ~~~ BitVec.ofInt 64 (b : Int)).toNat : Int) = 0 := h
 have hlt : (BitVec.ofInt 64 s &&& ~~~ BitVec.ofInt 64 (b : Int)).toNat < 2 ^ 64 := (BitVec.ofInt 64 s &&& ~~~ BitVec.ofInt 64 (b : Int)).isLt
 rw [IntKind.wrap_i64] at e
 have hz : (BitVec.ofInt 64 s &&& ~~~ BitVec.ofInt 64 (b : Int)).toNat = 0 := by omega
 have hle : (BitVec.ofInt 64 s).toNat < 2 ^ 7 := by
  apply Nat.lt_of_not_le
  intro hge
  obtain ⟨i, hi, hbit⟩ := Nat.exists_ge_and_testBit_of_ge_two_pow hge
  have hz' : (BitVec.ofInt 64 s &&& ~~~ BitVec.ofInt 64 (b : Int)).toNat.testBit i = false := by rw [hz]; simp
  have hi64 : i < 64 := by
   apply Nat.lt_of_not_le
   intro h64
   have : (BitVec.ofInt 64 s).toNat.testBit i = false := Nat.testBit_lt_two_pow (Nat.lt_of_lt_of_le (BitVec.ofInt 64 s).isLt (Nat.pow_le_pow_right (by omega) h64))
   rw [this] at hbit; cases hbit
  have hbf : b.testBit i = false := Nat.testBit_lt_two_pow (Nat.lt_of_lt_of_le hb (Nat.le_trans (by decide : 128 ≤ 2 ^ 7) (Nat.pow_le_pow_right (by omega) hi)))
  rw [BitVec.testBit_toNat, BitVec.getLsbD_and, BitVec.getLsbD_not, ← BitVec.testBit_toNat, ← BitVec.testBit_toNat, ofInt_i64 b (by omega), hbit, hbf] at hz'
  simp [hi64] at hz'
 rw [setB_iff]
 rw [BitVec.toNat_ofInt] at hle
 omega

/-- a matrix of a font -/
def matB (f : Fnt) (x : Mat) : Bool := inB x.1 0 ((f.s.size : Int) - 1) && (setB x.2 && partB x.2 (f.cs.getD x.1.toNat 0))
theorem fontB_codes {f : Fnt} (h : fontB f = true) : f.s.size = f.cs.length ∧ f.ws.length = f.cs.length ∧ isBar f.cs = true := by
 unfold fontB at h
 simp only [Bool.and_eq_true, beq_iff_eq] at h
 have := h.1
 unfold sortsAll at this
 rw [Bool.and_eq_true] at this
 exact ⟨h.2.1, h.2.2.1, this.2⟩
theorem inB_iff (x a b : Int) : inB x a b = true ↔ a ≤ x ∧ x ≤ b := by unfold inB; rw [decide_eq_true_eq]

set_option maxRecDepth 100000 in
set_option maxHeartbeats 1600000 in
theorem l2Matrix_any (lo hi : Nat) (v : Value) (f : Fnt) (x : Mat) (w : World) (h : FontV w lo hi v f) (hhi : hi ≤ w.heap.size) (hs : Small f) (hf : fontB f = true) :
  Calls Tryz.prog 66 #[v, .agg #[.int .i64 x.1, .int .i64 x.2]] w fun e w' => e = .returned (.bool (matB f x)) ∧ Below w.heap.size w w' := by
 obtain ⟨A, c, A2, d, rfl, hI1, hI2, hc1, hc2, hd1, hd2, hss⟩ := h
 obtain ⟨e1, e2, hbar⟩ := fontB_codes hf
 have hbl := bar_len hbar
 obtain ⟨s, ws, cs⟩ := f
 obtain ⟨k, t⟩ := x
 obtain ⟨hs1, hs2, hs3⟩ := hs
 simp only at *
 obtain ⟨n, hn⟩ : ∃ n, ws.length = n := ⟨_, rfl⟩
 obtain ⟨m, hm⟩ : ∃ m, cs.length = m := ⟨_, rfl⟩
 have Hn := Lib.hid hn; have Hm := Lib.hid hm
 have He := Lib.hid e1
 rw [hn, hm]
 rw [hm] at hbl
 have hsz : s.size = m := by rw [e1, hm]
 have HM : Hid (matB ⟨s, ws, cs⟩ (k, t) = (inB k 0 ((s.size : Int) - 1) && (setB t && partB t (cs.getD k.toNat 0)))) := rfl
 have hW : Below w.heap.size w ((w.alloc (.cells #[.string s, .slice A n c, .slice A2 m d] 32)).alloc (.cells #[.int .i64 k, .int .i64 t] 64)) := ((Below.refl _ _).alloc (Nat.le_refl _) _).alloc (by simp) _
 have G2 := Lib.hid (hI2.below hhi hW)
 have HW := Lib.hid hW
 have hsb1 : 1 ≤ s.size := by omega
 have hsb2 : s.size ≤ 40 := by omega
 have Hsz := Lib.hid hsz
 clear hI1 hI2 hc1 hc2 hd1 hd2 hss hW hn hm e1 e2 hbar hbl hs1 hs2 hs3 hf hsz
 cases h1 : inB k 0 ((s.size : Int) - 1)
 ·have HR : Hid (matB ⟨s, ws, cs⟩ (k, t) = false) := by show _ = _; rw [HM.out, h1]; rfl
  go_enter Tryz.func66, Tryz.ntmps66
  go_wp2
  go_quiet ((go_at_call 64; exact Calls.quiet_of_same ((l1In_any _ _ _ _).mono fun _ _ hh => ⟨by rw [hh.1, h1], hh.2.symm⟩)))
  go_wp2
  go_ret
  exact ⟨ret_bool HR.out.symm, below_drewN HW.out _⟩
 ·obtain ⟨k0, k1⟩ := (inB_iff _ _ _).1 h1
  obtain ⟨j, rfl⟩ := Int.eq_ofNat_of_zero_le k0
  have hjm : j < m := by have := Hsz.out; omega
  cases h2 : setB t
  ·have HR : Hid (matB ⟨s, ws, cs⟩ ((j : Int), t) = false) := by show _ = _; rw [HM.out, h1, h2]; rfl
   go_enter Tryz.func66, Tryz.ntmps66
   go_wp2
   go_quiet ((first
    | (go_at_call 64; exact Calls.quiet_of_same ((l1In_any _ _ _ _).mono fun _ _ hh => ⟨by rw [hh.1, h1], hh.2.symm⟩))
    | (go_at_call 104; exact Calls.quiet_of_same ((l1Set_any _ _).mono fun _ _ hh => ⟨by rw [hh.1, h2], hh.2.symm⟩))))
   go_wp2
   go_ret
   exact ⟨ret_bool HR.out.symm, below_drewN HW.out _⟩
  ·obtain ⟨ad, x, rfl, hx, hc⟩ := G2.out.ints.at_ (k := j) (by rw [Hm.out]; exact hjm)
   have HR : Hid (matB ⟨s, ws, cs⟩ ((j : Int), t) = partB t x) := by
    show _ = _
    rw [HM.out, h1, h2, Int.toNat_natCast, getD_at hx.out]; rfl
   go_enter Tryz.func66, Tryz.ntmps66
   go_wp2
   go_quiet ((first
    | (go_at_call 64; exact Calls.quiet_of_same ((l1In_any _ _ _ _).mono fun _ _ hh => ⟨by rw [hh.1, h1], hh.2.symm⟩))
    | (go_at_call 104; exact Calls.quiet_of_same ((l1Set_any _ _).mono fun _ _ hh => ⟨by rw [hh.1, h2], hh.2.symm⟩))
    | (go_at_call 105; exact Calls.quiet_of_same ((l1Part_any _ _ _).mono fun _ _ hh => ⟨hh.1, hh.2.symm⟩))))
   go_wp2
   go_ret
   exact ⟨ret_bool HR.out.symm, below_drewN HW.out _⟩
set_option maxRecDepth 100000 in
set_option maxHeartbeats 1600000 in
theorem isMatrix_any (lo hi : Nat) (v : Value) (f : Fnt) (x : Mat) (w : World) (h : FontV w lo hi v f) (hhi : hi ≤ w.heap.size) (hs : Small f) (hf : fontB f = true) (wf : (Lit.int .i64 x.2).wf = true) :
  Calls Tryz.prog 73 #[v, .agg #[.int .i64 x.1, .int .i64 x.2]] w fun e w' => e = .returned (.bool (matB f x)) ∧ Below w.heap.size w w' := by
 obtain ⟨A, c, A2, d, rfl, hI1, hI2, hc1, hc2, hd1, hd2, hss⟩ := h
 obtain ⟨e1, e2, hbar⟩ := fontB_codes hf
 have hbl := bar_len hbar
 obtain ⟨s, ws, cs⟩ := f
 obtain ⟨k, t⟩ := x
 obtain ⟨hs1, hs2, hs3⟩ := hs
 simp only at *
 obtain ⟨n, hn⟩ : ∃ n, ws.length = n := ⟨_, rfl⟩
 obtain ⟨m, hm⟩ : ∃ m, cs.length = m := ⟨_, rfl⟩
 have Hn := Lib.hid hn; have Hm := Lib.hid hm
 have He := Lib.hid e1
 rw [hn, hm]
 rw [hm] at hbl
 have Hbar := Lib.hid (bar_set hbar)
 have Hwf := Lib.hid wf
 have hm0 : m ≤ maxLen := by unfold maxLen; omega
 have hsz : s.size = m := by rw [e1, hm]
 have HM : Hid (matB ⟨s, ws, cs⟩ (k, t) = (inB k 0 ((s.size : Int) - 1) && (setB t && partB t (cs.getD k.toNat 0)))) := rfl
 have hW : Below w.heap.size w ((w.alloc (.cells #[.string s, .slice A n c, .slice A2 m d] 32)).alloc (.cells #[.int .i64 k, .int .i64 t] 64)) := ((Below.refl _ _).alloc (Nat.le_refl _) _).alloc (by simp) _
 have G2 := Lib.hid (hI2.below hhi hW)
 have HW := Lib.hid hW
 have hsb1 : 1 ≤ s.size := by omega
 have hsb2 : s.size ≤ 40 := by omega
 have Hsz := Lib.hid hsz
 clear hI1 hI2 hc1 hc2 hd1 hd2 hss hW hn hm e1 e2 hbar hbl hs1 hs2 hs3 hf hsz wf
 have HZ : Hid (inB k 0 ((m : Int) - 1) = inB k 0 ((s.size : Int) - 1)) := by show _ = _; rw [Hsz.out]
 cases h1 : inB k 0 ((m : Int) - 1)
 ·have HR : Hid (matB ⟨s, ws, cs⟩ (k, t) = false) := by show _ = _; rw [HM.out, ← HZ.out, h1]; rfl
  go_enter Tryz.func73, Tryz.ntmps73
  go_wp2
  go_quiet ((go_at_call 107; exact Calls.quiet_of_same ((hasPlace_any _ _ _ _ _ hm0).mono fun _ _ hh => ⟨by rw [hh.1, h1], hh.2.symm⟩)))
  go_wp2
  go_ret
  exact ⟨ret_bool HR.out.symm, below_drewN HW.out _⟩
 ·obtain ⟨k0, k1⟩ := (inB_iff _ _ _).1 h1
  obtain ⟨j, rfl⟩ := Int.eq_ofNat_of_zero_le k0
  have hjm : j < m := by omega
  obtain ⟨ad, x, rfl, hx, hc⟩ := G2.out.ints.at_ (k := j) (by rw [Hm.out]; exact hjm)
  have HR : Hid (matB ⟨s, ws, cs⟩ ((j : Int), t) = partB t x) := by
   show _ = _
   have hxb := Hbar.out x (mem_at hx.out)
   rw [HM.out, ← HZ.out, h1, Int.toNat_natCast, getD_at hx.out, Bool.true_and]
   cases hp : partB t x
   ·simp
   ·rw [part_set Hwf.out hxb.1 hxb.2 hp]; rfl
  go_enter Tryz.func73, Tryz.ntmps73
  go_wp2
  go_quiet ((first
   | (go_at_call 107; exact Calls.quiet_of_same ((hasPlace_any _ _ _ _ _ hm0).mono fun _ _ hh => ⟨by rw [hh.1, h1], hh.2.symm⟩))
   | (go_at_call 108; exact Calls.quiet_of_same ((isPartOf_any _ _ _).mono fun _ _ hh => ⟨hh.1, hh.2.symm⟩))))
  go_wp2
  go_ret
  exact ⟨ret_bool HR.out.symm, below_drewN HW.out _⟩

end Go.Proofs.YtimhnkpccbcohaaGreatDoor

namespace Go.Proofs.YtimhnkpccbcohaaGreatDoor
open Go.RowKit
set_option linter.unusedVariables false

def rowB (f : Fnt) (xs : List Mat) : Bool := decide (xs.length ≤ 20) && xs.all (matB f)
def magB (f : Fnt) (ms : List (List Mat)) : Bool := fontB f && ((ms.length == f.s.size) && ms.all (rowB f))
theorem rowB_room {f : Fnt} {xs : List Mat} (h : 20 < xs.length) : rowB f xs = false := by
 unfold rowB; rw [decide_eq_false (by omega)]; rfl
theorem rowB_bad {f : Fnt} {xs : List Mat} {k : Nat} {x : Mat} (hx : xs[k]? = some x) (h : matB f x = false) : rowB f xs = false := by
 have : xs.all (matB f) = false := by
  rw [List.all_eq_false]; exact ⟨x, List.mem_of_getElem? hx, by rw [h]; simp⟩
 unfold rowB; rw [this, Bool.and_false]
theorem rows_bad {f : Fnt} {ms : List (List Mat)} {k : Nat} {xs : List Mat} (hx : ms[k]? = some xs) (h : rowB f xs = false) : ms.all (rowB f) = false := by
 rw [List.all_eq_false]; exact ⟨xs, List.mem_of_getElem? hx, by rw [h]; simp⟩
theorem all_step {f : Fnt} {xs : List Mat} {k : Nat} {x : Mat} (hx : xs[k]? = some x) (h : matB f x = true) (ht : (xs.take k).all (matB f) = true) : (xs.take (k + 1)).all (matB f) = true := by
 rw [mtake_at hx, List.all_append, ht]; simp [h]
theorem all_step2 {f : Fnt} {ms : List (List Mat)} {k : Nat} {xs : List Mat} (hx : ms[k]? = some xs) (hr : xs.length ≤ 20) (h : xs.all (matB f) = true) (ht : (ms.take k).all (rowB f) = true) : (ms.take (k + 1)).all (rowB f) = true := by
 rw [ttake_at hx, List.all_append, ht]
 simp [rowB, h, hr]
theorem fontB_size {f : Fnt} (h : fontB f = true) : 1 ≤ f.s.size ∧ f.s.size ≤ 40 := by
 obtain ⟨e, _, hb⟩ := fontB_codes h
 have := bar_len hb
 omega

set_option maxRecDepth 100000 in
set_option maxHeartbeats 3200000 in
theorem specMagOk_any (lo hi lo2 hi2 : Nat) (v : Value) (f : Fnt) (A : Option Addr) (n c : Nat) (ms : List (List Mat)) (w : World) (h : FontV w lo hi v f) (hhi : hi ≤ w.heap.size) (hs : Small f) (hn : ms.length = n) (hm : n ≤ 1048576) (hM : MagI w lo2 hi2 A ms) (hhi2 : hi2 ≤ w.heap.size) :
  Calls Tryz.prog 63 #[v, .slice A n c] w fun e w' => e = .returned (.bool (magB f ms)) ∧ Below w.heap.size w w' := by
 obtain ⟨B, d, B2, d2, hv⟩ := fontForm h
 obtain ⟨s, hs0⟩ : ∃ s, f.s = s := ⟨_, rfl⟩
 obtain ⟨p, hp⟩ : ∃ n, f.ws.length = n := ⟨_, rfl⟩
 obtain ⟨q, hq⟩ : ∃ m, f.cs.length = m := ⟨_, rfl⟩
 rw [hs0, hp, hq] at hv
 rw [hv] at h
 rw [hv]
 have hW : Below w.heap.size w (w.alloc (.cells #[.string s, .slice B p d, .slice B2 q d2] 32)) := (Below.refl _ _).alloc (Nat.le_refl _) _
 have V0 := Lib.hid (h.below hhi hW)
 have M0 := Lib.hid (hM.below hhi2 hW)
 have X0 := Lib.hid (new3 w (.string s) (.slice B p d) (.slice B2 q d2) 32)
 have T0 := Lib.hid hW
 have Hn := Lib.hid hn; have Hs0 := Lib.hid hs0
 have HS := Lib.hid hs
 clear hv hs0 hp hq h hW hM hn hs
 cases hf : fontB f
 ·have HR : Hid (magB f ms = false) := by show _ = _; unfold magB; rw [hf]; rfl
  go_enter Tryz.func63, Tryz.ntmps63
  go_wp2_with (go_at_call 103; refine (specFontOk_any lo hi _ f _ V0.out (by simp; omega) HS.out).mono ?_; rintro e w1 ⟨rfl, hb1⟩; have T1 := Lib.hid (T0.out.trans (hb1.mono (by simp))); clear hb1)
  go_ret
  exact ⟨ret_bool HR.out.symm, T1.out⟩
 have hfs := fontB_size hf
 rw [Hs0.out] at hfs
 have HF := Lib.hid hf
 by_cases hl : n = s.size
 ·have hl' : ((n : Int) != (s.size : Int)) = false := by rw [bne_eq_false_iff_eq]; omega
  have HR : Hid (magB f ms = ms.all (rowB f)) := by
   show _ = _
   unfold magB; rw [hf, Hn.out, Hs0.out, hl]; simp
  have hn40 : n ≤ 40 := by omega
  have Hl := Lib.hid hl
  clear hl hfs hf
  go_enter Tryz.func63, Tryz.ntmps63
  go_wp2_with fail
  refine (specFontOk_any lo hi _ f _ V0.out (by simp; omega) HS.out).mono ?_
  rintro e w1 ⟨rfl, hb1⟩
  rw [HF.out]
  have T1 := Lib.hid (T0.out.trans (hb1.mono (by simp)))
  have V1 := Lib.hid (V0.out.below (by simp; omega) hb1)
  have M1 := Lib.hid (M0.out.below (by simp; omega) hb1)
  have X1 := Lib.hid (keep3 hb1 (by simp) X0.out)
  have s1 := hb1.size
  simp only [World.size_alloc] at s1
  clear hb1 V0 M0 X0 T0
  obtain ⟨q0, q1, q2⟩ := X1.out
  go_wp2
  clear q0 q1 q2
  go_loopw [22] (fun i wr => ∃ k : Nat, k ≤ n ∧ i = .int .i64 k ∧ Below w1.heap.size w1 wr ∧ (ms.take k).all (rowB f) = true) (fun i _ => n - (intOf i).toNat)
  case atStart => exact ⟨0, Nat.zero_le _, rfl, Below.refl _ _, rfl⟩
  case round =>
   obtain ⟨k, hk, rfl, hb, hall⟩ := hrel
   have HB := Lib.hid hb; have Hall := Lib.hid hall
   clear hb hall
   by_cases hlt : k < n
   ·obtain ⟨ad, xs, Aj, cj, rfl, hx, hc, hcap, hcm, hI⟩ := (M1.out.below (by omega) HB.out).at_ (k := k) (by rw [Hn.out]; exact hlt)
    obtain ⟨l, hl⟩ : ∃ l, xs.length = l := ⟨_, rfl⟩
    rw [hl] at hc hcap
    have hlm : l ≤ maxLen := by omega
    unfold maxLen at hlm
    have HI := Lib.hid hI; have HL := Lib.hid hl
    clear hI hcap hcm hl
    by_cases h20 : 20 < l
    ·have Hbad := Lib.hid (rows_bad hx.out (rowB_room (f := f) (by rw [HL.out]; exact h20)))
     have t1 : decide (20 < (l : Int)) = true := by rw [decide_eq_true_eq]; omega
     clear h20
     go_wp2
     go_ret
     exact ⟨ret_bool (by rw [HR.out, Hbad.out]), T1.out.trans (HB.out.mono (by omega))⟩
    ·have t1 : decide (20 < (l : Int)) = false := by rw [decide_eq_false_iff_not]; omega
     have hl20 : l ≤ 20 := by omega
     clear h20
     go_wp2
     go_loopw [31] (fun i wr => ∃ j : Nat, j ≤ l ∧ i = .int .i64 j ∧ Below w1.heap.size w1 wr ∧ (xs.take j).all (matB f) = true) (fun i _ => l - (intOf i).toNat)
     case atStart => exact ⟨0, Nat.zero_le _, rfl, HB.out, rfl⟩
     case round =>
      obtain ⟨j, hj, rfl, hb2, hall2⟩ := hrel
      have HB2 := Lib.hid hb2; have Hall2 := Lib.hid hall2
      clear hb2 hall2
      by_cases hjl : j < l
      ·obtain ⟨bd, x, rfl, hxj, d1, e1⟩ := (HI.out.keep (w' := wr) (fun p _ h2 => (HB2.out.cell (by omega)).trans (HB.out.cell (by omega)).symm)).at_ (k := j) (by rw [HL.out]; exact hjl)
       obtain ⟨q0, q1, q2⟩ := keep3 HB2.out (by omega) X1.out
       have hz : w.heap.size < wr.heap.size := by have := HB2.out.size; omega
       have V2 := Lib.hid ((V1.out.below (by omega) HB2.out).below (B := wr.heap.size) (by have := HB2.out.size; omega) ((Below.refl _ _).alloc (Nat.le_refl _) (.cells #[.int .i64 x.1, .int .i64 x.2] 64)))
       have hsz2 := HB2.out.size
       go_wp2_with fail
       refine (l2Matrix_any lo hi _ f x _ V2.out (by simp; omega) HS.out HF.out).mono ?_
       rintro e w2 ⟨rfl, hbb⟩
       have HB3 := Lib.hid ((HB2.out.alloc HB2.out.size (.cells #[.int .i64 x.1, .int .i64 x.2] 64)).trans (hbb.mono (by simp; omega)))
       clear hbb d1 e1 q0 q1 q2 hz hsz2
       cases hmb : matB f x
       ·have Hbad := Lib.hid (rows_bad hx.out (rowB_bad hxj.out hmb))
        go_wp2
        go_ret
        exact ⟨ret_bool (by rw [HR.out, Hbad.out]), T1.out.trans (HB3.out.mono (by omega))⟩
       ·have HA := Lib.hid (all_step hxj.out hmb Hall2.out)
        go_wp2
        go_roundw
        case rel => exact ⟨j + 1, by omega, by go_num, HB3.out, HA.out⟩
        case measure => simp [intOf]; omega
      ·have hjn : j = l := by omega
       subst hjn
       have HA := Lib.hid (all_step2 hx.out (by rw [HL.out]; exact hl20) (by have := Hall2.out; rwa [mtake_all HL.out] at this) Hall.out)
       go_wp2
       go_roundw
       case rel => exact ⟨k + 1, by omega, by go_num, HB2.out, HA.out⟩
       case measure => simp [intOf]; omega
   ·have hkn : k = n := by omega
    subst hkn
    go_wp2
    go_ret
    have := Hall.out
    rw [ttake_all Hn.out] at this
    exact ⟨ret_bool (by rw [HR.out, this]), T1.out.trans (HB.out.mono (by omega))⟩
 ·have hl' : ((n : Int) != (s.size : Int)) = true := by rw [bne_iff_ne]; omega
  have HR : Hid (magB f ms = false) := by
   show _ = _
   have : (ms.length == f.s.size) = false := by rw [Hn.out, Hs0.out, beq_eq_false_iff_ne]; exact hl
   unfold magB; rw [hf, this]; rfl
  clear hl hfs hf
  go_enter Tryz.func63, Tryz.ntmps63
  go_wp2_with fail
  refine (specFontOk_any lo hi _ f _ V0.out (by simp; omega) HS.out).mono ?_
  rintro e w1 ⟨rfl, hb1⟩
  rw [HF.out]
  have T1 := Lib.hid (T0.out.trans (hb1.mono (by simp)))
  obtain ⟨q0, q1, q2⟩ := keep3 hb1 (by simp) X0.out
  clear hb1
  go_wp2
  go_ret
  exact ⟨ret_bool HR.out.symm, T1.out⟩

/-- isListOf of the program at matrices, with a function that captured one pointer -/
theorem mats_all {p : Mat → Bool} {xs : List Mat} {k : Nat} {x : Mat} (h : xs[k]? = some x) : (xs.take (k + 1)).all p = ((xs.take k).all p && p x) := by
 rw [List.take_add_one, h]; simp
theorem mats_bad {p : Mat → Bool} {xs : List Mat} {k : Nat} {x : Mat} (h : xs[k]? = some x) (hb : p x = false) : xs.all p = false := by
 rw [List.all_eq_false]
 exact ⟨x, List.mem_of_getElem? h, by rw [hb]; simp⟩
set_option maxRecDepth 100000 in
set_option maxHeartbeats 1600000 in
theorem listMats_any (F : Nat) (hF : ∀ (args : Array Value) (w : World), Sem.run Tryz.prog (callFunc F args) w = .ok (.enter F args) w) (g : Nat) (p : Mat → Bool) (lo hi : Nat) (A : Option Addr) (n c : Nat) (xs : List Mat) (a b : Int) (w : World) (hn : xs.length = n) (hm : n ≤ maxLen) (hI : MatsI w lo hi A xs) (hhi : hi ≤ w.heap.size)
  (hp : ∀ (x : Mat) (wr : World), x ∈ xs → Below w.heap.size w wr → Calls Tryz.prog F #[.agg #[.int .i64 x.1, .int .i64 x.2], .pointer (some ⟨g, 0, none⟩)] wr fun e w' => e = .returned (.bool (p x)) ∧ Below wr.heap.size wr w') :
  Calls Tryz.prog 78 #[.slice A n c, .int .i64 a, .int .i64 b, .func (.func F) #[] #[.pointer (some ⟨g, 0, none⟩)]] w fun e w' => e = .returned (.bool (inB n a b && xs.all p)) ∧ Below w.heap.size w w' := by
 unfold maxLen at hm
 have Hn := Lib.hid hn; have HI := Lib.hid hI; have HP := Lib.hid hp
 clear hn hI hp
 by_cases hlo : (n : Int) < a
 ·have H0 : Hid (inB n a b = false) := by show _ = _; unfold inB; rw [decide_eq_false_iff_not]; omega
  go_enter Tryz.func78, Tryz.ntmps78
  go_wp2
  go_ret
  exact ⟨ret_bool (by rw [H0.out]; rfl), Below.refl _ _⟩
 by_cases hhi2 : b < (n : Int)
 ·have H0 : Hid (inB n a b = false) := by show _ = _; unfold inB; rw [decide_eq_false_iff_not]; omega
  go_enter Tryz.func78, Tryz.ntmps78
  go_wp2
  go_ret
  exact ⟨ret_bool (by rw [H0.out]; rfl), Below.refl _ _⟩
 have H1 : Hid (inB n a b = true) := by show _ = _; unfold inB; rw [decide_eq_true_eq]; omega
 go_enter Tryz.func78, Tryz.ntmps78
 go_wp2
 go_loopw [23] (fun i wr => ∃ k : Nat, k ≤ n ∧ i = .int .i64 k ∧ (xs.take k).all p = true ∧ Below w.heap.size w wr) (fun i _ => n - (intOf i).toNat)
 case atStart => exact ⟨0, Nat.zero_le _, rfl, rfl, Below.refl _ _⟩
 case round =>
  obtain ⟨k, hk, rfl, hall, hb⟩ := hrel
  have Hall := Lib.hid hall; have HB := Lib.hid hb
  clear hall hb
  by_cases hlt : k < n
  ·obtain ⟨ad, x, rfl, hx, d1, e1⟩ := (HI.out.below hhi HB.out).at_ (k := k) (by rw [Hn.out]; exact hlt)
   have HBa := Lib.hid (HB.out.alloc HB.out.size (.cells #[.int .i64 x.1, .int .i64 x.2] 64))
   cases hs : p x
   ·have Hb := Lib.hid (mats_bad hx.out hs)
    go_wp2_with fail
    refine (HP.out x _ (List.mem_of_getElem? hx.out) HBa.out).mono ?_
    rintro e w2 ⟨rfl, hb2⟩
    rw [hs]
    have HE := Lib.hid (HBa.out.trans (hb2.mono HBa.out.size))
    clear hb2 d1 e1
    go_wp2
    go_ret
    exact ⟨ret_bool (by rw [Hb.out]; simp), HE.out⟩
   ·have Hs := Lib.hid (mats_all (p := p) hx.out)
    go_wp2_with fail
    refine (HP.out x _ (List.mem_of_getElem? hx.out) HBa.out).mono ?_
    rintro e w2 ⟨rfl, hb2⟩
    rw [hs]
    have HE := Lib.hid (HBa.out.trans (hb2.mono HBa.out.size))
    clear hb2 d1 e1
    go_wp2
    go_roundw
    case rel => exact ⟨k + 1, by omega, by go_num, by rw [Hs.out, Hall.out, hs]; rfl, HE.out⟩
    case measure => simp [intOf]; omega
  ·have hkn : k = n := by omega
   subst hkn
   go_wp2
   go_ret
   refine ⟨ret_bool ?_, HB.out⟩
   have := Hall.out
   rw [mtake_all Hn.out] at this
   rw [this, H1.out]; rfl

theorem magFn_enter (args : Array Value) (w : World) : Sem.run Tryz.prog (callFunc 110 args) w = .ok (.enter 110 args) w := by kernel_rfl
set_option maxRecDepth 100000 in
set_option maxHeartbeats 800000 in
theorem magFn_any (lo hi g : Nat) (B B2 : Option Addr) (s : ByteArray) (p d q d2 : Nat) (f : Fnt) (x : Mat) (w : World) (h : FontV w lo hi (.agg #[.string s, .slice B p d, .slice B2 q d2]) f) (hhi : hi ≤ w.heap.size) (hs : Small f) (hf : fontB f = true) (wf : (Lit.int .i64 x.2).wf = true)
  (hg : g < w.heap.size) (hb : w.cell? ⟨g, 0, none⟩ = some (.string s) ∧ w.cell? ⟨g, 1, none⟩ = some (.slice B p d) ∧ w.cell? ⟨g, 2, none⟩ = some (.slice B2 q d2)) :
  Calls Tryz.prog 110 #[.agg #[.int .i64 x.1, .int .i64 x.2], .pointer (some ⟨g, 0, none⟩)] w fun e w' => e = .returned (.bool (matB f x)) ∧ Below w.heap.size w w' := by
 have hW : Below w.heap.size w (w.alloc (.cells #[.int .i64 x.1, .int .i64 x.2] 64)) := (Below.refl _ _).alloc (Nat.le_refl _) _
 have V1 := Lib.hid (h.below hhi hW)
 have HW := Lib.hid hW
 have Hwf := Lib.hid wf; have HF := Lib.hid hf
 obtain ⟨q0, q1, q2⟩ := hb
 clear h hW wf hf
 go_enter Tryz.func110, Tryz.ntmps110
 go_wp2_with fail
 refine (isMatrix_any lo hi _ f x _ V1.out (by simp; omega) hs HF.out Hwf.out).mono ?_
 rintro e w1 ⟨rfl, hb1⟩
 have T1 := Lib.hid (HW.out.trans (hb1.mono (by simp)))
 clear hb1
 go_wp2
 go_ret
 exact ⟨rfl, T1.out⟩

set_option maxRecDepth 100000 in
set_option maxHeartbeats 3200000 in
theorem implMagOk_any (lo hi lo2 hi2 : Nat) (v : Value) (f : Fnt) (A : Option Addr) (n c : Nat) (ms : List (List Mat)) (w : World) (h : FontV w lo hi v f) (hhi : hi ≤ w.heap.size) (hs : Small f) (hn : ms.length = n) (hm : n ≤ 1048576) (hM : MagI w lo2 hi2 A ms) (hhi2 : hi2 ≤ w.heap.size) (wf : wfM ms) :
  Calls Tryz.prog 76 #[v, .slice A n c] w fun e w' => e = .returned (.bool (magB f ms)) ∧ Below w.heap.size w w' := by
 obtain ⟨B, d, B2, d2, hv⟩ := fontForm h
 obtain ⟨s, hs0⟩ : ∃ s, f.s = s := ⟨_, rfl⟩
 obtain ⟨p, hp⟩ : ∃ n, f.ws.length = n := ⟨_, rfl⟩
 obtain ⟨q, hq⟩ : ∃ m, f.cs.length = m := ⟨_, rfl⟩
 rw [hs0, hp, hq] at hv
 rw [hv] at h
 rw [hv]
 have hW : Below w.heap.size w (w.alloc (.cells #[.string s, .slice B p d, .slice B2 q d2] 32)) := (Below.refl _ _).alloc (Nat.le_refl _) _
 have V0 := Lib.hid (h.below hhi hW)
 have M0 := Lib.hid (hM.below hhi2 hW)
 have X0 := Lib.hid (new3 w (.string s) (.slice B p d) (.slice B2 q d2) 32)
 have T0 := Lib.hid hW
 have Hn := Lib.hid hn; have Hs0 := Lib.hid hs0
 have HS := Lib.hid hs
 clear hv hs0 hp hq h hW hM hn hs
 cases hf : fontB f
 ·have HR : Hid (magB f ms = false) := by show _ = _; unfold magB; rw [hf]; rfl
  go_enter Tryz.func76, Tryz.ntmps76
  go_wp2_with (go_at_call 109; refine (implFontOk_any lo hi _ f _ V0.out (by simp; omega) HS.out).mono ?_; rintro e w1 ⟨rfl, hb1⟩; have T1 := Lib.hid (T0.out.trans (hb1.mono (by simp))); clear hb1)
  go_ret
  exact ⟨ret_bool HR.out.symm, T1.out⟩
 have hfs := fontB_size hf
 rw [Hs0.out] at hfs
 have HF := Lib.hid hf
 by_cases hl : n = s.size
 ·have hl' : ((n : Int) != (s.size : Int)) = false := by rw [bne_eq_false_iff_eq]; omega
  have HR : Hid (magB f ms = ms.all (rowB f)) := by
   show _ = _
   unfold magB; rw [hf, Hn.out, Hs0.out, hl]; simp
  have hn40 : n ≤ 40 := by omega
  have Hl := Lib.hid hl
  clear hl hfs hf
  go_enter Tryz.func76, Tryz.ntmps76
  go_wp2_with fail
  refine (implFontOk_any lo hi _ f _ V0.out (by simp; omega) HS.out).mono ?_
  rintro e w1 ⟨rfl, hb1⟩
  rw [HF.out]
  have T1 := Lib.hid (T0.out.trans (hb1.mono (by simp)))
  have V1 := Lib.hid (V0.out.below (by simp; omega) hb1)
  have M1 := Lib.hid (M0.out.below (by simp; omega) hb1)
  have X1 := Lib.hid (keep3 hb1 (by simp) X0.out)
  have s1 := hb1.size
  simp only [World.size_alloc] at s1
  clear hb1 V0 M0 X0 T0
  obtain ⟨q0, q1, q2⟩ := X1.out
  go_wp2
  clear q0 q1 q2
  go_loopw [20] (fun i wr => ∃ k : Nat, k ≤ n ∧ i = .int .i64 k ∧ Below w1.heap.size w1 wr ∧ (ms.take k).all (rowB f) = true) (fun i _ => n - (intOf i).toNat)
  case atStart => exact ⟨0, Nat.zero_le _, rfl, Below.refl _ _, rfl⟩
  case round =>
   obtain ⟨k, hk, rfl, hb, hall⟩ := hrel
   have HB := Lib.hid hb; have Hall := Lib.hid hall
   clear hb hall
   by_cases hlt : k < n
   ·obtain ⟨ad, xs, Aj, cj, rfl, hx, hc, hcap, hcm, hI⟩ := (M1.out.below (by omega) HB.out).at_ (k := k) (by rw [Hn.out]; exact hlt)
    obtain ⟨l, hl⟩ : ∃ l, xs.length = l := ⟨_, rfl⟩
    rw [hl] at hc hcap
    have hlm : l ≤ maxLen := by omega
    have HI := Lib.hid hI; have HL := Lib.hid hl
    have HXM := Lib.hid (List.mem_of_getElem? hx.out)
    have HEQ : Hid ((inB l 0 20 && xs.all (matB f)) = rowB f xs) := by
     show _ = _
     unfold rowB inB
     rw [HL.out]
     congr 1
     exact decide_eq_decide.2 (by omega)
    clear hI hcap hcm hl
    cases hrow : rowB f xs
    all_goals
     go_wp2_with fail
     refine (listMats_any 110 magFn_enter w.heap.size (matB f) lo2 hi2 _ _ _ xs _ _ _ HL.out hlm HI.out (by have := HB.out.size; omega) (fun x wr' hx' hb' => magFn_any lo hi w.heap.size B B2 s p d q d2 f x wr' ((V1.out.below (by omega) HB.out).below (by have := HB.out.size; omega) hb') (by have := HB.out.size; have := hb'.size; omega) HS.out HF.out (wf _ HXM.out _ hx') (by have := HB.out.size; have := hb'.size; omega) (keep3 hb' (by have := HB.out.size; omega) (keep3 HB.out (by omega) X1.out)))).mono ?_
     rintro e w2 ⟨rfl, hb2⟩
     rw [HEQ.out, hrow]
     have HB2 := Lib.hid (HB.out.trans (hb2.mono HB.out.size))
     clear hb2
    ·have Hbad := Lib.hid (rows_bad hx.out hrow)
     go_wp2
     go_ret
     exact ⟨ret_bool (by rw [HR.out, Hbad.out]), T1.out.trans (HB2.out.mono (by omega))⟩
    ·have HA : Hid ((ms.take (k + 1)).all (rowB f) = true) := by
      show _ = _
      rw [List.take_add_one, hx.out, List.all_append, Hall.out]
      simp [hrow]
     go_wp2
     go_roundw
     case rel => exact ⟨k + 1, by omega, by go_num, HB2.out, HA.out⟩
     case measure => simp [intOf]; omega
   ·have hkn : k = n := by omega
    subst hkn
    go_wp2
    go_ret
    have := Hall.out
    rw [ttake_all Hn.out] at this
    exact ⟨ret_bool (by rw [HR.out, this]), T1.out.trans (HB.out.mono (by omega))⟩
 ·have hl' : ((n : Int) != (s.size : Int)) = true := by rw [bne_iff_ne]; omega
  have HR : Hid (magB f ms = false) := by
   show _ = _
   have : (ms.length == f.s.size) = false := by rw [Hn.out, Hs0.out, beq_eq_false_iff_ne]; exact hl
   unfold magB; rw [hf, this]; rfl
  clear hl hfs hf
  go_enter Tryz.func76, Tryz.ntmps76
  go_wp2_with fail
  refine (implFontOk_any lo hi _ f _ V0.out (by simp; omega) HS.out).mono ?_
  rintro e w1 ⟨rfl, hb1⟩
  rw [HF.out]
  have T1 := Lib.hid (T0.out.trans (hb1.mono (by simp)))
  obtain ⟨q0, q1, q2⟩ := keep3 hb1 (by simp) X0.out
  clear hb1
  go_wp2
  go_ret
  exact ⟨ret_bool HR.out.symm, T1.out⟩
end Go.Proofs.YtimhnkpccbcohaaGreatDoor
