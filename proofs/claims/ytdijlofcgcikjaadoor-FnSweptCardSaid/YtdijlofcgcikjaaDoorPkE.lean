/-
  Contracts and plain mathematics (Mem, Leaf, Bars, Count, Sets, Loss, Font, FontT, FontOk, Keys, FontI), each with its conditions in its own statement.
-/
import Derived.Test.YtdijlofcgcikjaaDoorPkA
import Derived.WalkKit
import Derived.WalkSpells
import Derived.BigQuiet
import Derived.Outline
import Derived.Laws.BitsAllLaws
import Derived.Laws.BitsLemmas
import Derived.WalkLawsBesides
import Derived.Maps.Own
import Derived.Maps.OwnOps
import Derived.Maps.OwnSet
import Derived.Laws.RangeAny
namespace Go.Proofs.YtdijlofcgcikjaaDoor
open Go.RowKit
set_option linter.unusedVariables false

theorem boolInfo : (Tryd.prog.info? 4).map (fun i => (i.zero, i.size, i.bytes)) = some (some (.bool false), 1, 1) := by kernel_rfl

section
variable {ops : Array Oper} {rest : List Oper} {o : Oper} {a : Act} {Q : Exit → Act → World → Prop}
/-- make([]bool, n) -/
theorem wpl_make_bool (w : World) (hg : o.guard = none) (l : Operand) (hop : o.op = Op.makeSlice 152 l l) (n : Nat) (L : Int) (hl : a.eval l = .int .i64 L) (hL : L = (n : Int)) (hn : n ≤ 2097152)
    (hK : ∀ w', w'.ownsRow w.heap.size 4 1 (.slice (some ⟨w.heap.size, 0, none⟩) n n) n (List.replicate n (.bool false)) → Below w.heap.size w w' → w.heap.size < w'.heap.size → wpList Tryd.prog ops Q rest (a.put o.dst (.slice (some ⟨w.heap.size, 0, none⟩) n n)) w') :
    wpList Tryd.prog ops Q (o :: rest) a w := by
  obtain ⟨i0, hi, hz0, hz1, hz2⟩ := info_parts boolInfo
  refine wpList_make_full w hg l l 152 hop w.heap.size 4 i0 (.bool false) 1 Tryd.underlying152 hi hz0 hz1 .i64 .i64 L L n hl hl hL hL (by rw [hz2]; omega) (by unfold maxLen; omega) (Nat.le_refl _) ?_
  intro w' h1 h2
  rw [made_rep _ rfl] at h1
  exact hK w' h1 ((Below.refl _ _).grown h2 (Nat.le_refl _) (fun k hk => by cases hk)) (World.ownsRow.lt h1 w.heap.size rfl).2
end
end Go.Proofs.YtdijlofcgcikjaaDoor

namespace Go.Proofs.YtdijlofcgcikjaaDoor
open Go.RowKit

/-- 0 ≤ s ≤ 127 -/
def setB (s : Int) : Bool := decide (0 ≤ s ∧ s ≤ 127)
theorem l1Set_any (s : Int) (w : World) : Calls Tryd.prog 78 #[.int .i64 s] w fun e w' => e = .returned (.bool (setB s)) ∧ w = w' := by
  go_enter Tryd.func78, Tryd.ntmps78
  go_wp2_with (go_at_call 62; refine (l1In_any _ _ _ _).mono ?_; rintro e w' ⟨rfl, rfl⟩)
  go_ret
  exact ⟨rfl, rfl⟩

theorem isSet_any (s : Int) (w : World) : Calls Tryd.prog 49 #[.int .i64 s] w fun e w' => e = .returned (.bool (setB s)) ∧ w = w' := by
  by_cases h1 : 0 ≤ s
  · by_cases h2 : s ≤ 127
    · have hr : setB s = true := by simp [setB, h1, h2]
      rw [hr]; clear hr
      go_enter Tryd.func49, Tryd.ntmps49
      go_wp2
      go_ret
      exact ⟨rfl, rfl⟩
    · have hr : setB s = false := by simp [setB, h2]
      rw [hr]; clear hr
      go_enter Tryd.func49, Tryd.ntmps49
      go_wp2
      go_ret
      exact ⟨rfl, rfl⟩
  · have hr : setB s = false := by simp [setB, h1]
    rw [hr]; clear hr
    go_enter Tryd.func49, Tryd.ntmps49
    go_wp2
    go_ret
    exact ⟨rfl, rfl⟩
end Go.Proofs.YtdijlofcgcikjaaDoor

namespace Go.Proofs.YtdijlofcgcikjaaDoor
open Go.RowKit
def allSet (zs : List Int) : Bool := zs.all setB
def isBar (zs : List Int) : Bool := allSet zs && inB zs.length 1 40
theorem allSet_take {zs : List Int} {k : Nat} {x : Int} (h : zs[k]? = some x) : allSet (zs.take (k + 1)) = (allSet (zs.take k) && setB x) := by
  rw [take_at h]; simp [allSet]
theorem allSet_bad {zs : List Int} {k : Nat} {x : Int} (h : zs[k]? = some x) (hb : setB x = false) : allSet zs = false := by
  unfold allSet
  rw [List.all_eq_false]
  exact ⟨x, mem_at h, by rw [hb]; simp⟩

set_option maxHeartbeats 400000 in
theorem specIsBar_any (A : Option Addr) (n c : Nat) (zs : List Int) (w : World) (hn : zs.length = n) (hm : n ≤ maxLen) (h : Ints w A zs) :
    Calls Tryd.prog 96 #[.slice A n c] w fun e w' => e = .returned (.bool (isBar zs)) ∧ w = w' := by
  unfold maxLen at hm
  have Hn := Lib.hid hn; clear hn
  go_enter Tryd.func96, Tryd.ntmps96
  go_wp2
  go_loop [7] (fun i => ∃ k : Nat, k ≤ n ∧ i = .int .i64 k ∧ allSet (zs.take k) = true) (fun i => n - (intOf i).toNat)
  case atStart => exact ⟨0, Nat.zero_le _, rfl, rfl⟩
  case round =>
    obtain ⟨k, hk, rfl, hall⟩ := hrel
    have Hall := Lib.hid hall; clear hall
    by_cases hlt : k < n
    · obtain ⟨ad, x, rfl, hx, hc⟩ := h.at_ (k := k) (by rw [Hn.out]; exact hlt)
      by_cases hs : setB x = true
      · have Hs := Lib.hid (allSet_take hx.out)
        go_wp2_with (go_at_call 78; refine (l1Set_any _ _).mono ?_; rintro e w' ⟨rfl, rfl⟩)
        go_round
        case rel => exact ⟨k + 1, by omega, by go_num, by rw [Hs.out, Hall.out, hs]; rfl⟩
        case measure => simp [intOf]; omega
      · have hs' : setB x = false := by simpa using hs
        have Hb := Lib.hid (allSet_bad hx.out hs')
        clear hs
        go_wp2_with (go_at_call 78; refine (l1Set_any _ _).mono ?_; rintro e w' ⟨rfl, rfl⟩)
        go_ret
        exact ⟨ret_bool (by unfold isBar; rw [Hb.out]; rfl), rfl⟩
    · have hkn : k = n := by omega
      subst hkn
      go_wp2_with (go_at_call 62; refine (l1In_any _ _ _ _).mono ?_; rintro e w' ⟨rfl, rfl⟩)
      go_ret
      refine ⟨ret_bool ?_, rfl⟩
      have := Hall.out
      rw [take_all Hn.out] at this
      unfold isBar
      rw [this, Hn.out]; rfl

theorem barFn_any (x : Int) (w : World) : Calls Tryd.prog 84 #[.int .i64 x] w fun e w' => e = .returned (.bool (setB x)) ∧ w = w' := by
  go_enter Tryd.func84, Tryd.ntmps84
  go_wp2_with fail
  refine (isSet_any _ _).mono ?_
  rintro e w' ⟨rfl, rfl⟩
  go_wp2
  go_ret
  exact ⟨rfl, rfl⟩
theorem barFn_enter (args : Array Value) (w : World) : Sem.run Tryd.prog (callFunc 84 args) w = .ok (.enter 84 args) w := by kernel_rfl
set_option maxHeartbeats 400000 in
theorem implIsBar_any (A : Option Addr) (n c : Nat) (zs : List Int) (w : World) (hn : zs.length = n) (hm : n ≤ maxLen) (h : Ints w A zs) :
    Calls Tryd.prog 48 #[.slice A n c] w fun e w' => e = .returned (.bool (isBar zs)) ∧ w = w' := by
  have Hn := Lib.hid hn; clear hn
  go_enter Tryd.func48, Tryd.ntmps48
  go_wp2_with fail
  refine (isListOf_any 84 barFn_enter setB barFn_any _ _ _ zs _ _ _ Hn.out hm h).mono ?_
  rintro e w' ⟨rfl, rfl⟩
  go_wp2
  go_ret
  exact ⟨ret_bool (by unfold isBar allSet; rw [Hn.out, Bool.and_comm]), rfl⟩

/-- s is part of t -/
def partB (s t : Int) : Bool := bits .andNot .i64 s t == 0

theorem l1Part_any (s t : Int) (w : World) : Calls Tryd.prog 79 #[.int .i64 s, .int .i64 t] w fun e w' => e = .returned (.bool (partB s t)) ∧ w = w' := by
  go_enter Tryd.func79, Tryd.ntmps79
  go_wp2
  go_ret
  exact ⟨rfl, rfl⟩
theorem isPartOf_any (s t : Int) (w : World) : Calls Tryd.prog 81 #[.int .i64 s, .int .i64 t] w fun e w' => e = .returned (.bool (partB s t)) ∧ w = w' := by
  go_enter Tryd.func81, Tryd.ntmps81
  go_wp2
  go_ret
  exact ⟨rfl, rfl⟩
theorem without_any (s t : Int) (w : World) : Calls Tryd.prog 97 #[.int .i64 s, .int .i64 t] w fun e w' => e = .returned (.int .i64 (bits .andNot .i64 s t)) ∧ w = w' := by
  go_enter Tryd.func97, Tryd.ntmps97
  go_wp2
  go_ret
  exact ⟨rfl, rfl⟩

/-- where a set falls -/
def fallOf (zs : List Int) (s : Int) : Nat := zs.findIdx (partB s)
theorem fallOf_le (zs : List Int) (s : Int) : fallOf zs s ≤ zs.length := List.findIdx_le_length
theorem fallOf_hit {zs : List Int} {s : Int} {k : Nat} {x : Int} (hx : zs[k]? = some x) (hp : partB s x = true) (hno : (zs.take k).any (partB s) = false) : fallOf zs s = k := by
  have hk := lt_at hx
  unfold fallOf
  rw [List.findIdx_eq hk]
  refine ⟨by have : zs[k] = x := (List.getElem?_eq_some_iff.1 hx).2; rw [this]; exact hp, fun j hj => ?_⟩
  rw [List.any_eq_false] at hno
  have := hno zs[j] (List.mem_iff_getElem.2 ⟨j, by rw [List.length_take]; omega, by simp⟩)
  simpa using this
theorem fallOf_end {zs : List Int} {s : Int} (hno : zs.any (partB s) = false) : fallOf zs s = zs.length := by
  unfold fallOf
  rw [List.findIdx_eq_length]
  intro x hx
  rw [List.any_eq_false] at hno
  simpa using hno x hx
theorem any_take {zs : List Int} {s : Int} {k : Nat} {x : Int} (hx : zs[k]? = some x) (hp : partB s x = false) (hno : (zs.take k).any (partB s) = false) : (zs.take (k + 1)).any (partB s) = false := by
  rw [take_at hx, List.any_append, hno]; simp [hp]

set_option maxHeartbeats 400000 in
theorem l1Fall_any (A : Option Addr) (n c : Nat) (zs : List Int) (s : Int) (w : World) (hn : zs.length = n) (hm : n ≤ maxLen) (h : Ints w A zs) :
    Calls Tryd.prog 71 #[.slice A n c, .int .i64 s] w fun e w' => e = .returned (.int .i64 (fallOf zs s)) ∧ w = w' := by
  unfold maxLen at hm
  have Hn := Lib.hid hn; clear hn
  go_enter Tryd.func71, Tryd.ntmps71
  go_wp2
  go_loop [9] (fun i => ∃ k : Nat, k ≤ n ∧ i = .int .i64 k ∧ (zs.take k).any (partB s) = false) (fun i => n - (intOf i).toNat)
  case atStart => exact ⟨0, Nat.zero_le _, rfl, rfl⟩
  case round =>
    obtain ⟨k, hk, rfl, hno⟩ := hrel
    have Hno := Lib.hid hno; clear hno
    by_cases hlt : k < n
    · obtain ⟨ad, x, rfl, hx, hc⟩ := h.at_ (k := k) (by rw [Hn.out]; exact hlt)
      by_cases hs : partB s x = true
      · have Hf := Lib.hid (fallOf_hit hx.out hs Hno.out)
        go_wp2_with (go_at_call 79; refine (l1Part_any _ _ _).mono ?_; rintro e w' ⟨rfl, rfl⟩)
        go_ret
        exact ⟨ret_int (by rw [Hf.out]), rfl⟩
      · have hs' : partB s x = false := by simpa using hs
        have Ht := Lib.hid (any_take hx.out hs' Hno.out)
        clear hs
        go_wp2_with (go_at_call 79; refine (l1Part_any _ _ _).mono ?_; rintro e w' ⟨rfl, rfl⟩)
        go_round
        case rel => exact ⟨k + 1, by omega, by go_num, Ht.out⟩
        case measure => simp [intOf]; omega
    · have hkn : k = n := by omega
      subst hkn
      have Hf : Hid (fallOf zs s = k) := by
        show _ = _
        have := Hno.out
        rw [take_all Hn.out] at this
        rw [fallOf_end this, Hn.out]
      go_wp2
      go_ret
      exact ⟨ret_int (by rw [Hf.out]), rfl⟩

set_option maxHeartbeats 400000 in
theorem fall_any (A : Option Addr) (n c : Nat) (zs : List Int) (s : Int) (w : World) (hn : zs.length = n) (hm : n ≤ maxLen) (h : Ints w A zs) :
    Calls Tryd.prog 50 #[.slice A n c, .int .i64 s] w fun e w' => e = .returned (.int .i64 (fallOf zs s)) ∧ w = w' := by
  unfold maxLen at hm
  have Hn := Lib.hid hn; clear hn
  go_enter Tryd.func50, Tryd.ntmps50
  go_wp2
  go_loop [9] (fun i => ∃ k : Nat, k ≤ n ∧ i = .int .i64 k ∧ (zs.take k).any (partB s) = false) (fun i => n - (intOf i).toNat)
  case atStart => exact ⟨0, Nat.zero_le _, rfl, rfl⟩
  case round =>
    obtain ⟨k, hk, rfl, hno⟩ := hrel
    have Hno := Lib.hid hno; clear hno
    by_cases hlt : k < n
    · obtain ⟨ad, x, rfl, hx, hc⟩ := h.at_ (k := k) (by rw [Hn.out]; exact hlt)
      by_cases hs : partB s x = true
      · have Hf := Lib.hid (fallOf_hit hx.out hs Hno.out)
        go_wp2_with (go_at_call 81; refine (isPartOf_any _ _ _).mono ?_; rintro e w' ⟨rfl, rfl⟩)
        go_ret
        exact ⟨ret_int (by rw [Hf.out]), rfl⟩
      · have hs' : partB s x = false := by simpa using hs
        have Ht := Lib.hid (any_take hx.out hs' Hno.out)
        clear hs
        go_wp2_with (go_at_call 81; refine (isPartOf_any _ _ _).mono ?_; rintro e w' ⟨rfl, rfl⟩)
        go_round
        case rel => exact ⟨k + 1, by omega, by go_num, Ht.out⟩
        case measure => simp [intOf]; omega
    · have hkn : k = n := by omega
      subst hkn
      have Hf : Hid (fallOf zs s = k) := by
        show _ = _
        have := Hno.out
        rw [take_all Hn.out] at this
        rw [fallOf_end this, Hn.out]
      go_wp2
      go_ret
      exact ⟨ret_int (by rw [Hf.out]), rfl⟩

/-- FallOf, as both sides have it. -/
def fallI (zs : List Int) (s : Int) : Int := if isBar zs && setB s then fallOf zs s else -1

set_option maxHeartbeats 400000 in
theorem implFallOf_any (A : Option Addr) (n c : Nat) (zs : List Int) (s : Int) (w : World) (hn : zs.length = n) (hm : n ≤ maxLen) (h : Ints w A zs) :
    Calls Tryd.prog 12 #[.slice A n c, .int .i64 s] w fun e w' => e = .returned (.int .i64 (fallI zs s)) ∧ w = w' := by
  have Hn := Lib.hid hn; clear hn
  by_cases hb : isBar zs = true
  · by_cases hs : setB s = true
    · have Hf : Hid (fallI zs s = fallOf zs s) := by show _ = _; unfold fallI; rw [hb, hs]; rfl
      go_enter Tryd.func12, Tryd.ntmps12
      go_wp2_with (first
        | (go_at_call 48; refine (implIsBar_any _ _ _ zs _ Hn.out hm h).mono ?_; rintro e w' ⟨rfl, rfl⟩)
        | (go_at_call 49; refine (isSet_any _ _).mono ?_; rintro e w' ⟨rfl, rfl⟩)
        | (go_at_call 50; refine (fall_any _ _ _ zs _ _ Hn.out hm h).mono ?_; rintro e w' ⟨rfl, rfl⟩))
      go_ret
      exact ⟨ret_int Hf.out.symm, rfl⟩
    · have hs' : setB s = false := by simpa using hs
      have Hf : Hid (fallI zs s = -1) := by show _ = _; unfold fallI; rw [hs']; simp
      clear hs
      go_enter Tryd.func12, Tryd.ntmps12
      go_wp2_with (first
        | (go_at_call 48; refine (implIsBar_any _ _ _ zs _ Hn.out hm h).mono ?_; rintro e w' ⟨rfl, rfl⟩)
        | (go_at_call 49; refine (isSet_any _ _).mono ?_; rintro e w' ⟨rfl, rfl⟩))
      go_ret
      exact ⟨ret_int Hf.out.symm, rfl⟩
  · have hb' : isBar zs = false := by simpa using hb
    have Hf : Hid (fallI zs s = -1) := by show _ = _; unfold fallI; rw [hb']; simp
    clear hb
    go_enter Tryd.func12, Tryd.ntmps12
    go_wp2_with (go_at_call 48; refine (implIsBar_any _ _ _ zs _ Hn.out hm h).mono ?_; rintro e w' ⟨rfl, rfl⟩)
    go_ret
    exact ⟨ret_int Hf.out.symm, rfl⟩


/-- all sets fall at their own places -/
def sortsB (zs : List Int) : Bool := (List.range zs.length).all (fun i => fallOf zs (zs.getD i 0) == i)
def sortsAll (zs : List Int) : Bool := sortsB zs && isBar zs
def sortsUp (zs : List Int) (k : Nat) : Bool := (List.range k).all (fun i => fallOf zs (zs.getD i 0) == i)
theorem sortsUp_succ {zs : List Int} {k : Nat} {x : Int} (hx : zs[k]? = some x) (hf : (((fallOf zs x : Nat) : Int) != (k : Int)) = false) (h : sortsUp zs k = true) : sortsUp zs (k + 1) = true := by
  unfold sortsUp at *
  rw [List.range_succ, List.all_append, h]
  simp only [List.all_cons, List.all_nil, Bool.and_true, Bool.true_and, getD_at hx]
  rw [bne_eq_false_iff_eq] at hf
  simp; omega
theorem sortsB_bad {zs : List Int} {k : Nat} {x : Int} (hx : zs[k]? = some x) (hf : (((fallOf zs x : Nat) : Int) != (k : Int)) = true) : sortsB zs = false := by
  unfold sortsB
  rw [List.all_eq_false]
  refine ⟨k, List.mem_range.2 (lt_at hx), ?_⟩
  rw [getD_at hx]
  rw [bne_iff_ne] at hf
  simp; omega

theorem sortsUp_full {zs : List Int} {n : Nat} (hn : zs.length = n) : sortsUp zs n = sortsB zs := by unfold sortsUp sortsB; rw [hn]

set_option maxHeartbeats 400000 in
theorem specSortsAll_any (A : Option Addr) (n c : Nat) (zs : List Int) (w : World) (hn : zs.length = n) (hm : n ≤ maxLen) (h : Ints w A zs) :
    Calls Tryd.prog 77 #[.slice A n c] w fun e w' => e = .returned (.bool (sortsAll zs)) ∧ w = w' := by
  have hm0 := hm
  unfold maxLen at hm
  have Hn := Lib.hid hn; clear hn
  go_enter Tryd.func77, Tryd.ntmps77
  go_wp2
  go_loop [7] (fun i => ∃ k : Nat, k ≤ n ∧ i = .int .i64 k ∧ sortsUp zs k = true) (fun i => n - (intOf i).toNat)
  case atStart => exact ⟨0, Nat.zero_le _, rfl, rfl⟩
  case round =>
    obtain ⟨k, hk, rfl, hup⟩ := hrel
    have Hup := Lib.hid hup; clear hup
    have h' := h
    by_cases hlt : k < n
    · obtain ⟨ad, x, rfl, hx, hc⟩ := h'.at_ (k := k) (by rw [Hn.out]; exact hlt)
      by_cases hs : (((fallOf zs x : Nat) : Int) != (k : Int)) = false
      · have Hs := Lib.hid (sortsUp_succ hx.out hs Hup.out)
        go_wp2_with (go_at_call 71; refine (l1Fall_any _ _ _ zs _ _ Hn.out hm0 h).mono ?_; rintro e w' ⟨rfl, rfl⟩)
        go_round
        case rel => exact ⟨k + 1, by omega, by go_num, Hs.out⟩
        case measure => simp [intOf]; omega
      · have hs' : (((fallOf zs x : Nat) : Int) != (k : Int)) = true := by simpa using hs
        have Hb := Lib.hid (sortsB_bad hx.out hs')
        clear hs
        go_wp2_with (go_at_call 71; refine (l1Fall_any _ _ _ zs _ _ Hn.out hm0 h).mono ?_; rintro e w' ⟨rfl, rfl⟩)
        go_ret
        exact ⟨ret_bool (by unfold sortsAll; rw [Hb.out]; rfl), rfl⟩
    · have hkn : k = n := by omega
      subst hkn
      go_wp2_with (go_at_call 96; refine (specIsBar_any _ _ _ zs _ Hn.out hm0 h).mono ?_; rintro e w' ⟨rfl, rfl⟩)
      go_ret
      exact ⟨ret_bool (by have := Hup.out; rw [sortsUp_full Hn.out] at this; unfold sortsAll; rw [this]; rfl), rfl⟩

set_option maxHeartbeats 400000 in
theorem implSortsAll_any (A : Option Addr) (n c : Nat) (zs : List Int) (w : World) (hn : zs.length = n) (hm : n ≤ maxLen) (h : Ints w A zs) :
    Calls Tryd.prog 85 #[.slice A n c] w fun e w' => e = .returned (.bool (sortsAll zs)) ∧ w = w' := by
  have hm0 := hm
  unfold maxLen at hm
  have Hn := Lib.hid hn; clear hn
  by_cases hb : isBar zs = true
  · go_enter Tryd.func85, Tryd.ntmps85
    go_wp2_with (go_at_call 48; refine (implIsBar_any _ _ _ zs _ Hn.out hm0 h).mono ?_; rintro e w' ⟨rfl, rfl⟩)
    have Hbar := Lib.hid hb; clear hb
    go_loop [10] (fun i => ∃ k : Nat, k ≤ n ∧ i = .int .i64 k ∧ sortsUp zs k = true) (fun i => n - (intOf i).toNat)
    case atStart => exact ⟨0, Nat.zero_le _, rfl, rfl⟩
    case round =>
      obtain ⟨k, hk, rfl, hup⟩ := hrel
      have Hup := Lib.hid hup; clear hup
      have h' := h
      by_cases hlt : k < n
      · obtain ⟨ad, x, rfl, hx, hc⟩ := h'.at_ (k := k) (by rw [Hn.out]; exact hlt)
        by_cases hs : (((fallOf zs x : Nat) : Int) != (k : Int)) = false
        · have Hs := Lib.hid (sortsUp_succ hx.out hs Hup.out)
          go_wp2_with (go_at_call 50; refine (fall_any _ _ _ zs _ _ Hn.out hm0 h).mono ?_; rintro e w' ⟨rfl, rfl⟩)
          go_round
          case rel => exact ⟨k + 1, by omega, by go_num, Hs.out⟩
          case measure => simp [intOf]; omega
        · have hs' : (((fallOf zs x : Nat) : Int) != (k : Int)) = true := by simpa using hs
          have Hb := Lib.hid (sortsB_bad hx.out hs')
          clear hs
          go_wp2_with (go_at_call 50; refine (fall_any _ _ _ zs _ _ Hn.out hm0 h).mono ?_; rintro e w' ⟨rfl, rfl⟩)
          go_ret
          exact ⟨ret_bool (by unfold sortsAll; rw [Hb.out]; rfl), rfl⟩
      · have hkn : k = n := by omega
        subst hkn
        go_wp2
        go_ret
        exact ⟨ret_bool (by have := Hup.out; rw [sortsUp_full Hn.out] at this; unfold sortsAll; rw [this, Hbar.out]; rfl), rfl⟩
  · have hb' : isBar zs = false := by simpa using hb
    have Hf : Hid (sortsAll zs = false) := by show _ = _; unfold sortsAll; rw [hb']; simp
    clear hb
    go_enter Tryd.func85, Tryd.ntmps85
    go_wp2_with (go_at_call 48; refine (implIsBar_any _ _ _ zs _ Hn.out hm0 h).mono ?_; rintro e w' ⟨rfl, rfl⟩)
    go_ret
    exact ⟨ret_bool Hf.out.symm, rfl⟩
end Go.Proofs.YtdijlofcgcikjaaDoor

namespace Go.Proofs.YtdijlofcgcikjaaDoor
open Go.RowKit

/-- the number of teeth of a set of teeth -/
def cnt (s : Int) : Int := s % 2 + s / 2 % 2 + s / 4 % 2 + s / 8 % 2 + s / 16 % 2 + s / 32 % 2 + s / 64 % 2
theorem cnt_half (x : Int) (h0 : 0 ≤ x) (h1 : x ≤ 127) : cnt x = x % 2 + cnt (x / 2) := by unfold cnt; omega
theorem cnt_zero : cnt 0 = 0 := by decide
theorem cnt_bd (x : Int) : 0 ≤ cnt x ∧ cnt x ≤ 7 := by unfold cnt; omega
theorem all128 (p : Int → Prop) [DecidablePred p] (h : ∀ n : Fin 128, p ((n : Nat) : Int)) (s : Int) (h0 : 0 ≤ s) (h1 : s ≤ 127) : p s := by
  have := h ⟨s.toNat, by omega⟩
  simpa [Int.toNat_of_nonneg h0] using this
theorem setB_iff (s : Int) : setB s = true ↔ 0 ≤ s ∧ s ≤ 127 := by simp [setB]

def countI (s : Int) : Int := if setB s then cnt s else -1
end Go.Proofs.YtdijlofcgcikjaaDoor

namespace Go.Proofs.YtdijlofcgcikjaaDoor
open Go.RowKit

/-- the teeth of s that t doesn't have -/
def less (s t : Int) : Int := bits .andNot .i64 s t
def both (s t : Int) : Int := bits .and .i64 s t
def join (s t : Int) : Int := bits .or .i64 s t
theorem partB_eq (s t : Int) : partB s t = (less s t == 0) := rfl

theorem ofInt_i64 (a : Nat) (ha : a < 9223372036854775808) : (BitVec.ofInt 64 (a : Int)).toNat = a := by
  rw [BitVec.ofInt_natCast, BitVec.toNat_ofNat]; exact Nat.mod_eq_of_lt (by omega)
theorem and_nat (a b : Nat) (ha : a < 128) (hb : b < 128) : both (a : Int) (b : Int) = ((a &&& b : Nat) : Int) := by
  have hx : a &&& b < 2 ^ 7 := Nat.and_lt_two_pow _ (by omega)
  show IntKind.i64.wrap ((BitVec.ofInt 64 (a : Int) &&& BitVec.ofInt 64 (b : Int)).toNat : Int) = _
  rw [BitVec.toNat_and, ofInt_i64 a (by omega), ofInt_i64 b (by omega), IntKind.wrap_i64]
  omega
theorem or_nat (a b : Nat) (ha : a < 128) (hb : b < 128) : join (a : Int) (b : Int) = ((a ||| b : Nat) : Int) := by
  have hx : a ||| b < 2 ^ 7 := Nat.or_lt_two_pow (by omega) (by omega)
  show IntKind.i64.wrap ((BitVec.ofInt 64 (a : Int) ||| BitVec.ofInt 64 (b : Int)).toNat : Int) = _
  rw [BitVec.toNat_or, ofInt_i64 a (by omega), ofInt_i64 b (by omega), IntKind.wrap_i64]
  omega
theorem less_nat (a b : Nat) (ha : a < 128) (hb : b < 128) : less (a : Int) (b : Int) = ((a ^^^ (a &&& b) : Nat) : Int) := by
  have hx : a ^^^ (a &&& b) < 2 ^ 7 := Nat.xor_lt_two_pow (by omega) (Nat.and_lt_two_pow _ (by omega))
  have hv : (BitVec.ofInt 64 (a : Int) &&& ~~~ BitVec.ofInt 64 (b : Int)).toNat = a ^^^ (a &&& b) := by
    apply Nat.eq_of_testBit_eq
    intro i
    rw [BitVec.testBit_toNat, BitVec.getLsbD_and, BitVec.getLsbD_not, ← BitVec.testBit_toNat, ← BitVec.testBit_toNat, ofInt_i64 a (by omega), ofInt_i64 b (by omega), Nat.testBit_xor, Nat.testBit_and]
    by_cases hi : i < 64
    · simp [hi]; cases a.testBit i <;> cases b.testBit i <;> rfl
    · have : a.testBit i = false := Nat.testBit_lt_two_pow (Nat.lt_of_lt_of_le ha (Nat.le_trans (by decide : 128 ≤ 2 ^ 7) (Nat.pow_le_pow_right (by omega) (by omega))))
      simp [this]
  show IntKind.i64.wrap ((BitVec.ofInt 64 (a : Int) &&& ~~~ BitVec.ofInt 64 (b : Int)).toNat : Int) = _
  rw [hv, IntKind.wrap_i64]
  omega

/-- s has tooth i -/
def bt (s : Int) (i : Nat) : Bool := s.toNat.testBit i
theorem bt_ext {s t : Int} (h0 : 0 ≤ s) (g0 : 0 ≤ t) (h : ∀ i, bt s i = bt t i) : s = t := by
  have : s.toNat = t.toNat := Nat.eq_of_testBit_eq h
  omega
theorem bt_high {s : Int} (h1 : s ≤ 127) {i : Nat} (hi : 7 ≤ i) : bt s i = false :=
  Nat.testBit_lt_two_pow (Nat.lt_of_lt_of_le (by omega : s.toNat < 2 ^ 7) (Nat.pow_le_pow_right (by omega) hi))
theorem bt_zero (i : Nat) : bt 0 i = false := by simp [bt]
section
variable {s t : Int} (h0 : 0 ≤ s) (h1 : s ≤ 127) (g0 : 0 ≤ t) (g1 : t ≤ 127)
include h0 h1 g0 g1
theorem less_cast : less s t = ((s.toNat ^^^ (s.toNat &&& t.toNat) : Nat) : Int) := by
  have := less_nat s.toNat t.toNat (by omega) (by omega)
  rwa [Int.toNat_of_nonneg h0, Int.toNat_of_nonneg g0] at this
theorem both_cast : both s t = ((s.toNat &&& t.toNat : Nat) : Int) := by
  have := and_nat s.toNat t.toNat (by omega) (by omega)
  rwa [Int.toNat_of_nonneg h0, Int.toNat_of_nonneg g0] at this
theorem join_cast : join s t = ((s.toNat ||| t.toNat : Nat) : Int) := by
  have := or_nat s.toNat t.toNat (by omega) (by omega)
  rwa [Int.toNat_of_nonneg h0, Int.toNat_of_nonneg g0] at this
theorem less_bd : 0 ≤ less s t ∧ less s t ≤ 127 := by
  rw [less_cast h0 h1 g0 g1]
  have hx : s.toNat ^^^ (s.toNat &&& t.toNat) < 2 ^ 7 := Nat.xor_lt_two_pow (by omega) (Nat.and_lt_two_pow _ (by omega))
  omega
theorem both_bd : 0 ≤ both s t ∧ both s t ≤ 127 := by
  rw [both_cast h0 h1 g0 g1]
  have hx : s.toNat &&& t.toNat < 2 ^ 7 := Nat.and_lt_two_pow _ (by omega)
  omega
theorem join_bd : 0 ≤ join s t ∧ join s t ≤ 127 := by
  rw [join_cast h0 h1 g0 g1]
  have hx : s.toNat ||| t.toNat < 2 ^ 7 := Nat.or_lt_two_pow (by omega) (by omega)
  omega
theorem bt_less (i : Nat) : bt (less s t) i = (bt s i && !bt t i) := by
  rw [less_cast h0 h1 g0 g1]
  unfold bt
  rw [Int.toNat_natCast, Nat.testBit_xor, Nat.testBit_and]
  cases s.toNat.testBit i <;> cases t.toNat.testBit i <;> rfl
theorem bt_both (i : Nat) : bt (both s t) i = (bt s i && bt t i) := by
  rw [both_cast h0 h1 g0 g1]
  unfold bt
  rw [Int.toNat_natCast, Nat.testBit_and]
theorem bt_join (i : Nat) : bt (join s t) i = (bt s i || bt t i) := by
  rw [join_cast h0 h1 g0 g1]
  unfold bt
  rw [Int.toNat_natCast, Nat.testBit_or]
theorem partB_iff : partB s t = true ↔ ∀ i, bt s i = true → bt t i = true := by
  rw [partB_eq, beq_iff_eq]
  constructor
  · intro h i hi
    have := bt_less h0 h1 g0 g1 i
    rw [h, bt_zero, hi] at this
    simpa using this.symm
  · intro h
    refine bt_ext (less_bd h0 h1 g0 g1).1 (by omega) fun i => ?_
    rw [bt_less h0 h1 g0 g1, bt_zero]
    cases hs : bt s i
    · rfl
    · simp [h i hs]
end
def b2 (b : Bool) : Int := if b then 1 else 0
theorem dig_bt (s : Int) (h0 : 0 ≤ s) (i : Nat) : s / (2 ^ i : Nat) % 2 = b2 (bt s i) := by
  unfold bt b2
  rw [Nat.testBit_eq_decide_div_mod_eq]
  obtain ⟨n, rfl⟩ := Int.eq_ofNat_of_zero_le h0
  rw [Int.toNat_natCast]
  have h2 : ((n / 2 ^ i % 2 : Nat) : Int) = (n : Int) / ((2 ^ i : Nat) : Int) % 2 := by simp
  rw [← h2]
  by_cases h : n / 2 ^ i % 2 = 1
  · simp [h]
  · have : n / 2 ^ i % 2 = 0 := by omega
    simp [this]
theorem cnt_bt (s : Int) (h0 : 0 ≤ s) : cnt s = b2 (bt s 0) + b2 (bt s 1) + b2 (bt s 2) + b2 (bt s 3) + b2 (bt s 4) + b2 (bt s 5) + b2 (bt s 6) := by
  have d0 := dig_bt s h0 0; have d1 := dig_bt s h0 1; have d2 := dig_bt s h0 2; have d3 := dig_bt s h0 3
  have d4 := dig_bt s h0 4; have d5 := dig_bt s h0 5; have d6 := dig_bt s h0 6
  simp only [Nat.reducePow] at d0 d1 d2 d3 d4 d5 d6
  rw [← d0, ← d1, ← d2, ← d3, ← d4, ← d5, ← d6]
  unfold cnt
  simp
theorem b2_mono {a b : Bool} (h : a = true → b = true) : b2 a ≤ b2 b := by cases a <;> cases b <;> simp_all [b2]
theorem cnt_mono {s t : Int} (h0 : 0 ≤ s) (g0 : 0 ≤ t) (h : ∀ i, bt s i = true → bt t i = true) : cnt s ≤ cnt t := by
  rw [cnt_bt s h0, cnt_bt t g0]
  have e0 := b2_mono (h 0); have e1 := b2_mono (h 1); have e2 := b2_mono (h 2); have e3 := b2_mono (h 3)
  have e4 := b2_mono (h 4); have e5 := b2_mono (h 5); have e6 := b2_mono (h 6)
  omega
theorem cnt_less_le {s t : Int} (h0 : 0 ≤ s) (h1 : s ≤ 127) (g0 : 0 ≤ t) (g1 : t ≤ 127) : cnt (less s t) ≤ cnt s :=
  cnt_mono (less_bd h0 h1 g0 g1).1 h0 fun i hi => by rw [bt_less h0 h1 g0 g1] at hi; simp at hi; exact hi.1
end Go.Proofs.YtdijlofcgcikjaaDoor

namespace Go.Proofs.YtdijlofcgcikjaaDoor
open Go.RowKit
set_option linter.unusedVariables false

def mn (a b : Int) : Int := if b < a then b else a
def lossTo (x m0 : Int) (l : List Int) : Int := l.foldl (fun m b => mn m (cnt (less x b))) m0
theorem lossTo_snoc {x m0 q b : Int} {zs : List Int} {k : Nat} (hb : zs[k]? = some b) (hq : q = lossTo x m0 (zs.take k)) :
    (if cnt (less x b) < q then cnt (less x b) else q) = lossTo x m0 (zs.take (k + 1)) := by
  rw [take_at hb]
  unfold lossTo at *
  rw [List.foldl_append, ← hq]
  rfl
theorem mn_bd {a b : Int} (h : 0 ≤ a) (h2 : a ≤ 7) (hb : 0 ≤ b ∧ b ≤ 7) : 0 ≤ (if b < a then b else a) ∧ (if b < a then b else a) ≤ 7 := by split <;> omega
theorem bar_set {zs : List Int} (hbar : isBar zs = true) : ∀ z ∈ zs, 0 ≤ z ∧ z ≤ 127 := by
  intro z hz
  have : allSet zs = true := by unfold isBar at hbar; simp at hbar; exact hbar.1
  exact (setB_iff z).1 (List.all_eq_true.1 this z hz)
theorem bar_len {zs : List Int} (hbar : isBar zs = true) : 1 ≤ zs.length ∧ zs.length ≤ 40 := by
  unfold isBar inB at hbar; simp at hbar; omega

/-- starting from 7 or from all teeth is the same once one set was looked at -/
theorem lossTo_start (x m0 m1 : Int) (l : List Int) (h : ∀ b ∈ l, cnt (less x b) ≤ m0 ∧ cnt (less x b) ≤ m1) (hl : l ≠ []) : lossTo x m0 l = lossTo x m1 l := by
  cases l with
  | nil => exact absurd rfl hl
  | cons b l =>
    have hb := h b (by simp)
    unfold lossTo
    simp only [List.foldl_cons]
    have e0 : mn m0 (cnt (less x b)) = cnt (less x b) := by unfold mn; split <;> omega
    have e1 : mn m1 (cnt (less x b)) = cnt (less x b) := by unfold mn; split <;> omega
    rw [e0, e1]

theorem hasPlace_any (A : Option Addr) (n c : Nat) (p : Int) (w : World) (hm : n ≤ maxLen) : Calls Tryd.prog 80 #[.slice A n c, .int .i64 p] w fun e w' => e = .returned (.bool (inB p 0 ((n : Int) - 1))) ∧ w = w' := by
  unfold maxLen at hm
  by_cases h1 : 0 ≤ p
  · by_cases h2 : p < n
    · have hr : inB p 0 ((n : Int) - 1) = true := by simp [inB]; omega
      rw [hr]; clear hr
      go_enter Tryd.func80, Tryd.ntmps80
      go_wp2
      go_ret
      exact ⟨rfl, rfl⟩
    · have hr : inB p 0 ((n : Int) - 1) = false := by simp [inB]; omega
      rw [hr]; clear hr
      go_enter Tryd.func80, Tryd.ntmps80
      go_wp2
      go_ret
      exact ⟨rfl, rfl⟩
  · have hr : inB p 0 ((n : Int) - 1) = false := by simp [inB]; omega
    rw [hr]; clear hr
    go_enter Tryd.func80, Tryd.ntmps80
    go_wp2
    go_ret
    exact ⟨rfl, rfl⟩

/-- what LossBefore answers -/
def lossI (zs : List Int) (p : Int) : Int := if isBar zs = true ∧ 1 ≤ p ∧ p < zs.length then lossTo (zs.getD p.toNat 0) 7 (zs.take p.toNat) else -1
end Go.Proofs.YtdijlofcgcikjaaDoor

namespace Go.Proofs.YtdijlofcgcikjaaDoor
open Go.RowKit
set_option linter.unusedVariables false

/-- letters, widths, codes -/
structure Fnt where
  s : ByteArray
  ws : List Int
  cs : List Int

/-- the slice with the address A reads as zs, in blocks from lo up to hi -/
def IntsI (w : World) (lo hi : Nat) (A : Option Addr) (zs : List Int) : Prop :=
  0 < zs.length → ∃ ad, A = some ad ∧ lo ≤ ad.block ∧ ad.block < hi ∧ ∀ j, j < zs.length → w.cell? (ad.add j) = some (.int .i64 (zs.getD j 0))
section
variable {w w' : World} {lo hi : Nat} {A : Option Addr} {zs : List Int}
theorem IntsI.ints (h : IntsI w lo hi A zs) : Ints w A zs := fun hn => by
  obtain ⟨ad, e, _, _, hc⟩ := h hn
  exact ⟨ad, e, hc⟩
theorem IntsI.of (h : Ints w A zs) : IntsI w 0 w.heap.size A zs := fun hn => by
  obtain ⟨ad, e, hc⟩ := h hn
  exact ⟨ad, e, Nat.zero_le _, by have := World.block_lt_of_cell? _ _ (hc 0 hn); rwa [block_add] at this, hc⟩
theorem IntsI.keep (h : IntsI w lo hi A zs) (hk : ∀ p : Addr, lo ≤ p.block → p.block < hi → w'.cell? p = w.cell? p) : IntsI w' lo hi A zs := fun hn => by
  obtain ⟨ad, e, h1, h2, hc⟩ := h hn
  exact ⟨ad, e, h1, h2, fun j hj => (hk _ (by rw [block_add]; exact h1) (by rw [block_add]; exact h2)).trans (hc j hj)⟩
theorem IntsI.below {B : Nat} (h : IntsI w lo hi A zs) (hB : hi ≤ B) (hb : Below B w w') : IntsI w' lo hi A zs := h.keep fun p _ h2 => hb.cell (by omega)
theorem IntsI.wide {lo' hi' : Nat} (h : IntsI w lo hi A zs) (h1 : lo' ≤ lo) (h2 : hi ≤ hi') : IntsI w lo' hi' A zs := fun hn => by
  obtain ⟨ad, e, g1, g2, hc⟩ := h hn
  exact ⟨ad, e, by omega, by omega, hc⟩
theorem IntsI.of_own {B n c : Nat} (h : Own w B (.slice A n c) zs) : IntsI w B w.heap.size A zs := fun hn => by
  obtain ⟨A', c', hv, hI, hA, _, _⟩ := h.form
  injection hv with e1 e2 e3
  subst e1
  obtain ⟨ad, e, hc⟩ := hI hn
  obtain ⟨g, rfl, h1, h2⟩ := hA ad e
  exact ⟨_, e, h1, h2, hc⟩
end

/-- the value v reads as the font f, in blocks from lo up to hi -/
def FontV (w : World) (lo hi : Nat) (v : Value) (f : Fnt) : Prop :=
  ∃ A c B d, v = .agg #[.string f.s, .slice A f.ws.length c, .slice B f.cs.length d] ∧ IntsI w lo hi A f.ws ∧ IntsI w lo hi B f.cs ∧ f.ws.length ≤ c ∧ c ≤ maxLen ∧ f.cs.length ≤ d ∧ d ≤ maxLen ∧ f.s.size ≤ maxLen
def Small (f : Fnt) : Prop := f.s.size ≤ 1048576 ∧ f.ws.length ≤ 1048576 ∧ f.cs.length ≤ 1048576
theorem FontV.below {w w' : World} {lo hi B : Nat} {v : Value} {f : Fnt} (h : FontV w lo hi v f) (hB : hi ≤ B) (hb : Below B w w') : FontV w' lo hi v f := by
  obtain ⟨A, c, A2, d, hv, h1, h2, rest⟩ := h
  exact ⟨A, c, A2, d, hv, h1.below hB hb, h2.below hB hb, rest⟩
theorem FontV.keep {w w' : World} {lo hi : Nat} {v : Value} {f : Fnt} (h : FontV w lo hi v f) (hk : ∀ p : Addr, lo ≤ p.block → p.block < hi → w'.cell? p = w.cell? p) : FontV w' lo hi v f := by
  obtain ⟨A, c, A2, d, hv, h1, h2, rest⟩ := h
  exact ⟨A, c, A2, d, hv, h1.keep hk, h2.keep hk, rest⟩
/-- as FontV, and both slices are rows of the call's own, in different blocks -/
def FontO (w : World) (B hi : Nat) (v : Value) (f : Fnt) : Prop :=
  ∃ A c A2 d mid, v = .agg #[.string f.s, .slice A f.ws.length c, .slice A2 f.cs.length d] ∧ Own w B (.slice A f.ws.length c) f.ws ∧ (∀ k, (Value.slice A f.ws.length c).ownBlock = some k → k < mid) ∧ Own w mid (.slice A2 f.cs.length d) f.cs ∧ (∀ k, (Value.slice A2 f.cs.length d).ownBlock = some k → k < hi) ∧ B ≤ mid ∧ mid ≤ hi ∧ f.s.size ≤ maxLen
/-- from w to w' only blocks from lo up to hi have turned, besides new ones -/
structure Chg (lo hi : Nat) (w w' : World) : Prop where
  os : w'.os = w.os
  tape : w'.tape = w.tape
  output : w'.output = w.output
  size : w.heap.size ≤ w'.heap.size
  block : ∀ b, b < w.heap.size → ¬ (lo ≤ b ∧ b < hi) → w'.heap[b]? = w.heap[b]?
theorem Chg.refl (lo hi : Nat) (w : World) : Chg lo hi w w := ⟨rfl, rfl, rfl, Nat.le_refl _, fun _ _ _ => rfl⟩
theorem Chg.trans {lo hi : Nat} {a b c : World} (h : Chg lo hi a b) (k : Chg lo hi b c) : Chg lo hi a c :=
  ⟨k.os.trans h.os, k.tape.trans h.tape, k.output.trans h.output, Nat.le_trans h.size k.size, fun i hi hn => (k.block i (Nat.lt_of_lt_of_le hi h.size) hn).trans (h.block i hi hn)⟩
theorem Chg.of_below {lo hi : Nat} {w w' : World} (h : Below w.heap.size w w') : Chg lo hi w w' := ⟨h.os, h.tape, h.output, h.size, fun b hb _ => h.block b hb⟩
theorem Chg.of_grown {lo hi : Nat} {w w' : World} {row : Option Nat} (h : w.grownBy w' row) (hr : ∀ g, row = some g → lo ≤ g ∧ g < hi) : Chg lo hi w w' :=
  ⟨h.os, h.tape, h.output, h.size, fun b hb hn => h.block b hb (fun e => hn (hr b e.symm))⟩
theorem Chg.below {lo hi : Nat} {w w' : World} (h : Chg lo hi w w') (hl : lo ≤ w.heap.size) : Below lo w w' := ⟨h.os, h.tape, h.output, h.size, fun b hb => h.block b (by omega) (by omega)⟩
theorem Chg.cell {lo hi : Nat} {w w' : World} (h : Chg lo hi w w') {p : Addr} (hp : p.block < w.heap.size) (hn : ¬ (lo ≤ p.block ∧ p.block < hi)) : w'.cell? p = w.cell? p := World.cell?_of_block (w := w) (h.block p.block hp hn)
theorem Chg.wide {lo hi lo' hi' : Nat} {w w' : World} (h : Chg lo hi w w') (h1 : lo' ≤ lo) (h2 : hi ≤ hi') : Chg lo' hi' w w' :=
  ⟨h.os, h.tape, h.output, h.size, fun b hb hn => h.block b hb (by omega)⟩
theorem Chg.own {lo hi B : Nat} {w w' : World} {v : Value} {zs : List Int} (h : Chg lo hi w w') (hO : Own w B v zs) (hn : ∀ k, v.ownBlock = some k → ¬ (lo ≤ k ∧ k < hi)) : Own w' B v zs := by
  refine ⟨hO.1, ?_⟩
  have hlt := fun k hk => (World.ownsRow.lt hO k hk).2
  rcases hO.2 with hnil | ⟨g, cap, cur, rfl, hg, hh, rest⟩
  · exact .inl hnil
  · exact .inr ⟨g, cap, cur, rfl, hg, (h.block g (hlt g rfl) (hn g rfl)).trans hh, rest⟩
theorem own_caps {w : World} {B n c : Nat} {A : Option Addr} {zs : List Int} (h : Own w B (.slice A n c) zs) : zs.length ≤ c ∧ c ≤ maxLen := by
  obtain ⟨A', c', hv, _, _, h1, h2⟩ := h.form
  injection hv with e1 e2 e3
  subst e3
  exact ⟨h1, h2⟩
theorem IntsI.cut {w : World} {lo hi hi' n c : Nat} {A : Option Addr} {zs : List Int} (h : IntsI w lo hi A zs) (hO : Own w lo (.slice A n c) zs) (hk : ∀ k, (Value.slice A n c).ownBlock = some k → k < hi') : IntsI w lo hi' A zs := fun hn => by
  obtain ⟨ad, e, h1, h2, hc⟩ := h hn
  subst e
  exact ⟨ad, rfl, h1, hk _ rfl, hc⟩
theorem FontO.font {w : World} {B hi : Nat} {v : Value} {f : Fnt} (h : FontO w B hi v f) : FontV w B hi v f := by
  obtain ⟨A, c, A2, d, mid, hv, h1, hk, h2, hk2, h3, h4, hs⟩ := h
  exact ⟨A, c, A2, d, hv, ((IntsI.of_own h1).cut h1 hk).wide (Nat.le_refl _) h4, ((IntsI.of_own h2).cut h2 hk2).wide h3 (Nat.le_refl _), (own_caps h1).1, (own_caps h1).2, (own_caps h2).1, (own_caps h2).2, hs⟩
theorem FontO.below {w w' : World} {B hi : Nat} {v : Value} {f : Fnt} (h : FontO w B hi v f) (hb : Below w.heap.size w w') : FontO w' B hi v f := by
  obtain ⟨A, c, A2, d, mid, hv, h1, hm, h2, hm2, h3, h4, hs⟩ := h
  exact ⟨A, c, A2, d, mid, hv, h1.below hb, hm, h2.below hb, hm2, h3, h4, hs⟩
theorem FontV.chg {w w' : World} {lo hi lo' hi' : Nat} {v : Value} {f : Fnt} (h : FontV w lo hi v f) (hc : Chg lo' hi' w w') (hs : hi ≤ w.heap.size) (hn : hi ≤ lo' ∨ hi' ≤ lo) : FontV w' lo hi v f :=
  h.keep fun p h1 h2 => hc.cell (by omega) (by omega)

theorem bcell {w w1 : World} {B : Nat} (hb : Below B w w1) : ∀ b o, b < B → w1.cell? ⟨b, o, none⟩ = w.cell? ⟨b, o, none⟩ := fun b o h => hb.cell (p := ⟨b, o, none⟩) h
theorem bfroz {w w1 : World} {B : Nat} (hb : Below B w w1) : ∀ b o, b < B → w1.frozen? ⟨b, o, none⟩ = w.frozen? ⟨b, o, none⟩ := fun b o h => hb.frozen (p := ⟨b, o, none⟩) h

/-! ### szFont -/
/-- what is left, or -1 -/
def takeOff (left k : Int) : Int := if left < k then -1 else left - k
theorem szIntS_any (A : Option Addr) (n c : Nat) (left : Int) (w : World) (hm : n ≤ maxLen) (h0 : 0 ≤ left) (h1 : left ≤ 1048576) :
    Calls Tryd.prog 60 #[.slice A n c, .int .i64 left] w fun e w' => e = .returned (.int .i64 (takeOff left n)) ∧ w = w' := by
  unfold maxLen at hm
  by_cases hlt : left < n
  · have Hk : Hid (takeOff left n = -1) := by show _ = _; unfold takeOff; rw [if_pos hlt]
    go_enter Tryd.func60, Tryd.ntmps60
    go_wp2
    go_ret
    exact ⟨ret_int Hk.out.symm, rfl⟩
  · have Hk : Hid (takeOff left n = left - n) := by show _ = _; unfold takeOff; rw [if_neg hlt]
    go_enter Tryd.func60, Tryd.ntmps60
    go_wp2
    go_ret
    exact ⟨ret_int Hk.out.symm, rfl⟩

theorem takeOff_bad {left : Int} {k : Nat} (h : left < k) : takeOff left k = -1 := by unfold takeOff; rw [if_pos h]
theorem takeOff_good {left : Int} {k : Nat} (h : ¬ left < k) : takeOff left k = left - k := by unfold takeOff; rw [if_neg h]
/-- how many parts a font has -/
def Fnt.big (f : Fnt) : Nat := f.s.size + f.ws.length + f.cs.length
set_option maxHeartbeats 800000 in
theorem szFont_any (lo hi : Nat) (v : Value) (f : Fnt) (left : Int) (w : World) (h : FontV w lo hi v f) (h0 : 0 ≤ left) (h1 : left ≤ 1048576) :
    Calls Tryd.prog 22 #[v, .int .i64 left] w fun e w' => e = .returned (.int .i64 (takeOff left f.big)) ∧ Below w.heap.size w w' := by
  obtain ⟨A, c, A2, d, rfl, hI1, hI2, hc1, hc2, hd1, hd2, hss⟩ := h
  obtain ⟨s, ws, cs⟩ := f
  simp only at *
  obtain ⟨n, hn⟩ : ∃ n, ws.length = n := ⟨_, rfl⟩
  obtain ⟨m, hm⟩ : ∃ m, cs.length = m := ⟨_, rfl⟩
  have hbig : (Fnt.mk s ws cs).big = s.size + n + m := by unfold Fnt.big; simp only; rw [hn, hm]
  rw [hbig, hn, hm]
  rw [hn] at hc1
  rw [hm] at hd1
  clear hn hm hbig hI1 hI2
  have hn1 : n ≤ maxLen := by omega
  have hm1 : m ≤ maxLen := by omega
  have hss0 := hss
  unfold maxLen at hss
  by_cases hlt : left < s.size
  · have Hk : Hid (takeOff left ((s.size + n + m : Nat) : Int) = -1) := by show _ = _; unfold takeOff; rw [if_pos (by omega)]
    clear hc1 hc2 hd1 hd2
    go_enter Tryd.func22, Tryd.ntmps22
    go_wp2
    go_ret
    exact ⟨ret_int Hk.out.symm, (Below.refl _ _).alloc (Nat.le_refl _) _⟩
  · by_cases hlt2 : left - s.size < n
    · have Hk : Hid (takeOff left ((s.size + n + m : Nat) : Int) = -1) := by show _ = _; unfold takeOff; rw [if_pos (by omega)]
      have Hq : Hid (takeOff (left - s.size) n = -1) := by show _ = _; unfold takeOff; rw [if_pos hlt2]
      clear hc1 hc2 hd1 hd2 hlt2
      go_enter Tryd.func22, Tryd.ntmps22
      go_wp2_with fail
      refine (szIntS_any _ _ _ _ _ hn1 (by omega) (by omega)).mono ?_
      rintro e w' ⟨rfl, rfl⟩
      rw [Hq.out]
      go_wp2
      go_ret
      exact ⟨ret_int Hk.out.symm, (Below.refl _ _).alloc (Nat.le_refl _) _⟩
    · have Hq : Hid (takeOff (left - s.size) n = left - s.size - n) := by show _ = _; unfold takeOff; rw [if_neg hlt2]
      by_cases hlt3 : left - s.size - n < m
      · have Hk : Hid (takeOff left ((s.size + n + m : Nat) : Int) = -1) := by show _ = _; unfold takeOff; rw [if_pos (by omega)]
        have Hr : Hid (takeOff (left - s.size - n) m = -1) := by show _ = _; unfold takeOff; rw [if_pos hlt3]
        clear hc1 hc2 hd1 hd2 hlt3
        go_enter Tryd.func22, Tryd.ntmps22
        go_wp2_with fail
        refine (szIntS_any _ _ _ _ _ hn1 (by omega) (by omega)).mono ?_
        rintro e w' ⟨rfl, rfl⟩
        rw [Hq.out]
        go_wp2_with fail
        refine (szIntS_any _ _ _ _ _ hm1 (by omega) (by omega)).mono ?_
        rintro e w' ⟨rfl, rfl⟩
        rw [Hr.out]
        go_wp2
        go_ret
        exact ⟨ret_int Hk.out.symm, (Below.refl _ _).alloc (Nat.le_refl _) _⟩
      · have Hk : Hid (takeOff left ((s.size + n + m : Nat) : Int) = left - s.size - n - m) := by show _ = _; unfold takeOff; rw [if_neg (by omega)]; omega
        have Hr : Hid (takeOff (left - s.size - n) m = left - s.size - n - m) := by show _ = _; unfold takeOff; rw [if_neg hlt3]
        clear hc1 hc2 hd1 hd2
        go_enter Tryd.func22, Tryd.ntmps22
        go_wp2_with fail
        refine (szIntS_any _ _ _ _ _ hn1 (by omega) (by omega)).mono ?_
        rintro e w' ⟨rfl, rfl⟩
        rw [Hq.out]
        go_wp2_with fail
        refine (szIntS_any _ _ _ _ _ hm1 (by omega) (by omega)).mono ?_
        rintro e w' ⟨rfl, rfl⟩
        rw [Hr.out]
        go_wp2
        go_ret
        exact ⟨ret_int Hk.out.symm, (Below.refl _ _).alloc (Nat.le_refl _) _⟩
end Go.Proofs.YtdijlofcgcikjaaDoor

namespace Go.Proofs.YtdijlofcgcikjaaDoor
open Go.RowKit
set_option linter.unusedVariables false

theorem own_set {w : World} {B : Nat} {v : Value} {zs : List Int} (h : Own w B v zs) {a : Addr} (ha : a.block < B) (u : Value) : Own (w.setCell a u) B v zs := ownsRow_setCell_below h ha u
theorem own_baseB {w : World} {B B' : Nat} {v : Value} {zs : List Int} (h : Own w B v zs) (hB : B' ≤ B) : Own w B' v zs := by
  refine ⟨h.1, ?_⟩
  rcases h.2 with hn | ⟨g, cap, cur, hv, hg, rest⟩
  · exact .inl hn
  · exact .inr ⟨g, cap, cur, hv, by omega, rest⟩
theorem own_lt {w : World} {B : Nat} {v : Value} {zs : List Int} (h : Own w B v zs) : ∀ k, v.ownBlock = some k → k < w.heap.size := fun k hk => (World.ownsRow.lt h k hk).2

set_option maxHeartbeats 800000 in
theorem toFont_any (lo hi : Nat) (v : Value) (f : Fnt) (w : World) (h : FontV w lo hi v f) (hhi : hi ≤ w.heap.size) (hs : Small f) :
    Calls Tryd.prog 25 #[v] w fun e w' => ∃ v', e = .returned v' ∧ FontO w' w.heap.size w'.heap.size v' f ∧ Below w.heap.size w w' := by
  obtain ⟨A, c, A2, d, rfl, hI1, hI2, hc1, hc2, hd1, hd2, hss⟩ := h
  obtain ⟨s, ws, cs⟩ := f
  obtain ⟨hs1, hs2, hs3⟩ := hs
  simp only at *
  obtain ⟨n, hn⟩ : ∃ n, ws.length = n := ⟨_, rfl⟩
  obtain ⟨m, hm⟩ : ∃ m, cs.length = m := ⟨_, rfl⟩
  have Hn := Lib.hid hn; have Hm := Lib.hid hm
  rw [hn, hm]
  rw [hn] at hs2
  rw [hm] at hs3
  have H1 := Lib.hid hI1; have H2 := Lib.hid hI2; have Hss := Lib.hid hss
  clear hn hm hI1 hI2 hc1 hc2 hd1 hd2 hss
  go_enter Tryd.func25, Tryd.ntmps25
  go_wp2_with fail
  refine (toIntS_call _ _ _ ws _ Hn.out hs2 (H1.out.below hhi ((((Below.refl _ _).alloc (Nat.le_refl _) _).alloc (by simp) _).alloc (by simp <;> omega) _)).ints).mono ?_
  rintro e w1 ⟨B1, e1, rfl, hJ1, hO1, hb1, _, _⟩
  obtain ⟨bc1, bf1⟩ := And.intro (bcell hb1) (bfroz hb1)
  have hz1 : w.heap.size + 1 + 1 < w1.heap.size := by have := hb1.size; simp at this; omega
  have hz1a : w.heap.size + 1 < w1.heap.size := by omega
  have hz1b : w.heap.size < w1.heap.size := by omega
  have HO1 := Lib.hid hO1; have HB1 := Lib.hid hb1
  clear hJ1 hO1 hb1
  go_wp2_with fail
  refine (toIntS_call _ _ _ cs _ Hm.out hs3 (H2.out.below hhi ((((((Below.refl _ _).alloc (Nat.le_refl _) _).alloc (by simp) _).alloc (by simp <;> omega) _).trans (HB1.out.mono (by simp <;> omega))).setCell (by simp <;> omega) _)).ints).mono ?_
  rintro e w2 ⟨B2, e2, rfl, hJ2, hO2, hb2, _, _⟩
  obtain ⟨bc2, bf2⟩ := And.intro (bcell hb2) (bfroz hb2)
  have hz2 : w.heap.size + 1 + 1 < w2.heap.size := by have := hb2.size; simp at this; omega
  have hz2a : w.heap.size + 1 < w2.heap.size := by omega
  have hz2b : w.heap.size < w2.heap.size := by omega
  have HO2 := Lib.hid hO2; have HB2 := Lib.hid hb2
  clear hJ2 hO2 hb2
  go_wp2_with fail
  have hsz : w1.heap.size ≤ w2.heap.size := by have := HB2.out.size; simpa using this
  refine bodyPost_ret (v := .agg #[.string s, .slice B1 n e1, .slice B2 m e2]) (by simp [results, Tryd.results25, go_sem, bc1, bc2, hz1a]) rfl ⟨_, rfl, ?_, ?_⟩
  · refine ⟨B1, e1, B2, e2, w1.heap.size, by rw [Hn.out, Hm.out], ?_, ?_, ?_, ?_, by omega, by simp <;> omega, Hss.out⟩
    · rw [Hn.out]
      refine own_baseB (B := w.heap.size + 3) ?_ (by omega)
      have h1 : Own w1 (w.heap.size + 3) (.slice B1 n e1) ws := own_baseB HO1.out (by simp)
      have h2 : Own w2 (w.heap.size + 3) (.slice B1 n e1) ws := (own_set h1 (by simp <;> omega) _).below HB2.out
      exact own_set (own_set (own_set (own_set h2 (by simp <;> omega) _) (by simp <;> omega) _) (by simp <;> omega) _) (by simp <;> omega) _
    · rw [Hn.out]
      exact own_lt HO1.out
    · rw [Hm.out]
      have h2 : Own w2 w1.heap.size (.slice B2 m e2) cs := own_baseB HO2.out (by simp)
      exact own_set (own_set (own_set (own_set h2 (by simp <;> omega) _) (by simp <;> omega) _) (by simp <;> omega) _) (by simp <;> omega) _
    · rw [Hm.out]
      have := own_lt HO2.out
      simpa using this
  · have hb : Below w.heap.size w w2 := ((((((Below.refl _ _).alloc (Nat.le_refl _) _).alloc (by simp) _).alloc (by simp <;> omega) _).trans (HB1.out.mono (by simp <;> omega))).setCell (by simp <;> omega) _).trans (HB2.out.mono (by simp <;> omega))
    exact (((hb.setCell (by simp <;> omega) _).setCell (by simp) _).setCell (by simp) _).setCell (by simp) _

set_option maxHeartbeats 800000 in
theorem eqFont_same (lo hi lo2 hi2 : Nat) (v u : Value) (f : Fnt) (w : World) (h : FontV w lo hi v f) (h2 : FontV w lo2 hi2 u f) (hhi : hi ≤ w.heap.size) (hhi2 : hi2 ≤ w.heap.size) (hs : Small f) :
    Calls Tryd.prog 29 #[v, u] w fun e w' => e = .returned (.bool true) ∧ Below w.heap.size w w' := by
  obtain ⟨A, c, A2, d, rfl, hI1, hI2, hc1, hc2, hd1, hd2, hss⟩ := h
  obtain ⟨B, c', B2, d', rfl, hJ1, hJ2, hc1', hc2', hd1', hd2', hss'⟩ := h2
  obtain ⟨s, ws, cs⟩ := f
  obtain ⟨hs1, hs2, hs3⟩ := hs
  simp only at *
  obtain ⟨n, hn⟩ : ∃ n, ws.length = n := ⟨_, rfl⟩
  obtain ⟨m, hm⟩ : ∃ m, cs.length = m := ⟨_, rfl⟩
  have Hn := Lib.hid hn; have Hm := Lib.hid hm
  rw [hn, hm]
  rw [hn] at hs2
  rw [hm] at hs3
  have hW : Below w.heap.size w ((w.alloc (.cells #[.string s, .slice A n c, .slice A2 m d] 25)).alloc (.cells #[.string s, .slice B n c', .slice B2 m d'] 25)) := ((Below.refl _ _).alloc (Nat.le_refl _) _).alloc (by simp) _
  have G1 := Lib.hid (hI1.below hhi hW); have G2 := Lib.hid (hI2.below hhi hW)
  have G3 := Lib.hid (hJ1.below hhi2 hW); have G4 := Lib.hid (hJ2.below hhi2 hW)
  have HW := Lib.hid hW
  clear hn hm hI1 hI2 hJ1 hJ2 hc1 hc2 hd1 hd2 hss hc1' hc2' hd1' hd2' hss' hW
  go_enter Tryd.func29, Tryd.ntmps29
  go_wp2_with fail
  refine (eqIntS_same _ _ _ _ _ ws _ Hn.out hs2 G1.out.ints G3.out.ints).mono ?_
  rintro e w' ⟨rfl, q, rfl⟩
  go_wp2_with fail
  refine (eqIntS_same _ _ _ _ _ cs _ Hm.out hs3 (G2.out.ints.drewN q) (G4.out.ints.drewN q)).mono ?_
  rintro e w' ⟨rfl, q2, rfl⟩
  go_wp2
  go_ret
  exact ⟨rfl, below_drewN HW.out _⟩

/-- .. over a world whatever: what the marks leave -/
theorem markFont_any (lo hi : Nat) (v : Value) (f : Fnt) (k : Int) (w : World) (h : FontO w lo hi v f) (hlo : lo ≤ w.heap.size) (hhi : hi ≤ w.heap.size) (hs : Small f) (hk0 : 0 ≤ k) (hk1 : k ≤ 1048576) (hk2 : k + f.ws.length ≤ 1048576) :
    Calls Tryd.prog 30 #[v, .int .i64 k] w fun e w' => e = .returned (.int .i64 (k + f.ws.length + f.cs.length)) ∧ Chg lo hi w w' := by
  obtain ⟨A, c, A2, d, mid, rfl, hO1, hm1, hO2, hm2, h3, h4, hss⟩ := h
  obtain ⟨s, ws, cs⟩ := f
  obtain ⟨hs1, hs2, hs3⟩ := hs
  simp only at *
  obtain ⟨n, hn⟩ : ∃ n, ws.length = n := ⟨_, rfl⟩
  obtain ⟨m, hm⟩ : ∃ m, cs.length = m := ⟨_, rfl⟩
  have Hn := Lib.hid hn; have Hm := Lib.hid hm
  rw [hn] at hO1 hm1 hs2 hk2
  rw [hm] at hO2 hm2 hs3
  rw [hn, hm]
  have hL1 := Lib.hid (fun g hg => World.ownsRow.lt hO1 g hg)
  have hL2 := Lib.hid (fun g hg => World.ownsRow.lt hO2 g hg)
  have hW : Below w.heap.size w (w.alloc (.cells #[.string s, .slice A n c, .slice A2 m d] 25)) := (Below.refl _ _).alloc (Nat.le_refl _) _
  have G1 := Lib.hid (hO1.below hW); have G2 := Lib.hid (hO2.below hW)
  have HW := Lib.hid hW; have M1 := Lib.hid hm1; have M2 := Lib.hid hm2
  clear hn hm hO1 hO2 hW hm1 hm2
  go_enter Tryd.func30, Tryd.ntmps30
  go_wp2_with fail
  refine (markIntS_any lo _ _ ws _ hk0 (by omega) (by rw [Hn.out]; exact hs2) G1.out).mono ?_
  rintro e w1 ⟨rfl, hP1, hg1⟩
  rw [Hn.out]
  have c1 : Chg lo hi (w.alloc (.cells #[.string s, .slice A n c, .slice A2 m d] 25)) w1 := Chg.of_grown hg1 (fun g hg => ⟨(hL1.out g hg).1, by have := M1.out g hg; omega⟩)
  have O2 : Own w1 mid (.slice A2 m d) cs := by
    refine (Chg.of_grown (lo := lo) (hi := mid) hg1 (fun g hg => ⟨(hL1.out g hg).1, M1.out g hg⟩)).own G2.out fun g hg => ?_
    have := (hL2.out g hg).1; omega
  have k2 : w1.cell? ⟨w.heap.size, 2, none⟩ = some (.slice A2 m d) := by
    rw [c1.cell (by simp) (by simp <;> omega)]
    rw [World.cell?_alloc_at _ _ _ _ rfl]; rfl
  have C1 := Lib.hid c1
  have P2 := Lib.hid O2
  clear hP1 hg1 c1 O2
  go_wp2_with fail
  refine (markIntS_any mid _ _ cs _ (by omega) (by omega) (by rw [Hm.out]; exact hs3) P2.out).mono ?_
  rintro e w2 ⟨rfl, hP2, hg2⟩
  rw [Hm.out]
  have C2 := Lib.hid (Chg.of_grown (lo := lo) (hi := hi) hg2 (fun g hg => ⟨by have := (hL2.out g hg).1; omega, M2.out g hg⟩))
  clear hP2 hg2
  go_wp2
  go_ret
  exact ⟨rfl, ((Chg.of_below HW.out).trans C1.out).trans C2.out⟩
end Go.Proofs.YtdijlofcgcikjaaDoor

namespace Go.Proofs.YtdijlofcgcikjaaDoor
open Go.RowKit
set_option linter.unusedVariables false

/-- byte i as a number -/
def byt (s : ByteArray) (i : Nat) : Nat := if h : i < s.size then s[i].toNat else 0
theorem byt_eq {s : ByteArray} {i : Nat} (h : i < s.size) : byt s i = s[i].toNat := by unfold byt; rw [dif_pos h]
theorem byt_lt (s : ByteArray) (i : Nat) : byt s i < 256 := by
  unfold byt; split
  · exact UInt8.toNat_lt _
  · omega
def letOk (s : ByteArray) (i : Nat) : Bool := decide (33 ≤ byt s i ∧ byt s i ≤ 126)
def diffs (s : ByteArray) (i : Nat) : Bool := (List.range i).all (fun k => byt s i != byt s k)
def widOk (ws : List Int) (i : Nat) : Bool := inB (ws.getD i 0) 1 60
def lettersB (s : ByteArray) : Bool := (List.range s.size).all (letOk s) && (List.range s.size).all (diffs s)
def widthsB (ws : List Int) : Bool := ws.all (fun x => inB x 1 60)
def fontB (f : Fnt) : Bool := sortsAll f.cs && (f.s.size == f.cs.length && (f.ws.length == f.cs.length && (lettersB f.s && widthsB f.ws)))

def goodTo (s : ByteArray) (ws : List Int) (n : Nat) : Bool := (List.range n).all (fun i => letOk s i && (widOk ws i && diffs s i))
theorem goodTo_succ {s : ByteArray} {ws : List Int} {n : Nat} (h : goodTo s ws n = true) (h1 : letOk s n = true) (h2 : widOk ws n = true) (h3 : diffs s n = true) : goodTo s ws (n + 1) = true := by
  unfold goodTo at *
  rw [List.range_succ, List.all_append, h]; simp [h1, h2, h3]
theorem goodTo_full {s : ByteArray} {ws : List Int} (hl : ws.length = s.size) : goodTo s ws s.size = (lettersB s && widthsB ws) := by
  rw [Bool.eq_iff_iff]
  unfold goodTo lettersB widthsB
  simp only [List.all_eq_true, Bool.and_eq_true, List.mem_range]
  constructor
  · intro h
    refine ⟨⟨fun i hi => (h i hi).1, fun i hi => (h i hi).2.2⟩, fun x hx => ?_⟩
    obtain ⟨i, hi, rfl⟩ := List.mem_iff_getElem.1 hx
    have := (h i (by omega)).2.1
    unfold widOk at this
    simpa [List.getD, hi] using this
  · rintro ⟨⟨h1, h2⟩, h3⟩ i hi
    refine ⟨h1 i hi, ?_, h2 i hi⟩
    unfold widOk
    have hi' : i < ws.length := by omega
    simp only [List.getD, List.getElem?_eq_getElem hi', Option.getD_some]
    exact h3 _ (List.getElem_mem hi')
theorem fontB_good {f : Fnt} (h1 : f.ws.length = f.s.size) (h2 : f.cs.length = f.s.size) (h3 : sortsAll f.cs = true) : fontB f = goodTo f.s f.ws f.s.size := by
  rw [goodTo_full h1]
  unfold fontB
  rw [h3, h1, h2]; simp
theorem sortsAll_len {cs : List Int} (h : sortsAll cs = true) : 1 ≤ cs.length ∧ cs.length ≤ 40 := by
  unfold sortsAll at h
  rw [Bool.and_eq_true] at h
  exact bar_len h.2
/-- what a font is, besides its letters -/
theorem fontB_bad {f : Fnt} (h : ¬ (1 ≤ f.s.size ∧ f.s.size ≤ 40 ∧ f.ws.length = f.s.size ∧ f.cs.length = f.s.size ∧ sortsAll f.cs = true)) : fontB f = false := by
  cases hb : fontB f
  · rfl
  · unfold fontB at hb
    simp only [Bool.and_eq_true, beq_iff_eq] at hb
    obtain ⟨h1, h2, h3, _⟩ := hb
    have := sortsAll_len h1
    exact absurd ⟨by omega, by omega, by omega, by omega, h1⟩ h
theorem goodTo_bad {s : ByteArray} {ws : List Int} {n i : Nat} (hi : i < n) (h : (letOk s i && (widOk ws i && diffs s i)) = false) : goodTo s ws n = false := by
  unfold goodTo
  rw [List.all_eq_false]
  exact ⟨i, List.mem_range.2 hi, by rw [h]; simp⟩
def diffTo (s : ByteArray) (i j : Nat) : Bool := (List.range j).all (fun k => byt s i != byt s k)
theorem diffTo_succ {s : ByteArray} {i j : Nat} (h : diffTo s i j = true) (h1 : byt s i ≠ byt s j) : diffTo s i (j + 1) = true := by
  unfold diffTo at *
  rw [List.range_succ, List.all_append, h]; simp [h1]
theorem diffs_bad {s : ByteArray} {i j : Nat} (hj : j < i) (h : byt s i = byt s j) : diffs s i = false := by
  unfold diffs
  rw [List.all_eq_false]
  exact ⟨j, List.mem_range.2 hj, by simp [h]⟩

set_option maxHeartbeats 1600000 in
theorem specFontOk_any (lo hi : Nat) (v : Value) (f : Fnt) (w : World) (h : FontV w lo hi v f) (hhi : hi ≤ w.heap.size) (hs : Small f) :
    Calls Tryd.prog 44 #[v] w fun e w' => e = .returned (.bool (fontB f)) ∧ Below w.heap.size w w' := by
  obtain ⟨A, c, A2, d, rfl, hI1, hI2, hc1, hc2, hd1, hd2, hss⟩ := h
  obtain ⟨s, ws, cs⟩ := f
  obtain ⟨hs1, hs2, hs3⟩ := hs
  simp only at *
  obtain ⟨n, hn⟩ : ∃ n, ws.length = n := ⟨_, rfl⟩
  obtain ⟨m, hm⟩ : ∃ m, cs.length = m := ⟨_, rfl⟩
  have Hn := Lib.hid hn; have Hm := Lib.hid hm
  rw [hn, hm]
  rw [hn] at hs2
  rw [hm] at hs3
  have hW : Below w.heap.size w (w.alloc (.cells #[.string s, .slice A n c, .slice A2 m d] 25)) := (Below.refl _ _).alloc (Nat.le_refl _) _
  have G1 := Lib.hid (hI1.below hhi hW); have G2 := Lib.hid (hI2.below hhi hW)
  have HW := Lib.hid hW
  clear hI1 hI2 hc1 hc2 hd1 hd2 hss hW
  by_cases hall : 1 ≤ s.size ∧ s.size ≤ 40 ∧ n = s.size ∧ m = s.size ∧ sortsAll cs = true
  · obtain ⟨p1, p2, rfl, rfl, p5⟩ := hall
    have Hf : Hid (fontB ⟨s, ws, cs⟩ = goodTo s ws s.size) := fontB_good hn hm p5
    rw [Hf.out]
    have hb1 : inB s.size 1 40 = true := by
      have : inB s.size 1 40 = decide ((1 : Int) ≤ s.size ∧ (s.size : Int) ≤ 40) := rfl
      rw [this, decide_eq_true_eq]; omega
    have hb2 : ((s.size : Int) != (s.size : Int)) = false := by simp
    clear hn hm Hf
    go_enter Tryd.func44, Tryd.ntmps44
    go_wp2_with (first
      | (go_at_call 62; refine (l1In_any _ _ _ _).mono ?_; rintro e w' ⟨rfl, rfl⟩)
      | (go_at_call 77; refine (specSortsAll_any _ _ _ cs _ Hm.out (by unfold maxLen; omega) G2.out.ints).mono ?_; rintro e w' ⟨rfl, rfl⟩))
    clear hb1 hb2 p5
    go_loopw [4] (fun i wr => ∃ k q : Nat, k ≤ s.size ∧ i = .int .i64 k ∧ wr = (w.alloc (.cells #[.string s, .slice A s.size c, .slice A2 s.size d] 25)).drewN q ∧ goodTo s ws k = true) (fun i _ => s.size - (intOf i).toNat)
    case atStart => exact ⟨0, 0, Nat.zero_le _, rfl, rfl, rfl⟩
    case round =>
      obtain ⟨k, q, hk, rfl, rfl, hg⟩ := hrel
      have Hg := Lib.hid hg; clear hg
      by_cases hlt : k < s.size
      · obtain ⟨ad, x, rfl, hx, hc⟩ := (G1.out.ints.drewN q).at_ (k := k) (by rw [Hn.out]; exact hlt)
        have Hb := Lib.hid (byt_eq hlt)
        have HX := Lib.hid (getD_at hx.out)
        by_cases h1 : (s[k].toNat : Int) < 33
        · have Hbad := Lib.hid (goodTo_bad (ws := ws) hlt (show (letOk s k && (widOk ws k && diffs s k)) = false by
            have : letOk s k = false := by unfold letOk; rw [Hb.out, decide_eq_false_iff_not]; omega
            rw [this]; rfl))
          have hd1 : decide ((s[k].toNat : Int) < 33) = true := by simpa using h1
          clear h1
          go_wp2
          go_ret
          exact ⟨ret_bool Hbad.out.symm, below_drewN HW.out _⟩
        have hd1 : decide ((s[k].toNat : Int) < 33) = false := by simpa using h1
        by_cases h2 : (126 : Int) < (s[k].toNat : Int)
        · have Hbad := Lib.hid (goodTo_bad (ws := ws) hlt (show (letOk s k && (widOk ws k && diffs s k)) = false by
            have : letOk s k = false := by unfold letOk; rw [Hb.out, decide_eq_false_iff_not]; omega
            rw [this]; rfl))
          have hd2 : decide ((126 : Int) < (s[k].toNat : Int)) = true := by simpa using h2
          clear h1 h2
          go_wp2
          go_ret
          exact ⟨ret_bool Hbad.out.symm, below_drewN HW.out _⟩
        have hd2 : decide ((126 : Int) < (s[k].toNat : Int)) = false := by simpa using h2
        have HL : Hid (letOk s k = true) := by show _ = _; unfold letOk; rw [Hb.out, decide_eq_true_eq]; omega
        clear h1 h2
        cases h3 : inB x 1 60
        · have Hbad := Lib.hid (goodTo_bad (ws := ws) hlt (show (letOk s k && (widOk ws k && diffs s k)) = false by
            have : widOk ws k = false := by unfold widOk; rw [HX.out]; exact h3
            rw [this]; simp))
          go_wp2_with (go_at_call 62; refine (l1In_any _ _ _ _).mono ?_; rintro e w' ⟨rfl, rfl⟩)
          go_ret
          exact ⟨ret_bool Hbad.out.symm, below_drewN HW.out _⟩
        have HD : Hid (widOk ws k = true) := by show _ = _; unfold widOk; rw [HX.out]; exact h3
        go_wp2_with (go_at_call 62; refine (l1In_any _ _ _ _).mono ?_; rintro e w' ⟨rfl, rfl⟩)
        go_loopw [5] (fun i wr => ∃ j q : Nat, j ≤ k ∧ i = .int .i64 j ∧ wr = (w.alloc (.cells #[.string s, .slice (some ad) s.size c, .slice A2 s.size d] 25)).drewN q ∧ diffTo s k j = true) (fun i _ => k - (intOf i).toNat)
        case atStart => exact ⟨0, q, Nat.zero_le _, rfl, rfl, rfl⟩
        case round =>
          obtain ⟨j, q2, hj, rfl, rfl, hdf⟩ := hrel
          have Hdf := Lib.hid hdf; clear hdf
          by_cases hjk : j < k
          · have hjs : j < s.size := by omega
            have Hbj := Lib.hid (byt_eq hjs)
            by_cases he : s[k].toNat = s[j].toNat
            · have Hbad := Lib.hid (goodTo_bad (ws := ws) hlt (show (letOk s k && (widOk ws k && diffs s k)) = false by
                have : diffs s k = false := diffs_bad hjk (by rw [Hb.out, Hbj.out]; exact he)
                rw [this]; simp))
              have he1 : ((s[k].toNat : Int) == (s[j].toNat : Int)) = true := by rw [beq_iff_eq]; omega
              clear he
              go_wp2
              go_quiet (fail)
              go_wp2
              go_ret
              exact ⟨ret_bool Hbad.out.symm, by rw [World.drewN_drewN]; exact below_drewN HW.out _⟩
            · have Hs := Lib.hid (diffTo_succ Hdf.out (show byt s k ≠ byt s j by rw [Hb.out, Hbj.out]; exact he))
              have he1 : ((s[k].toNat : Int) == (s[j].toNat : Int)) = false := by rw [beq_eq_false_iff_ne]; omega
              clear he
              go_wp2
              go_quiet (fail)
              go_wp2
              go_roundw
              case rel => exact ⟨j + 1, _, by omega, by go_num, rfl, Hs.out⟩
              case measure => simp [intOf]; omega
          · have hjn : j = k := by omega
            subst hjn
            have Hs := Lib.hid (goodTo_succ Hg.out HL.out HD.out Hdf.out)
            go_wp2
            go_roundw
            case rel => exact ⟨j + 1, _, by omega, by go_num, rfl, Hs.out⟩
            case measure => simp [intOf]; omega
      · have hkn : k = s.size := by omega
        subst hkn
        go_wp2
        go_ret
        exact ⟨ret_bool Hg.out.symm, below_drewN HW.out _⟩
  · have Hf : Hid (fontB ⟨s, ws, cs⟩ = false) := fontB_bad (f := ⟨s, ws, cs⟩) (by simp only; rw [hn, hm]; exact hall)
    rw [Hf.out]
    clear hn hm Hf
    cases hb1 : inB s.size 1 40
    · go_enter Tryd.func44, Tryd.ntmps44
      go_wp2_with (go_at_call 62; refine (l1In_any _ _ _ _).mono ?_; rintro e w' ⟨rfl, rfl⟩)
      go_ret
      exact ⟨rfl, HW.out⟩
    by_cases hb2 : n = s.size
    · have hb2' : ((n : Int) != (s.size : Int)) = false := by rw [bne_eq_false_iff_eq]; omega
      by_cases hb3 : m = s.size
      · have hb3' : ((m : Int) != (s.size : Int)) = false := by rw [bne_eq_false_iff_eq]; omega
        have hb4 : sortsAll cs = false := by
          cases h5 : sortsAll cs
          · rfl
          · have : inB s.size 1 40 = decide ((1 : Int) ≤ s.size ∧ (s.size : Int) ≤ 40) := rfl
            rw [this, decide_eq_true_eq] at hb1
            exact absurd ⟨by omega, by omega, hb2, hb3, h5⟩ hall
        clear hall hb2 hb3
        go_enter Tryd.func44, Tryd.ntmps44
        go_wp2_with (first
          | (go_at_call 62; refine (l1In_any _ _ _ _).mono ?_; rintro e w' ⟨rfl, rfl⟩)
          | (go_at_call 77; refine (specSortsAll_any _ _ _ cs _ Hm.out (by unfold maxLen; omega) G2.out.ints).mono ?_; rintro e w' ⟨rfl, rfl⟩))
        go_ret
        exact ⟨rfl, HW.out⟩
      · have hb3' : ((m : Int) != (s.size : Int)) = true := by rw [bne_iff_ne]; omega
        clear hall hb2 hb3
        go_enter Tryd.func44, Tryd.ntmps44
        go_wp2_with (go_at_call 62; refine (l1In_any _ _ _ _).mono ?_; rintro e w' ⟨rfl, rfl⟩)
        go_ret
        exact ⟨rfl, HW.out⟩
    · have hb2' : ((n : Int) != (s.size : Int)) = true := by rw [bne_iff_ne]; omega
      clear hall hb2
      go_enter Tryd.func44, Tryd.ntmps44
      go_wp2_with (go_at_call 62; refine (l1In_any _ _ _ _).mono ?_; rintro e w' ⟨rfl, rfl⟩)
      go_ret
      exact ⟨rfl, HW.out⟩
end Go.Proofs.YtdijlofcgcikjaaDoor

namespace Go.Proofs.YtdijlofcgcikjaaDoor
open Go.RowKit Go.Maps
set_option linter.unusedVariables false

theorem keyLaw : Keyed Tryd.prog 21 := int_keyed Tryd.underlying21
theorem zeroInt (w : World) : (zeroValue 3).run Tryd.prog w = .ok (.int .i64 0) w := by kernel_rfl

theorem run_makeHint {P : Program} (t k e : TypeId) (ht : P.underlying t = some (.map k e)) (n : Int) (w : World) : (Instr.makeMap t (some (.int .i64 n))).run P w = .ok (.map (some w.heap.size)) (w.alloc (.map #[] 0)) := by
  simp [Instr.makeMap, run_underlying ht, asInt, asIntOf]

/-- the next letter of a string whose bytes are ASCII, the iterator being in block g -/
def itSet (w : World) (g : Nat) (s : ByteArray) (p : Nat) : World := { w with heap := w.heap.setIfInBounds g (.stringIter s p) }
theorem next_at {P : Program} (w : World) (g : Nat) (s : ByteArray) (pos : Nat) (ty : TypeId) (hit : w.heap[g]? = some (.stringIter s pos)) (h : pos < s.size) (ha : (s[pos]'h).toNat < 128) :
    (Instr.next (.pointer (some ⟨g, 0, none⟩)) true ty).run P w = .ok (.tuple #[.bool true, .int .i64 pos, .int .i32 (s[pos]'h).toNat]) (itSet w g s (pos + 1)) := by
  simp only [Instr.next, getObj, setObj, Sem.run_bind, Sem.run, hit, Result.andThen, h, if_true, decode_ascii s pos h ha]
  simp [goInt, itSet]
theorem next_end {P : Program} (w : World) (g : Nat) (s : ByteArray) (pos : Nat) (ty : TypeId) (hit : w.heap[g]? = some (.stringIter s pos)) (h : ¬ pos < s.size) :
    (Instr.next (.pointer (some ⟨g, 0, none⟩)) true ty).run P w = .ok (.tuple #[.bool false]) w := by
  simp [Instr.next, getObj, Sem.run, hit, h]
theorem itSet_heap {w : World} {g p p' : Nat} {s : ByteArray} (hit : w.heap[g]? = some (.stringIter s p)) : (itSet w g s p').heap[g]? = some (.stringIter s p') := by
  have : g < w.heap.size := by
    rcases Nat.lt_or_ge g w.heap.size with h | h
    · exact h
    · rw [Array.getElem?_eq_none h] at hit; cases hit
  simp [itSet, this]
theorem itSet_grown (w : World) (g p : Nat) (s : ByteArray) : w.grownBy (itSet w g s p) (some g) :=
  ⟨rfl, rfl, rfl, by simp [itSet], fun j hj hne => by simp only [itSet]; rw [Array.getElem?_setIfInBounds_ne (fun e => hne (by rw [e]))]⟩

theorem i32_wf {b : Nat} (h : b < 128) : (Lit.int .i32 (b : Int)).wf = true := by
  have h2 : ∀ b : Fin 128, (Lit.int .i32 ((b : Nat) : Int)).wf = true := by decide +kernel
  exact h2 ⟨b, h⟩
/-- the keys of the first k letters -/
def keysD (s : ByteArray) : Nat → DataW Unit
  | 0 => .map []
  | k + 1 => (keysD s k).put (.int .i32 (byt s k)) (.lit (.int .i64 k))
theorem keyLit (b : Int) : WideAt.IsKeyLit (.int .i32 b) := by simp [WideAt.IsKeyLit]
theorem keysD_tidy (s : ByteArray) : ∀ k, Tidy (keysD s k)
  | 0 => tidy_empty
  | k + 1 => (keysD_tidy s k).put (keyLit _) _
theorem keysD_has (s : ByteArray) (b : Nat) : ∀ k, Maps.has (keysD s k) (.int .i32 (b : Int)) = (List.range k).any (fun j => byt s j == b)
  | 0 => rfl
  | k + 1 => by
    rw [List.range_succ, List.any_append]
    unfold keysD
    by_cases e : byt s k = b
    · subst e
      rw [has_put_same (keysD_tidy s k).isMap (keyLit _)]
      simp
    · rw [has_put_other (by intro h; injection h with h1 h2; exact e (by omega)), keysD_has s b k]
      simp [e]
theorem keysD_size (s : ByteArray) : ∀ k, Maps.size (keysD s k) ≤ k ∧ (Maps.size (keysD s k) = k ↔ ∀ i, i < k → diffs s i = true)
  | 0 => ⟨Nat.le_refl _, fun _ i h => absurd h (by omega), fun _ => rfl⟩
  | k + 1 => by
    obtain ⟨h1, h2⟩ := keysD_size s k
    have hp := size_put (k := .int .i32 (byt s k : Int)) (keysD_tidy s k) (.lit (.int .i64 k))
    have hd : diffs s k = !Maps.has (keysD s k) (.int .i32 (byt s k : Int)) := by
      rw [keysD_has, Bool.eq_iff_iff]
      unfold diffs
      simp only [List.all_eq_true, Bool.not_eq_true', List.any_eq_false, bne_iff_ne, beq_iff_eq, List.mem_range]
      constructor
      · intro h j hj e; exact h j hj e.symm
      · intro h j hj e; exact h j hj e.symm
    show Maps.size ((keysD s k).put _ _) ≤ k + 1 ∧ (Maps.size ((keysD s k).put _ _) = k + 1 ↔ _)
    rw [hp]
    cases hh : Maps.has (keysD s k) (.int .i32 (byt s k : Int))
    · rw [if_neg (by simp)]
      rw [hh] at hd
      refine ⟨by omega, fun e i hi => ?_, fun h => ?_⟩
      · by_cases ei : i = k
        · subst ei; simpa using hd
        · exact h2.1 (by omega) i (by omega)
      · have := h2.2 (fun i hi => h i (by omega)); omega
    · rw [if_pos rfl]
      rw [hh] at hd
      refine ⟨by omega, fun e => by omega, fun h => ?_⟩
      have := h k (by omega)
      rw [hd] at this; cases this

theorem letOk_lt {s : ByteArray} {k : Nat} (hk : k < s.size) (h : letOk s k = true) : (s[k]'hk).toNat < 128 := by
  unfold letOk at h
  rw [decide_eq_true_eq, byt_eq hk] at h
  omega

set_option maxRecDepth 100000 in
set_option maxHeartbeats 800000 in
theorem keysOf_any (s : ByteArray) (w : World) (hs : s.size ≤ 1048576) (hall : ∀ i, i < s.size → letOk s i = true) :
    Calls Tryd.prog 98 #[.string s] w fun e w' => e = .returned (.map (some w.heap.size)) ∧ w'.ownsMap Tryd.prog 21 (plainElem (H := Unit) Tryd.prog 3) w.heap.size s.size (keysD s s.size) ∧ Below w.heap.size w w' := by
  have Hall := Lib.hid hall; clear hall
  have hmm := fun n w => run_makeHint (P := Tryd.prog) 134 _ _ Tryd.underlying134 n w
  go_enter Tryd.func98, Tryd.ntmps98
  go_wp2
  have hz := (World.ownsMap_made w Tryd.prog 21 (plainElem (H := Unit) Tryd.prog 3)).alloc (.stringIter s 0)
  have HZ := Lib.hid hz
  clear hz hmm
  go_loopw [4, 5] (fun i j wr => ∃ k : Nat, k ≤ s.size ∧ wr.ownsMap Tryd.prog 21 (plainElem (H := Unit) Tryd.prog 3) w.heap.size k (keysD s k) ∧ wr.heap[w.heap.size + 1]? = some (.stringIter s k) ∧ Below w.heap.size w wr) (fun i j wr => s.size - wr.iterPos (w.heap.size + 1))
  case atStart => exact ⟨0, Nat.zero_le _, HZ.out, by simpa using World.iter_heap (w.alloc (.map #[] 0)) s 0, ((Below.refl _ _).alloc (Nat.le_refl _) _).alloc (by simp) _⟩
  case round =>
    obtain ⟨k, hk, hown, hit, hb⟩ := hrel
    have Hit := Lib.hid hit
    by_cases hlt : k < s.size
    · have hc := letOk_lt hlt (Hall.out k hlt)
      have hnx := fun ty => next_at (P := Tryd.prog) wr (w.heap.size + 1) s k ty hit hlt hc
      have hkey : keyOf Tryd.prog 21 (.int .i32 ((s[k]'hlt).toNat : Int)) = some (.int .i32 ((s[k]'hlt).toNat : Int)) := keyOf_int_mk Tryd.underlying21 (i32_wf hc)
      have HO2 := Lib.hid (hown.kept (itSet_grown wr (w.heap.size + 1) (k + 1) s) (by simp))
      have HB2 := Lib.hid (hb.grown (itSet_grown wr (w.heap.size + 1) (k + 1) s) hb.size (fun j hj => by cases hj; omega))
      have HE := Lib.hid (byt_eq hlt)
      have hkm : k < maxLen := by unfold maxLen; omega
      clear hown hb hc hit
      go_wp2_with (at_mapUpdate; refine wpList_mapUpdate_own _ rfl _ _ _ 134 rfl 21 3 keyLaw Tryd.underlying134 (plainElem (H := Unit) Tryd.prog 3) w.heap.size k _ rfl HO2.out hkm _ _ _ rfl rfl hkey _ [] (plainElem_int Tryd.underlying3 (WalkArith.wf_i64 (by omega))) ?_; intro w1 hown1 hgrow1)
      have hit1 : w1.heap[w.heap.size + 1]? = some (.stringIter s (k + 1)) := (hgrow1.block _ (by
        have := itSet_heap (p' := k + 1) Hit.out
        exact (Array.getElem?_eq_some_iff.1 this).1) (by simp)).trans (itSet_heap Hit.out)
      have hb1 := HB2.out.grown hgrow1 HB2.out.size (fun j hj => by cases hj; exact Nat.le_refl _)
      have hD : keysD s (k + 1) = (keysD s k).put (.int .i32 ((s[k]'hlt).toNat : Int)) (.lit (.int .i64 (k : Int))) := by
        show (keysD s k).put _ _ = _
        rw [HE.out]
      rw [← hD] at hown1
      have HP := Lib.hid hown1; have HI := Lib.hid hit1; have HB := Lib.hid hb1
      have hpos : w1.iterPos (w.heap.size + 1) = k + 1 := by unfold World.iterPos; rw [hit1]
      have hpos0 : wr.iterPos (w.heap.size + 1) = k := by unfold World.iterPos; rw [Hit.out]
      clear hown1 hit1 hb1 hD hgrow1
      go_wp2
      simp only [Act.put]
      go_roundw
      case rel => exact ⟨k + 1, by omega, HP.out, HI.out, HB.out⟩
      case measure => rw [hpos, hpos0]; omega
    · have hkn : k = s.size := by omega
      subst hkn
      have hnx := fun ty => next_end (P := Tryd.prog) wr (w.heap.size + 1) s s.size ty hit (Nat.lt_irrefl _)
      go_wp2
      go_ret
      exact ⟨rfl, hown, hb⟩

theorem lettersB_of {s : ByteArray} (h : ∀ i, i < s.size → letOk s i = true) : ((Maps.size (keysD s s.size) : Int) == (s.size : Int)) = lettersB s := by
  obtain ⟨h1, h2⟩ := keysD_size s s.size
  have ha : (List.range s.size).all (letOk s) = true := by
    rw [List.all_eq_true]; intro i hi; exact h i (List.mem_range.1 hi)
  unfold lettersB
  rw [ha, Bool.true_and, Bool.eq_iff_iff, beq_iff_eq, List.all_eq_true]
  constructor
  · intro e i hi
    exact h2.1 (by omega) i (List.mem_range.1 hi)
  · intro hd
    have := h2.2 (fun i hi => hd i (List.mem_range.2 hi))
    omega
theorem lettersB_bad {s : ByteArray} {k : Nat} (hk : k < s.size) (h : letOk s k = false) : lettersB s = false := by
  unfold lettersB
  have : (List.range s.size).all (letOk s) = false := by
    rw [List.all_eq_false]
    exact ⟨k, List.mem_range.2 hk, by rw [h]; simp⟩
  rw [this]; rfl

set_option maxRecDepth 100000 in
set_option maxHeartbeats 800000 in
theorem areLetters_any (s : ByteArray) (w : World) (hs : s.size ≤ 1048576) :
    Calls Tryd.prog 86 #[.string s] w fun e w' => e = .returned (.bool (lettersB s)) ∧ Below w.heap.size w w' := by
  go_enter Tryd.func86, Tryd.ntmps86
  go_wp2
  go_loopw [4] (fun j wr => ∃ k : Nat, k ≤ s.size ∧ wr = w.iter s k ∧ ∀ i, i < k → letOk s i = true) (fun j wr => s.size - wr.iterPos w.heap.size)
  case atStart => exact ⟨0, Nat.zero_le _, rfl, fun i h => absurd h (by omega)⟩
  case round =>
    obtain ⟨k, hk, rfl, hall⟩ := hrel
    have Hall := Lib.hid hall; clear hall
    by_cases hlt : k < s.size
    · have hb8 := Lib.hid (byt_eq hlt)
      by_cases hhi : 128 ≤ (s[k]'hlt).toNat
      · have hnx := fun ty => run_next_any (P := Tryd.prog) w s k ty hlt
        obtain ⟨d1, d2⟩ := decode_high s k hlt hhi
        have d3 := decode_le s k
        have Hbad := Lib.hid (lettersB_bad hlt (show letOk s k = false by unfold letOk; rw [hb8.out, decide_eq_false_iff_not]; omega))
        obtain ⟨r, hr⟩ : ∃ r, (Utf8.decode s k).1 = r := ⟨_, rfl⟩
        rw [hr] at d1 d3
        rw [hr] at hnx
        have t1 : decide (r < 33) = false := by rw [decide_eq_false_iff_not]; omega
        have t2 : decide (126 < r) = true := by rw [decide_eq_true_eq]; omega
        clear hr hhi d2
        go_wp2
        go_ret
        exact ⟨ret_bool Hbad.out.symm, (Below.refl _ _).alloc (Nat.le_refl _) _⟩
      · have hc : (s[k]'hlt).toNat < 128 := by omega
        have hnx := fun ty => run_next_ascii (P := Tryd.prog) w s k ty hlt hc
        clear hhi
        by_cases h1 : (s[k]'hlt).toNat < 33
        · have Hbad := Lib.hid (lettersB_bad hlt (show letOk s k = false by unfold letOk; rw [hb8.out, decide_eq_false_iff_not]; omega))
          have t1 : decide (((s[k]'hlt).toNat : Int) < 33) = true := by rw [decide_eq_true_eq]; omega
          clear h1
          go_wp2
          go_ret
          exact ⟨ret_bool Hbad.out.symm, (Below.refl _ _).alloc (Nat.le_refl _) _⟩
        have t1 : decide (((s[k]'hlt).toNat : Int) < 33) = false := by rw [decide_eq_false_iff_not]; omega
        by_cases h2 : 126 < (s[k]'hlt).toNat
        · have Hbad := Lib.hid (lettersB_bad hlt (show letOk s k = false by unfold letOk; rw [hb8.out, decide_eq_false_iff_not]; omega))
          have t2 : decide (126 < ((s[k]'hlt).toNat : Int)) = true := by rw [decide_eq_true_eq]; omega
          clear h1 h2
          go_wp2
          go_ret
          exact ⟨ret_bool Hbad.out.symm, (Below.refl _ _).alloc (Nat.le_refl _) _⟩
        have t2 : decide (126 < ((s[k]'hlt).toNat : Int)) = false := by rw [decide_eq_false_iff_not]; omega
        have HL : Hid (∀ i, i < k + 1 → letOk s i = true) := fun i hi => by
          by_cases e : i = k
          · subst e; unfold letOk; rw [hb8.out, decide_eq_true_eq]; omega
          · exact Hall.out i (by omega)
        clear h1 h2
        go_wp2
        go_roundw
        case rel => exact ⟨k + 1, by omega, rfl, HL.out⟩
        case measure => simp; omega
    · have hkn : k = s.size := by omega
      subst hkn
      have hnx := fun ty => run_next_end (P := Tryd.prog) w s s.size ty (Nat.lt_irrefl _)
      have Hl := Lib.hid (lettersB_of Hall.out)
      have Hk := Lib.hid (Below.refl w.heap.size w |>.alloc (Nat.le_refl _) (.stringIter s s.size))
      go_wp2_with fail
      refine (keysOf_any s _ hs Hall.out).mono ?_
      rintro e w1 ⟨rfl, hown, hb⟩
      have HB := Lib.hid hb
      go_wp2_with (at_len; refine wpList_len_own _ rfl _ 134 rfl 21 3 Tryd.underlying134 _ _ _ _ rfl hown ?_)
      go_ret
      exact ⟨ret_bool Hl.out, Hk.out.trans (HB.out.mono (by simp [World.iter]))⟩

end Go.Proofs.YtdijlofcgcikjaaDoor

namespace Go.Proofs.YtdijlofcgcikjaaDoor
open Go.RowKit Go.Maps
set_option linter.unusedVariables false

theorem fontWidth_enter (args : Array Value) (w : World) : Sem.run Tryd.prog (callFunc 87 args) w = .ok (.enter 87 args) w := by kernel_rfl
theorem fontB_chain {f : Fnt} {a b : Bool} (ha : (f.s.size == f.cs.length) = a) (hb : (f.ws.length == f.cs.length) = b) : fontB f = (sortsAll f.cs && (a && (b && (lettersB f.s && widthsB f.ws)))) := by
  unfold fontB; rw [ha, hb]
set_option maxHeartbeats 1600000 in
theorem implFontOk_any (lo hi : Nat) (v : Value) (f : Fnt) (w : World) (h : FontV w lo hi v f) (hhi : hi ≤ w.heap.size) (hs : Small f) :
    Calls Tryd.prog 51 #[v] w fun e w' => e = .returned (.bool (fontB f)) ∧ Below w.heap.size w w' := by
  obtain ⟨A, c, A2, d, rfl, hI1, hI2, hc1, hc2, hd1, hd2, hss⟩ := h
  obtain ⟨s, ws, cs⟩ := f
  obtain ⟨hs1, hs2, hs3⟩ := hs
  simp only at *
  obtain ⟨n, hn⟩ : ∃ n, ws.length = n := ⟨_, rfl⟩
  obtain ⟨m, hm⟩ : ∃ m, cs.length = m := ⟨_, rfl⟩
  have Hn := Lib.hid hn; have Hm := Lib.hid hm
  rw [hn] at hs2
  rw [hm] at hs3
  have hm0 : m ≤ maxLen := by unfold maxLen; omega
  have hW : Below w.heap.size w (w.alloc (.cells #[.string s, .slice A n c, .slice A2 m d] 25)) := (Below.refl _ _).alloc (Nat.le_refl _) _
  have G1 := Lib.hid (hI1.below hhi hW); have G2 := Lib.hid (hI2.below hhi hW)
  have HW := Lib.hid hW
  have HC : ∀ a b : Bool, (s.size == m) = a → (n == m) = b → Hid (fontB ⟨s, ws, cs⟩ = (sortsAll cs && (a && (b && (lettersB s && widthsB ws))))) := fun a b ha hb =>
    fontB_chain (f := ⟨s, ws, cs⟩) (by simp only; rw [hm]; exact ha) (by simp only; rw [hn, hm]; exact hb)
  rw [hn, hm]
  clear hI1 hI2 hc1 hc2 hd1 hd2 hss hW hn hm
  cases h1 : sortsAll cs
  · have Hf := HC _ _ rfl rfl
    have HF : Hid (fontB ⟨s, ws, cs⟩ = false) := by show _ = _; rw [Hf.out, h1]; rfl
    clear HC Hf
    go_enter Tryd.func51, Tryd.ntmps51
    go_wp2_with (go_at_call 85; refine (implSortsAll_any _ _ _ cs _ Hm.out hm0 G2.out.ints).mono ?_; rintro e w' ⟨rfl, rfl⟩; rw [h1])
    go_ret
    exact ⟨ret_bool HF.out.symm, HW.out⟩
  by_cases h2 : s.size = m
  · have t2 : ((s.size : Int) == (m : Int)) = true := by rw [beq_iff_eq]; omega
    have Hf := HC true _ (by rw [beq_iff_eq]; exact h2) rfl
    cases h4 : lettersB s
    · have HF : Hid (fontB ⟨s, ws, cs⟩ = false) := by show _ = _; rw [Hf.out, h1, h4]; simp
      clear HC Hf h2
      go_enter Tryd.func51, Tryd.ntmps51
      go_wp2_with (first
        | (go_at_call 85; refine (implSortsAll_any _ _ _ cs _ Hm.out hm0 G2.out.ints).mono ?_; rintro e w' ⟨rfl, rfl⟩; rw [h1])
        | (go_at_call 86; refine (areLetters_any s _ hs1).mono ?_; rintro e w1 ⟨rfl, hb1⟩; rw [h4]; have HB1 := Lib.hid hb1; clear hb1))
      go_ret
      exact ⟨ret_bool HF.out.symm, HW.out.trans (HB1.out.mono (by simp))⟩
    · have HF : Hid ((inB n m m && ws.all (fun x => inB x 1 60)) = fontB ⟨s, ws, cs⟩) := by
        show _ = _
        rw [Hf.out, h1, h4]
        show (inB n m m && widthsB ws) = _
        by_cases h3 : n = m
        · subst h3; simp [inB]
        · have e1 : inB n m m = false := by unfold inB; rw [decide_eq_false_iff_not]; omega
          have e2 : (n == m) = false := by rw [beq_eq_false_iff_ne]; exact h3
          rw [e1, e2]; rfl
      clear HC Hf h2
      go_enter Tryd.func51, Tryd.ntmps51
      go_wp2_with (first
        | (go_at_call 85; refine (implSortsAll_any _ _ _ cs _ Hm.out hm0 G2.out.ints).mono ?_; rintro e w' ⟨rfl, rfl⟩; rw [h1])
        | (go_at_call 86; refine (areLetters_any s _ hs1).mono ?_; rintro e w1 ⟨rfl, hb1⟩; rw [h4]; have HB1 := Lib.hid hb1; have HI1 := Lib.hid ((G1.out.below (B := w.heap.size + 1) (by omega) (hb1.mono (by simp))).ints); have k1 : w1.cell? ⟨w.heap.size, 1, none⟩ = some (.slice A n c) := (hb1.cell (p := ⟨w.heap.size, 1, none⟩) (by simp)).trans (by rw [World.cell?_alloc_at _ _ _ _ rfl]; rfl); clear hb1)
        | (go_at_call 83; refine (isListOf_any 87 fontWidth_enter (fun x => inB x 1 60) isWidth_any _ _ _ ws _ _ _ Hn.out (by unfold maxLen; omega) HI1.out).mono ?_; rintro e w' ⟨rfl, rfl⟩))
      go_ret
      exact ⟨ret_bool HF.out, HW.out.trans (HB1.out.mono (by simp))⟩
  · have t2 : ((s.size : Int) == (m : Int)) = false := by rw [beq_eq_false_iff_ne]; omega
    have Hf := HC false _ (by rw [beq_eq_false_iff_ne]; exact h2) rfl
    have HF : Hid (fontB ⟨s, ws, cs⟩ = false) := by show _ = _; rw [Hf.out, h1]; rfl
    clear HC Hf h2
    go_enter Tryd.func51, Tryd.ntmps51
    go_wp2_with (go_at_call 85; refine (implSortsAll_any _ _ _ cs _ Hm.out hm0 G2.out.ints).mono ?_; rintro e w' ⟨rfl, rfl⟩; rw [h1])
    go_ret
    exact ⟨ret_bool HF.out.symm, HW.out⟩

theorem wrap64_byte (b : UInt8) : wrap64 (b.toNat : Int) = (b.toNat : Int) := by
  rw [show wrap64 (b.toNat : Int) = IntKind.i64.wrap (b.toNat : Int) from by unfold wrap64; exact (IntKind.wrap_i64 _).symm]
  have := UInt8.toNat_lt b
  exact wrap_small _ (by omega) (by omega)
/-- the place of a letter, -1 if there is none: of letters below n -/
def keyTo (s : ByteArray) (x : Int) (n : Nat) : Int := match (List.range n).find? (fun i => (byt s i : Int) == x) with | some i => i | none => -1
def keyI (f : Fnt) (x : Int) : Int := if fontB f = true then keyTo f.s x f.s.size else -1
theorem keyTo_hit {s : ByteArray} {x : Int} {n k : Nat} (hk : k < n) (h : (byt s k : Int) = x) (hno : ∀ j, j < k → (byt s j : Int) ≠ x) : keyTo s x n = k := by
  unfold keyTo
  have : (List.range n).find? (fun i => (byt s i : Int) == x) = some k := by
    rw [List.find?_range_eq_some]
    exact ⟨by rw [h]; simp, List.mem_range.2 hk, fun j hj => by have := hno j hj; simp [this]⟩
  rw [this]
theorem keyTo_none {s : ByteArray} {x : Int} {n : Nat} (hno : ∀ j, j < n → (byt s j : Int) ≠ x) : keyTo s x n = -1 := by
  unfold keyTo
  have : (List.range n).find? (fun i => (byt s i : Int) == x) = none := by
    rw [List.find?_eq_none]
    intro j hj
    have := hno j (List.mem_range.1 hj)
    simpa using this
  rw [this]
theorem keyI_good {f : Fnt} {x : Int} (h : fontB f = true) : keyI f x = keyTo f.s x f.s.size := by unfold keyI; rw [if_pos h]
theorem keyI_bad {f : Fnt} {x : Int} (h : fontB f = false) : keyI f x = -1 := by unfold keyI; rw [h]; rfl

/-- what the map of the keys says -/
theorem keysD_at {s : ByteArray} {k n : Nat} (hk : k < n) (hd : ∀ j, j < n → byt s j = byt s k → j = k) (z : DataW Unit) : (keysD s n).atKey (.int .i32 (byt s k : Int)) z = .lit (.int .i64 k) := by
  induction n with
  | zero => omega
  | succ n ih =>
    show ((keysD s n).put _ _).atKey _ _ = _
    by_cases e : byt s n = byt s k
    · have := hd n (by omega) e
      subst this
      exact atKey_put_same (keysD_tidy s n).isMap (keyLit _) _ _
    · rw [atKey_put_other (by intro h; injection h with h1 h2; exact e (by omega))]
      exact ih (by
        by_cases ek : k = n
        · subst ek; exact absurd rfl e
        · omega) (fun j hj => hd j (by omega))
theorem lettersB_dist {s : ByteArray} (h : lettersB s = true) : ∀ i j, i < s.size → j < s.size → byt s i = byt s j → i = j := by
  unfold lettersB at h
  rw [Bool.and_eq_true] at h
  have hd := h.2
  rw [List.all_eq_true] at hd
  have key : ∀ i j, j < i → i < s.size → byt s i ≠ byt s j := fun i j hij hi => by
    have := hd i (List.mem_range.2 hi)
    unfold diffs at this
    rw [List.all_eq_true] at this
    simpa using this j (List.mem_range.2 hij)
  intro i j hi hj e
  rcases Nat.lt_trichotomy i j with hlt | heq | hgt
  · exact absurd e.symm (key j i hlt hj)
  · exact heq
  · exact absurd e (key i j hgt hi)
theorem fontB_letters {f : Fnt} (h : fontB f = true) : lettersB f.s = true := by
  unfold fontB at h
  simp only [Bool.and_eq_true] at h
  exact h.2.2.2.1
theorem letters_all {s : ByteArray} (h : lettersB s = true) : ∀ i, i < s.size → letOk s i = true := by
  unfold lettersB at h
  rw [Bool.and_eq_true, List.all_eq_true] at h
  exact fun i hi => h.1 i (List.mem_range.2 hi)
theorem key_has {s : ByteArray} (hl : lettersB s = true) {x : Int} (h0 : 33 ≤ x) (h1 : x ≤ 126) {c : Int} (hc : (keysD s s.size).atKey (.int .i32 x) (.lit (.int .i64 0)) = .lit (.int .i64 c)) :
    (Maps.has (keysD s s.size) (.int .i32 x) = true → keyTo s x s.size = c) ∧ (Maps.has (keysD s s.size) (.int .i32 x) = false → keyTo s x s.size = -1) := by
  obtain ⟨b, rfl⟩ := Int.eq_ofNat_of_zero_le (show 0 ≤ x by omega)
  rw [keysD_has]
  constructor
  · intro h
    rw [List.any_eq_true] at h
    obtain ⟨k, hk, hb⟩ := h
    rw [List.mem_range] at hk
    have hb : byt s k = b := by simpa using hb
    subst hb
    have hu := fun j hj e => lettersB_dist hl j k hj hk e
    rw [keysD_at hk hu] at hc
    injection hc with hc
    injection hc with _ hc
    rw [keyTo_hit hk rfl (fun j hj e => by have := hu j (by omega) (by omega); omega), hc]
  · intro h
    rw [List.any_eq_false] at h
    exact keyTo_none (fun j hj e => h j (List.mem_range.2 hj) (by simp; omega))
theorem keyTo_out {s : ByteArray} (hl : lettersB s = true) {x : Int} (hx : x < 33 ∨ 126 < x) : keyTo s x s.size = -1 := by
  refine keyTo_none fun j hj e => ?_
  have := letters_all hl j hj
  unfold letOk at this
  rw [decide_eq_true_eq] at this
  omega
theorem wrap32_small {x : Int} (h0 : 33 ≤ x) (h1 : x ≤ 126) : wrap32 x = x := by
  unfold wrap32
  omega

end Go.Proofs.YtdijlofcgcikjaaDoor
