/-
 Contracts and plain mathematics (Base, Kit, Keep, MemI), each with its conditions in its own statement.
-/
import Derived.Test.YtimhnkpccbcohaaGreatDoorRows
import Derived.WalkKit
import Derived.WalkSpells
import Derived.BigQuiet
import Derived.Deep.QuietTactic
import Derived.Deep.Draws
import Derived.Lib.Hide
import Derived.Deep.RegionHeld3
import Derived.Outline
import Derived.Laws.CopyOwn
namespace Go.Proofs.YtimhnkpccbcohaaGreatDoor
open Go.RowKit

theorem ret_int {k : IntKind} {a b : Int} (h : a = b) : Ending.returned (.int k a) = .returned (.int k b) := by rw [h]
theorem ret_bool {a b : Bool} (h : a = b) : Ending.returned (.bool a) = .returned (.bool b) := by rw [h]
theorem below_drewN {B : Nat} {a w : World} (h : Below B a w) (n : Nat) : Below B a (w.drewN n) := ⟨h.os, h.tape, h.output, h.size, h.block⟩
theorem block_add (a : Addr) (n : Nat) : (a.add n).block = a.block := by unfold Addr.add; split <;> rfl
theorem add_zero_at (g j : Nat) : (⟨g, 0, none⟩ : Addr).add j = ⟨g, j, none⟩ := by unfold Addr.add; split <;> simp_all

/-- The slice with the address A reads as zs. -/
def Ints (w : World) (A : Option Addr) (zs : List Int) : Prop :=
 0 < zs.length → ∃ ad, A = some ad ∧ ∀ j, j < zs.length → w.cell? (ad.add j) = some (.int .i64 (zs.getD j 0))

section
variable {w w' : World} {A : Option Addr} {zs : List Int}
theorem Ints.at_ {k : Nat} (h : Ints w A zs) (hk : k < zs.length) : ∃ ad x, A = some ad ∧ Hid (zs[k]? = some x) ∧ w.cell? (ad.add k) = some (.int .i64 x) := by
 obtain ⟨ad, e, hc⟩ := h (by omega)
 exact ⟨ad, zs[k], e, List.getElem?_eq_getElem hk, by rw [hc k hk]; simp [List.getD, hk]⟩
theorem Ints.nil (w : World) (A : Option Addr) : Ints w A [] := fun h => absurd h (by simp)
theorem Ints.keep (h : Ints w A zs) (hk : ∀ p : Addr, p.block < w.heap.size → w'.cell? p = w.cell? p) : Ints w' A zs := fun hn => by
 obtain ⟨ad, e, hc⟩ := h hn
 exact ⟨ad, e, fun j hj => (hk _ (World.block_lt_of_cell? _ _ (hc j hj))).trans (hc j hj)⟩
theorem Ints.below (h : Ints w A zs) (hb : Below w.heap.size w w') : Ints w' A zs := h.keep fun _ hp => hb.cell hp
theorem Ints.drew (h : Ints w A zs) : Ints w.drew A zs := h
theorem Ints.drewN (h : Ints w A zs) (k : Nat) : Ints (w.drewN k) A zs := h
end

/-- A row of the call's own, from block B on, that holds zs. -/
def Own (w : World) (B : Nat) (v : Value) (zs : List Int) : Prop := w.ownsRow B 3 1 v zs.length (zs.map (Value.int .i64))

theorem Own.form {w : World} {B : Nat} {v : Value} {zs : List Int} (h : Own w B v zs) : ∃ A c, v = .slice A zs.length c ∧ Ints w A zs ∧ (∀ a, A = some a → ∃ g, a = ⟨g, 0, none⟩ ∧ B ≤ g ∧ g < w.heap.size) ∧ zs.length ≤ c ∧ c ≤ maxLen := by
 have h0 := h
 rcases h.2 with ⟨rfl, hn⟩ | ⟨g, cap, cur, rfl, hg, hh, hcap, hcm, _⟩
 ·refine ⟨none, 0, by rw [hn], ?_, (fun a ha => by cases ha), (by rw [hn]; exact Nat.le_refl _), Nat.zero_le _⟩
  have : zs = [] := List.eq_nil_of_length_eq_zero hn
  subst this
  exact Ints.nil _ _
 ·refine ⟨some ⟨g, 0, none⟩, cap, rfl, fun _ => ⟨_, rfl, fun j hj => ?_⟩, fun a ha => ⟨g, by injection ha with ha; exact ha.symm, hg, (Array.getElem?_eq_some_iff.1 hh).1⟩, hcap, hcm⟩
  refine World.ownsRow.cells h0 (g := g) rfl j _ ?_
  rw [List.getElem?_map, List.getElem?_eq_getElem hj]
  simp [List.getD, hj]

theorem Own.below {w w' : World} {B : Nat} {v : Value} {zs : List Int} (h : Own w B v zs) (hb : Below w.heap.size w w') : Own w' B v zs := by
 refine ⟨h.1, ?_⟩
 rcases h.2 with hn | ⟨g, cap, cur, hv, hg, hh, rest⟩
 ·exact .inl hn
 ·exact .inr ⟨g, cap, cur, hv, hg, (hb.block g (Array.getElem?_eq_some_iff.1 hh).1).trans hh, rest⟩
theorem Own.drew {w : World} {B : Nat} {v : Value} {zs : List Int} (h : Own w B v zs) : Own w.drew B v zs := h
theorem Own.drewN {w : World} {B : Nat} {v : Value} {zs : List Int} (h : Own w B v zs) (k : Nat) : Own (w.drewN k) B v zs := h

theorem take_at {zs : List Int} {k : Nat} {x : Int} (h : zs[k]? = some x) : zs.take (k + 1) = zs.take k ++ [x] := by
 rw [List.take_add_one, h]; rfl
theorem take_all {zs : List Int} {n : Nat} (h : zs.length = n) : zs.take n = zs := List.take_of_length_le (by omega)
theorem mem_at {zs : List Int} {k : Nat} {x : Int} (h : zs[k]? = some x) : x ∈ zs := List.mem_of_getElem? h
theorem lt_at {zs : List Int} {k : Nat} {x : Int} (h : zs[k]? = some x) : k < zs.length := (List.getElem?_eq_some_iff.1 h).1
theorem getD_at {zs : List Int} {k : Nat} {x : Int} (h : zs[k]? = some x) : zs.getD k 0 = x := by simp [List.getD, h]
end Go.Proofs.YtimhnkpccbcohaaGreatDoor

namespace Go.Proofs.YtimhnkpccbcohaaGreatDoor
open Go.RowKit

theorem intInfo : (Tryz.prog.info? 3).map (fun i => (i.zero, i.size, i.bytes)) = some (some (.int .i64 0), 1, 8) := by kernel_rfl

/-- What a copy holds after k rounds. -/
def half (zs : List Int) (n k : Nat) : List Value := (zs.take k).map (Value.int .i64) ++ List.replicate (n - k) (.int .i64 0)
theorem half_zero (zs : List Int) (n : Nat) : (madeCells (Value.int .i64 0).cells (n * 1)).toList = half zs n 0 := by
 rw [show half zs n 0 = List.replicate n (.int .i64 0) from by simp [half]]
 apply List.ext_getElem
 ·simp [madeCells, Value.cells]
 ·intro i h1 h2
  simp [madeCells, Value.cells, Nat.mod_one]
theorem half_set {zs : List Int} {n k : Nat} {x : Int} (hn : zs.length = n) (hx : zs[k]? = some x) : (half zs n k).set k (.int .i64 x) = half zs n (k + 1) := by
 have hk := lt_at hx
 unfold half
 rw [take_at hx, List.set_append, if_neg (by simp; omega)]
 have : n - k = (n - (k + 1)) + 1 := by omega
 rw [this, List.replicate_succ]
 simp [Nat.min_eq_left (Nat.le_of_lt hk)]
theorem half_full {zs : List Int} {n : Nat} (hn : zs.length = n) : half zs n n = zs.map (Value.int .i64) := by
 simp [half, take_all hn]
theorem half_cell (zs : List Int) (n k : Nat) (hn : zs.length = n) (hk : k < n) : ∃ v, (half zs n k)[k]? = some v := by
 refine ⟨.int .i64 0, ?_⟩
 unfold half
 rw [List.getElem?_append_right (by simp; omega)]
 rw [List.length_map, List.length_take, Nat.min_eq_left (by omega), Nat.sub_self, List.getElem?_replicate, if_pos (by omega)]

set_option maxHeartbeats 400000 in
theorem toIntS_any (A : Option Addr) (n c : Nat) (zs : List Int) (w : World) (hn : zs.length = n) (hm : n ≤ 1048576) (h : Ints w A zs) :
  Calls Tryz.prog 70 #[.slice A n c] w fun e w' => ∃ v, e = .returned v ∧ Own w' w.heap.size v zs ∧ Below w.heap.size w w' := by
 have Hn := Lib.hid hn; clear hn
 obtain ⟨i0, hi, hz0, hz1, hz2⟩ := info_parts intInfo
 go_enter Tryz.func70, Tryz.ntmps70
 go_wp2_with (at_make; refine wpList_make_full _ rfl (.tmp 6) (.tmp 6) 22 rfl w.heap.size 3 i0 (.int .i64 0) 1 Tryz.underlying22 hi hz0 hz1 .i64 .i64 (n : Int) (n : Int) n rfl rfl rfl rfl (by rw [hz2]; omega) (by unfold maxLen; omega) (Nat.le_refl _) ?_; intro w1 hown1 hg1; rw [half_zero zs] at hown1)
 have hb1 : Below w.heap.size w w1 := (Below.refl _ _).grown hg1 (Nat.le_refl _) (fun k hk => by cases hk)
 clear hg1
 go_loopw [4] (fun i wr => ∃ k : Nat, k ≤ n ∧ i = .int .i64 k ∧ wr.ownsRow w.heap.size 3 1 (.slice (some ⟨w.heap.size, 0, none⟩) n n) n (half zs n k) ∧ Below w.heap.size w wr) (fun i _ => n - (intOf i).toNat)
 case atStart => exact ⟨0, Nat.zero_le _, rfl, hown1, hb1⟩
 case round =>
  clear hown1 hb1
  obtain ⟨k, hk, rfl, hown, hb⟩ := hrel
  by_cases hlt : k < n
  ·obtain ⟨ad, x, rfl, hx, hc⟩ := (h.below hb).at_ (k := k) (by rw [Hn.out]; exact hlt)
   obtain ⟨v0, hv0⟩ := half_cell zs n k Hn.out hlt
   have hd := (hown.cellAt k (by omega)).trans hv0
   have hf := hown.frozenAt k
   have hst := hown.stored k (.int .i64 x)
   rw [half_set Hn.out hx.out] at hst
   have HS := Lib.hid hst.1
   have HB := Lib.hid (hb.setCell (p := ⟨w.heap.size, k, none⟩) (Nat.le_refl _) (.int .i64 x))
   clear hst hv0 hown hb h
   go_wp2
   go_roundw
   case rel => exact ⟨k + 1, by omega, by go_num, HS.out, HB.out⟩
   case measure => simp [intOf]; omega
  ·have hkn : k = n := by omega
   subst hkn
   go_wp2
   go_ret
   refine ⟨_, rfl, ?_, hb⟩
   unfold Own
   rw [Hn.out, ← half_full Hn.out]
   exact hown

set_option maxHeartbeats 400000 in
theorem eqIntS_any (A B : Option Addr) (n m c d : Nat) (zs ys : List Int) (w : World) (hn : zs.length = n) (hm : ys.length = m) (hl : n ≤ 1048576) (hl2 : m ≤ maxLen) (h : Ints w A zs) (h2 : Ints w B ys) :
  Calls Tryz.prog 16 #[.slice A n c, .slice B m d] w fun e w' => e = .returned (.bool (decide (zs = ys))) ∧ ∃ k, w' = w.drewN k := by
 unfold maxLen at hl2
 have Hn := Lib.hid hn; have Hm := Lib.hid hm; clear hn hm
 by_cases hnm : n = m
 ·subst hnm
  go_enter Tryz.func16, Tryz.ntmps16
  go_wp2
  go_loopw [5] (fun i wr => ∃ k : Nat, k ≤ n ∧ i = .int .i64 k ∧ (∃ q, wr = w.drewN q) ∧ zs.take k = ys.take k) (fun i _ => n - (intOf i).toNat)
  case atStart => exact ⟨0, Nat.zero_le _, rfl, ⟨0, rfl⟩, rfl⟩
  case round =>
   obtain ⟨k, hk, rfl, ⟨q, rfl⟩, ht⟩ := hrel
   have Ht := Lib.hid ht; clear ht
   by_cases hlt : k < n
   ·obtain ⟨ad, x, rfl, hx, hc⟩ := h.at_ (k := k) (by rw [Hn.out]; exact hlt)
    obtain ⟨bd, y, rfl, hy, hd⟩ := h2.at_ (k := k) (by rw [Hm.out]; exact hlt)
    by_cases hxy : x = y
    ·subst hxy
     have HT : Hid (zs.take (k + 1) = ys.take (k + 1)) := by
      show _ = _
      rw [take_at hx.out, take_at hy.out, Ht.out]
     go_wp2
     go_quiet (fail)
     go_wp2
     go_roundw
     case rel => exact ⟨k + 1, by omega, by go_num, ⟨_, rfl⟩, HT.out⟩
     case measure => simp [intOf]; omega
    ·have HN : Hid (zs ≠ ys) := fun e => hxy (by have := hx.out; rw [e, hy.out] at this; injection this with this; exact this.symm)
     have hb : (x == y) = false := by simpa using hxy
     have hb' : (x != y) = true := by simpa using hxy
     clear hxy
     go_wp2
     go_quiet (fail)
     go_wp2
     go_ret
     exact ⟨ret_bool (by simpa using HN.out), ⟨_, World.drewN_drewN _ _ _⟩⟩
   ·have hkn : k = n := by omega
    subst hkn
    go_wp2
    go_ret
    have := Ht.out
    rw [take_all Hn.out, take_all Hm.out] at this
    exact ⟨ret_bool (by simpa using this), ⟨q, rfl⟩⟩
 ·have HN : Hid (zs ≠ ys) := fun e => hnm (by rw [← Hn.out, ← Hm.out, e])
  have hb' : ((n : Int) != (m : Int)) = true := by rw [bne_iff_ne]; omega
  go_enter Tryz.func16, Tryz.ntmps16
  go_wp2
  go_ret
  exact ⟨ret_bool (by simpa using HN.out), ⟨0, rfl⟩⟩

/-- k, k + 1, .. (n numbers) -/
def upFrom (k : Int) (n : Nat) : List Int := (List.range n).map (fun (i : Nat) => k + (i : Int))
theorem upFrom_len (k : Int) (n : Nat) : (upFrom k n).length = n := by simp [upFrom]
theorem upFrom_get (k : Int) (n i : Nat) (h : i < n) : (upFrom k n)[i]? = some (k + (i : Int)) := by simp [upFrom, h]

/-- What a marked row holds after j rounds. -/
def marked (zs : List Int) (k : Int) (j : Nat) : List Int := upFrom k j ++ zs.drop j
theorem marked_set {zs : List Int} {k : Int} {j : Nat} (h : j < zs.length) : (marked zs k j).set j (k + (j : Int)) = marked zs k (j + 1) := by
 unfold marked
 rw [List.set_append, if_neg (by simp [upFrom_len]), upFrom_len, Nat.sub_self]
 have : zs.drop j = zs[j] :: zs.drop (j + 1) := List.drop_eq_getElem_cons h
 rw [this, List.set_cons_zero]
 simp [upFrom, List.range_succ]
theorem marked_len (zs : List Int) (k : Int) (j : Nat) (h : j ≤ zs.length) : (marked zs k j).length = zs.length := by
 simp [marked, upFrom_len]; omega
theorem marked_full (zs : List Int) (k : Int) : marked zs k zs.length = upFrom k zs.length := by simp [marked]

theorem grown_set {a w : World} {g : Nat} (h : a.grownBy w (some g)) (i : Nat) (u : Value) : a.grownBy (w.setCell ⟨g, i, none⟩ u) (some g) :=
 ⟨h.os, h.tape, h.output, by simpa [World.setCell] using h.size, fun j hj hne => (Below.heap_setCell w ⟨g, i, none⟩ u j (by rintro rfl; exact hne rfl)).trans (h.block j hj hne)⟩

set_option maxHeartbeats 400000 in
/-- markIntS writes k, k + 1, .. into a row of the call's own, and returns the number behind the last. -/
theorem markIntS_any (B : Nat) (v : Value) (k : Int) (zs : List Int) (w : World) (hk0 : 0 ≤ k) (hk1 : k ≤ 4194304) (hl : zs.length ≤ 1048576) (h : Own w B v zs) :
  Calls Tryz.prog 17 #[v, .int .i64 k] w fun e w' => e = .returned (.int .i64 (k + zs.length)) ∧ Own w' B v (upFrom k zs.length) ∧ w.grownBy w' v.ownBlock := by
 rcases h.2 with ⟨rfl, hn⟩ | ⟨g, cap, cur, rfl, hg, hh, hrest⟩
 ·have hz : zs = [] := List.eq_nil_of_length_eq_zero hn
  subst hz
  go_enter Tryz.func17, Tryz.ntmps17
  go_wp2
  refine wp_loop_rounds 1 ?_
  rw [rounds_succ]
  go_wp2
  go_ret
  exact ⟨ret_int (by simp), h, World.grownBy.refl w _⟩
 ·obtain ⟨n, hn⟩ : ∃ n, zs.length = n := ⟨_, rfl⟩
  have hO := h
  unfold Own at hO
  rw [hn] at hO hl ⊢
  have Hn := Lib.hid hn
  have HO := Lib.hid hO
  clear hn hO h hh hrest cur hg
  go_enter Tryz.func17, Tryz.ntmps17
  go_wp2
  go_loopw [1, 5] (fun q i wr => ∃ j : Nat, j ≤ n ∧ i = .int .i64 j ∧ q = .int .i64 (k + j) ∧ wr.ownsRow B 3 1 (.slice (some ⟨g, 0, none⟩) n cap) n ((marked zs k j).map (Value.int .i64)) ∧ w.grownBy wr (some g)) (fun _ i _ => n - (intOf i).toNat)
  case atStart => exact ⟨0, Nat.zero_le _, rfl, by simp, by have := HO.out; simpa [marked, upFrom] using this, World.grownBy.refl w _⟩
  case round =>
   obtain ⟨j, hj, rfl, rfl, hown, hgr⟩ := hrel
   by_cases hlt : j < n
   ·have hlz : j < zs.length := by rw [Hn.out]; exact hlt
    obtain ⟨v0, hv0⟩ : ∃ v0, ((marked zs k j).map (Value.int .i64))[j]? = some v0 := ⟨_, List.getElem?_eq_getElem (by rw [List.length_map, marked_len _ _ _ (by omega)]; exact hlz)⟩
    have hd := (hown.cellAt j (by omega)).trans hv0
    have hf := hown.frozenAt j
    have hst := hown.stored j (.int .i64 (k + (j : Int)))
    rw [← List.map_set, marked_set hlz] at hst
    have HS := Lib.hid hst.1
    have HG := Lib.hid (grown_set hgr j (.int .i64 (k + (j : Int))))
    clear hst hv0 hown hgr hlz
    go_wp2
    go_roundw
    case rel => exact ⟨j + 1, by omega, by go_num, by go_num, HS.out, HG.out⟩
    case measure => simp [intOf]; omega
   ·have hjn : j = n := by omega
    subst hjn
    go_wp2
    go_ret
    refine ⟨rfl, ?_, hgr⟩
    unfold Own
    rw [upFrom_len, ← Hn.out, ← marked_full, Hn.out]
    exact hown

set_option maxHeartbeats 400000 in
/-- heldIntS at a row that holds k, k + 1, .. -/
theorem heldIntS_any (A : Option Addr) (n c : Nat) (k : Int) (w : World) (hk0 : 0 ≤ k) (hk1 : k ≤ 1048576) (hl : n ≤ 1048576) (h : Ints w A (upFrom k n)) :
  Calls Tryz.prog 18 #[.slice A n c, .int .i64 k] w fun e w' => e = .returned (.int .i64 (k + n)) ∧ w = w' := by
 go_enter Tryz.func18, Tryz.ntmps18
 go_wp2
 go_loop [1, 5] (fun q i => ∃ j : Nat, j ≤ n ∧ i = .int .i64 j ∧ q = .int .i64 (k + j)) (fun _ i => n - (intOf i).toNat)
 case atStart => exact ⟨0, Nat.zero_le _, rfl, by simp⟩
 case round =>
  obtain ⟨j, hj, rfl, rfl⟩ := hrel
  by_cases hlt : j < n
  ·obtain ⟨ad, x, rfl, hx, hc⟩ := h.at_ (k := j) (by rw [upFrom_len]; exact hlt)
   have hxe : k + (j : Int) = x := by have := hx.out; rw [upFrom_get _ _ _ hlt] at this; injection this
   subst hxe
   clear h
   go_wp2
   go_round
   case rel => exact ⟨j + 1, by omega, by go_num, by go_num⟩
   case measure => simp [intOf]; omega
  ·have hjn : j = n := by omega
   subst hjn
   go_wp2
   go_ret
   exact ⟨rfl, rfl⟩

theorem Ints.of_row {w : World} {x : Addr} {zs : List Int} {n : Nat} (hn : n ≤ zs.length) (hc : ∀ i, i < zs.length → w.cell? (x.add i) = some (.int .i64 (zs.getD i 0))) : Ints w (some x) (zs.take n) := by
 intro _
 refine ⟨x, rfl, fun j hj => ?_⟩
 rw [List.length_take] at hj
 rw [hc j (by omega)]
 simp only [List.getD, List.getElem?_take]
 rw [if_pos (by omega)]

theorem toIntS_call (A : Option Addr) (n c : Nat) (zs : List Int) (w : World) (hn : zs.length = n) (hm : n ≤ 1048576) (h : Ints w A zs) :
  Calls Tryz.prog 70 #[.slice A n c] w fun e w' => ∃ A' c', e = .returned (.slice A' n c') ∧ Ints w' A' zs ∧ Own w' w.heap.size (.slice A' n c') zs ∧ Below w.heap.size w w' ∧ n ≤ c' ∧ c' ≤ maxLen := by
 refine (toIntS_any A n c zs w hn hm h).mono ?_
 rintro e w' ⟨v, rfl, hO, hb⟩
 obtain ⟨A', c', rfl, hI, _, hc1, hc2⟩ := hO.form
 rw [hn] at hO hc1
 exact ⟨A', c', by rw [hn], hI, hO, hb, hc1, hc2⟩

theorem eqIntS_same (A B : Option Addr) (n c d : Nat) (zs : List Int) (w : World) (hn : zs.length = n) (hl : n ≤ 1048576) (h : Ints w A zs) (h2 : Ints w B zs) :
  Calls Tryz.prog 16 #[.slice A n c, .slice B n d] w fun e w' => e = .returned (.bool true) ∧ ∃ k, w' = w.drewN k := by
 refine (eqIntS_any A B n n c d zs zs w hn hn hl (by unfold maxLen; omega) h h2).mono ?_
 rintro e w' ⟨rfl, hw⟩
 exact ⟨by simp, hw⟩
end Go.Proofs.YtimhnkpccbcohaaGreatDoor

namespace Go.Proofs.YtimhnkpccbcohaaGreatDoor
open Go.RowKit
set_option linter.unusedVariables false

/-- as 'Ints', and what is read lies below block b -/
def IntsB (w : World) (b : Nat) (A : Option Addr) (zs : List Int) : Prop :=
 0 < zs.length → ∃ ad, A = some ad ∧ ad.block < b ∧ ∀ j, j < zs.length → w.cell? (ad.add j) = some (.int .i64 (zs.getD j 0))
theorem IntsB.of {w : World} {A : Option Addr} {zs : List Int} (h : Ints w A zs) : IntsB w w.heap.size A zs := fun hn => by
 obtain ⟨ad, e, hc⟩ := h hn
 exact ⟨ad, e, by have := World.block_lt_of_cell? _ _ (hc 0 hn); rwa [block_add] at this, hc⟩
theorem IntsB.ints {w : World} {b : Nat} {A : Option Addr} {zs : List Int} (h : IntsB w b A zs) : Ints w A zs := fun hn => by
 obtain ⟨ad, e, _, hc⟩ := h hn
 exact ⟨ad, e, hc⟩
theorem IntsB.keep {w w' : World} {b B : Nat} {A : Option Addr} {zs : List Int} (h : IntsB w b A zs) (hb : b ≤ B) (hB : Below B w w') : IntsB w' b A zs := fun hn => by
 obtain ⟨ad, e, hl, hc⟩ := h hn
 exact ⟨ad, e, hl, fun j hj => (hB.cell (p := ad.add j) (by rw [block_add]; omega)).trans (hc j hj)⟩
end Go.Proofs.YtimhnkpccbcohaaGreatDoor

namespace Go.Proofs.YtimhnkpccbcohaaGreatDoor
open Go.RowKit
set_option linter.unusedVariables false

theorem made_rep (z : Value) (hz : z.cells = #[z]) (n : Nat) : (madeCells z.cells (n * 1)).toList = List.replicate n z := by
 rw [hz]
 apply List.ext_getElem
 ·simp [madeCells]
 ·intro i h1 h2
  simp [madeCells, Nat.mod_one]

section
variable {ops : Array Oper} {rest : List Oper} {o : Oper} {a : Act} {Q : Exit → Act → World → Prop}

/-- make([]int, n) -/
theorem wpl_make_int (w : World) (hg : o.guard = none) (l : Operand) (hop : o.op = Op.makeSlice 22 l l) (n : Nat) (L : Int) (hl : a.eval l = .int .i64 L) (hL : L = (n : Int)) (hn : n ≤ 2097152)
  (hK : ∀ w', w'.ownsRow w.heap.size 3 1 (.slice (some ⟨w.heap.size, 0, none⟩) n n) n (List.replicate n (.int .i64 0)) → Below w.heap.size w w' → wpList Tryz.prog ops Q rest (a.put o.dst (.slice (some ⟨w.heap.size, 0, none⟩) n n)) w') :
  wpList Tryz.prog ops Q (o :: rest) a w := by
 obtain ⟨i0, hi, hz0, hz1, hz2⟩ := info_parts intInfo
 refine wpList_make_full w hg l l 22 hop w.heap.size 3 i0 (.int .i64 0) 1 Tryz.underlying22 hi hz0 hz1 .i64 .i64 L L n hl hl hL hL (by rw [hz2]; omega) (by unfold maxLen; omega) (Nat.le_refl _) ?_
 intro w' h1 h2
 rw [made_rep _ rfl] at h1
 exact hK w' h1 ((Below.refl _ _).grown h2 (Nat.le_refl _) (fun k hk => by cases hk))

/-- append(s, q) onto a row of the call's own: what lies below the row's base B stays -/
theorem wpl_push (w : World) (hg : o.guard = none) (s x : Operand) (ho : o.op = .call { callee := .builtin .append, args := #[s, x], argTypes := #[22, 22] })
  (B : Nat) (v : Value) (zs : List Int) (q : Int) (hs : a.eval s = v) (hx : a.eval x = .slice (some ⟨w.heap.size, 0, none⟩) 1 1) (hown : Own w B v zs) (hB : B ≤ w.heap.size) (hlen : zs.length ≤ 1048576)
  (hK : ∀ v' w', Own w' B v' (zs ++ [q]) → Below B w w' → wpList Tryz.prog ops Q rest (a.put o.dst v') w') :
  wpList Tryz.prog ops Q (o :: rest) a (w.alloc (.cells #[.int .i64 q] 3)) := by
 obtain ⟨i0, hi, hz0, hz1, hz2⟩ := info_parts intInfo
 refine wpList_append_own _ hg s x 22 ho B 3 i0 (.int .i64 0) 1 8 Tryz.underlying22 hi hz0 hz1 hz2 rfl (by decide) v zs.length (zs.map (Value.int .i64)) hs (World.ownsRow.alloc hown _) ⟨w.heap.size, 0, none⟩ 1 1 [.int .i64 q] hx rfl ?_ ?_ (by unfold maxLen; omega) (by omega) (by simp; omega) ?_
 ·intro j u hj
  match j, hj with
  | 0, hj =>
   simp at hj; subst hj
   rw [add_zero_at, World.cell?_alloc_at _ _ _ _ rfl]
   rfl
 ·intro u hu; simp at hu; subst hu; rfl
 ·intro v' w' h1 h2 _
  refine hK v' w' ?_ ?_
  ·unfold Own
   rw [List.map_append, List.length_append]
   exact h1
  ·refine (((Below.refl B w).alloc hB (.cells #[.int .i64 q] 3))).trans ?_
   exact (Below.refl B _).grown h2 (by simp; omega) (fun k hk => (World.ownsRow.lt hown k hk).1)

end
theorem row_below {w w' : World} {B : Nat} {T : TypeId} {v : Value} {n : Nat} {xs : List Value} {b : Nat} (h : w.ownsRow B T 1 v n xs) (hv : ∀ k, v.ownBlock = some k → k < b) (hb : Below b w w') : w'.ownsRow B T 1 v n xs := by
 refine ⟨h.1, ?_⟩
 rcases h.2 with hn | ⟨g, cap, cur, rfl, hg, hh, rest⟩
 ·exact .inl hn
 ·exact .inr ⟨g, cap, cur, rfl, hg, (hb.block g (hv g rfl)).trans hh, rest⟩

end Go.Proofs.YtimhnkpccbcohaaGreatDoor
