/-
 Slices of strings: a slice that reads as a list of strings, a row of the call's own; the laws' helpers toStringS, eqStringS, szStringS by contract. Conditions: at most 2^20 strings.
-/
import Derived.Test.YtimhnkpccbcohaaGreatDoorZPkA
import Derived.MapKept
import Derived.Lib.SlicesS
namespace Go.Proofs.YtimhnkpccbcohaaGreatDoor
open Go.RowKit
set_option linter.unusedVariables false

theorem str_ne {x y : ByteArray} (h : x ≠ y) : (x == y) = false := by
 rw [Bool.eq_false_iff]; intro e; exact h ((Go.MapKept.bytes_beq x y).1 e)
theorem str_eq (x : ByteArray) : (x == x) = true := (Go.MapKept.bytes_beq x x).2 rfl
/-- The slice with the address A reads as zs. -/
def Strs (w : World) (A : Option Addr) (zs : List ByteArray) : Prop :=
 0 < zs.length → ∃ ad, A = some ad ∧ ∀ j, j < zs.length → w.cell? (ad.add j) = some (.string (zs.getD j ByteArray.empty))

section
variable {w w' : World} {A : Option Addr} {zs : List ByteArray}
theorem Strs.at_ {k : Nat} (h : Strs w A zs) (hk : k < zs.length) : ∃ ad x, A = some ad ∧ Hid (zs[k]? = some x) ∧ w.cell? (ad.add k) = some (.string x) := by
 obtain ⟨ad, e, hc⟩ := h (by omega)
 exact ⟨ad, zs[k], e, List.getElem?_eq_getElem hk, by rw [hc k hk]; simp [List.getD, hk]⟩
theorem Strs.nil (w : World) (A : Option Addr) : Strs w A [] := fun h => absurd h (by simp)
theorem Strs.keep (h : Strs w A zs) (hk : ∀ p : Addr, p.block < w.heap.size → w'.cell? p = w.cell? p) : Strs w' A zs := fun hn => by
 obtain ⟨ad, e, hc⟩ := h hn
 exact ⟨ad, e, fun j hj => (hk _ (World.block_lt_of_cell? _ _ (hc j hj))).trans (hc j hj)⟩
theorem Strs.below (h : Strs w A zs) (hb : Below w.heap.size w w') : Strs w' A zs := h.keep fun _ hp => hb.cell hp
theorem Strs.drew (h : Strs w A zs) : Strs w.drew A zs := h
theorem Strs.drewN (h : Strs w A zs) (k : Nat) : Strs (w.drewN k) A zs := h
end

/-- A row of the call's own, from block B on, that holds zs. -/
def OwnS (w : World) (B : Nat) (v : Value) (zs : List ByteArray) : Prop := w.ownsRow B 9 1 v zs.length (zs.map (Value.string))

theorem OwnS.form {w : World} {B : Nat} {v : Value} {zs : List ByteArray} (h : OwnS w B v zs) : ∃ A c, v = .slice A zs.length c ∧ Strs w A zs ∧ (∀ a, A = some a → ∃ g, a = ⟨g, 0, none⟩ ∧ B ≤ g ∧ g < w.heap.size) ∧ zs.length ≤ c ∧ c ≤ maxLen := by
 have h0 := h
 rcases h.2 with ⟨rfl, hn⟩ | ⟨g, cap, cur, rfl, hg, hh, hcap, hcm, _⟩
 ·refine ⟨none, 0, by rw [hn], ?_, (fun a ha => by cases ha), (by rw [hn]; exact Nat.le_refl _), Nat.zero_le _⟩
  have : zs = [] := List.eq_nil_of_length_eq_zero hn
  subst this
  exact Strs.nil _ _
 ·refine ⟨some ⟨g, 0, none⟩, cap, rfl, fun _ => ⟨_, rfl, fun j hj => ?_⟩, fun a ha => ⟨g, by injection ha with ha; exact ha.symm, hg, (Array.getElem?_eq_some_iff.1 hh).1⟩, hcap, hcm⟩
  refine World.ownsRow.cells h0 (g := g) rfl j _ ?_
  rw [List.getElem?_map, List.getElem?_eq_getElem hj]
  simp [List.getD, hj]

theorem OwnS.below {w w' : World} {B : Nat} {v : Value} {zs : List ByteArray} (h : OwnS w B v zs) (hb : Below w.heap.size w w') : OwnS w' B v zs := by
 refine ⟨h.1, ?_⟩
 rcases h.2 with hn | ⟨g, cap, cur, hv, hg, hh, rest⟩
 ·exact .inl hn
 ·exact .inr ⟨g, cap, cur, hv, hg, (hb.block g (Array.getElem?_eq_some_iff.1 hh).1).trans hh, rest⟩
theorem OwnS.drew {w : World} {B : Nat} {v : Value} {zs : List ByteArray} (h : OwnS w B v zs) : OwnS w.drew B v zs := h
theorem OwnS.drewN {w : World} {B : Nat} {v : Value} {zs : List ByteArray} (h : OwnS w B v zs) (k : Nat) : OwnS (w.drewN k) B v zs := h

theorem stake_at {zs : List ByteArray} {k : Nat} {x : ByteArray} (h : zs[k]? = some x) : zs.take (k + 1) = zs.take k ++ [x] := by
 rw [List.take_add_one, h]; rfl
theorem stake_all {zs : List ByteArray} {n : Nat} (h : zs.length = n) : zs.take n = zs := List.take_of_length_le (by omega)
theorem smem_at {zs : List ByteArray} {k : Nat} {x : ByteArray} (h : zs[k]? = some x) : x ∈ zs := List.mem_of_getElem? h
theorem slt_at {zs : List ByteArray} {k : Nat} {x : ByteArray} (h : zs[k]? = some x) : k < zs.length := (List.getElem?_eq_some_iff.1 h).1
theorem sgetD_at {zs : List ByteArray} {k : Nat} {x : ByteArray} (h : zs[k]? = some x) : zs.getD k ByteArray.empty = x := by simp [List.getD, h]
theorem strInfo : (Tryz.prog.info? 9).map (fun i => (i.zero, i.size, i.bytes)) = some (some (.string ByteArray.empty), 1, 16) := by kernel_rfl

/-- What a copy holds after k rounds. -/
def shalf (zs : List ByteArray) (n k : Nat) : List Value := (zs.take k).map (Value.string) ++ List.replicate (n - k) (.string ByteArray.empty)
theorem shalf_zero (zs : List ByteArray) (n : Nat) : (madeCells (Value.string ByteArray.empty).cells (n * 1)).toList = shalf zs n 0 := by
 rw [show shalf zs n 0 = List.replicate n (.string ByteArray.empty) from by simp [shalf]]
 apply List.ext_getElem
 ·simp [madeCells, Value.cells]
 ·intro i h1 h2
  simp [madeCells, Value.cells, Nat.mod_one]
theorem shalf_set {zs : List ByteArray} {n k : Nat} {x : ByteArray} (hn : zs.length = n) (hx : zs[k]? = some x) : (shalf zs n k).set k (.string x) = shalf zs n (k + 1) := by
 have hk := slt_at hx
 unfold shalf
 rw [stake_at hx, List.set_append, if_neg (by simp; omega)]
 have : n - k = (n - (k + 1)) + 1 := by omega
 rw [this, List.replicate_succ]
 simp [Nat.min_eq_left (Nat.le_of_lt hk)]
theorem shalf_full {zs : List ByteArray} {n : Nat} (hn : zs.length = n) : shalf zs n n = zs.map (Value.string) := by
 simp [shalf, stake_all hn]
theorem shalf_cell (zs : List ByteArray) (n k : Nat) (hn : zs.length = n) (hk : k < n) : ∃ v, (shalf zs n k)[k]? = some v := by
 refine ⟨.string ByteArray.empty, ?_⟩
 unfold shalf
 rw [List.getElem?_append_right (by simp; omega)]
 rw [List.length_map, List.length_take, Nat.min_eq_left (by omega), Nat.sub_self, List.getElem?_replicate, if_pos (by omega)]

set_option maxHeartbeats 400000 in
theorem toStringS_any (A : Option Addr) (n c : Nat) (zs : List ByteArray) (w : World) (hn : zs.length = n) (hm : n ≤ 1048576) (h : Strs w A zs) :
  Calls Tryz.prog 23 #[.slice A n c] w fun e w' => ∃ v, e = .returned v ∧ OwnS w' w.heap.size v zs ∧ Below w.heap.size w w' := by
 have Hn := Lib.hid hn; clear hn
 obtain ⟨i0, hi, hz0, hz1, hz2⟩ := info_parts strInfo
 go_enter Tryz.func23, Tryz.ntmps23
 go_wp2_with (at_make; refine wpList_make_full _ rfl (.tmp 6) (.tmp 6) 51 rfl w.heap.size 9 i0 (.string ByteArray.empty) 1 Tryz.underlying51 hi hz0 hz1 .i64 .i64 (n : Int) (n : Int) n rfl rfl rfl rfl (by rw [hz2]; omega) (by unfold maxLen; omega) (Nat.le_refl _) ?_; intro w1 hown1 hg1; rw [shalf_zero zs] at hown1)
 have hb1 : Below w.heap.size w w1 := (Below.refl _ _).grown hg1 (Nat.le_refl _) (fun k hk => by cases hk)
 clear hg1
 go_loopw [4] (fun i wr => ∃ k : Nat, k ≤ n ∧ i = .int .i64 k ∧ wr.ownsRow w.heap.size 9 1 (.slice (some ⟨w.heap.size, 0, none⟩) n n) n (shalf zs n k) ∧ Below w.heap.size w wr) (fun i _ => n - (intOf i).toNat)
 case atStart => exact ⟨0, Nat.zero_le _, rfl, hown1, hb1⟩
 case round =>
  clear hown1 hb1
  obtain ⟨k, hk, rfl, hown, hb⟩ := hrel
  by_cases hlt : k < n
  ·obtain ⟨ad, x, rfl, hx, hc⟩ := (h.below hb).at_ (k := k) (by rw [Hn.out]; exact hlt)
   obtain ⟨v0, hv0⟩ := shalf_cell zs n k Hn.out hlt
   have hd := (hown.cellAt k (by omega)).trans hv0
   have hf := hown.frozenAt k
   have hst := hown.stored k (.string x)
   rw [shalf_set Hn.out hx.out] at hst
   have HS := Lib.hid hst.1
   have HB := Lib.hid (hb.setCell (p := ⟨w.heap.size, k, none⟩) (Nat.le_refl _) (.string x))
   clear hst hv0 hown hb h
   go_wp2
   go_roundw
   case rel => exact ⟨k + 1, by omega, by go_num, HS.out, HB.out⟩
   case measure => simp [intOf]; omega
  ·have hkn : k = n := by omega
   subst hkn
   go_wp2
   go_ret
   refine ⟨_, rfl, ?_, hb⟩
   unfold OwnS
   rw [Hn.out, ← shalf_full Hn.out]
   exact hown

set_option maxHeartbeats 400000 in
theorem eqStringS_any (A B : Option Addr) (n m c d : Nat) (zs ys : List ByteArray) (w : World) (hn : zs.length = n) (hm : ys.length = m) (hl : n ≤ 1048576) (hl2 : m ≤ maxLen) (h : Strs w A zs) (h2 : Strs w B ys) :
  Calls Tryz.prog 25 #[.slice A n c, .slice B m d] w fun e w' => e = .returned (.bool (decide (zs = ys))) ∧ ∃ k, w' = w.drewN k := by
 unfold maxLen at hl2
 have Hn := Lib.hid hn; have Hm := Lib.hid hm; clear hn hm
 by_cases hnm : n = m
 ·subst hnm
  go_enter Tryz.func25, Tryz.ntmps25
  go_wp2
  go_loopw [5] (fun i wr => ∃ k : Nat, k ≤ n ∧ i = .int .i64 k ∧ (∃ q, wr = w.drewN q) ∧ zs.take k = ys.take k) (fun i _ => n - (intOf i).toNat)
  case atStart => exact ⟨0, Nat.zero_le _, rfl, ⟨0, rfl⟩, rfl⟩
  case round =>
   obtain ⟨k, hk, rfl, ⟨q, rfl⟩, ht⟩ := hrel
   have Ht := Lib.hid ht; clear ht
   by_cases hlt : k < n
   ·obtain ⟨ad, x, rfl, hx, hc⟩ := h.at_ (k := k) (by rw [Hn.out]; exact hlt)
    obtain ⟨bd, y, rfl, hy, hd⟩ := h2.at_ (k := k) (by rw [Hm.out]; exact hlt)
    by_cases hxy : x = y
    ·subst hxy
     have HT : Hid (zs.take (k + 1) = ys.take (k + 1)) := by
      show _ = _
      rw [stake_at hx.out, stake_at hy.out, Ht.out]
     go_wp2
     go_quiet (fail)
     go_wp2
     go_roundw
     case rel => exact ⟨k + 1, by omega, by go_num, ⟨_, rfl⟩, HT.out⟩
     case measure => simp [intOf]; omega
    ·have HN : Hid (zs ≠ ys) := fun e => hxy (by have := hx.out; rw [e, hy.out] at this; injection this with this; exact this.symm)
     have hb : (x == y) = false := str_ne hxy
     have hb' : (x != y) = true := by show (!(x == y)) = true; rw [str_ne hxy]; rfl
     have hb2 := (Lib.bytes_beq_false_iff x y).2 hxy
     have hb3 : (x.toList != y.toList) = true := by show (!(x.toList == y.toList)) = true; rw [hb2]; rfl
     clear hxy
     go_wp2
     go_quiet (fail)
     go_wp2
     go_ret
     exact ⟨ret_bool (by simpa using HN.out), ⟨_, World.drewN_drewN _ _ _⟩⟩
   ·have hkn : k = n := by omega
    subst hkn
    go_wp2
    go_ret
    have := Ht.out
    rw [stake_all Hn.out, stake_all Hm.out] at this
    exact ⟨ret_bool (by simpa using this), ⟨q, rfl⟩⟩
 ·have HN : Hid (zs ≠ ys) := fun e => hnm (by rw [← Hn.out, ← Hm.out, e])
  have hb' : ((n : Int) != (m : Int)) = true := by rw [bne_iff_ne]; omega
  go_enter Tryz.func25, Tryz.ntmps25
  go_wp2
  go_ret
  exact ⟨ret_bool (by simpa using HN.out), ⟨0, rfl⟩⟩

theorem Strs.of_row {w : World} {x : Addr} {zs : List ByteArray} {n : Nat} (hn : n ≤ zs.length) (hc : ∀ i, i < zs.length → w.cell? (x.add i) = some (.string (zs.getD i ByteArray.empty))) : Strs w (some x) (zs.take n) := by
 intro _
 refine ⟨x, rfl, fun j hj => ?_⟩
 rw [List.length_take] at hj
 rw [hc j (by omega)]
 simp only [List.getD, List.getElem?_take]
 rw [if_pos (by omega)]

theorem toStringS_call (A : Option Addr) (n c : Nat) (zs : List ByteArray) (w : World) (hn : zs.length = n) (hm : n ≤ 1048576) (h : Strs w A zs) :
  Calls Tryz.prog 23 #[.slice A n c] w fun e w' => ∃ A' c', e = .returned (.slice A' n c') ∧ Strs w' A' zs ∧ OwnS w' w.heap.size (.slice A' n c') zs ∧ Below w.heap.size w w' ∧ n ≤ c' ∧ c' ≤ maxLen := by
 refine (toStringS_any A n c zs w hn hm h).mono ?_
 rintro e w' ⟨v, rfl, hO, hb⟩
 obtain ⟨A', c', rfl, hI, _, hc1, hc2⟩ := hO.form
 rw [hn] at hO hc1
 exact ⟨A', c', by rw [hn], hI, hO, hb, hc1, hc2⟩

theorem eqStringS_same (A B : Option Addr) (n c d : Nat) (zs : List ByteArray) (w : World) (hn : zs.length = n) (hl : n ≤ 1048576) (h : Strs w A zs) (h2 : Strs w B zs) :
  Calls Tryz.prog 25 #[.slice A n c, .slice B n d] w fun e w' => e = .returned (.bool true) ∧ ∃ k, w' = w.drewN k := by
 refine (eqStringS_any A B n n c d zs zs w hn hn hl (by unfold maxLen; omega) h h2).mono ?_
 rintro e w' ⟨rfl, hw⟩
 exact ⟨by simp, hw⟩
theorem eqStringS_t (A B : Option Addr) (n c d : Nat) (zs : List ByteArray) (w : World) (hn : zs.length = n) (hl : n ≤ 1048576) (h : Strs w A zs) (h2 : Strs w B zs) :
  Calls Tryz.prog 25 #[.slice A n c, .slice B n d] w fun e w' => e = .returned (.bool true) ∧ Below w.heap.size w w' := by
 refine (eqStringS_same A B n c d zs w hn hl h h2).mono ?_
 rintro e w' ⟨rfl, q, rfl⟩
 exact ⟨rfl, below_drewN (Below.refl _ _) _⟩

end Go.Proofs.YtimhnkpccbcohaaGreatDoor
