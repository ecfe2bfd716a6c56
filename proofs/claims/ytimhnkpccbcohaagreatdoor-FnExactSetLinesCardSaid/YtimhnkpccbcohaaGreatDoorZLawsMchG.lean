/-
 Contracts and plain mathematics (MarkT, StrK, LawsMch), each with its conditions in its own statement.
-/
import Derived.Test.YtimhnkpccbcohaaGreatDoorZStrP
import Derived.Laws.BytesArg
import Derived.Outline
import Derived.Test.YtimhnkpccbcohaaGreatDoorZStr
import Derived.Test.YtimhnkpccbcohaaGreatDoorZPkB
import Derived.Test.YtimhnkpccbcohaaGreatDoorZPkG
import Derived.Test.YtimhnkpccbcohaaGreatDoorZPkE
namespace Go.Proofs.YtimhnkpccbcohaaGreatDoor
open Go.RowKit
set_option linter.unusedVariables false

/-- the digits of j ahead of o, at most f of them -/
def digs : Nat → Nat → ByteArray → ByteArray
 | 0, _, o => o
 | f + 1, j, o => if j = 0 then o else digs f (j / 10) (strOfNums [((48 + j % 10 : Nat) : Int)] ++ o)
def markT (k : Nat) : ByteArray := (⟨#[109]⟩ : ByteArray) ++ digs 10 k ByteArray.empty
theorem digs_zero (f : Nat) (o : ByteArray) : digs f 0 o = o := by cases f <;> simp [digs]
set_option maxRecDepth 100000 in
set_option maxHeartbeats 1600000 in
theorem markText_any (k : Nat) (w : World) (h0 : 1 ≤ k) (h1 : k ≤ 4194304) : Calls Tryz.prog 61 #[.int .i64 (k : Int)] w fun e w' => e = .returned (.string (markT k)) ∧ Below w.heap.size w w' := by
 go_enter Tryz.func61, Tryz.ntmps61
 go_wp2
 go_loopw [0, 3] (fun u v wr => ∃ (j f : Nat) (o : ByteArray), u = .int .i64 j ∧ v = .string o ∧ j < 10 ^ f ∧ j ≤ 4194304 ∧ f + o.size ≤ 10 ∧ digs f j o = digs 10 k ByteArray.empty ∧ Below w.heap.size w wr) (fun u _ _ => (intOf u).toNat)
 case atStart => exact ⟨k, 10, ByteArray.empty, rfl, rfl, by omega, h1, by simp, rfl, Below.refl _ _⟩
 case round =>
  obtain ⟨j, f, o, rfl, rfl, hjf, hj, hfo, hd, hb⟩ := hrel
  have HD := Lib.hid hd; have HB := Lib.hid hb; have HJF := Lib.hid hjf
  have hsz := hb.size
  clear hd hb hjf
  by_cases hp : 0 < j
  ·obtain ⟨f', rfl⟩ : ∃ f', f = f' + 1 := by
    cases f with
    | zero => have := HJF.out; omega
    | succ f' => exact ⟨f', rfl⟩
   obtain ⟨r, hr⟩ : ∃ r, 48 + j % 10 = r := ⟨_, rfl⟩
   obtain ⟨q, hq⟩ : ∃ q, j / 10 = q := ⟨_, rfl⟩
   have HN : Hid (digs f' q (strOfNums [(r : Int)] ++ o) = digs 10 k ByteArray.empty) := by
    show _ = _
    rw [← HD.out, ← hq, ← hr]
    conv => rhs; unfold digs
    rw [if_neg (by omega)]
   have HQ : Hid (q < 10 ^ f') := by
    show _ < _
    have := HJF.out
    rw [Nat.pow_succ] at this
    omega
   have e1 : Int.tmod (j : Int) 10 = (((r - 48 : Nat)) : Int) := by rw [Int.tmod_eq_emod_of_nonneg (by omega)]; omega
   have e2 : (48 : Int) + ((r - 48 : Nat) : Int) = (r : Int) := by omega
   have hr57 : r ≤ 57 := by omega
   have e3 : (r : Int) % 256 = (r : Int) := by omega
   have e4 : Int.tdiv (j : Int) 10 = (q : Int) := by rw [Int.tdiv_eq_ediv_of_nonneg (by omega)]; omega
   obtain ⟨r0, hr0⟩ : ∃ r0, r - 48 = r0 := ⟨_, rfl⟩
   rw [hr0] at e1 e2
   have hcv : (convert 146 9 (.slice (some ⟨wr.heap.size, 0, none⟩) 1 1)).run Tryz.prog (wr.alloc (.cells #[.int .u8 (r : Int)] 5)) = .ok (.string (strOfNums [(r : Int)])) (wr.alloc (.cells #[.int .u8 (r : Int)] 5)) := by
    refine run_convert_bytes_arg (P := Tryz.prog) _ 146 5 Tryz.underlying146 Tryz.underlying5 wr.heap.size 0 1 1 [(r : Int)] rfl ?_ 9 Tryz.underlying9
    intro i hi
    have : i = 0 := by omega
    subst this
    rw [World.cell?_alloc_at _ _ _ _ rfl]; rfl
   have HSZ : Hid ((strOfNums [(r : Int)]).size = 1) := by show _ = _; rw [strOfNums_size]; rfl
   have hs1 : (strOfNums [(r : Int)]).size ≤ 1 := by rw [HSZ.out]; omega
   have hso : (strOfNums [(r : Int)] ++ o).size ≤ 12 := by rw [ByteArray.size_append, HSZ.out]; omega
   have HSO : Hid (f' + (strOfNums [(r : Int)] ++ o).size ≤ 10) := by show _ ≤ _; rw [ByteArray.size_append, HSZ.out]; omega
   have hql : q ≤ 4194304 := by omega
   have HJ : Hid (q < j) := by show _ < _; omega
   clear hr hq hr0
   go_wp2
   go_roundw
   case rel => exact ⟨q, f', _, rfl, rfl, HQ.out, hql, HSO.out, HN.out, HB.out.alloc hsz _⟩
   case measure => have := HJ.out; simp [intOf]; omega
  ·have hj0 : j = 0 := by omega
   have HO : Hid (digs 10 k ByteArray.empty = o) := by show _ = _; rw [← HD.out, hj0, digs_zero]
   clear hj0
   have hos : o.size ≤ 10 := by omega
   go_wp2
   go_ret
   exact ⟨by unfold markT; rw [HO.out]; rfl, HB.out⟩

theorem ownsRow_below {w w' : World} {B n : Nat} {T : TypeId} {v : Value} {xs : List Value} (h : w.ownsRow B T 1 v n xs) (hb : Below w.heap.size w w') : w'.ownsRow B T 1 v n xs := by
 refine ⟨h.1, ?_⟩
 rcases h.2 with hn | ⟨g, cap, cur, hv, hg, hh, rest⟩
 ·exact .inl hn
 ·exact .inr ⟨g, cap, cur, hv, hg, (hb.block g (Array.getElem?_eq_some_iff.1 hh).1).trans hh, rest⟩
theorem grown_of_below {w w' : World} (row : Option Nat) (h : Below w.heap.size w w') : w.grownBy w' row := ⟨h.os, h.tape, h.output, h.size, fun k hk _ => h.block k hk⟩
/-- marks k, k + 1, .. -/
def upT (k n : Nat) : List ByteArray := (List.range n).map (fun i => markT (k + i))
theorem upT_len (k n : Nat) : (upT k n).length = n := by simp [upT]
theorem upT_get (k n i : Nat) (h : i < n) : (upT k n)[i]? = some (markT (k + i)) := by simp [upT, h]
def markedTS (zs : List ByteArray) (k j : Nat) : List ByteArray := upT k j ++ zs.drop j
theorem markedTS_set {zs : List ByteArray} {k j : Nat} (h : j < zs.length) : (markedTS zs k j).set j (markT (k + j)) = markedTS zs k (j + 1) := by
 unfold markedTS
 rw [List.set_append, if_neg (by simp [upT_len]), upT_len, Nat.sub_self]
 have : zs.drop j = zs[j] :: zs.drop (j + 1) := List.drop_eq_getElem_cons h
 rw [this, List.set_cons_zero]
 simp [upT, List.range_succ]
theorem markedT_len (zs : List ByteArray) (k j : Nat) (h : j ≤ zs.length) : (markedTS zs k j).length = zs.length := by
 simp [markedTS, upT_len]; omega
theorem markedT_full (zs : List ByteArray) (k : Nat) : markedTS zs k zs.length = upT k zs.length := by simp [markedTS]

set_option maxRecDepth 100000 in
set_option maxHeartbeats 1600000 in
theorem markStringS_any (A : Option Addr) (n c B k : Nat) (zs : List ByteArray) (w : World) (hn : zs.length = n) (hl : n ≤ 1048576) (hB : B ≤ w.heap.size) (hk0 : 1 ≤ k) (hk1 : k ≤ 2097160) (h : OwnS w B (.slice A n c) zs) :
  Calls Tryz.prog 26 #[.slice A n c, .int .i64 (k : Int)] w fun e w' => e = .returned (.int .i64 ((k + n : Nat) : Int)) ∧ OwnS w' B (.slice A n c) (upT k n) ∧ w.grownBy w' (Value.slice A n c).ownBlock := by
 have Hn := Lib.hid hn
 rcases h.2 with ⟨hv, hz⟩ | ⟨g, cap, cur, hv, hg, hh, hrest⟩
 ·injection hv with e1 e2 e3
  subst e1
  have hn0 : n = 0 := by rw [← hn]; exact hz
  subst hn0
  go_enter Tryz.func26, Tryz.ntmps26
  go_wp2
  refine wp_loop_rounds 1 ?_
  rw [rounds_succ]
  go_wp2
  go_ret
  refine ⟨ret_int (by simp), ?_, World.grownBy.refl w _⟩
  have : zs = [] := List.eq_nil_of_length_eq_zero hz
  subst this
  exact h
 ·injection hv with e1 e2 e3
  subst e1
  have hO := h
  unfold OwnS at hO
  rw [hn] at hO
  have HO := Lib.hid hO
  clear hO h hh hrest e2 e3 hn
  clear cur cap
  go_enter Tryz.func26, Tryz.ntmps26
  go_wp2
  go_loopw [1, 5] (fun q i wr => ∃ j kj : Nat, j ≤ n ∧ kj = k + j ∧ i = .int .i64 j ∧ q = .int .i64 kj ∧ wr.ownsRow B 9 1 (.slice (some ⟨g, 0, none⟩) n c) n ((markedTS zs k j).map (Value.string)) ∧ w.grownBy wr (some g)) (fun _ i _ => n - (intOf i).toNat)
  case atStart => exact ⟨0, k, Nat.zero_le _, rfl, rfl, rfl, by have := HO.out; simpa [markedTS, upT] using this, World.grownBy.refl w _⟩
  case round =>
   obtain ⟨j, kj, hj, hkj, rfl, rfl, hown, hb⟩ := hrel
   have HKJ := Lib.hid hkj; have HW := Lib.hid hown; have HBl := Lib.hid hb
   have hkb : kj ≤ 4194304 := by omega
   have hk1' : 1 ≤ kj := by omega
   have hszr := hb.size
   clear hkj hown hb
   by_cases hlt : j < n
   ·have hlz : j < zs.length := by rw [Hn.out]; exact hlt
    go_wp2_with fail
    refine (markText_any kj _ hk1' hkb).mono ?_
    rintro e w2 ⟨rfl, hb2⟩
    have HW2 := Lib.hid (ownsRow_below HW.out hb2)
    have HB2 := Lib.hid (grown_trans HBl.out (grown_of_below (some g) hb2))
    obtain ⟨v0, hv0⟩ : ∃ v0, ((markedTS zs k j).map (Value.string))[j]? = some v0 := ⟨_, List.getElem?_eq_getElem (by rw [List.length_map, markedT_len _ _ _ (by omega)]; exact hlz)⟩
    have hd := (HW2.out.cellAt j (by omega)).trans hv0
    have hf := HW2.out.frozenAt j
    have hst := HW2.out.stored j (.string (markT kj))
    rw [HKJ.out, ← List.map_set, markedTS_set hlz, ← HKJ.out] at hst
    have HS := Lib.hid hst.1
    have HBs := Lib.hid (grown_set HB2.out j (.string (markT kj)))
    clear hst hv0 hb2 hlz
    go_wp2
    go_roundw
    case rel => exact ⟨j + 1, kj + 1, by omega, by have := HKJ.out; omega, by go_num, by go_num, HS.out, HBs.out⟩
    case measure => simp [intOf]; omega
   ·have hjn : j = n := by omega
    subst hjn
    go_wp2
    go_ret
    refine ⟨ret_int (by rw [HKJ.out]), ?_, HBl.out⟩
    unfold OwnS
    rw [upT_len, ← Hn.out, ← markedT_full, Hn.out]
    exact HW.out

set_option maxHeartbeats 800000 in
theorem heldStringS_any (A : Option Addr) (n c k : Nat) (w : World) (hk0 : 1 ≤ k) (hk1 : k ≤ 2097160) (hl : n ≤ 1048576) (h : Strs w A (upT k n)) :
  Calls Tryz.prog 27 #[.slice A n c, .int .i64 (k : Int)] w fun e w' => e = .returned (.int .i64 ((k + n : Nat) : Int)) ∧ Below w.heap.size w w' := by
 have H := Lib.hid h
 clear h
 go_enter Tryz.func27, Tryz.ntmps27
 go_wp2
 go_loopw [1, 5] (fun q i wr => ∃ j kj : Nat, j ≤ n ∧ kj = k + j ∧ i = .int .i64 j ∧ q = .int .i64 kj ∧ Below w.heap.size w wr) (fun _ i _ => n - (intOf i).toNat)
 case atStart => exact ⟨0, k, Nat.zero_le _, rfl, rfl, rfl, Below.refl _ _⟩
 case round =>
  obtain ⟨j, kj, hj, hkj, rfl, rfl, hb⟩ := hrel
  have HKJ := Lib.hid hkj; have HBl := Lib.hid hb
  have hkb : kj ≤ 4194304 := by omega
  have hk1' : 1 ≤ kj := by omega
  have hszr := hb.size
  clear hkj hb
  by_cases hlt : j < n
  ·obtain ⟨ad, x, rfl, hx, hc⟩ := (H.out.below HBl.out).at_ (k := j) (by rw [upT_len]; exact hlt)
   have hxe : markT kj = x := by have := hx.out; rw [upT_get _ _ _ hlt, ← HKJ.out] at this; injection this
   subst hxe
   have hbe := str_eq (markT kj)
   clear hx
   have hlt2 := World.block_lt_of_cell? _ _ hc
   go_wp2
   go_region_with ((go_at_call 61; refine (markText_any kj _ hk1' hkb).mono ?_; rintro e w2 ⟨rfl, hb2⟩; have hc2 := (hb2.cell (p := ad.add j) hlt2).trans hc; have HB2 := Lib.hid ((below_drewN HBl.out 1).trans (hb2.mono hszr)); clear hb2))
   all_goals
    go_wp2
    go_roundw
    case rel => exact ⟨j + 1, kj + 1, by omega, by have := HKJ.out; omega, by go_num, by go_num, HB2.out⟩
    case measure => simp [intOf]; omega
  ·have hjn : j = n := by omega
   subst hjn
   go_wp2
   go_ret
   exact ⟨ret_int (by rw [HKJ.out]), HBl.out⟩
end Go.Proofs.YtimhnkpccbcohaaGreatDoor

namespace Go.Proofs.YtimhnkpccbcohaaGreatDoor
open Go.RowKit
set_option linter.unusedVariables false

theorem toStringS_o (A : Option Addr) (n c : Nat) (zs : List ByteArray) (w : World) (hn : zs.length = n) (hm : n ≤ 1048576) (h : Strs w A zs) :
  Calls Tryz.prog 23 #[.slice A n c] w fun e w' => ∃ A' c', e = .returned (.slice A' n c') ∧ OwnS w' w.heap.size (.slice A' n c') zs ∧ n ≤ c' ∧ c' ≤ maxLen ∧ Below w.heap.size w w' :=
 (toStringS_call A n c zs w hn hm h).mono fun e w' ⟨A', c', he, hI, hO, hb, h1, h2⟩ => ⟨A', c', he, hO, h1, h2, hb⟩
theorem owns_read {w : World} {B n c : Nat} {A : Option Addr} {zs : List ByteArray} (h : OwnS w B (.slice A n c) zs) : Strs w A zs := by
 obtain ⟨A', c', hv, hI, _⟩ := h.form
 injection hv with h1 h2 h3
 subst h1
 exact hI
theorem owns_top {w : World} {B : Nat} {v : Value} {zs : List ByteArray} (h : OwnS w B v zs) : ∀ k, v.ownBlock = some k → B ≤ k ∧ k < w.heap.size := fun k hk => World.ownsRow.lt h k hk
theorem chg_ownS {lo hi B : Nat} {w w' : World} {v : Value} {zs : List ByteArray} (h : Chg lo hi w w') (hO : OwnS w B v zs) (hn : ∀ k, v.ownBlock = some k → ¬ (lo ≤ k ∧ k < hi)) : OwnS w' B v zs := by
 refine ⟨hO.1, ?_⟩
 rcases hO.2 with hx | ⟨g, cap, cur, hv, hg, hh, rest⟩
 ·exact .inl hx
 ·refine .inr ⟨g, cap, cur, hv, hg, (h.block g (Array.getElem?_eq_some_iff.1 hh).1 (hn g ?_)).trans hh, rest⟩
  rw [hv]; rfl
end Go.Proofs.YtimhnkpccbcohaaGreatDoor

namespace Go.Proofs.YtimhnkpccbcohaaGreatDoor
open Go.RowKit
set_option linter.unusedVariables false

theorem MchV.drew {w : World} {lo hi : Nat} {v : Value} {X : Mch} (h : MchV w lo hi v X) : MchV w.drew lo hi v X := by
 obtain ⟨A, c, A2, d, M, e, L, lc, T, tc, hv, hp⟩ := h
 exact ⟨A, c, A2, d, M, e, L, lc, T, tc, hv, hp.keep (fun p _ _ => rfl)⟩
end Go.Proofs.YtimhnkpccbcohaaGreatDoor
