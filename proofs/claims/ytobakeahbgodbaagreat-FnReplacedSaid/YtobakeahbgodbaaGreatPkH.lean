/-
  Contracts and plain mathematics (Str, StrP, StrC, SzS, MarkT, StrK, Wrd, WrdM, WrdW, WrdI, WrdS, WrdP, GT, Apl), each with its conditions in its own statement.
-/
import Derived.Test.YtobakeahbgodbaaGreatPkA
import Derived.MapKept
import Derived.Lib.SlicesS
import Derived.Test.YtobakeahbgodbaaGreatPkC
import Derived.Laws.BytesArg
import Derived.Outline
import Derived.Test.YtobakeahbgodbaaGreatPkE
import Derived.Test.YtobakeahbgodbaaGreatShelf
import Derived.Lib.FieldsP
import Derived.Lib.SpaceUEq
import Derived.Lib.TrimU
import Derived.Test.YtobakeahbgodbaaGreatPkG
import Derived.StillTailTactics
import Derived.Lib.Join
import Derived.Deep.RegionWith
namespace Go.Proofs.YtobakeahbgodbaaGreat
open Go.RowKit
set_option linter.unusedVariables false

theorem str_ne {x y : ByteArray} (h : x ≠ y) : (x == y) = false := by
  rw [Bool.eq_false_iff]; intro e; exact h ((Go.MapKept.bytes_beq x y).1 e)
theorem str_eq (x : ByteArray) : (x == x) = true := (Go.MapKept.bytes_beq x x).2 rfl
/-- The slice with the address A reads as zs. -/
def Strs (w : World) (A : Option Addr) (zs : List ByteArray) : Prop :=
  0 < zs.length → ∃ ad, A = some ad ∧ ∀ j, j < zs.length → w.cell? (ad.add j) = some (.string (zs.getD j ByteArray.empty))

section
variable {w w' : World} {A : Option Addr} {zs : List ByteArray}
theorem Strs.at_ {k : Nat} (h : Strs w A zs) (hk : k < zs.length) : ∃ ad x, A = some ad ∧ Hid (zs[k]? = some x) ∧ w.cell? (ad.add k) = some (.string x) := by
  obtain ⟨ad, e, hc⟩ := h (by omega)
  exact ⟨ad, zs[k], e, List.getElem?_eq_getElem hk, by rw [hc k hk]; simp [List.getD, hk]⟩
theorem Strs.nil (w : World) (A : Option Addr) : Strs w A [] := fun h => absurd h (by simp)
theorem Strs.keep (h : Strs w A zs) (hk : ∀ p : Addr, p.block < w.heap.size → w'.cell? p = w.cell? p) : Strs w' A zs := fun hn => by
  obtain ⟨ad, e, hc⟩ := h hn
  exact ⟨ad, e, fun j hj => (hk _ (World.block_lt_of_cell? _ _ (hc j hj))).trans (hc j hj)⟩
theorem Strs.below (h : Strs w A zs) (hb : Below w.heap.size w w') : Strs w' A zs := h.keep fun _ hp => hb.cell hp
theorem Strs.belowB {B : Nat} {w0 : World} (h : Strs w0 A zs) (hB : w0.heap.size ≤ B) (hb : Below B w0 w') : Strs w' A zs := h.below (hb.mono hB)
theorem Strs.drew (h : Strs w A zs) : Strs w.drew A zs := h
theorem Strs.drewN (h : Strs w A zs) (k : Nat) : Strs (w.drewN k) A zs := h
end

/-- A row of the call's own, from block B on, that holds zs. -/
def OwnS (w : World) (B : Nat) (v : Value) (zs : List ByteArray) : Prop := w.ownsRow B 9 1 v zs.length (zs.map (Value.string))

theorem OwnS.form {w : World} {B : Nat} {v : Value} {zs : List ByteArray} (h : OwnS w B v zs) : ∃ A c, v = .slice A zs.length c ∧ Strs w A zs ∧ (∀ a, A = some a → ∃ g, a = ⟨g, 0, none⟩ ∧ B ≤ g ∧ g < w.heap.size) ∧ zs.length ≤ c ∧ c ≤ maxLen := by
  have h0 := h
  rcases h.2 with ⟨rfl, hn⟩ | ⟨g, cap, cur, rfl, hg, hh, hcap, hcm, _⟩
  · refine ⟨none, 0, by rw [hn], ?_, (fun a ha => by cases ha), (by rw [hn]; exact Nat.le_refl _), Nat.zero_le _⟩
    have : zs = [] := List.eq_nil_of_length_eq_zero hn
    subst this
    exact Strs.nil _ _
  · refine ⟨some ⟨g, 0, none⟩, cap, rfl, fun _ => ⟨_, rfl, fun j hj => ?_⟩, fun a ha => ⟨g, by injection ha with ha; exact ha.symm, hg, (Array.getElem?_eq_some_iff.1 hh).1⟩, hcap, hcm⟩
    refine World.ownsRow.cells h0 (g := g) rfl j _ ?_
    rw [List.getElem?_map, List.getElem?_eq_getElem hj]
    simp [List.getD, hj]

theorem OwnS.below {w w' : World} {B : Nat} {v : Value} {zs : List ByteArray} (h : OwnS w B v zs) (hb : Below w.heap.size w w') : OwnS w' B v zs := by
  refine ⟨h.1, ?_⟩
  rcases h.2 with hn | ⟨g, cap, cur, hv, hg, hh, rest⟩
  · exact .inl hn
  · exact .inr ⟨g, cap, cur, hv, hg, (hb.block g (Array.getElem?_eq_some_iff.1 hh).1).trans hh, rest⟩
theorem OwnS.drew {w : World} {B : Nat} {v : Value} {zs : List ByteArray} (h : OwnS w B v zs) : OwnS w.drew B v zs := h
theorem OwnS.drewN {w : World} {B : Nat} {v : Value} {zs : List ByteArray} (h : OwnS w B v zs) (k : Nat) : OwnS (w.drewN k) B v zs := h

theorem stake_at {zs : List ByteArray} {k : Nat} {x : ByteArray} (h : zs[k]? = some x) : zs.take (k + 1) = zs.take k ++ [x] := by
  rw [List.take_add_one, h]; rfl
theorem stake_all {zs : List ByteArray} {n : Nat} (h : zs.length = n) : zs.take n = zs := List.take_of_length_le (by omega)
theorem smem_at {zs : List ByteArray} {k : Nat} {x : ByteArray} (h : zs[k]? = some x) : x ∈ zs := List.mem_of_getElem? h
theorem slt_at {zs : List ByteArray} {k : Nat} {x : ByteArray} (h : zs[k]? = some x) : k < zs.length := (List.getElem?_eq_some_iff.1 h).1
theorem sgetD_at {zs : List ByteArray} {k : Nat} {x : ByteArray} (h : zs[k]? = some x) : zs.getD k ByteArray.empty = x := by simp [List.getD, h]
theorem strInfo : (Tryz.prog.info? 9).map (fun i => (i.zero, i.size, i.bytes)) = some (some (.string ByteArray.empty), 1, 16) := by kernel_rfl

/-- What a copy holds after k rounds. -/
def shalf (zs : List ByteArray) (n k : Nat) : List Value := (zs.take k).map (Value.string) ++ List.replicate (n - k) (.string ByteArray.empty)
theorem shalf_zero (zs : List ByteArray) (n : Nat) : (madeCells (Value.string ByteArray.empty).cells (n * 1)).toList = shalf zs n 0 := by
  rw [show shalf zs n 0 = List.replicate n (.string ByteArray.empty) from by simp [shalf]]
  apply List.ext_getElem
  · simp [madeCells, Value.cells]
  · intro i h1 h2
    simp [madeCells, Value.cells, Nat.mod_one]
theorem shalf_set {zs : List ByteArray} {n k : Nat} {x : ByteArray} (hn : zs.length = n) (hx : zs[k]? = some x) : (shalf zs n k).set k (.string x) = shalf zs n (k + 1) := by
  have hk := slt_at hx
  unfold shalf
  rw [stake_at hx, List.set_append, if_neg (by simp; omega)]
  have : n - k = (n - (k + 1)) + 1 := by omega
  rw [this, List.replicate_succ]
  simp [Nat.min_eq_left (Nat.le_of_lt hk)]
theorem shalf_full {zs : List ByteArray} {n : Nat} (hn : zs.length = n) : shalf zs n n = zs.map (Value.string) := by
  simp [shalf, stake_all hn]
theorem shalf_cell (zs : List ByteArray) (n k : Nat) (hn : zs.length = n) (hk : k < n) : ∃ v, (shalf zs n k)[k]? = some v := by
  refine ⟨.string ByteArray.empty, ?_⟩
  unfold shalf
  rw [List.getElem?_append_right (by simp; omega)]
  rw [List.length_map, List.length_take, Nat.min_eq_left (by omega), Nat.sub_self, List.getElem?_replicate, if_pos (by omega)]

set_option maxHeartbeats 400000 in
theorem toStringS_any (A : Option Addr) (n c : Nat) (zs : List ByteArray) (w : World) (hn : zs.length = n) (hm : n ≤ 1048576) (h : Strs w A zs) :
    Calls Tryz.prog 17 #[.slice A n c] w fun e w' => ∃ v, e = .returned v ∧ OwnS w' w.heap.size v zs ∧ Below w.heap.size w w' := by
  have Hn := Lib.hid hn; clear hn
  obtain ⟨i0, hi, hz0, hz1, hz2⟩ := info_parts strInfo
  go_enter Tryz.func17, Tryz.ntmps17
  go_wp2_with (at_make; refine wpList_make_full _ rfl (.tmp 6) (.tmp 6) 28 rfl w.heap.size 9 i0 (.string ByteArray.empty) 1 Tryz.underlying28 hi hz0 hz1 .i64 .i64 (n : Int) (n : Int) n rfl rfl rfl rfl (by rw [hz2]; omega) (by unfold maxLen; omega) (Nat.le_refl _) ?_; intro w1 hown1 hg1; rw [shalf_zero zs] at hown1)
  have hb1 : Below w.heap.size w w1 := (Below.refl _ _).grown hg1 (Nat.le_refl _) (fun k hk => by cases hk)
  clear hg1
  go_loopw [4] (fun i wr => ∃ k : Nat, k ≤ n ∧ i = .int .i64 k ∧ wr.ownsRow w.heap.size 9 1 (.slice (some ⟨w.heap.size, 0, none⟩) n n) n (shalf zs n k) ∧ Below w.heap.size w wr) (fun i _ => n - (intOf i).toNat)
  case atStart => exact ⟨0, Nat.zero_le _, rfl, hown1, hb1⟩
  case round =>
    clear hown1 hb1
    obtain ⟨k, hk, rfl, hown, hb⟩ := hrel
    by_cases hlt : k < n
    · obtain ⟨ad, x, rfl, hx, hc⟩ := (h.below hb).at_ (k := k) (by rw [Hn.out]; exact hlt)
      obtain ⟨v0, hv0⟩ := shalf_cell zs n k Hn.out hlt
      have hd := (hown.cellAt k (by omega)).trans hv0
      have hf := hown.frozenAt k
      have hst := hown.stored k (.string x)
      rw [shalf_set Hn.out hx.out] at hst
      have HS := Lib.hid hst.1
      have HB := Lib.hid (hb.setCell (p := ⟨w.heap.size, k, none⟩) (Nat.le_refl _) (.string x))
      clear hst hv0 hown hb h
      go_wp2
      go_roundw
      case rel => exact ⟨k + 1, by omega, by go_num, HS.out, HB.out⟩
      case measure => simp [intOf]; omega
    · have hkn : k = n := by omega
      subst hkn
      go_wp2
      go_ret
      refine ⟨_, rfl, ?_, hb⟩
      unfold OwnS
      rw [Hn.out, ← shalf_full Hn.out]
      exact hown

set_option maxHeartbeats 400000 in
theorem eqStringS_any (A B : Option Addr) (n m c d : Nat) (zs ys : List ByteArray) (w : World) (hn : zs.length = n) (hm : ys.length = m) (hl : n ≤ 1048576) (hl2 : m ≤ maxLen) (h : Strs w A zs) (h2 : Strs w B ys) :
    Calls Tryz.prog 18 #[.slice A n c, .slice B m d] w fun e w' => e = .returned (.bool (decide (zs = ys))) ∧ ∃ k, w' = w.drewN k := by
  unfold maxLen at hl2
  have Hn := Lib.hid hn; have Hm := Lib.hid hm; clear hn hm
  by_cases hnm : n = m
  · subst hnm
    go_enter Tryz.func18, Tryz.ntmps18
    go_wp2
    go_loopw [5] (fun i wr => ∃ k : Nat, k ≤ n ∧ i = .int .i64 k ∧ (∃ q, wr = w.drewN q) ∧ zs.take k = ys.take k) (fun i _ => n - (intOf i).toNat)
    case atStart => exact ⟨0, Nat.zero_le _, rfl, ⟨0, rfl⟩, rfl⟩
    case round =>
      obtain ⟨k, hk, rfl, ⟨q, rfl⟩, ht⟩ := hrel
      have Ht := Lib.hid ht; clear ht
      by_cases hlt : k < n
      · obtain ⟨ad, x, rfl, hx, hc⟩ := h.at_ (k := k) (by rw [Hn.out]; exact hlt)
        obtain ⟨bd, y, rfl, hy, hd⟩ := h2.at_ (k := k) (by rw [Hm.out]; exact hlt)
        by_cases hxy : x = y
        · subst hxy
          have HT : Hid (zs.take (k + 1) = ys.take (k + 1)) := by
            show _ = _
            rw [stake_at hx.out, stake_at hy.out, Ht.out]
          go_wp2
          go_quiet (fail)
          go_wp2
          go_roundw
          case rel => exact ⟨k + 1, by omega, by go_num, ⟨_, rfl⟩, HT.out⟩
          case measure => simp [intOf]; omega
        · have HN : Hid (zs ≠ ys) := fun e => hxy (by have := hx.out; rw [e, hy.out] at this; injection this with this; exact this.symm)
          have hb : (x == y) = false := str_ne hxy
          have hb' : (x != y) = true := by show (!(x == y)) = true; rw [str_ne hxy]; rfl
          have hb2 := (Lib.bytes_beq_false_iff x y).2 hxy
          have hb3 : (x.toList != y.toList) = true := by show (!(x.toList == y.toList)) = true; rw [hb2]; rfl
          clear hxy
          go_wp2
          go_quiet (fail)
          go_wp2
          go_ret
          exact ⟨ret_bool (by simpa using HN.out), ⟨_, World.drewN_drewN _ _ _⟩⟩
      · have hkn : k = n := by omega
        subst hkn
        go_wp2
        go_ret
        have := Ht.out
        rw [stake_all Hn.out, stake_all Hm.out] at this
        exact ⟨ret_bool (by simpa using this), ⟨q, rfl⟩⟩
  · have HN : Hid (zs ≠ ys) := fun e => hnm (by rw [← Hn.out, ← Hm.out, e])
    have hb' : ((n : Int) != (m : Int)) = true := by rw [bne_iff_ne]; omega
    go_enter Tryz.func18, Tryz.ntmps18
    go_wp2
    go_ret
    exact ⟨ret_bool (by simpa using HN.out), ⟨0, rfl⟩⟩

theorem Strs.of_row {w : World} {x : Addr} {zs : List ByteArray} {n : Nat} (hn : n ≤ zs.length) (hc : ∀ i, i < zs.length → w.cell? (x.add i) = some (.string (zs.getD i ByteArray.empty))) : Strs w (some x) (zs.take n) := by
  intro _
  refine ⟨x, rfl, fun j hj => ?_⟩
  rw [List.length_take] at hj
  rw [hc j (by omega)]
  simp only [List.getD, List.getElem?_take]
  rw [if_pos (by omega)]

theorem toStringS_call (A : Option Addr) (n c : Nat) (zs : List ByteArray) (w : World) (hn : zs.length = n) (hm : n ≤ 1048576) (h : Strs w A zs) :
    Calls Tryz.prog 17 #[.slice A n c] w fun e w' => ∃ A' c', e = .returned (.slice A' n c') ∧ Strs w' A' zs ∧ OwnS w' w.heap.size (.slice A' n c') zs ∧ Below w.heap.size w w' ∧ n ≤ c' ∧ c' ≤ maxLen := by
  refine (toStringS_any A n c zs w hn hm h).mono ?_
  rintro e w' ⟨v, rfl, hO, hb⟩
  obtain ⟨A', c', rfl, hI, _, hc1, hc2⟩ := hO.form
  rw [hn] at hO hc1
  exact ⟨A', c', by rw [hn], hI, hO, hb, hc1, hc2⟩

theorem eqStringS_same (A B : Option Addr) (n c d : Nat) (zs : List ByteArray) (w : World) (hn : zs.length = n) (hl : n ≤ 1048576) (h : Strs w A zs) (h2 : Strs w B zs) :
    Calls Tryz.prog 18 #[.slice A n c, .slice B n d] w fun e w' => e = .returned (.bool true) ∧ ∃ k, w' = w.drewN k := by
  refine (eqStringS_any A B n n c d zs zs w hn hn hl (by unfold maxLen; omega) h h2).mono ?_
  rintro e w' ⟨rfl, hw⟩
  exact ⟨by simp, hw⟩
/-- as 'Ints', and what is read lies below block b -/
def StrsB (w : World) (b : Nat) (A : Option Addr) (zs : List ByteArray) : Prop :=
  0 < zs.length → ∃ ad, A = some ad ∧ ad.block < b ∧ ∀ j, j < zs.length → w.cell? (ad.add j) = some (.string (zs.getD j ByteArray.empty))
theorem StrsB.of {w : World} {A : Option Addr} {zs : List ByteArray} (h : Strs w A zs) : StrsB w w.heap.size A zs := fun hn => by
  obtain ⟨ad, e, hc⟩ := h hn
  exact ⟨ad, e, by have := World.block_lt_of_cell? _ _ (hc 0 hn); rwa [block_add] at this, hc⟩
theorem StrsB.ints {w : World} {b : Nat} {A : Option Addr} {zs : List ByteArray} (h : StrsB w b A zs) : Strs w A zs := fun hn => by
  obtain ⟨ad, e, _, hc⟩ := h hn
  exact ⟨ad, e, hc⟩
theorem StrsB.keep {w w' : World} {b B : Nat} {A : Option Addr} {zs : List ByteArray} (h : StrsB w b A zs) (hb : b ≤ B) (hB : Below B w w') : StrsB w' b A zs := fun hn => by
  obtain ⟨ad, e, hl, hc⟩ := h hn
  exact ⟨ad, e, hl, fun j hj => (hB.cell (p := ad.add j) (by rw [block_add]; omega)).trans (hc j hj)⟩
theorem OwnS.grown_lt {w w' : World} {B : Nat} {v : Value} {zs : List ByteArray} {row : Option Nat} (h : OwnS w B v zs) (hg : w.grownBy w' row) (hr : ∀ k, row = some k → k < B) : OwnS w' B v zs := by
  refine ⟨h.1, ?_⟩
  rcases h.2 with hn | ⟨g, cap, cur, hv, hB, hh, rest⟩
  · exact .inl hn
  · exact .inr ⟨g, cap, cur, hv, hB, (hg.block g (Array.getElem?_eq_some_iff.1 hh).1 (fun e => by have := hr g e.symm; omega)).trans hh, rest⟩

theorem eqStringS_t (A B : Option Addr) (n c d : Nat) (zs : List ByteArray) (w : World) (hn : zs.length = n) (hl : n ≤ 1048576) (h : Strs w A zs) (h2 : Strs w B zs) :
    Calls Tryz.prog 18 #[.slice A n c, .slice B n d] w fun e w' => e = .returned (.bool true) ∧ Below w.heap.size w w' := by
  refine (eqStringS_same A B n c d zs w hn hl h h2).mono ?_
  rintro e w' ⟨rfl, q, rfl⟩
  exact ⟨rfl, below_drewN (Below.refl _ _) _⟩

end Go.Proofs.YtobakeahbgodbaaGreat

namespace Go.Proofs.YtobakeahbgodbaaGreat
open Go.RowKit
set_option linter.unusedVariables false

section
variable {ops : Array Oper} {rest : List Oper} {o : Oper} {a : Act} {Q : Exit → Act → World → Prop}
/-- append(s, q) onto a row of the call's own: what lies below the row's base B stays -/
theorem wpls_push (w : World) (hg : o.guard = none) (s x : Operand) (ho : o.op = .call { callee := .builtin .append, args := #[s, x], argTypes := #[28, 28] })
    (B : Nat) (v : Value) (zs : List ByteArray) (q : ByteArray) (hs : a.eval s = v) (hx : a.eval x = .slice (some ⟨w.heap.size, 0, none⟩) 1 1) (hown : OwnS w B v zs) (hB : B ≤ w.heap.size) (hlen : zs.length ≤ 1048576)
    (hK : ∀ v' w', OwnS w' B v' (zs ++ [q]) → Below B w w' → wpList Tryz.prog ops Q rest (a.put o.dst v') w') :
    wpList Tryz.prog ops Q (o :: rest) a (w.alloc (.cells #[.string q] 9)) := by
  obtain ⟨i0, hi, hz0, hz1, hz2⟩ := info_parts strInfo
  refine wpList_append_own _ hg s x 28 ho B 9 i0 (.string ByteArray.empty) 1 16 Tryz.underlying28 hi hz0 hz1 hz2 rfl (by decide) v zs.length (zs.map (Value.string)) hs (World.ownsRow.alloc hown _) ⟨w.heap.size, 0, none⟩ 1 1 [.string q] hx rfl ?_ ?_ (by unfold maxLen; omega) (by omega) (by simp; omega) ?_
  · intro j u hj
    match j, hj with
    | 0, hj =>
      simp at hj; subst hj
      rw [add_zero_at, World.cell?_alloc_at _ _ _ _ rfl]
      rfl
  · intro u hu; simp at hu; subst hu; rfl
  · intro v' w' h1 h2 _
    refine hK v' w' ?_ ?_
    · unfold OwnS
      rw [List.map_append, List.length_append]
      exact h1
    · refine (((Below.refl B w).alloc hB (.cells #[.string q] 9))).trans ?_
      exact (Below.refl B _).grown h2 (by simp; omega) (fun k hk => (World.ownsRow.lt hown k hk).1)

/-- append(s, xs...), xs not empty -/
theorem wpls_append (w : World) (hg : o.guard = none) (s x : Operand) (ho : o.op = .call { callee := .builtin .append, args := #[s, x], argTypes := #[28, 28] })
    (B : Nat) (v : Value) (zs ys : List ByteArray) (A : Option Addr) (m c : Nat) (hs : a.eval s = v) (hx : a.eval x = .slice A m c) (hm : ys.length = m) (hpos : 0 < m) (hI : Strs w A ys) (hown : OwnS w B v zs) (hB : B ≤ w.heap.size) (hlen : zs.length + m ≤ 1048576)
    (hK : ∀ v' w', OwnS w' B v' (zs ++ ys) → Below B w w' → wpList Tryz.prog ops Q rest (a.put o.dst v') w') :
    wpList Tryz.prog ops Q (o :: rest) a w := by
  obtain ⟨i0, hi, hz0, hz1, hz2⟩ := info_parts strInfo
  obtain ⟨ad, rfl, hc⟩ := hI (by omega)
  refine wpList_append_own _ hg s x 28 ho B 9 i0 (.string ByteArray.empty) 1 16 Tryz.underlying28 hi hz0 hz1 hz2 rfl (by decide) v zs.length (zs.map (Value.string)) hs hown ad m c (ys.map (Value.string)) hx (by simp [hm]) ?_ ?_ (by unfold maxLen; omega) (by omega) hB ?_
  · intro j u hj
    rw [List.getElem?_map] at hj
    cases hy : ys[j]? with
    | none => rw [hy] at hj; cases hj
    | some y =>
      rw [hy] at hj
      simp at hj; subst hj
      rw [hc j (slt_at hy), sgetD_at hy]
  · intro u hu
    obtain ⟨y, _, rfl⟩ := List.mem_map.1 hu
    rfl
  · intro v' w' h1 h2 _
    refine hK v' w' ?_ ?_
    · unfold OwnS
      rw [List.map_append, List.length_append, hm]
      exact h1
    · exact (Below.refl B _).grown h2 hB (fun k hk => (World.ownsRow.lt hown k hk).1)

end
set_option maxRecDepth 100000 in
theorem appends_lie {base : Nat} {v v' : Value} {n : Nat} {xs news : List Value} {w w' : World} {ty : TypeId} (i : TypeInfo) (hi : Tryz.prog.info? 9 = some i) (hz : i.zero = some (.string ByteArray.empty)) (hsz : i.size = 1) (hby : i.bytes = 16)
    (hown : w.ownsRow base 9 1 v n xs) (ad : Addr) (m c : Nat) (hl : news.length = m * 1) (hnews : ∀ j u, news[j]? = some u → w.cell? (ad.add j) = some u) (h1 : ∀ u ∈ news, u.oneCell' = true)
    (hn : n + m ≤ 4194304) (hr : (Builtin.append_ #[28, 28] ty #[v, .slice (some ad) m c]).run Tryz.prog w = .ok v' w') : v'.ownBlock = v.ownBlock ∨ v'.ownBlock = some w.heap.size := by
  rcases hown.2 with ⟨rfl, rfl⟩ | ⟨g, cap, cur, rfl, hbg, hg, hnc, hcm, hcs, htake⟩
  · by_cases hm : m = 0
    · left
      subst hm
      have hn0 : news = [] := List.eq_nil_of_length_eq_zero (by simpa using hl)
      subst hn0
      have hu := Tryz.underlying28
      simp [Builtin.append_, run_underlying hu, sizeOf, typeInfo, hi, Builtin.lenOf, Builtin.firstCells, loadCells, loadCellsFrom] at hr
      rw [← hr.1]
    · right
      have hr2 := run_append_nil (P := Tryz.prog) w 28 ty 9 i (.string ByteArray.empty) Tryz.underlying28 hi hz ad m c news (by rw [hsz]; exact hl) hnews (by omega) (by omega) (by rw [hby]; omega)
      rw [hr] at hr2
      injection hr2 with e1 e2
      rw [e1]; rfl
  · by_cases hroom : n + m ≤ cap
    · left
      have hr2 := run_append_room (P := Tryz.prog) w 28 ty 9 i Tryz.underlying28 hi g n cap cur hg ad m c news (by rw [hsz]; exact hl) hnews h1 hroom (by rw [hsz, hl, hcs]; omega)
      rw [hr] at hr2
      injection hr2 with e1 e2
      rw [e1]; rfl
    · right
      have hr2 := run_append_grow (P := Tryz.prog) w 28 ty 9 i (.string ByteArray.empty) Tryz.underlying28 hi hz ⟨g, 0, none⟩ n cap xs (by rw [hsz]; exact hown.1) (hown.cells (g := g) rfl) ad m c news (by rw [hsz]; exact hl) hnews (by omega) (by omega) (growslice_fits (by omega) (by rw [hby]; omega))
      rw [hr] at hr2
      injection hr2 with e1 e2
      rw [e1]; rfl

section
variable {ops : Array Oper} {rest : List Oper} {o : Oper} {a : Act} {Q : Exit → Act → World → Prop}
/-- append(s, xs...), where the row lies told; xs not empty -/
theorem wpls_append2 (w : World) (hg : o.guard = none) (s x : Operand) (ho : o.op = .call { callee := .builtin .append, args := #[s, x], argTypes := #[28, 28] })
    (B : Nat) (v : Value) (zs ys : List ByteArray) (A : Option Addr) (m c : Nat) (hs : a.eval s = v) (hx : a.eval x = .slice A m c) (hm : ys.length = m) (hpos : 0 < m) (hI : Strs w A ys) (hown : OwnS w B v zs) (hB : B ≤ w.heap.size) (hlen : zs.length + m ≤ 2097152)
    (hK : ∀ v' w', OwnS w' B v' (zs ++ ys) → w.grownBy w' v.ownBlock → (v'.ownBlock = v.ownBlock ∨ v'.ownBlock = some w.heap.size) → wpList Tryz.prog ops Q rest (a.put o.dst v') w') :
    wpList Tryz.prog ops Q (o :: rest) a w := by
  obtain ⟨i0, hi, hz0, hz1, hz2⟩ := info_parts strInfo
  obtain ⟨ad, rfl, hc⟩ := hI (by omega)
  refine wpList_plain hg fun K hK' => ?_
  have hl : (ys.map (Value.string)).length = m * 1 := by simp [hm]
  have hnews : ∀ j u, (ys.map (Value.string))[j]? = some u → w.cell? (ad.add j) = some u := by
    intro j u hj
    rw [List.getElem?_map] at hj
    cases hy : ys[j]? with
    | none => rw [hy] at hj; cases hj
    | some y =>
      rw [hy] at hj
      simp at hj; subst hj
      rw [hc j (slt_at hy), sgetD_at hy]
  have h1 : ∀ u ∈ ys.map (Value.string), u.oneCell' = true := by
    intro u hu
    obtain ⟨y, _, rfl⟩ := List.mem_map.1 hu
    rfl
  obtain ⟨v', w', hr, h2, h3, h4⟩ := run_append_own (P := Tryz.prog) w B 28 o.type 9 i0 (.string ByteArray.empty) 1 16 Tryz.underlying28 hi hz0 hz1 hz2 rfl (by decide) v zs.length (zs.map (Value.string)) hown ad m c _ hl hnews h1 (by unfold maxLen; omega) (by omega) hB
  have hlie := appends_lie i0 hi hz0 hz1 hz2 hown ad m c hl hnews h1 (by omega) hr
  unfold Oper.wp execOp
  simp only [ho, resolve, invoke, builtin, Sem.run_bind, Sem.run_pure, Result.andThen_ok, List.map_toArray, List.map_cons, List.map_nil, hs, hx, hr]
  refine hK' _ _ (hK v' w' ?_ h3 hlie)
  unfold OwnS
  rw [List.map_append, List.length_append, hm]
  exact h2

/-- append(s, q), where the row lies told -/
theorem wpls_push2 (w : World) (hg : o.guard = none) (s x : Operand) (ho : o.op = .call { callee := .builtin .append, args := #[s, x], argTypes := #[28, 28] })
    (B : Nat) (v : Value) (zs : List ByteArray) (q : ByteArray) (hs : a.eval s = v) (hx : a.eval x = .slice (some ⟨w.heap.size, 0, none⟩) 1 1) (hown : OwnS w B v zs) (hB : B ≤ w.heap.size) (hlen : zs.length ≤ 1048576)
    (hK : ∀ v' w', OwnS w' B v' (zs ++ [q]) → w.grownBy w' v.ownBlock → (∀ g, v'.ownBlock = some g → v.ownBlock = some g ∨ w.heap.size ≤ g) → wpList Tryz.prog ops Q rest (a.put o.dst v') w') :
    wpList Tryz.prog ops Q (o :: rest) a (w.alloc (.cells #[.string q] 9)) := by
  refine wpls_append2 _ hg s x ho B v zs [q] (some ⟨w.heap.size, 0, none⟩) 1 1 hs hx rfl (by omega) (fun _ => ⟨_, rfl, fun j hj => ?_⟩) (World.ownsRow.alloc hown _) (by simp; omega) (by omega) (fun v' w' h2 h3 h4 => hK v' w' h2 (grown_trans (World.grownBy_alloc w _ _) h3) (fun g hg' => ?_))
  · have : j = 0 := by simp at hj; exact hj
    subst this
    rw [add_zero_at, World.cell?_alloc_at _ _ _ _ rfl]
    rfl
  · rcases h4 with h4 | h4
    · left; rw [← h4]; exact hg'
    · right; rw [h4] at hg'; injection hg' with hg'; rw [← hg', World.size_alloc]; omega
end
theorem StrsB.grown {w w' : World} {b : Nat} {A : Option Addr} {zs : List ByteArray} {row : Option Nat} (h : StrsB w b A zs) (hg : w.grownBy w' row) (hb : b ≤ w.heap.size) (hne : ∀ ad, A = some ad → row ≠ some ad.block) : StrsB w' b A zs := fun hn => by
  obtain ⟨ad, e, hl, hc⟩ := h hn
  exact ⟨ad, e, hl, fun j hj => hg.cell (hc j hj) (by rw [block_add]; exact fun e' => hne ad e e'.symm)⟩
theorem run_append_none_str {w : World} (base : Nat) (ty : TypeId) (v : Value) (zs : List ByteArray) (c : Nat) (hown : OwnS w base v zs) :
    (Builtin.append_ #[28, 28] ty #[v, .slice none 0 c]).run Tryz.prog w = .ok v w := by
  obtain ⟨i0, hi, hz0, hz1, hz2⟩ := info_parts strInfo
  have hu := Tryz.underlying28
  rcases hown.2 with ⟨rfl, h0⟩ | ⟨g, cap, cur, rfl, _, _, hnc, _⟩
  · simp [Builtin.append_, run_underlying hu, sizeOf, typeInfo, hi, Builtin.lenOf, Builtin.firstCells]
  · simp [Builtin.append_, run_underlying hu, sizeOf, typeInfo, hi, Builtin.lenOf, Builtin.firstCells, hnc, storeCells]

section
variable {ops : Array Oper} {rest : List Oper} {o : Oper} {a : Act} {Q : Exit → Act → World → Prop}
/-- append(s, xs...) onto a row of the call's own, whatever xs -/
theorem wpls_append_any (w : World) (hg : o.guard = none) (s x : Operand) (ho : o.op = .call { callee := .builtin .append, args := #[s, x], argTypes := #[28, 28] })
    (B : Nat) (v : Value) (zs ys : List ByteArray) (A : Option Addr) (m c : Nat) (hs : a.eval s = v) (hx : a.eval x = .slice A m c) (hm : ys.length = m) (hI : Strs w A ys) (hown : OwnS w B v zs) (hB : B ≤ w.heap.size) (hlen : zs.length + m ≤ 2097152)
    (hK : ∀ v' w', OwnS w' B v' (zs ++ ys) → w.grownBy w' v.ownBlock → (v'.ownBlock = v.ownBlock ∨ v'.ownBlock = some w.heap.size) → wpList Tryz.prog ops Q rest (a.put o.dst v') w') :
    wpList Tryz.prog ops Q (o :: rest) a w := by
  rcases Nat.eq_zero_or_pos m with h0 | hpos
  · subst h0
    have hy : ys = [] := List.eq_nil_of_length_eq_zero hm
    subst hy
    cases A with
    | none =>
      refine wpList_plain hg fun K hK' => ?_
      have hrun := run_append_none_str (w := w) B o.type v zs c hown
      unfold Oper.wp execOp
      simp only [ho, resolve, invoke, builtin, Sem.run_bind, Sem.run_pure, Result.andThen_ok, List.map_toArray, List.map_cons, List.map_nil, hs, hx, hrun]
      exact hK' _ _ (hK v w (by rw [List.append_nil]; exact hown) (World.grownBy.refl w _) (.inl rfl))
    | some ad =>
      obtain ⟨i0, hi, hz0, hz1, hz2⟩ := info_parts strInfo
      refine wpList_plain hg fun K hK' => ?_
      obtain ⟨v', w', hr, h2, h3, h4⟩ := run_append_own (P := Tryz.prog) w B 28 o.type 9 i0 (.string ByteArray.empty) 1 16 Tryz.underlying28 hi hz0 hz1 hz2 rfl (by decide) v zs.length (zs.map (Value.string)) hown ad 0 c [] rfl (fun j u hj => by simp at hj) (fun u hu => by simp at hu) (by unfold maxLen; omega) (by omega) hB
      have hlie := appends_lie i0 hi hz0 hz1 hz2 hown ad 0 c (news := []) rfl (fun j u hj => by simp at hj) (fun u hu => by simp at hu) (by omega) hr
      unfold Oper.wp execOp
      simp only [ho, resolve, invoke, builtin, Sem.run_bind, Sem.run_pure, Result.andThen_ok, List.map_toArray, List.map_cons, List.map_nil, hs, hx, hr]
      refine hK' _ _ (hK v' w' ?_ h3 hlie)
      unfold OwnS
      rw [List.append_nil]
      simpa using h2
  · exact wpls_append2 w hg s x ho B v zs ys A m c hs hx hm hpos hI hown hB hlen hK
end

end Go.Proofs.YtobakeahbgodbaaGreat

namespace Go.Proofs.YtobakeahbgodbaaGreat
open Go.RowKit
set_option linter.unusedVariables false

set_option maxRecDepth 100000 in
set_option maxHeartbeats 1600000 in
/-- slices.Grow(nil, n) -/
theorem sgrow_any (n : Nat) (w : World) (hn : n ≤ 2097152) :
    Calls Tryz.prog 108 #[.slice none 0 0, .int .i64 n] w fun e w' => ∃ v, e = .returned v ∧ OwnS w' w.heap.size v [] ∧ Below w.heap.size w w' := by
  rcases Nat.eq_zero_or_pos n with h0 | hpos
  · subst h0
    go_enter Tryz.func108, Tryz.ntmps108
    go_wp2
    go_ret
    exact ⟨_, rfl, ⟨rfl, .inl ⟨rfl, rfl⟩⟩, Below.refl _ _⟩
  · obtain ⟨i0, hi, hz0, hz1, hz2⟩ := info_parts strInfo
    have hgt : decide ((0 : Int) < (n : Int)) = true := decide_eq_true (by omega)
    have HAP := Lib.hid (fun ty => Lib.run_append_nil_zeros (P := Tryz.prog) w 28 3 ty 9 i0 (.string ByteArray.empty) .i64 .i64 Tryz.underlying28 Tryz.underlying3 hi hz0 n hpos (by rw [hz1]; omega) (by omega) (by rw [hz2]; omega))
    obtain ⟨cp, hcp⟩ : ∃ c, grownCap w n 0 9 = c := ⟨_, rfl⟩
    have hc1 : n ≤ cp := by rw [← hcp]; exact grownCap_ge w n 0 9
    have hc2 : cp ≤ maxLen := by rw [← hcp]; exact grownCap_le_maxLen w n 0 9 (by unfold maxLen; omega)
    rw [hcp] at HAP
    clear hcp hgt
    obtain ⟨w1, hw1⟩ : ∃ w1, w.drew.alloc (.cells (Builtin.zeroCells (Value.string ByteArray.empty).cells n ++ Builtin.zeroCells (Value.string ByteArray.empty).cells (cp - n)) 9) = w1 := ⟨_, rfl⟩
    have hb1 : Below w.heap.size w w1 := by rw [← hw1]; exact ((Below.refl _ w).drew).alloc (Nat.le_refl _) _
    have hO1 : OwnS w1 w.heap.size (.slice (some ⟨w.heap.size, 0, none⟩) 0 cp) [] := by
      rw [← hw1]
      exact World.ownsRow_made w.drew _ cp (Nat.le_refl _) hc2 (by simp only [Array.size_append, size_zeroCells, Value.cells]; simp; omega)
    rw [hw1] at HAP
    have HB := Lib.hid hb1; have HO := Lib.hid hO1
    unfold maxLen at hc2
    clear hw1 hb1 hO1 hi hz0 hz1 hz2 i0
    go_enter Tryz.func108, Tryz.ntmps108
    go_wp2_with (at_builtin; refine Lib.wpList_append_run _ rfl _ _ _ _ rfl _ _ rfl rfl _ _ (HAP.out _) ?_)
    go_ret
    exact ⟨_, rfl, HO.out, HB.out⟩

/-- one of the slices that are laid one behind the other -/
structure SPart where
  A : Option Addr
  n : Nat
  c : Nat
  zs : List ByteArray
def sflat (ps : List SPart) : List ByteArray := ps.flatMap (·.zs)
theorem sflat_at {ps : List SPart} {k : Nat} {p : SPart} (h : ps[k]? = some p) : sflat (ps.take (k + 1)) = sflat (ps.take k) ++ p.zs := by
  have : ps.take (k + 1) = ps.take k ++ [p] := by rw [List.take_add_one, h]; rfl
  unfold sflat
  rw [this, List.flatMap_append]; simp
theorem sflat_le (ps : List SPart) (k : Nat) : (sflat (ps.take k)).length ≤ (sflat ps).length := by
  have := congrArg sflat (List.take_append_drop k ps)
  unfold sflat at *
  rw [List.flatMap_append] at this
  rw [← this, List.length_append]; omega
def SPartsAt (w : World) (G : Addr) (b : Nat) (ps : List SPart) : Prop := G.block < b ∧ ∀ j p, ps[j]? = some p → w.cell? (G.add j) = some (.slice p.A p.n p.c) ∧ p.zs.length = p.n ∧ StrsB w b p.A p.zs
theorem SPartsAt.keep {w w' : World} {G : Addr} {b B : Nat} {ps : List SPart} (h : SPartsAt w G b ps) (hb : b ≤ B) (hB : Below B w w') : SPartsAt w' G b ps :=
  ⟨h.1, fun j p hp => by
    obtain ⟨h1, h2, h3⟩ := h.2 j p hp
    exact ⟨(hB.cell (p := G.add j) (by rw [block_add]; have := h.1; omega)).trans h1, h2, h3.keep hb hB⟩⟩

set_option maxRecDepth 100000 in
set_option maxHeartbeats 3200000 in
/-- slices.Concat -/
theorem sconcat_any (G : Addr) (b l cl : Nat) (ps : List SPart) (w : World) (hl : ps.length = l) (hl1 : l ≤ 1000) (hb : b ≤ w.heap.size) (hP : SPartsAt w G b ps) (hs : (sflat ps).length ≤ 1048576) :
    Calls Tryz.prog 70 #[.slice (some G) l cl] w fun e w' => ∃ v, e = .returned v ∧ OwnS w' w.heap.size v (sflat ps) ∧ Below w.heap.size w w' := by
  have Hl := Lib.hid hl; have HP := Lib.hid hP
  have HS := Lib.hid (fun k => Nat.le_trans (sflat_le ps k) hs)
  clear hl hP hs
  go_enter Tryz.func70, Tryz.ntmps70
  go_wp2
  go_loop [3, 11] (fun s i => ∃ k : Nat, k ≤ l ∧ i = .int .i64 k ∧ s = .int .i64 (sflat (ps.take k)).length) (fun _ i => l - (intOf i).toNat)
  case atStart => exact ⟨0, Nat.zero_le _, rfl, rfl⟩
  case round =>
    obtain ⟨k, hk, rfl, rfl⟩ := hrel
    have hsk := HS.out k
    by_cases hlt : k < l
    · obtain ⟨p, hp⟩ : ∃ p, ps[k]? = some p := ⟨_, List.getElem?_eq_getElem (by rw [Hl.out]; exact hlt)⟩
      obtain ⟨hc, hpn, _⟩ := HP.out.2 k p hp
      have hF : Hid ((sflat (ps.take (k + 1))).length = (sflat (ps.take k)).length + p.n) := by show _ = _; rw [sflat_at hp, List.length_append, hpn]
      have hsk1 := HS.out (k + 1)
      rw [hF.out] at hsk1
      obtain ⟨f, hf⟩ : ∃ f, (sflat (ps.take k)).length = f := ⟨_, rfl⟩
      rw [hf] at hF hsk hsk1 ⊢
      obtain ⟨A, n, c, zs⟩ := p
      simp only at hc hF hsk1 hpn
      clear hp hf hpn
      have hnn : decide ((f : Int) + (n : Int) < 0) = false := decide_eq_false (by omega)
      go_wp2
      go_round
      case rel => exact ⟨k + 1, by omega, by go_num, by rw [hF.out]; go_num⟩
      case measure => simp [intOf]; omega
    · have hkn : k = l := by omega
      subst hkn
      go_wp2_with fail
      refine (sgrow_any _ w (by omega)).mono ?_
      rintro e w1 ⟨v1, rfl, hO1, hb1⟩
      have O1 := Lib.hid hO1; have B1 := Lib.hid hb1
      clear hO1 hb1
      go_wp2
      go_loopw [6, 27] (fun v i wr => ∃ q : Nat, q ≤ k ∧ i = .int .i64 q ∧ OwnS wr w.heap.size v (sflat (ps.take q)) ∧ Below w.heap.size w wr) (fun _ i _ => k - (intOf i).toNat)
      case atStart => exact ⟨0, Nat.zero_le _, rfl, O1.out, B1.out⟩
      case round =>
        clear O1 B1
        obtain ⟨q, hq, rfl, hown, hb2⟩ := hrel
        have HO := Lib.hid hown; have HB := Lib.hid hb2
        have hsz := hb2.size
        clear hown hb2
        by_cases hqk : q < k
        · obtain ⟨p, hp⟩ : ∃ p, ps[q]? = some p := ⟨_, List.getElem?_eq_getElem (by rw [Hl.out]; exact hqk)⟩
          obtain ⟨hc, hpn, hI⟩ := (HP.out.keep hb HB.out).2 q p hp
          have HF := Lib.hid (sflat_at hp)
          have hsq := HS.out (q + 1)
          rw [HF.out, List.length_append] at hsq
          obtain ⟨A, n, c, zs⟩ := p
          simp only at hc HF hsq hpn hI
          have Hpn := Lib.hid hpn; have HI := Lib.hid hI.ints; have Hsq := Lib.hid hsq
          clear hp hpn hI hsq
          go_wp2_with (at_builtin; refine wpls_append_any _ rfl (.tmp 31) (.tmp 32) rfl w.heap.size _ _ zs A n c rfl rfl Hpn.out HI.out HO.out hsz (by have h1 := Hsq.out; have h2 := Hpn.out; omega) ?_; intro v' w4 hO4 hg4 _)
          rw [← HF.out] at hO4
          have O4 := Lib.hid hO4; have B4 := Lib.hid (HB.out.trans ((Below.refl w.heap.size wr).grown hg4 hsz (fun g hg => (World.ownsRow.lt HO.out g hg).1)))
          clear hO4 hg4
          go_roundw
          case rel => exact ⟨q + 1, by omega, by go_num, O4.out, B4.out⟩
          case measure => simp [intOf]; omega
        · have hqn : q = k := by omega
          subst hqn
          have HT : Hid (ps.take q = ps) := List.take_of_length_le (by rw [Hl.out]; omega)
          rw [HT.out] at HO
          go_wp2
          go_ret
          exact ⟨_, rfl, HO.out, HB.out⟩

set_option maxRecDepth 100000 in
set_option maxHeartbeats 1600000 in
/-- slices.Clone -/
theorem sclone_any (A : Option Addr) (n c : Nat) (zs : List ByteArray) (w : World) (hn : zs.length = n) (hm : n ≤ 1048576) (h : StrsB w w.heap.size A zs) :
    Calls Tryz.prog 71 #[.slice A n c] w fun e w' => ∃ v, e = .returned v ∧ OwnS w' w.heap.size v zs ∧ Below w.heap.size w w' := by
  have Hn := Lib.hid hn
  have H := Lib.hid h
  have heq := fun (wx : World) => Lib.run_eql_slice_nil (P := Tryz.prog) wx 28 9 A n c 0 0 Tryz.underlying28
  cases A with
  | none =>
    have hz : zs = [] := by
      cases zs with
      | nil => rfl
      | cons z zs => obtain ⟨ad, e, _⟩ := h (by simp); cases e
    subst hz
    have hn0 : n = 0 := by simpa using hn.symm
    subst hn0
    simp only [Option.isNone_none] at heq
    clear hn h
    go_enter Tryz.func71, Tryz.ntmps71
    go_wp2
    go_ret
    exact ⟨_, rfl, ⟨rfl, .inl ⟨rfl, rfl⟩⟩, Below.refl _ _⟩
  | some ad =>
    simp only [Option.isNone_some] at heq
    obtain ⟨w1, hw1⟩ : ∃ w1, w.alloc (.cells #[] 9) = w1 := ⟨_, rfl⟩
    have hb1 : Below w.heap.size w w1 := by rw [← hw1]; exact below_new _ _
    have hO1 : OwnS w1 w.heap.size (.slice (some ⟨w.heap.size, 0, none⟩) 0 0) [] := by rw [← hw1]; exact World.ownsRow_lit w #[] 0 (Nat.le_refl _) (Nat.zero_le _) rfl
    have B1 := Lib.hid hb1; have O1 := Lib.hid hO1
    have I1 := Lib.hid ((H.out.keep (Nat.le_refl _) hb1).ints)
    have z1 := hb1.size
    clear hn h hb1 hO1
    go_enter Tryz.func71, Tryz.ntmps71
    go_wp2_with (at_builtin; refine wpls_append_any _ rfl (.tmp 5) (.tmp 6) rfl w.heap.size _ [] zs (some ad) n c rfl rfl Hn.out I1.out O1.out z1 (by simp; omega) ?_; intro v' w4 hO4 hg4 _)
    rw [List.nil_append] at hO4
    have O4 := Lib.hid hO4; have B4 := Lib.hid (B1.out.trans ((Below.refl w.heap.size w1).grown hg4 z1 (fun g hg => (World.ownsRow.lt O1.out g hg).1)))
    clear hO4 hg4
    go_ret
    exact ⟨_, rfl, O4.out, B4.out⟩

theorem sparts3 (w : World) (A1 : Option Addr) (n1 c1 : Nat) (zs1 : List ByteArray) (A2 : Option Addr) (n2 c2 : Nat) (zs2 : List ByteArray) (A3 : Option Addr) (n3 c3 : Nat) (zs3 : List ByteArray) (T : TypeId) (h1 : zs1.length = n1) (h2 : zs2.length = n2) (h3 : zs3.length = n3) (i1 : StrsB w w.heap.size A1 zs1) (i2 : StrsB w w.heap.size A2 zs2) (i3 : StrsB w w.heap.size A3 zs3) :
    SPartsAt (w.alloc (.cells #[.slice A1 n1 c1, .slice A2 n2 c2, .slice A3 n3 c3] T)) ⟨w.heap.size, 0, none⟩ (w.heap.size + 1) [⟨A1, n1, c1, zs1⟩, ⟨A2, n2, c2, zs2⟩, ⟨A3, n3, c3, zs3⟩] := by
  have hb : Below w.heap.size w (w.alloc (.cells #[.slice A1 n1 c1, .slice A2 n2 c2, .slice A3 n3 c3] T)) := (Below.refl _ _).alloc (Nat.le_refl _) _
  refine ⟨Nat.lt_succ_self _, fun j p hp => ?_⟩
  have wide : ∀ {A : Option Addr} {zs : List ByteArray}, StrsB w w.heap.size A zs → StrsB (w.alloc (.cells #[.slice A1 n1 c1, .slice A2 n2 c2, .slice A3 n3 c3] T)) (w.heap.size + 1) A zs := fun h hn => by
    obtain ⟨ad, e, hl, hc⟩ := (h.keep (Nat.le_refl _) hb) hn
    exact ⟨ad, e, by omega, hc⟩
  match j, hp with
  | 0, hp =>
    simp at hp; subst hp
    exact ⟨by rw [add_zero_at, World.cell?_alloc_at _ _ _ _ rfl]; rfl, h1, wide i1⟩
  | 1, hp =>
    simp at hp; subst hp
    exact ⟨by rw [add_zero_at, World.cell?_alloc_at _ _ _ _ rfl]; rfl, h2, wide i2⟩
  | 2, hp =>
    simp at hp; subst hp
    exact ⟨by rw [add_zero_at, World.cell?_alloc_at _ _ _ _ rfl]; rfl, h3, wide i3⟩
end Go.Proofs.YtobakeahbgodbaaGreat

namespace Go.Proofs.YtobakeahbgodbaaGreat
open Go.RowKit
set_option linter.unusedVariables false

/-- the bytes of the first k strings -/
def szT (ss : List ByteArray) (k : Nat) : Nat := ((ss.take k).map ByteArray.size).sum
/-- strings and bytes -/
def szL (ss : List ByteArray) : Nat := ss.length + szT ss ss.length
def szI (left : Int) (ss : List ByteArray) : Int := if (szL ss : Int) ≤ left then left - szL ss else -1
theorem szT_succ {ss : List ByteArray} {k : Nat} {x : ByteArray} (h : ss[k]? = some x) : szT ss (k + 1) = szT ss k + x.size := by
  unfold szT; rw [stake_at h, List.map_append, List.sum_append]; simp
theorem szT_all (ss : List ByteArray) {n : Nat} (h : ss.length ≤ n) : szT ss n = szT ss ss.length := by
  unfold szT; rw [List.take_of_length_le h, List.take_of_length_le (Nat.le_refl _)]
theorem szT_mono (ss : List ByteArray) (k : Nat) : szT ss k ≤ szT ss (k + 1) := by
  cases h : ss[k]? with
  | none =>
    have hl : ss.length ≤ k := List.getElem?_eq_none_iff.1 h
    rw [szT_all ss hl, szT_all ss (Nat.le_succ_of_le hl)]; exact Nat.le_refl _
  | some x => rw [szT_succ h]; omega
theorem szT_le (ss : List ByteArray) {k m : Nat} (h : k ≤ m) : szT ss k ≤ szT ss m := by
  induction m with
  | zero => have : k = 0 := by omega
            subst this; exact Nat.le_refl _
  | succ m ih =>
    by_cases e : k = m + 1
    · subst e; exact Nat.le_refl _
    · exact Nat.le_trans (ih (by omega)) (szT_mono ss m)
theorem szT_mem {ss : List ByteArray} {x : ByteArray} (h : x ∈ ss) : x.size ≤ szT ss ss.length := by
  obtain ⟨k, hk⟩ := List.getElem?_of_mem h
  have h1 := szT_succ hk
  have h2 := szT_le ss (show k + 1 ≤ ss.length from slt_at hk)
  omega
theorem szI_good {left : Int} {ss : List ByteArray} (h : 0 ≤ szI left ss) : (szL ss : Int) ≤ left ∧ szI left ss = left - szL ss := by
  unfold szI at *
  by_cases e : (szL ss : Int) ≤ left
  · rw [if_pos e]; exact ⟨e, rfl⟩
  · rw [if_neg e] at h; omega
theorem szI_bad {left : Int} {ss : List ByteArray} (h : ¬ (szL ss : Int) ≤ left) : szI left ss = -1 := by unfold szI; rw [if_neg h]

set_option maxHeartbeats 800000 in
theorem szStringS_any (A : Option Addr) (n c : Nat) (ss : List ByteArray) (left : Int) (w : World) (hn : ss.length = n) (hm : n ≤ maxLen) (h : Strs w A ss) (hz : ∀ s ∈ ss, s.size ≤ maxLen) (h0 : 0 ≤ left) (h1 : left ≤ 1048576) :
    Calls Tryz.prog 14 #[.slice A n c, .int .i64 left] w fun e w' => e = .returned (.int .i64 (szI left ss)) ∧ w = w' := by
  unfold maxLen at hm hz
  have Hn := Lib.hid hn; have Hz := Lib.hid hz
  clear hn hz
  by_cases hlt : left < n
  · have HR : Hid (szI left ss = -1) := by
      show _ = _
      exact szI_bad (by unfold szL; rw [Hn.out]; omega)
    go_enter Tryz.func14, Tryz.ntmps14
    go_wp2
    go_ret
    exact ⟨ret_int HR.out.symm, rfl⟩
  go_enter Tryz.func14, Tryz.ntmps14
  go_wp2
  go_loop [1, 5] (fun l i => ∃ (k : Nat) (q : Int), k ≤ n ∧ i = .int .i64 k ∧ l = .int .i64 q ∧ 0 ≤ q ∧ q ≤ 1048576 ∧ q = left - n - szT ss k) (fun _ i => n - (intOf i).toNat)
  case atStart => exact ⟨0, left - n, Nat.zero_le _, rfl, rfl, by omega, by omega, by simp [szT]⟩
  case round =>
    obtain ⟨k, q, hk, rfl, rfl, hq0, hq1, hq⟩ := hrel
    have Hq := Lib.hid hq
    clear hq
    by_cases hkn : k < n
    · obtain ⟨ad, x, rfl, hx, hc⟩ := h.at_ (k := k) (by rw [Hn.out]; exact hkn)
      have hxs : x.size ≤ 9223372036854775807 := Hz.out x (smem_at hx.out)
      have HS := Lib.hid (szT_succ hx.out)
      by_cases hb : q < x.size
      · have HR : Hid (szI left ss = -1) := by
          show _ = _
          have h2 := szT_le ss (show k + 1 ≤ ss.length by rw [Hn.out]; omega)
          have h3 := Hq.out
          have h4 := HS.out
          exact szI_bad (by unfold szL; rw [Hn.out] at *; omega)
        go_wp2
        go_ret
        exact ⟨ret_int HR.out.symm, rfl⟩
      · have HQ : Hid (q - x.size = left - n - szT ss (k + 1)) := by
          show _ = _
          have h3 := Hq.out
          have h4 := HS.out
          omega
        go_wp2
        go_round
        case rel => exact ⟨k + 1, q - x.size, by omega, by go_num, rfl, by omega, by omega, HQ.out⟩
        case measure => simp [intOf]; omega
    · have hkn' : k = n := by omega
      subst hkn'
      have HR : Hid (szI left ss = q) := by
        show _ = _
        have h3 := Hq.out
        have e : szL ss = k + szT ss k := by unfold szL; rw [Hn.out]
        unfold szI
        rw [if_pos (by rw [e]; omega), e, h3]
        omega
      go_wp2
      go_ret
      exact ⟨ret_int HR.out.symm, rfl⟩
end Go.Proofs.YtobakeahbgodbaaGreat

namespace Go.Proofs.YtobakeahbgodbaaGreat
open Go.RowKit
set_option linter.unusedVariables false

/-- the digits of j ahead of o, at most f of them -/
def digs : Nat → Nat → ByteArray → ByteArray
  | 0, _, o => o
  | f + 1, j, o => if j = 0 then o else digs f (j / 10) (strOfNums [((48 + j % 10 : Nat) : Int)] ++ o)
def markT (k : Nat) : ByteArray := (⟨#[109]⟩ : ByteArray) ++ digs 10 k ByteArray.empty
theorem digs_zero (f : Nat) (o : ByteArray) : digs f 0 o = o := by cases f <;> simp [digs]
set_option maxRecDepth 100000 in
set_option maxHeartbeats 1600000 in
theorem markText_any (k : Nat) (w : World) (h0 : 1 ≤ k) (h1 : k ≤ 4194304) : Calls Tryz.prog 55 #[.int .i64 (k : Int)] w fun e w' => e = .returned (.string (markT k)) ∧ Below w.heap.size w w' := by
  go_enter Tryz.func55, Tryz.ntmps55
  go_wp2
  go_loopw [0, 3] (fun u v wr => ∃ (j f : Nat) (o : ByteArray), u = .int .i64 j ∧ v = .string o ∧ j < 10 ^ f ∧ j ≤ 4194304 ∧ f + o.size ≤ 10 ∧ digs f j o = digs 10 k ByteArray.empty ∧ Below w.heap.size w wr) (fun u _ _ => (intOf u).toNat)
  case atStart => exact ⟨k, 10, ByteArray.empty, rfl, rfl, by omega, h1, by simp, rfl, Below.refl _ _⟩
  case round =>
    obtain ⟨j, f, o, rfl, rfl, hjf, hj, hfo, hd, hb⟩ := hrel
    have HD := Lib.hid hd; have HB := Lib.hid hb; have HJF := Lib.hid hjf
    have hsz := hb.size
    clear hd hb hjf
    by_cases hp : 0 < j
    · obtain ⟨f', rfl⟩ : ∃ f', f = f' + 1 := by
        cases f with
        | zero => have := HJF.out; omega
        | succ f' => exact ⟨f', rfl⟩
      obtain ⟨r, hr⟩ : ∃ r, 48 + j % 10 = r := ⟨_, rfl⟩
      obtain ⟨q, hq⟩ : ∃ q, j / 10 = q := ⟨_, rfl⟩
      have HN : Hid (digs f' q (strOfNums [(r : Int)] ++ o) = digs 10 k ByteArray.empty) := by
        show _ = _
        rw [← HD.out, ← hq, ← hr]
        conv => rhs; unfold digs
        rw [if_neg (by omega)]
      have HQ : Hid (q < 10 ^ f') := by
        show _ < _
        have := HJF.out
        rw [Nat.pow_succ] at this
        omega
      have e1 : Int.tmod (j : Int) 10 = (((r - 48 : Nat)) : Int) := by rw [Int.tmod_eq_emod_of_nonneg (by omega)]; omega
      have e2 : (48 : Int) + ((r - 48 : Nat) : Int) = (r : Int) := by omega
      have hr57 : r ≤ 57 := by omega
      have e3 : (r : Int) % 256 = (r : Int) := by omega
      have e4 : Int.tdiv (j : Int) 10 = (q : Int) := by rw [Int.tdiv_eq_ediv_of_nonneg (by omega)]; omega
      obtain ⟨r0, hr0⟩ : ∃ r0, r - 48 = r0 := ⟨_, rfl⟩
      rw [hr0] at e1 e2
      have hcv : (convert 22 9 (.slice (some ⟨wr.heap.size, 0, none⟩) 1 1)).run Tryz.prog (wr.alloc (.cells #[.int .u8 (r : Int)] 5)) = .ok (.string (strOfNums [(r : Int)])) (wr.alloc (.cells #[.int .u8 (r : Int)] 5)) := by
        refine run_convert_bytes_arg (P := Tryz.prog) _ 22 5 Tryz.underlying22 Tryz.underlying5 wr.heap.size 0 1 1 [(r : Int)] rfl ?_ 9 Tryz.underlying9
        intro i hi
        have : i = 0 := by omega
        subst this
        rw [World.cell?_alloc_at _ _ _ _ rfl]; rfl
      have HSZ : Hid ((strOfNums [(r : Int)]).size = 1) := by show _ = _; rw [strOfNums_size]; rfl
      have hs1 : (strOfNums [(r : Int)]).size ≤ 1 := by rw [HSZ.out]; omega
      have hso : (strOfNums [(r : Int)] ++ o).size ≤ 12 := by rw [ByteArray.size_append, HSZ.out]; omega
      have HSO : Hid (f' + (strOfNums [(r : Int)] ++ o).size ≤ 10) := by show _ ≤ _; rw [ByteArray.size_append, HSZ.out]; omega
      have hql : q ≤ 4194304 := by omega
      have HJ : Hid (q < j) := by show _ < _; omega
      clear hr hq hr0
      go_wp2
      go_roundw
      case rel => exact ⟨q, f', _, rfl, rfl, HQ.out, hql, HSO.out, HN.out, HB.out.alloc hsz _⟩
      case measure => have := HJ.out; simp [intOf]; omega
    · have hj0 : j = 0 := by omega
      have HO : Hid (digs 10 k ByteArray.empty = o) := by show _ = _; rw [← HD.out, hj0, digs_zero]
      clear hj0
      have hos : o.size ≤ 10 := by omega
      go_wp2
      go_ret
      exact ⟨by unfold markT; rw [HO.out]; rfl, HB.out⟩

theorem ownsRow_below {w w' : World} {B n : Nat} {T : TypeId} {v : Value} {xs : List Value} (h : w.ownsRow B T 1 v n xs) (hb : Below w.heap.size w w') : w'.ownsRow B T 1 v n xs := by
  refine ⟨h.1, ?_⟩
  rcases h.2 with hn | ⟨g, cap, cur, hv, hg, hh, rest⟩
  · exact .inl hn
  · exact .inr ⟨g, cap, cur, hv, hg, (hb.block g (Array.getElem?_eq_some_iff.1 hh).1).trans hh, rest⟩
theorem grown_of_below {w w' : World} (row : Option Nat) (h : Below w.heap.size w w') : w.grownBy w' row := ⟨h.os, h.tape, h.output, h.size, fun k hk _ => h.block k hk⟩
/-- marks k, k + 1, .. -/
def upT (k n : Nat) : List ByteArray := (List.range n).map (fun i => markT (k + i))
theorem upT_len (k n : Nat) : (upT k n).length = n := by simp [upT]
theorem upT_get (k n i : Nat) (h : i < n) : (upT k n)[i]? = some (markT (k + i)) := by simp [upT, h]
def markedT (zs : List ByteArray) (k j : Nat) : List ByteArray := upT k j ++ zs.drop j
theorem markedT_set {zs : List ByteArray} {k j : Nat} (h : j < zs.length) : (markedT zs k j).set j (markT (k + j)) = markedT zs k (j + 1) := by
  unfold markedT
  rw [List.set_append, if_neg (by simp [upT_len]), upT_len, Nat.sub_self]
  have : zs.drop j = zs[j] :: zs.drop (j + 1) := List.drop_eq_getElem_cons h
  rw [this, List.set_cons_zero]
  simp [upT, List.range_succ]
theorem markedT_len (zs : List ByteArray) (k j : Nat) (h : j ≤ zs.length) : (markedT zs k j).length = zs.length := by
  simp [markedT, upT_len]; omega
theorem markedT_full (zs : List ByteArray) (k : Nat) : markedT zs k zs.length = upT k zs.length := by simp [markedT]

set_option maxRecDepth 100000 in
set_option maxHeartbeats 1600000 in
theorem markStringS_any (A : Option Addr) (n c B k : Nat) (zs : List ByteArray) (w : World) (hn : zs.length = n) (hl : n ≤ 1048576) (hB : B ≤ w.heap.size) (hk0 : 1 ≤ k) (hk1 : k ≤ 2097152) (h : OwnS w B (.slice A n c) zs) :
    Calls Tryz.prog 21 #[.slice A n c, .int .i64 (k : Int)] w fun e w' => e = .returned (.int .i64 ((k + n : Nat) : Int)) ∧ OwnS w' B (.slice A n c) (upT k n) ∧ w.grownBy w' (Value.slice A n c).ownBlock := by
  have Hn := Lib.hid hn
  rcases h.2 with ⟨hv, hz⟩ | ⟨g, cap, cur, hv, hg, hh, hrest⟩
  · injection hv with e1 e2 e3
    subst e1
    have hn0 : n = 0 := by rw [← hn]; exact hz
    subst hn0
    go_enter Tryz.func21, Tryz.ntmps21
    go_wp2
    refine wp_loop_rounds 1 ?_
    rw [rounds_succ]
    go_wp2
    go_ret
    refine ⟨ret_int (by simp), ?_, World.grownBy.refl w _⟩
    have : zs = [] := List.eq_nil_of_length_eq_zero hz
    subst this
    exact h
  · injection hv with e1 e2 e3
    subst e1
    have hO := h
    unfold OwnS at hO
    rw [hn] at hO
    have HO := Lib.hid hO
    clear hO h hh hrest e2 e3 hn
    clear cur cap
    go_enter Tryz.func21, Tryz.ntmps21
    go_wp2
    go_loopw [1, 5] (fun q i wr => ∃ j kj : Nat, j ≤ n ∧ kj = k + j ∧ i = .int .i64 j ∧ q = .int .i64 kj ∧ wr.ownsRow B 9 1 (.slice (some ⟨g, 0, none⟩) n c) n ((markedT zs k j).map (Value.string)) ∧ w.grownBy wr (some g)) (fun _ i _ => n - (intOf i).toNat)
    case atStart => exact ⟨0, k, Nat.zero_le _, rfl, rfl, rfl, by have := HO.out; simpa [markedT, upT] using this, World.grownBy.refl w _⟩
    case round =>
      obtain ⟨j, kj, hj, hkj, rfl, rfl, hown, hb⟩ := hrel
      have HKJ := Lib.hid hkj; have HW := Lib.hid hown; have HBl := Lib.hid hb
      have hkb : kj ≤ 4194304 := by omega
      have hk1' : 1 ≤ kj := by omega
      have hszr := hb.size
      clear hkj hown hb
      by_cases hlt : j < n
      · have hlz : j < zs.length := by rw [Hn.out]; exact hlt
        go_wp2_with fail
        refine (markText_any kj _ hk1' hkb).mono ?_
        rintro e w2 ⟨rfl, hb2⟩
        have HW2 := Lib.hid (ownsRow_below HW.out hb2)
        have HB2 := Lib.hid (grown_trans HBl.out (grown_of_below (some g) hb2))
        obtain ⟨v0, hv0⟩ : ∃ v0, ((markedT zs k j).map (Value.string))[j]? = some v0 := ⟨_, List.getElem?_eq_getElem (by rw [List.length_map, markedT_len _ _ _ (by omega)]; exact hlz)⟩
        have hd := (HW2.out.cellAt j (by omega)).trans hv0
        have hf := HW2.out.frozenAt j
        have hst := HW2.out.stored j (.string (markT kj))
        rw [HKJ.out, ← List.map_set, markedT_set hlz, ← HKJ.out] at hst
        have HS := Lib.hid hst.1
        have HBs := Lib.hid (grown_set HB2.out j (.string (markT kj)))
        clear hst hv0 hb2 hlz
        go_wp2
        go_roundw
        case rel => exact ⟨j + 1, kj + 1, by omega, by have := HKJ.out; omega, by go_num, by go_num, HS.out, HBs.out⟩
        case measure => simp [intOf]; omega
      · have hjn : j = n := by omega
        subst hjn
        go_wp2
        go_ret
        refine ⟨ret_int (by rw [HKJ.out]), ?_, HBl.out⟩
        unfold OwnS
        rw [upT_len, ← Hn.out, ← markedT_full, Hn.out]
        exact HW.out

set_option maxHeartbeats 800000 in
theorem heldStringS_any (A : Option Addr) (n c k : Nat) (w : World) (hk0 : 1 ≤ k) (hk1 : k ≤ 2097152) (hl : n ≤ 1048576) (h : Strs w A (upT k n)) :
    Calls Tryz.prog 22 #[.slice A n c, .int .i64 (k : Int)] w fun e w' => e = .returned (.int .i64 ((k + n : Nat) : Int)) ∧ Below w.heap.size w w' := by
  have H := Lib.hid h
  clear h
  go_enter Tryz.func22, Tryz.ntmps22
  go_wp2
  go_loopw [1, 5] (fun q i wr => ∃ j kj : Nat, j ≤ n ∧ kj = k + j ∧ i = .int .i64 j ∧ q = .int .i64 kj ∧ Below w.heap.size w wr) (fun _ i _ => n - (intOf i).toNat)
  case atStart => exact ⟨0, k, Nat.zero_le _, rfl, rfl, rfl, Below.refl _ _⟩
  case round =>
    obtain ⟨j, kj, hj, hkj, rfl, rfl, hb⟩ := hrel
    have HKJ := Lib.hid hkj; have HBl := Lib.hid hb
    have hkb : kj ≤ 4194304 := by omega
    have hk1' : 1 ≤ kj := by omega
    have hszr := hb.size
    clear hkj hb
    by_cases hlt : j < n
    · obtain ⟨ad, x, rfl, hx, hc⟩ := (H.out.below HBl.out).at_ (k := j) (by rw [upT_len]; exact hlt)
      have hxe : markT kj = x := by have := hx.out; rw [upT_get _ _ _ hlt, ← HKJ.out] at this; injection this
      subst hxe
      have hbe := str_eq (markT kj)
      clear hx
      have hlt2 := World.block_lt_of_cell? _ _ hc
      go_wp2
      go_region_with ((go_at_call 55; refine (markText_any kj _ hk1' hkb).mono ?_; rintro e w2 ⟨rfl, hb2⟩; have hc2 := (hb2.cell (p := ad.add j) hlt2).trans hc; have HB2 := Lib.hid ((below_drewN HBl.out 1).trans (hb2.mono hszr)); clear hb2))
      all_goals
        go_wp2
        go_roundw
        case rel => exact ⟨j + 1, kj + 1, by omega, by have := HKJ.out; omega, by go_num, by go_num, HB2.out⟩
        case measure => simp [intOf]; omega
    · have hjn : j = n := by omega
      subst hjn
      go_wp2
      go_ret
      exact ⟨ret_int (by rw [HKJ.out]), HBl.out⟩
end Go.Proofs.YtobakeahbgodbaaGreat

namespace Go.Proofs.YtobakeahbgodbaaGreat
open Go.RowKit
set_option linter.unusedVariables false

theorem markS1 (A : Option Addr) (n c B : Nat) (zs : List ByteArray) (w : World) (hn : zs.length = n) (hl : n ≤ 1048576) (hB : B ≤ w.heap.size) (h : OwnS w B (.slice A n c) zs) :
    Calls Tryz.prog 21 #[.slice A n c, .int .i64 1] w fun e w' => e = .returned (.int .i64 ((1 + n : Nat) : Int)) ∧ OwnS w' B (.slice A n c) (upT 1 n) ∧ w.grownBy w' (Value.slice A n c).ownBlock :=
  markStringS_any A n c B 1 zs w hn hl hB (Nat.le_refl _) (by omega) h
theorem heldS1 (A : Option Addr) (n c : Nat) (w : World) (hl : n ≤ 1048576) (h : Strs w A (upT 1 n)) :
    Calls Tryz.prog 22 #[.slice A n c, .int .i64 1] w fun e w' => e = .returned (.int .i64 ((1 + n : Nat) : Int)) ∧ Below w.heap.size w w' :=
  heldStringS_any A n c 1 w (Nat.le_refl _) (by omega) hl h
theorem toStringS_o (A : Option Addr) (n c : Nat) (zs : List ByteArray) (w : World) (hn : zs.length = n) (hm : n ≤ 1048576) (h : Strs w A zs) :
    Calls Tryz.prog 17 #[.slice A n c] w fun e w' => ∃ A' c', e = .returned (.slice A' n c') ∧ OwnS w' w.heap.size (.slice A' n c') zs ∧ n ≤ c' ∧ c' ≤ maxLen ∧ Below w.heap.size w w' :=
  (toStringS_call A n c zs w hn hm h).mono fun e w' ⟨A', c', he, hI, hO, hb, h1, h2⟩ => ⟨A', c', he, hO, h1, h2, hb⟩
theorem owns_read {w : World} {B n c : Nat} {A : Option Addr} {zs : List ByteArray} (h : OwnS w B (.slice A n c) zs) : Strs w A zs := by
  obtain ⟨A', c', hv, hI, _⟩ := h.form
  injection hv with h1 h2 h3
  subst h1
  exact hI
theorem owns_top {w : World} {B : Nat} {v : Value} {zs : List ByteArray} (h : OwnS w B v zs) : ∀ k, v.ownBlock = some k → B ≤ k ∧ k < w.heap.size := fun k hk => World.ownsRow.lt h k hk
theorem chg_ownS {lo hi B : Nat} {w w' : World} {v : Value} {zs : List ByteArray} (h : Chg lo hi w w') (hO : OwnS w B v zs) (hn : ∀ k, v.ownBlock = some k → ¬ (lo ≤ k ∧ k < hi)) : OwnS w' B v zs := by
  refine ⟨hO.1, ?_⟩
  rcases hO.2 with hx | ⟨g, cap, cur, hv, hg, hh, rest⟩
  · exact .inl hx
  · refine .inr ⟨g, cap, cur, hv, hg, (h.block g (Array.getElem?_eq_some_iff.1 hh).1 (hn g ?_)).trans hh, rest⟩
    rw [hv]; rfl
end Go.Proofs.YtobakeahbgodbaaGreat

namespace Go.Proofs.YtobakeahbgodbaaGreat
open Go.RowKit Go.Shelf
set_option linter.unusedVariables false

def isBl (r : Nat) : Bool := r == 32
/-- the words as the library parts them -/
def wordsR (s : ByteArray) : List ByteArray := Lib.goFieldsP isBl s
theorem bl_enter (args : Array Value) (w : World) : Sem.run Tryz.prog (callFunc 68 args) w = .ok (.enter 68 args) w := by kernel_rfl
theorem bl_any (x : Nat) (w : World) : Calls Tryz.prog 68 #[.int .i32 (x : Int)] w fun e w' => e = .returned (.bool (isBl x)) ∧ w = w' := by
  have HR : Hid (isBl x = ((x : Int) == 32)) := by
    show _ = _
    unfold isBl
    by_cases h : x = 32
    · subst h; rfl
    · rw [beq_eq_false_iff_ne.2 h, beq_eq_false_iff_ne.2 (by omega)]
  go_enter Tryz.func68, Tryz.ntmps68
  go_wp2
  go_ret
  exact ⟨ret_bool HR.out.symm, rfl⟩
theorem wordsOf_any (s : ByteArray) (w : World) (hs : s.size ≤ 2097151) :
    Calls Tryz.prog 37 #[.string s] w fun e w' => ∃ A n, e = .returned (.slice (some ⟨A, 0, none⟩) n n) ∧ n = (wordsR s).length ∧ w'.ownsRow w.heap.size 9 1 (.slice (some ⟨A, 0, none⟩) n n) n ((wordsR s).map Value.string) ∧ Below w.heap.size w w' := by
  have HP : ∀ (w : World), PredAt Tryz.prog 68 #[] encR isBl w := fun w W x hb => by
    unfold FnGives
    refine (bl_any x W).mono ?_
    rintro e w' ⟨rfl, rfl⟩
    exact ⟨rfl, 0, rfl⟩
  go_enter Tryz.func37, Tryz.ntmps37
  go_wp2_with fail
  refine (Tryz.strings_FieldsFunc 68 #[] bl_enter isBl s _ (by omega) (HP _)).mono ?_
  rintro e w1 ⟨A, rfl, hA, hO, hb⟩
  go_wp2
  go_ret
  exact ⟨A, _, rfl, rfl, hO, hb⟩
end Go.Proofs.YtobakeahbgodbaaGreat

namespace Go.Proofs.YtobakeahbgodbaaGreat
open Go.RowKit
set_option linter.unusedVariables false

/-- the spans of the words that end before byte i, and where the next one begins -/
def wst (s : ByteArray) : Nat → List (Nat × Nat) × Nat
  | 0 => ([], 0)
  | i + 1 => if byt s i = 32 then (if (wst s i).2 < i then ((wst s i).1 ++ [((wst s i).2, i)], i + 1) else ((wst s i).1, i + 1)) else wst s i
def wend (s : ByteArray) : List (Nat × Nat) := if (wst s s.size).2 < s.size then (wst s s.size).1 ++ [((wst s s.size).2, s.size)] else (wst s s.size).1
def wpc (s : ByteArray) (l : List (Nat × Nat)) : List ByteArray := l.map fun x => s.extract x.1 x.2
/-- the words -/
def wordsB (s : ByteArray) : List ByteArray := wpc s (wend s)

theorem wst_le (s : ByteArray) : ∀ i, (wst s i).2 ≤ i ∧ (wst s i).1.length ≤ i
  | 0 => ⟨Nat.le_refl _, Nat.le_refl _⟩
  | i + 1 => by
    obtain ⟨h1, h2⟩ := wst_le s i
    unfold wst
    split
    · split
      · exact ⟨Nat.le_refl _, by simp; omega⟩
      · exact ⟨Nat.le_refl _, by simp only; omega⟩
    · exact ⟨by omega, by omega⟩
theorem wst_skip (s : ByteArray) (i : Nat) : ∀ k, (∀ j, j < k → byt s (i + j) ≠ 32) → wst s (i + k) = wst s i
  | 0, _ => rfl
  | k + 1, h => by
    rw [← Nat.add_assoc]
    show (if byt s (i + k) = 32 then _ else wst s (i + k)) = _
    rw [if_neg (h k (by omega)), wst_skip s i k (fun j hj => h j (by omega))]
theorem byt_get (s : ByteArray) (i : Nat) (h : i < s.size) : (s.get! i).toNat = byt s i := by
  rw [byt_eq h]
  congr 1
  show s.data.toList.toArray.getD i default = _
  simp only [Array.getD]
  rw [dif_pos (by simpa using h)]
  simp
  rfl
/-- a rune that is a blank is the one byte 32 -/
theorem dec_blank (s : ByteArray) (i : Nat) (h : i < s.size) (hb : byt s i = 32) : Utf8.decode s i = (32, 1) := by
  rw [Lib.decode_at, byt_get s i h, hb]
  exact Lib.decodeN_ascii _ _ _ _ _ (by omega)
theorem dec_other (s : ByteArray) (i : Nat) (h : i < s.size) (hb : byt s i ≠ 32) : (Utf8.decode s i).1 ≠ 32 ∧ i + (Utf8.decode s i).2 ≤ s.size ∧ ∀ j, j < (Utf8.decode s i).2 → byt s (i + j) ≠ 32 := by
  have hlt := byt_lt s i
  have hc := Lib.decodeN_conts (s.size - i) (s.get! i).toNat (s.get! (i + 1)).toNat (s.get! (i + 2)).toNat (s.get! (i + 3)).toNat
  rw [← Lib.decode_at] at hc
  obtain ⟨c2, c3, c4, c5⟩ := hc
  have h1 : (Utf8.decode s i).1 ≠ 32 := by
    rw [Lib.decode_at, byt_get s i h]
    unfold Lib.decodeN
    repeat' split
    all_goals (simp only; omega)
  have hg : ∀ j, i + j < s.size → (s.get! (i + j)).toNat / 64 = 2 → byt s (i + j) ≠ 32 := fun j hj e => by rw [← byt_get s _ hj]; omega
  refine ⟨h1, by omega, fun j hj => ?_⟩
  match j, hj with
  | 0, _ => exact hb
  | 1, hj => exact hg 1 (by omega) (c2 (by omega)).1
  | 2, hj => exact hg 2 (by omega) (c3 (by omega)).1
  | 3, hj => exact hg 3 (by omega) (c4 (by omega)).1
  | j + 4, hj => omega

/-- where a word has begun, as the library says it -/
def wopen (s : ByteArray) (pos : Nat) : Option Nat := if (wst s pos).2 < pos then some (wst s pos).2 else none
theorem spans_wst (s : ByteArray) : ∀ (f pos : Nat), pos ≤ s.size → s.size ≤ pos + f → Lib.spansFromP isBl s f pos (wopen s pos) (wst s pos).1 = ((wst s s.size).1, wopen s s.size)
  | 0, pos, h1, h2 => by
    have : pos = s.size := by omega
    subst this; rfl
  | f + 1, pos, h1, h2 => by
    by_cases hlt : pos < s.size
    · unfold Lib.spansFromP
      rw [if_pos hlt]
      by_cases hb : byt s pos = 32
      · rw [dec_blank s pos hlt hb]
        have hnone : wopen s (pos + 1) = none := by
          unfold wopen wst
          rw [if_pos hb]
          split <;> rw [if_neg (by simp)]
        rw [if_pos (by rfl)]
        have ih := spans_wst s f (pos + 1) (by omega) (by omega)
        rw [hnone] at ih
        by_cases hw : (wst s pos).2 < pos
        · have e1 : wopen s pos = some (wst s pos).2 := by unfold wopen; rw [if_pos hw]
          have e2 : (wst s (pos + 1)).1 = (wst s pos).1 ++ [((wst s pos).2, pos)] := by
            show (if byt s pos = 32 then _ else _ : List (Nat × Nat) × Nat).1 = _
            rw [if_pos hb, if_pos hw]
          rw [e1, ← ih, e2]
        · have e1 : wopen s pos = none := by unfold wopen; rw [if_neg hw]
          have e2 : (wst s (pos + 1)).1 = (wst s pos).1 := by
            show (if byt s pos = 32 then _ else _ : List (Nat × Nat) × Nat).1 = _
            rw [if_pos hb, if_neg hw]
          rw [e1, ← ih, e2]
      · obtain ⟨g1, g2, g3⟩ := dec_other s pos hlt hb
        have hp := Lib.width_pos s pos
        have hsk := wst_skip s pos (Utf8.decode s pos).2 g3
        have hle := (wst_le s pos).1
        have ih := spans_wst s f (pos + (Utf8.decode s pos).2) g2 (by omega)
        have hso : wopen s (pos + (Utf8.decode s pos).2) = some (wst s pos).2 := by
          unfold wopen; rw [hsk, if_pos (by omega)]
        rw [hso, hsk] at ih
        have hn : isBl (Utf8.decode s pos).1 = false := by unfold isBl; rw [beq_eq_false_iff_ne]; exact g1
        rw [hn]
        simp only [Bool.false_eq_true, if_false]
        by_cases hw : (wst s pos).2 < pos
        · have e1 : wopen s pos = some (wst s pos).2 := by unfold wopen; rw [if_pos hw]
          rw [e1]; exact ih
        · have e1 : wopen s pos = none := by unfold wopen; rw [if_neg hw]
          have e2 : (wst s pos).2 = pos := by omega
          rw [e1]
          rw [e2] at ih
          exact ih
    · have : pos = s.size := by omega
      subst this
      rw [Lib.spansFromP_end _ _ _ _ _ _ hlt]
/-- the two partings give the same words -/
theorem words_eq (s : ByteArray) : wordsR s = wordsB s := by
  unfold wordsR wordsB wpc Lib.goFieldsP
  congr 1
  unfold Lib.spansOfP wend
  have h := spans_wst s s.size 0 (Nat.zero_le _) (by omega)
  have h0 : wopen s 0 = none := by unfold wopen wst; rfl
  rw [h0] at h
  have h00 : (wst s 0).1 = [] := rfl
  rw [h00] at h
  rw [h]
  unfold Lib.closeSpans wopen
  by_cases hw : (wst s s.size).2 < s.size
  · simp only [if_pos hw]
  · simp only [if_neg hw]
theorem wend_le (s : ByteArray) : (wend s).length ≤ s.size := by
  unfold wend
  have h := wst_le s s.size
  split
  · rename_i hw
    have : ∀ i, (wst s i).1.length ≤ (wst s i).2 := fun i => by
      induction i with
      | zero => exact Nat.le_refl _
      | succ i ih =>
        have := wst_le s i
        unfold wst
        split
        · split
          · simp; omega
          · simp only; omega
        · exact ih
    have := this s.size
    simp; omega
  · exact h.2
theorem wst_half (s : ByteArray) : ∀ i, 2 * (wst s i).1.length ≤ (wst s i).2
  | 0 => Nat.le_refl _
  | i + 1 => by
    have ih := wst_half s i
    have hl := (wst_le s i).1
    unfold wst
    split
    · split
      · simp; omega
      · simp only; omega
    · exact ih
theorem wordsB_half (s : ByteArray) : 2 * (wordsB s).length ≤ s.size + 1 := by
  unfold wordsB wpc
  rw [List.length_map]
  unfold wend
  have h := wst_half s s.size
  have h2 := (wst_le s s.size).1
  split
  · simp; omega
  · omega
theorem wordsB_len (s : ByteArray) : (wordsB s).length ≤ s.size := by unfold wordsB wpc; rw [List.length_map]; exact wend_le s
end Go.Proofs.YtobakeahbgodbaaGreat

namespace Go.Proofs.YtobakeahbgodbaaGreat
open Go.RowKit Go.Maps
set_option linter.unusedVariables false

/-- what byte i of the word adds to its width -/
def wAdd (f : Fnt) (s : ByteArray) (i : Nat) : Int := f.ws.getD (keyI f (byt s i)).toNat 0
def wSum (f : Fnt) (s : ByteArray) : Nat → Int
  | 0 => 0
  | k + 1 => wSum f s k + wAdd f s k
def wHas (f : Fnt) (s : ByteArray) (i : Nat) : Bool := decide (0 ≤ keyI f (byt s i))
def wAll (f : Fnt) (s : ByteArray) (k : Nat) : Bool := (List.range k).all (wHas f s)
def wRes (f : Fnt) (s : ByteArray) : Int := if wAll f s s.size = true then wSum f s s.size else 0
theorem wAll_succ {f : Fnt} {s : ByteArray} {k : Nat} (h : wAll f s k = true) (h1 : wHas f s k = true) : wAll f s (k + 1) = true := by
  unfold wAll at *
  rw [List.range_succ, List.all_append, h]; simp [h1]
theorem wAll_bad {f : Fnt} {s : ByteArray} {n k : Nat} (hk : k < n) (h : wHas f s k = false) : wAll f s n = false := by
  unfold wAll
  rw [List.all_eq_false]
  exact ⟨k, List.mem_range.2 hk, by simp [h]⟩
theorem wAll_at {f : Fnt} {s : ByteArray} {n k : Nat} (h : wAll f s n = true) (hk : k < n) : wHas f s k = true := by
  unfold wAll at h
  exact List.all_eq_true.1 h k (List.mem_range.2 hk)
theorem fontB_ws {f : Fnt} (h : fontB f = true) : f.ws.length = f.s.size ∧ f.s.size ≤ 40 ∧ ∀ k, k < f.s.size → 1 ≤ f.ws.getD k 0 ∧ f.ws.getD k 0 ≤ 60 := by
  unfold fontB at h
  simp only [Bool.and_eq_true, beq_iff_eq] at h
  obtain ⟨h1, h2, h3, h4, h5⟩ := h
  have := sortsAll_len h1
  refine ⟨by omega, by omega, fun k hk => ?_⟩
  have hk' : k < f.ws.length := by omega
  unfold widthsB at h5
  have h6 := List.all_eq_true.1 h5 _ (List.getElem_mem hk')
  have h7 := (inB_iff _ _ _).1 h6
  simpa [List.getD, hk'] using h7
theorem key_range {f : Fnt} (h : fontB f = true) (x : Int) : keyI f x = -1 ∨ ∃ k : Nat, k < f.s.size ∧ keyI f x = (k : Int) := by
  rw [keyI_good h]
  unfold keyTo
  split
  · rename_i i hi
    exact .inr ⟨i, List.mem_range.1 (List.mem_of_find?_eq_some hi), rfl⟩
  · exact .inl rfl
theorem wAdd_le {f : Fnt} (h : fontB f = true) (s : ByteArray) (i : Nat) : 0 ≤ wAdd f s i ∧ wAdd f s i ≤ 60 ∧ (wHas f s i = true → 1 ≤ wAdd f s i) := by
  obtain ⟨h1, h2, h3⟩ := fontB_ws h
  unfold wAdd wHas
  rcases key_range h (byt s i) with e | ⟨k, hk, e⟩
  · rw [e]
    have hz : f.ws.getD (-1 : Int).toNat 0 = f.ws.getD 0 0 := rfl
    rw [hz]
    refine ⟨?_, ?_, fun h => by simp at h⟩
    · rcases Nat.eq_zero_or_pos f.s.size with h0 | h0
      · have : f.ws = [] := List.eq_nil_of_length_eq_zero (by omega)
        rw [this]; simp
      · have := h3 0 h0; omega
    · rcases Nat.eq_zero_or_pos f.s.size with h0 | h0
      · have : f.ws = [] := List.eq_nil_of_length_eq_zero (by omega)
        rw [this]; simp
      · have := h3 0 h0; omega
  · rw [e, Int.toNat_natCast]
    have := h3 k hk
    exact ⟨by omega, by omega, fun _ => by omega⟩
theorem wSum_le {f : Fnt} (h : fontB f = true) (s : ByteArray) : ∀ k, 0 ≤ wSum f s k ∧ wSum f s k ≤ 60 * k
  | 0 => ⟨Int.le_refl _, by simp [wSum]⟩
  | k + 1 => by
    have h1 := wSum_le h s k
    have h2 := wAdd_le h s k
    unfold wSum
    exact ⟨by omega, by omega⟩

/-- what the map of the keys says of any letter -/
theorem key_any {s : ByteArray} (hl : lettersB s = true) (b : Nat) :
    (Maps.has (keysD s s.size) (.int .i32 (b : Int)) = true → ∃ k : Nat, k < s.size ∧ keyTo s (b : Int) s.size = k ∧ ∀ c : Int, (keysD s s.size).atKey (.int .i32 (b : Int)) (.lit (.int .i64 0)) = .lit (.int .i64 c) → c = k) ∧
    (Maps.has (keysD s s.size) (.int .i32 (b : Int)) = false → keyTo s (b : Int) s.size = -1) := by
  rw [keysD_has]
  constructor
  · intro h
    rw [List.any_eq_true] at h
    obtain ⟨k, hk, hb⟩ := h
    rw [List.mem_range] at hk
    have hb : byt s k = b := by simpa using hb
    subst hb
    have hu := fun j hj e => lettersB_dist hl j k hj hk e
    refine ⟨k, hk, keyTo_hit hk rfl (fun j hj e => by have := hu j (by omega) (by omega); omega), fun c hc => ?_⟩
    rw [keysD_at hk hu] at hc
    injection hc with hc
    injection hc with _ hc
    exact hc.symm
  · intro h
    rw [List.any_eq_false] at h
    exact keyTo_none (fun j hj e => h j (List.mem_range.2 hj) (by simp; omega))

/-- the next rune of any string -/
theorem next_any {P : Program} (w : World) (g : Nat) (s : ByteArray) (pos : Nat) (ty : TypeId) (hit : w.heap[g]? = some (.stringIter s pos)) (h : pos < s.size) (r n : Nat) (hd : Utf8.decode s pos = (r, n)) :
    (Instr.next (.pointer (some ⟨g, 0, none⟩)) true ty).run P w = .ok (.tuple #[.bool true, .int .i64 pos, .int .i32 r]) (itSet w g s (pos + n)) := by
  simp only [Instr.next, getObj, setObj, Sem.run_bind, Sem.run, hit, Result.andThen, h, if_true, hd]
  simp [goInt, itSet]
/-- a byte beyond ASCII begins a rune beyond it -/
theorem dec_high (s : ByteArray) (i : Nat) (h : i < s.size) (hb : 128 ≤ byt s i) : ∃ r n, Utf8.decode s i = (r, n) ∧ 128 ≤ r ∧ r ≤ 1114111 := by
  refine ⟨(Utf8.decode s i).1, (Utf8.decode s i).2, rfl, ?_, Lib.rune_le s i⟩
  rw [Lib.decode_at, byt_get s i h]
  unfold Lib.decodeN
  repeat' split
  all_goals (simp only; omega)
theorem ownsMap_below {w w' : World} {n b : Nat} {D : DataW Unit} (h : w.ownsMap Tryz.prog 21 (plainElem (H := Unit) Tryz.prog 3) b n D) (hb : Below w.heap.size w w') : w'.ownsMap Tryz.prog 21 (plainElem (H := Unit) Tryz.prog 3) b n D := by
  have hlt := h.lt
  obtain ⟨es, clock, hm, F, hs, hD⟩ := h
  exact ⟨es, clock, (hb.block b hlt).trans hm, F, hs, hD⟩

set_option maxRecDepth 100000 in
set_option maxHeartbeats 1600000 in
theorem wordWidth_any (lo hi B : Nat) (v : Value) (f : Fnt) (s : ByteArray) (w : World) (h : FontV w lo hi v f) (hhi : hi ≤ w.heap.size) (hf : fontB f = true)
    (hown : w.ownsMap Tryz.prog 21 (plainElem (H := Unit) Tryz.prog 3) B f.s.size (keysD f.s f.s.size)) (hs : s.size ≤ 2097151) :
    Calls Tryz.prog 48 #[v, .map (some B), .string s] w fun e w' => e = .returned (.tuple #[.int .i64 (wRes f s), .bool (wAll f s s.size)]) ∧ Below w.heap.size w w' := by
  obtain ⟨A, d, A2, d2, rfl, hI1, hI2, hc1, hc2, hd1, hd2, -⟩ := h
  have HKA := Lib.hid (key_any (fontB_letters hf)); have HG := Lib.hid (fun x => keyI_good (x := x) hf); have HKI := Lib.hid (fontB_ws hf); have HSL := Lib.hid (wSum_le hf s); have HAL := Lib.hid (wAdd_le hf s)
  obtain ⟨p, hp⟩ : ∃ p, f.ws.length = p := ⟨_, rfl⟩
  obtain ⟨q, hq⟩ : ∃ p, f.cs.length = p := ⟨_, rfl⟩
  obtain ⟨t, ht⟩ : ∃ s, f.s = s := ⟨_, rfl⟩
  rw [hp] at HKI
  rw [ht] at hown HKA HG HKI
  rw [hp, hq, ht]
  obtain ⟨w0, hw0, hb0, hz0, K0⟩ := mxWorld w #[.string t, .slice A p d, .slice A2 q d2] 25
  have HO := Lib.hid (ownsMap_below hown hb0); have HI := Lib.hid (hI1.below hhi hb0); have T0 := Lib.hid hb0; have HK0 := Lib.hid K0
  have z0 : w.heap.size < w0.heap.size := by omega
  have Hp := Lib.hid hp; have HTs := Lib.hid ht; have HLT : Hid (lettersB t = true) := by show _ = _; rw [← ht]; exact fontB_letters hf
  clear hI1 hI2 hc1 hc2 hd1 hd2 hp hq ht hown hb0 hz0 hf K0
  go_enter Tryz.func48, Tryz.ntmps48
  go_wp2
  clear hw0
  have H0 := Lib.hid (World.iter_heap w0 s 0)
  have HB0 := Lib.hid ((Below.refl w0.heap.size w0).alloc (Nat.le_refl _) (.stringIter s 0))
  go_loopw [8] (fun u wr => ∃ k : Nat, k ≤ s.size ∧ u = .int .i64 (wSum f s k) ∧ Hid (wAll f s k = true) ∧ wr.heap[w0.heap.size]? = some (.stringIter s k) ∧ Below w0.heap.size w0 wr) (fun _ wr => s.size - wr.iterPos w0.heap.size)
  case atStart => exact ⟨0, Nat.zero_le _, rfl, rfl, by simpa using H0.out, HB0.out⟩
  case round =>
    clear H0 HB0
    obtain ⟨k, hk, rfl, hall, hit, hb⟩ := hrel
    have Hit := Lib.hid hit
    by_cases hlt : k < s.size
    · by_cases hc : byt s k < 128
      · have hc2 : (s[k]'hlt).toNat < 128 := by rw [← byt_eq hlt]; exact hc
        have hnx := fun ty => next_at (P := Tryz.prog) wr w0.heap.size s k ty hit hlt hc2
        obtain ⟨b, hbb⟩ : ∃ b, (s[k]'hlt).toNat = b := ⟨_, rfl⟩
        have Hbb : Hid (byt s k = b) := by show _ = _; rw [byt_eq hlt, hbb]
        rw [hbb] at hnx hc2
        have hkey : keyOf Tryz.prog 21 (.int .i32 (b : Int)) = some (.int .i32 (b : Int)) := keyOf_int_mk Tryz.underlying21 (i32_wf hc2)
        have HB2 := Lib.hid (hb.grown (itSet_grown wr w0.heap.size (k + 1) s) hb.size (fun j hj => by cases hj; omega))
        have hown2 := ownsMap_below HO.out HB2.out
        have HI2 := Lib.hid (HI.out.below (by omega) HB2.out); have HK2 := Lib.hid (HK0.out.below HB2.out (by omega))
        have Hi2 := Lib.hid (itSet_heap (p' := k + 1) hit)
        have hka := HKA.out b
        have q1 : (itSet wr w0.heap.size s (k + 1)).cell? ⟨w.heap.size, 1, none⟩ = some (.slice A p d) := cellOfBlk HK2.out 1
        clear hb hc hit hc2 hbb
        cases hh : Maps.has (keysD t t.size) (.int .i32 (b : Int))
        · have hno0 : keyTo t (b : Int) t.size = -1 := hka.2 hh
          clear hka
          have HF : Hid (wHas f s k = false) := by
            show _ = _
            unfold wHas
            rw [Hbb.out, HG.out, hno0]
            decide
          clear hno0
          have HZ : Hid (wAll f s s.size = false ∧ wRes f s = 0) := by
            have e := wAll_bad hlt HF.out
            exact ⟨e, by unfold wRes; rw [e]; rfl⟩
          clear HF
          go_wp2_with (at_lookup; refine wpList_lookup_own_ok_int _ rfl _ _ 84 rfl 21 3 .i64 keyLaw Tryz.underlying84 Tryz.underlying3 (zeroInt _) _ _ _ rfl hown2 _ _ rfl hkey ?_; intro c hat hwc; clear hat hwc)
          go_ret2
          exact ⟨by rw [HZ.out.1, HZ.out.2]; rfl, T0.out.trans (HB2.out.mono (by omega))⟩
        · obtain ⟨j, hj, hkt, hcs⟩ := hka.1 hh
          clear hka
          have e1 : keyI f (byt s k) = (j : Int) := by rw [Hbb.out, HG.out]; exact hkt
          obtain ⟨ad, x, rfl, hx, hcx⟩ := HI2.out.ints.at_ (k := j) (by rw [Hp.out, HKI.out.1]; exact hj)
          have hjp : j < p := by rw [HKI.out.1]; exact hj
          have hxw : wAdd f s k = x := by unfold wAdd; rw [e1, Int.toNat_natCast, getD_at hx.out]
          have HH : Hid (wAll f s (k + 1) = true) := wAll_succ hall.out (by unfold wHas; rw [e1]; simp)
          have hS1 := HSL.out k
          have hA1 := HAL.out k
          obtain ⟨S, hS⟩ : ∃ S, wSum f s k = S := ⟨_, rfl⟩
          have HS : Hid (wSum f s (k + 1) = S + x) := by show _ = _; unfold wSum; rw [hS, hxw]
          rw [hS] at hS1
          rw [hxw] at hA1
          rw [hS]
          have b1 : 0 ≤ S := hS1.1
          have b2 : S ≤ 125829120 := by omega
          have b3 : 0 ≤ x := hA1.1
          have b4 : x ≤ 60 := hA1.2.1
          have hno := Lib.hid hh
          clear hkt e1 hx hxw hS1 hA1 hS hall
          go_wp2_with (at_lookup; refine wpList_lookup_own_ok_int _ rfl _ _ 84 rfl 21 3 .i64 keyLaw Tryz.underlying84 Tryz.underlying3 (zeroInt _) _ _ _ rfl hown2 _ _ rfl hkey ?_; intro c hat hwc; obtain rfl := hcs c hat; rw [hno.out]; clear hat hwc)
          go_roundw
          case rel => exact ⟨k + 1, by omega, by rw [HS.out], HH, Hi2.out, HB2.out⟩
          case measure =>
            have e1 : (itSet wr w0.heap.size s (k + 1)).iterPos w0.heap.size = k + 1 := by unfold World.iterPos; rw [Hi2.out]
            have e2 : wr.iterPos w0.heap.size = k := by unfold World.iterPos; rw [Hit.out]
            rw [e1, e2]; omega
      · obtain ⟨r, n, hd, hr1, hr2⟩ := dec_high s k hlt (by omega)
        have hnx := fun ty => next_any (P := Tryz.prog) wr w0.heap.size s k ty hit hlt r n hd
        have hkey : keyOf Tryz.prog 21 (.int .i32 (r : Int)) = some (.int .i32 (r : Int)) := keyOf_int_mk Tryz.underlying21 (WalkArith.wf_i32 ⟨by omega, by omega⟩)
        have HB2 := Lib.hid (hb.grown (itSet_grown wr w0.heap.size (k + n) s) hb.size (fun j hj => by cases hj; omega))
        have hown2 := ownsMap_below HO.out HB2.out
        have hh : Maps.has (keysD t t.size) (.int .i32 (r : Int)) = false := by
          cases hh : Maps.has (keysD t t.size) (.int .i32 (r : Int))
          · rfl
          · obtain ⟨j, hj, hkt, -⟩ := (HKA.out r).1 hh
            have h1 := keyTo_out (HLT.out) (x := (r : Int)) (.inr (by omega))
            rw [h1] at hkt; omega
        have HF : Hid (wHas f s k = false) := by
          show _ = _
          unfold wHas
          rw [HG.out, keyTo_out HLT.out (.inr (by omega))]
          decide
        have HZ : Hid (wAll f s s.size = false ∧ wRes f s = 0) := by
          have e := wAll_bad hlt HF.out
          exact ⟨e, by unfold wRes; rw [e]; rfl⟩
        clear HF hb hc hit hd hr1 hr2
        go_wp2_with (at_lookup; refine wpList_lookup_own_ok_int _ rfl _ _ 84 rfl 21 3 .i64 keyLaw Tryz.underlying84 Tryz.underlying3 (zeroInt _) _ _ _ rfl hown2 _ _ rfl hkey ?_; intro c hat hwc; rw [hh]; clear hat hwc)
        go_ret2
        exact ⟨by rw [HZ.out.1, HZ.out.2]; rfl, T0.out.trans (HB2.out.mono (by omega))⟩
    · have hkn : k = s.size := by omega
      subst hkn
      have hnx := fun ty => next_end (P := Tryz.prog) wr w0.heap.size s s.size ty hit (by omega)
      have HZ : Hid (wRes f s = wSum f s s.size) := by show _ = _; unfold wRes; rw [if_pos hall.out]
      go_wp2
      go_ret2
      exact ⟨by rw [HZ.out, hall.out]; rfl, T0.out.trans (hb.mono (by omega))⟩
end Go.Proofs.YtobakeahbgodbaaGreat

namespace Go.Proofs.YtobakeahbgodbaaGreat
open Go.RowKit Go.Maps
set_option linter.unusedVariables false

def wwB (f : Fnt) (s : ByteArray) : Bool := fontB f && ((wordsB s).all (fun x => wAll f x x.size) && textB ((wordsB s).map (wRes f)))
def wwL (f : Fnt) (s : ByteArray) : List Int := if wwB f s = true then (wordsB s).map (wRes f) else []
theorem wwB_font {f : Fnt} {s : ByteArray} (h : fontB f = false) : wwB f s = false := by unfold wwB; rw [h]; rfl
theorem wwB_word {f : Fnt} {s : ByteArray} {x : ByteArray} (hx : x ∈ wordsB s) (h : wAll f x x.size = false) : wwB f s = false := by
  unfold wwB
  have : (wordsB s).all (fun x => wAll f x x.size) = false := by
    rw [List.all_eq_false]; exact ⟨x, hx, by simp [h]⟩
  rw [this]; simp
theorem wwB_text {f : Fnt} {s : ByteArray} (h : textB ((wordsB s).map (wRes f)) = false) : wwB f s = false := by
  unfold wwB; rw [h]; simp
theorem wwB_all {f : Fnt} {s : ByteArray} (h1 : fontB f = true) (h2 : (wordsB s).all (fun x => wAll f x x.size) = true) (h3 : textB ((wordsB s).map (wRes f)) = true) : wwB f s = true := by
  unfold wwB; rw [h1, h2, h3]; rfl
theorem wwL_no {f : Fnt} {s : ByteArray} (h : wwB f s = false) : wwL f s = [] := by unfold wwL; rw [h]; rfl
theorem wwL_yes {f : Fnt} {s : ByteArray} (h : wwB f s = true) : wwL f s = (wordsB s).map (wRes f) := by unfold wwL; rw [if_pos h]
theorem wwL_len (f : Fnt) (s : ByteArray) : (wwL f s).length ≤ 40 := by
  unfold wwL
  split
  · rename_i h
    unfold wwB at h
    simp only [Bool.and_eq_true] at h
    exact (textB_parts h.2.2).2.2
  · simp
theorem wordsOf_own (s : ByteArray) (w : World) (hs : s.size ≤ 2097151) :
    Calls Tryz.prog 37 #[.string s] w fun e w' => ∃ v, e = .returned v ∧ OwnS w' w.heap.size v (wordsB s) ∧ Below w.heap.size w w' := by
  refine (wordsOf_any s w hs).mono ?_
  rintro e w' ⟨A, n, rfl, hn, hO, hb⟩
  refine ⟨_, rfl, ?_, hb⟩
  unfold OwnS
  rw [hn] at hO ⊢
  rw [← words_eq]
  exact hO
theorem own_mono {w : World} {B B' : Nat} {v : Value} {zs : List Int} (h : Own w B v zs) (hB : B' ≤ B) : Own w B' v zs := by
  refine ⟨h.1, ?_⟩
  rcases h.2 with hn | ⟨g, cap, cur, hv, hg, hh, rest⟩
  · exact .inl hn
  · exact .inr ⟨g, cap, cur, hv, by omega, hh, rest⟩
theorem wst_size (s : ByteArray) : ∀ i, ∀ x ∈ (wst s i).1, x.1 < x.2 ∧ x.2 ≤ i
  | 0, x, h => by simp [wst] at h
  | i + 1, x, h => by
    have ih := wst_size s i
    unfold wst at h
    split at h
    · split at h
      · rename_i h1 h2
        rcases List.mem_append.1 h with h | h
        · have := ih x h; exact ⟨this.1, by omega⟩
        · simp at h; subst h; exact ⟨h2, by omega⟩
      · have := ih x h; exact ⟨this.1, by omega⟩
    · have := ih x h; exact ⟨this.1, by omega⟩
theorem wordsB_span {s x : ByteArray} (h : x ∈ wordsB s) : ∃ a b, a < b ∧ b ≤ s.size ∧ x = s.extract a b := by
  unfold wordsB wpc at h
  obtain ⟨y, hy, rfl⟩ := List.mem_map.1 h
  unfold wend at hy
  split at hy
  · rename_i h2
    rcases List.mem_append.1 hy with h | h
    · have := wst_size s _ y h; exact ⟨_, _, this.1, this.2, rfl⟩
    · simp at h; subst h; exact ⟨_, _, h2, Nat.le_refl _, rfl⟩
  · have := wst_size s _ y hy; exact ⟨_, _, this.1, this.2, rfl⟩
theorem wordsB_size {s x : ByteArray} (h : x ∈ wordsB s) : x.size ≤ s.size := by
  obtain ⟨a, b, h1, h2, rfl⟩ := wordsB_span h
  simp; omega
theorem wordsB_pos {s x : ByteArray} (h : x ∈ wordsB s) : 0 < x.size := by
  obtain ⟨a, b, h1, h2, rfl⟩ := wordsB_span h
  simp; omega
theorem wall_step {f : Fnt} {ws : List ByteArray} {j : Nat} {x : ByteArray} (h : Hid ((ws.take j).all (fun x => wAll f x x.size) = true)) (hx : ws[j]? = some x) (hw : wAll f x x.size = true) : Hid ((ws.take (j + 1)).all (fun x => wAll f x x.size) = true) := by
  show _ = _
  rw [stake_at hx, List.all_append, h.out]
  simp [hw]
theorem wstep {f : Fnt} {ws : List ByteArray} {j : Nat} {x : ByteArray} (hx : ws[j]? = some x) : (ws.take (j + 1)).map (wRes f) = (ws.take j).map (wRes f) ++ [wRes f x] := by
  rw [stake_at hx]; simp

set_option maxRecDepth 100000 in
set_option maxHeartbeats 1600000 in
theorem implWords_any (lo hi : Nat) (v : Value) (f : Fnt) (s : ByteArray) (w : World) (h : FontV w lo hi v f) (hhi : hi ≤ w.heap.size) (hsm : Small f) (hs : s.size ≤ 2097151) :
    Calls Tryz.prog 10 #[v, .string s] w fun e w' => ∃ u, e = .returned (.tuple #[u, .bool (wwB f s)]) ∧ Own w' w.heap.size u (wwL f s) ∧ Below w.heap.size w w' := by
  obtain ⟨A, d, A2, d2, hv, hrest⟩ := id h
  obtain ⟨p, hp⟩ : ∃ p, f.ws.length = p := ⟨_, rfl⟩
  obtain ⟨q, hq⟩ : ∃ p, f.cs.length = p := ⟨_, rfl⟩
  obtain ⟨t, ht⟩ : ∃ s, f.s = s := ⟨_, rfl⟩
  rw [hp, hq, ht] at hv
  have Ht := Lib.hid ht
  obtain ⟨w0, hw0, hb0, hz0, K0⟩ := mxWorld w #[.string t, .slice A p d, .slice A2 q d2] 25
  have HV := Lib.hid (h.below hhi hb0); have T0 := Lib.hid hb0; have HK0 := Lib.hid K0; have HSm := Lib.hid hsm
  rw [hv] at HV
  rw [hv]
  have z0 : w.heap.size < w0.heap.size := by omega
  have zt : t.size ≤ 1048576 := by have := hsm.1; rw [ht] at this; exact this
  clear h hv hrest hp hq ht hb0 hz0 K0 hsm
  have c0 : w0.cell? ⟨w.heap.size, 0, none⟩ = some (.string t) := cellOfBlk HK0.out 0
  have c1 : w0.cell? ⟨w.heap.size, 1, none⟩ = some (.slice A p d) := cellOfBlk HK0.out 1
  have c2 : w0.cell? ⟨w.heap.size, 2, none⟩ = some (.slice A2 q d2) := cellOfBlk HK0.out 2
  cases hf : fontB f
  · have HR := Lib.hid (wwB_font (s := s) hf); have HRL := Lib.hid (wwL_no (wwB_font (s := s) hf))
    have hf' := hf
    go_enter Tryz.func10, Tryz.ntmps10
    go_wp2_with fail
    clear hw0
    refine (implFontOk_any lo hi _ f _ HV.out (by omega) HSm.out).mono ?_
    rintro e w1 ⟨rfl, hb1⟩
    have HB := Lib.hid hb1; clear hb1
    go_wp2
    go_ret2
    exact ⟨_, by rw [HR.out]; rfl, by rw [HRL.out]; exact own_none _ _, T0.out.trans (HB.out.mono (by omega))⟩
  · have hLt := fontB_letters hf
    have HLT := Lib.hid (letters_all hLt)
    have Hf := Lib.hid hf
    clear hLt
    go_enter Tryz.func10, Tryz.ntmps10
    go_wp2_with fail
    clear hw0
    refine (implFontOk_any lo hi _ f _ HV.out (by omega) HSm.out).mono ?_
    rintro e w1 ⟨rfl, hb1⟩
    have HB1 := Lib.hid hb1; have HV1 := Lib.hid (HV.out.below (by omega) hb1); have HK1 := Lib.hid (HK0.out.below hb1 (by omega)); have z1 := hb1.size
    clear hb1
    clear c0 c1 c2
    have c0 : w1.cell? ⟨w.heap.size, 0, none⟩ = some (.string t) := cellOfBlk HK1.out 0
    go_wp2_with fail
    refine (keysOf_any t _ zt (by rw [← Ht.out]; exact HLT.out)).mono ?_
    rintro e w2 ⟨rfl, hown, hb2⟩
    have HB2 := Lib.hid hb2; have HV2 := Lib.hid (HV1.out.below (by omega) hb2); have HK2 := Lib.hid (HK1.out.below hb2 (by omega)); have z2 := hb2.size
    have HO2 := Lib.hid hown
    clear hb2 hown c0
    go_wp2_with fail
    refine (wordsOf_own s _ hs).mono ?_
    rintro e w3 ⟨vw, rfl, hOw, hb3⟩
    obtain ⟨Aw, cw, rfl, hIw, -, hcw, hcm⟩ := hOw.form
    have hwl := wordsB_half s
    obtain ⟨ws, hws⟩ : ∃ l, wordsB s = l := ⟨_, rfl⟩
    rw [hws] at hIw hwl hcw ⊢
    obtain ⟨n, hn⟩ : ∃ n, ws.length = n := ⟨_, rfl⟩
    rw [hn] at hwl hcw ⊢
    have Hn := Lib.hid hn; have Hws := Lib.hid hws
    have HT3 := Lib.hid (((T0.out.trans (HB1.out.mono (by omega))).trans (HB2.out.mono (by omega))).trans (hb3.mono (by omega)))
    have HV3 := Lib.hid (HV2.out.below (by omega) hb3); have HK3 := Lib.hid (HK2.out.below hb3 (by omega)); have z3 := hb3.size
    have HO3 := Lib.hid (ownsMap_below HO2.out hb3)
    have HI3 := Lib.hid hIw
    clear hb3 hOw hIw T0 HB1 HV HK0 HB2 HV1 HK1 HV2 HK2 HO2 hn hws hcw hcm
    go_wp2
    go_loopw [7, 21] (fun u i wr => ∃ j : Nat, j ≤ n ∧ i = .int .i64 j ∧ Own wr w3.heap.size u ((ws.take j).map (wRes f)) ∧ Hid ((ws.take j).all (fun x => wAll f x x.size) = true) ∧ Below w3.heap.size w3 wr) (fun _ i _ => n - (intOf i).toNat)
    case atStart => exact ⟨0, Nat.zero_le _, rfl, own_none _ _, rfl, Below.refl _ _⟩
    case round =>
      obtain ⟨j, hj, rfl, hO, hall, hb⟩ := hrel
      have HB := Lib.hid hb; have HO := Lib.hid hO
      have zr := hb.size
      have HVr := Lib.hid (HV3.out.below (by omega) hb); have HKr := Lib.hid (HK3.out.below hb (by omega)); have HIr := Lib.hid (HI3.out.below hb)
      have HOr := Lib.hid (ownsMap_below HO3.out hb)
      have hmj : ((ws.take j).map (wRes f)).length ≤ 1048576 := by simp; omega
      have Hmj := Lib.hid hmj
      have c0 : wr.cell? ⟨w.heap.size, 0, none⟩ = some (.string t) := cellOfBlk HKr.out 0
      have c1 : wr.cell? ⟨w.heap.size, 1, none⟩ = some (.slice A p d) := cellOfBlk HKr.out 1
      have c2 : wr.cell? ⟨w.heap.size, 2, none⟩ = some (.slice A2 q d2) := cellOfBlk HKr.out 2
      clear hb hO hmj
      by_cases hlt : j < n
      · obtain ⟨ad, x, rfl, hx, hcx⟩ := HIr.out.at_ (k := j) (by rw [Hn.out]; exact hlt)
        have hxs : x.size ≤ 2097151 := by
          have := smem_at hx.out
          rw [← Hws.out] at this
          have := wordsB_size this
          omega
        have HST := Lib.hid (wstep (f := f) hx.out)
        cases hwa : wAll f x x.size
        · have HZ := Lib.hid (wwB_word (s := s) (by rw [Hws.out]; exact smem_at hx.out) hwa)
          go_wp2_with fail
          refine (wordWidth_any lo hi _ _ f x _ HVr.out (by omega) Hf.out (by rw [Ht.out]; exact HOr.out) hxs).mono ?_
          rintro e w5 ⟨rfl, hb5⟩
          rw [hwa]
          have HB5 := Lib.hid hb5; clear hb5
          go_wp2
          go_ret2
          exact ⟨_, by rw [HZ.out]; rfl, by rw [wwL_no HZ.out]; exact own_none _ _, HT3.out.trans ((HB.out.mono (by omega)).trans (HB5.out.mono (by omega)))⟩
        · go_wp2_with fail
          refine (wordWidth_any lo hi _ _ f x _ HVr.out (by omega) Hf.out (by rw [Ht.out]; exact HOr.out) hxs).mono ?_
          rintro e w5 ⟨rfl, hb5⟩
          rw [hwa]
          have HB5 := Lib.hid (HB.out.trans (hb5.mono zr)); have HO5 := Lib.hid (HO.out.below hb5); have z5 := hb5.size
          have hz5 : w3.heap.size ≤ w5.heap.size := by omega
          clear hb5
          go_wp2_with (at_builtin; refine wpl_push2 _ rfl (.tmp 34) (.tmp 36) rfl w3.heap.size u7 _ (wRes f x) rfl rfl HO5.out hz5 Hmj.out ?_; intro v6 w6 hO6 hg6 hv6; have HO6 := Lib.hid hO6; have HG6 := Lib.hid hg6; clear hO6 hg6 hv6)
          have HB6 := Lib.hid (HB5.out.grown HG6.out hz5 (fun k hk => (World.ownsRow.lt HO5.out k hk).1))
          go_roundw
          case rel => exact ⟨j + 1, by omega, by go_num, by rw [HST.out]; exact HO6.out, wall_step hall hx.out hwa, HB6.out⟩
          case measure => simp [intOf]; omega
      · have hjn : j = n := by omega
        subst hjn
        have HA : Hid (ws.take j = ws) := stake_all Hn.out
        obtain ⟨Au, cu, rfl, hIu, -, hcu, hcm⟩ := HO.out.form
        have hlen : ((ws.take j).map (wRes f)).length = j := by rw [HA.out, List.length_map, Hn.out]
        have HIu := Lib.hid hIu
        have HL := Lib.hid hlen
        rw [hlen]
        have hjm : j ≤ maxLen := by unfold maxLen; omega
        have HOu := HO
        clear hIu hcu hcm hlen
        have HAl : Hid (ws.all (fun x => wAll f x x.size) = true) := by show _ = _; rw [← HA.out]; exact hall.out
        cases htx : textB ((ws.take j).map (wRes f))
        · have HZ : Hid (wwB f s = false) := wwB_text (by rw [Hws.out, ← HA.out]; exact htx)
          go_wp2_with fail
          refine (implTextOk_any _ _ _ _ _ HL.out hjm HIu.out).mono ?_
          rintro e w5 ⟨rfl, rfl⟩
          rw [htx]
          go_wp2
          go_ret2
          exact ⟨_, by rw [HZ.out]; rfl, by rw [wwL_no HZ.out]; exact own_none _ _, HT3.out.trans (HB.out.mono (by omega))⟩
        · have HZ : Hid (wwB f s = true) := wwB_all Hf.out (by rw [Hws.out]; exact HAl.out) (by rw [Hws.out, ← HA.out]; exact htx)
          go_wp2_with fail
          refine (implTextOk_any _ _ _ _ _ HL.out hjm HIu.out).mono ?_
          rintro e w5 ⟨rfl, rfl⟩
          rw [htx]
          go_wp2
          go_ret2
          refine ⟨_, by rw [HZ.out]; rfl, ?_, HT3.out.trans (HB.out.mono (by omega))⟩
          rw [wwL_yes HZ.out, Hws.out, ← HA.out]
          have h := HO.out
          rw [HL.out] at h
          exact own_mono h (by omega)
end Go.Proofs.YtobakeahbgodbaaGreat

namespace Go.Proofs.YtobakeahbgodbaaGreat
open Go.RowKit
set_option linter.unusedVariables false

theorem wst_other {s : ByteArray} {i : Nat} (h : byt s i ≠ 32) : wst s (i + 1) = wst s i := by
  show (if byt s i = 32 then _ else wst s i) = _
  rw [if_neg h]
theorem wst_blank {s : ByteArray} {i : Nat} (h : byt s i = 32) : (wst s (i + 1)).2 = i + 1 ∧ (wst s (i + 1)).1 = if (wst s i).2 < i then (wst s i).1 ++ [((wst s i).2, i)] else (wst s i).1 := by
  have e : wst s (i + 1) = if (wst s i).2 < i then ((wst s i).1 ++ [((wst s i).2, i)], i + 1) else ((wst s i).1, i + 1) := by
    show (if byt s i = 32 then _ else wst s i) = _
    rw [if_pos h]
  rw [e]
  split
  · exact ⟨rfl, rfl⟩
  · exact ⟨rfl, rfl⟩
theorem wpc_snoc (s : ByteArray) (l : List (Nat × Nat)) (a b : Nat) : wpc s (l ++ [(a, b)]) = wpc s l ++ [s.extract a b] := by simp [wpc]
theorem wpc_len (s : ByteArray) (l : List (Nat × Nat)) : (wpc s l).length = l.length := by simp [wpc]

/-- what holds ahead of round i: the row, where the next word begins -/
def WSt (s : ByteArray) (wr : World) (B : Nat) (u : Value) (f : Nat) (i : Nat) : Prop :=
  (i ≤ s.size ∧ OwnS wr B u (wpc s (wst s i).1) ∧ f = (wst s i).2 ∧ f ≤ i) ∨ (i = s.size + 1 ∧ OwnS wr B u (wordsB s))
/-- ahead of a blank or the end: what the row holds behind it -/
theorem WSt.same {s : ByteArray} {wr : World} {B : Nat} {u : Value} {f i : Nat} (h : OwnS wr B u (wpc s (wst s i).1)) (hf : f = (wst s i).2) (hi : i ≤ s.size) (hb : i < s.size → byt s i = 32) (hn : ¬ f < i) : WSt s wr B u (i + 1) (i + 1) := by
  by_cases hlt : i < s.size
  · obtain ⟨e1, e2⟩ := wst_blank (hb hlt)
    rw [if_neg (by omega)] at e2
    exact .inl ⟨by omega, by rw [e2]; exact h, e1.symm, Nat.le_refl _⟩
  · have : i = s.size := by omega
    subst this
    refine .inr ⟨rfl, ?_⟩
    unfold wordsB wend
    rw [if_neg (by omega)]
    exact h
theorem WSt.more {s : ByteArray} {wr : World} {B : Nat} {u : Value} {f i : Nat} (h : OwnS wr B u (wpc s (wst s i).1 ++ [s.extract f i])) (hf : f = (wst s i).2) (hi : i ≤ s.size) (hb : i < s.size → byt s i = 32) (hn : f < i) : WSt s wr B u (i + 1) (i + 1) := by
  by_cases hlt : i < s.size
  · obtain ⟨e1, e2⟩ := wst_blank (hb hlt)
    rw [if_pos (by omega)] at e2
    exact .inl ⟨by omega, by rw [e2, wpc_snoc, ← hf]; exact h, e1.symm, Nat.le_refl _⟩
  · have : i = s.size := by omega
    subst this
    refine .inr ⟨rfl, ?_⟩
    unfold wordsB wend
    rw [if_pos (by omega), wpc_snoc, ← hf]
    exact h
theorem owns_empty (w : World) : OwnS (w.alloc (.cells #[] 9)) w.heap.size (.slice (some ⟨w.heap.size, 0, none⟩) 0 0) [] := World.ownsRow_lit w #[] 0 (Nat.le_refl _) (Nat.zero_le _) rfl

set_option maxRecDepth 100000 in
set_option maxHeartbeats 1600000 in
theorem l6Words_any (s : ByteArray) (w : World) (hs : s.size ≤ 2097151) :
    Calls Tryz.prog 33 #[.string s] w fun e w' => ∃ v, e = .returned v ∧ OwnS w' w.heap.size v (wordsB s) ∧ Below w.heap.size w w' := by
  have HO := Lib.hid (owns_empty w)
  have HB := Lib.hid ((Below.refl w.heap.size w).alloc (Nat.le_refl _) (.cells #[] 9))
  go_enter Tryz.func33, Tryz.ntmps33
  go_wp2
  go_loopw [3, 4, 5] (fun u v q wr => ∃ i f : Nat, q = .int .i64 i ∧ v = .int .i64 f ∧ WSt s wr w.heap.size u f i ∧ Below w.heap.size w wr) (fun _ _ q _ => s.size + 1 - (intOf q).toNat)
  case atStart => exact ⟨0, 0, rfl, rfl, .inl ⟨Nat.zero_le _, HO.out, rfl, Nat.le_refl _⟩, HB.out⟩
  case round =>
    clear HO HB
    obtain ⟨i, f, rfl, rfl, hst, hb⟩ := hrel
    have HB := Lib.hid hb
    have hwz := hb.size
    clear hb
    rcases hst with ⟨hi, hO, hf, hfi⟩ | ⟨hi, hO⟩
    · have HO := Lib.hid hO
      have Hf := Lib.hid hf
      have hbl := (wst_le s i).2
      have hlen : (wpc s (wst s i).1).length ≤ 1048576 := by rw [wpc_len]; have := wst_half s i; have := (wst_le s i).1; omega
      have Hlen := Lib.hid hlen
      clear hO hf hbl hlen
      by_cases hlt : i < s.size
      · by_cases h32 : byt s i = 32
        · have H32 := Lib.hid h32
          have hbt : s[i].toNat = 32 := by rw [← byt_eq hlt]; exact h32
          clear h32
          by_cases hfl : f < i
          · go_wp2_with (at_builtin; refine wpls_push2 _ rfl (.tmp 26) (.tmp 31) rfl w.heap.size u3 _ (s.extract f i) rfl rfl HO.out hwz Hlen.out ?_; intro v4 w4 hO4 hg4 hv4; have HO4 := Lib.hid hO4; have HG4 := Lib.hid hg4; clear hO4 hg4 hv4)
            have HB4 := Lib.hid (HB.out.grown HG4.out hwz (fun k hk => (World.ownsRow.lt HO.out k hk).1))
            go_roundw
            case rel => exact ⟨i + 1, i + 1, by go_num, by go_num, WSt.more HO4.out Hf.out hi (fun _ => H32.out) hfl, HB4.out⟩
            case measure => simp [intOf]; omega
          · go_wp2
            go_roundw
            case rel => exact ⟨i + 1, i + 1, by go_num, by go_num, WSt.same HO.out Hf.out hi (fun _ => H32.out) hfl, HB.out⟩
            case measure => simp [intOf]; omega
        · have hbt : ¬ s[i].toNat = 32 := by rw [← byt_eq hlt]; exact h32
          go_wp2
          go_roundw
          case rel => exact ⟨i + 1, f, by go_num, by go_num, .inl ⟨by omega, by rw [wst_other h32]; exact HO.out, by rw [wst_other h32]; exact Hf.out, by omega⟩, HB.out⟩
          case measure => simp [intOf]; omega
      · by_cases hfl : f < i
        · go_wp2_with (at_builtin; refine wpls_push2 _ rfl (.tmp 26) (.tmp 31) rfl w.heap.size u3 _ (s.extract f i) rfl rfl HO.out hwz Hlen.out ?_; intro v4 w4 hO4 hg4 hv4; have HO4 := Lib.hid hO4; have HG4 := Lib.hid hg4; clear hO4 hg4 hv4)
          have HB4 := Lib.hid (HB.out.grown HG4.out hwz (fun k hk => (World.ownsRow.lt HO.out k hk).1))
          go_roundw
          case rel => exact ⟨i + 1, i + 1, by go_num, by go_num, WSt.more HO4.out Hf.out hi (fun h => absurd h hlt) hfl, HB4.out⟩
          case measure => simp [intOf]; omega
        · go_wp2
          go_roundw
          case rel => exact ⟨i + 1, i + 1, by go_num, by go_num, WSt.same HO.out Hf.out hi (fun h => absurd h hlt) hfl, HB.out⟩
          case measure => simp [intOf]; omega
    · have HO := Lib.hid hO
      clear hO
      subst hi
      go_wp2
      go_ret
      exact ⟨_, rfl, HO.out, HB.out⟩
end Go.Proofs.YtobakeahbgodbaaGreat

namespace Go.Proofs.YtobakeahbgodbaaGreat
open Go.RowKit Go.Maps
set_option linter.unusedVariables false

theorem wSum_mono {f : Fnt} (h : fontB f = true) (s : ByteArray) (k : Nat) : ∀ d, wSum f s k ≤ wSum f s (k + d)
  | 0 => Int.le_refl _
  | d + 1 => by
    have h1 := wSum_mono h s k d
    have h2 := wAdd_le h s (k + d)
    show wSum f s k ≤ wSum f s (k + d) + wAdd f s (k + d)
    omega
theorem wwB_parts {f : Fnt} {s : ByteArray} (h : wwB f s = true) : fontB f = true ∧ (∀ x ∈ wordsB s, wAll f x x.size = true ∧ wSum f x x.size ≤ 2000) ∧ 1 ≤ (wordsB s).length ∧ (wordsB s).length ≤ 40 := by
  unfold wwB at h
  simp only [Bool.and_eq_true, List.all_eq_true] at h
  obtain ⟨h1, h2, h3⟩ := h
  obtain ⟨g1, g2, g3⟩ := textB_parts h3
  rw [List.length_map] at g2 g3
  refine ⟨h1, fun x hx => ⟨h2 x hx, ?_⟩, g2, g3⟩
  have := (g1 _ (List.mem_map.2 ⟨x, hx, rfl⟩)).2
  unfold wRes at this
  rw [if_pos (h2 x hx)] at this
  exact this
theorem wwB_big {f : Fnt} {s x : ByteArray} {k : Nat} (hx : x ∈ wordsB s) (hk : k ≤ x.size) (h : 2000 < wSum f x k) : wwB f s = false := by
  cases hb : wwB f s
  · rfl
  · obtain ⟨h1, h2, -⟩ := wwB_parts hb
    have := (h2 x hx).2
    have hm := wSum_mono h1 x k (x.size - k)
    rw [show k + (x.size - k) = x.size by omega] at hm
    omega
theorem wwB_count {f : Fnt} {s : ByteArray} (h : inB ((wordsB s).length : Int) 1 40 = false) : wwB f s = false := by
  cases hb : wwB f s
  · rfl
  · obtain ⟨h1, h2, h3, h4⟩ := wwB_parts hb
    have := (inB_iff ((wordsB s).length : Int) 1 40).2 ⟨by omega, by omega⟩
    rw [this] at h; cases h
theorem wSum_pos {f : Fnt} (h : fontB f = true) {s : ByteArray} : ∀ k, wAll f s k = true → (k : Int) ≤ wSum f s k
  | 0, _ => Int.le_refl _
  | k + 1, ha => by
    have h1 := wSum_pos h k (by
      unfold wAll at ha ⊢
      rw [List.range_succ, List.all_append, Bool.and_eq_true] at ha
      exact ha.1)
    have h2 := (wAdd_le h s k).2.2 (wAll_at ha (by omega))
    unfold wSum
    omega
theorem wwB_good {f : Fnt} {s : ByteArray} (h1 : fontB f = true) (h2 : ∀ x ∈ wordsB s, wAll f x x.size = true ∧ wSum f x x.size ≤ 2000) (h3 : inB ((wordsB s).length : Int) 1 40 = true) : wwB f s = true := by
  refine wwB_all h1 (List.all_eq_true.2 fun x hx => (h2 x hx).1) ?_
  unfold textB
  rw [List.length_map, h3, Bool.true_and, List.all_eq_true]
  intro y hy
  obtain ⟨x, hx, rfl⟩ := List.mem_map.1 hy
  obtain ⟨g1, g2⟩ := h2 x hx
  have hp := wordsB_pos hx
  have hs := wSum_pos h1 x.size g1
  unfold wRes wordB
  rw [if_pos g1]
  exact (inB_iff _ _ _).2 ⟨by omega, g2⟩
/-- the words before word j have keys and are not too wide -/
def wGood (f : Fnt) (x : ByteArray) : Bool := wAll f x x.size && decide (wSum f x x.size ≤ 2000)
theorem wGood_iff {f : Fnt} {x : ByteArray} : wGood f x = true ↔ wAll f x x.size = true ∧ wSum f x x.size ≤ 2000 := by
  unfold wGood; rw [Bool.and_eq_true, decide_eq_true_eq]
theorem wgood_step {f : Fnt} {ws : List ByteArray} {j : Nat} {x : ByteArray} (h : Hid ((ws.take j).all (wGood f) = true)) (hx : ws[j]? = some x) (h1 : wAll f x x.size = true) (h2 : wSum f x x.size ≤ 2000) : Hid ((ws.take (j + 1)).all (wGood f) = true) := by
  show _ = _
  rw [stake_at hx, List.all_append, h.out]
  simp [wGood_iff.2 ⟨h1, h2⟩]

set_option maxRecDepth 100000 in
set_option maxHeartbeats 1600000 in
theorem specWords_any (lo hi : Nat) (v : Value) (f : Fnt) (s : ByteArray) (w : World) (h : FontV w lo hi v f) (hhi : hi ≤ w.heap.size) (hsm : Small f) (hs : s.size ≤ 2097151) :
    Calls Tryz.prog 73 #[v, .string s] w fun e w' => ∃ u, e = .returned (.tuple #[u, .bool (wwB f s)]) ∧ Own w' w.heap.size u (wwL f s) ∧ Below w.heap.size w w' := by
  obtain ⟨A, d, A2, d2, hv, hrest⟩ := id h
  obtain ⟨p, hp⟩ : ∃ p, f.ws.length = p := ⟨_, rfl⟩
  obtain ⟨q, hq⟩ : ∃ p, f.cs.length = p := ⟨_, rfl⟩
  obtain ⟨t, ht⟩ : ∃ s, f.s = s := ⟨_, rfl⟩
  rw [hp, hq, ht] at hv
  have Ht := Lib.hid ht; have Hp := Lib.hid hp
  obtain ⟨w0, hw0, hb0, hz0, K0⟩ := mxWorld w #[.string t, .slice A p d, .slice A2 q d2] 25
  have HV := Lib.hid (h.below hhi hb0); have T0 := Lib.hid hb0; have HK0 := Lib.hid K0; have HSm := Lib.hid hsm
  have HIA := Lib.hid hrest.1
  rw [hv] at HV
  rw [hv]
  have z0 : w.heap.size < w0.heap.size := by omega
  clear h hv hrest hp hq ht hb0 hz0 K0 hsm
  go_enter Tryz.func73, Tryz.ntmps73
  go_wp2_with fail
  clear hw0
  refine (l6Words_any s _ hs).mono ?_
  rintro e w1 ⟨vw, rfl, hOw, hb1⟩
  obtain ⟨Aw, cw, rfl, hIw, -, hcw, hcm⟩ := hOw.form
  have hwl := wordsB_half s
  obtain ⟨ws, hws⟩ : ∃ l, wordsB s = l := ⟨_, rfl⟩
  rw [hws] at hIw hwl hcw ⊢
  obtain ⟨n, hn⟩ : ∃ n, ws.length = n := ⟨_, rfl⟩
  rw [hn] at hwl hcw ⊢
  have Hn := Lib.hid hn; have Hws := Lib.hid hws
  have T1 := Lib.hid (T0.out.trans (hb1.mono (by omega)))
  have HV1 := Lib.hid (HV.out.below (by omega) hb1); have HK1 := Lib.hid (HK0.out.below hb1 (by omega)); have z1 := hb1.size
  have HI1 := Lib.hid hIw
  have c0 : w1.cell? ⟨w.heap.size, 0, none⟩ = some (.string t) := cellOfBlk HK1.out 0
  have c1 : w1.cell? ⟨w.heap.size, 1, none⟩ = some (.slice A p d) := cellOfBlk HK1.out 1
  have c2 : w1.cell? ⟨w.heap.size, 2, none⟩ = some (.slice A2 q d2) := cellOfBlk HK1.out 2
  clear hb1 hOw hIw T0 HV HK0 hn hws hcw hcm
  cases hf : fontB f
  · have HZ := Lib.hid (wwB_font (s := s) hf)
    go_wp2_with fail
    refine (specFontOk_any lo hi _ f _ HV1.out (by omega) HSm.out).mono ?_
    rintro e w2 ⟨rfl, hb2⟩
    rw [hf]
    have HB2 := Lib.hid hb2; clear hb2
    go_wp2
    go_ret2
    exact ⟨_, by rw [HZ.out]; rfl, by rw [wwL_no HZ.out]; exact own_none _ _, T1.out.trans (HB2.out.mono (by omega))⟩
  have Hf := Lib.hid hf
  go_wp2_with fail
  refine (specFontOk_any lo hi _ f _ HV1.out (by omega) HSm.out).mono ?_
  rintro e w2 ⟨rfl, hb2⟩
  rw [hf]
  clear hf
  have T2 := Lib.hid (T1.out.trans (hb2.mono (by omega)))
  have HV2 := Lib.hid (HV1.out.below (by omega) hb2); have HK2 := Lib.hid (HK1.out.below hb2 (by omega)); have z2 := hb2.size
  have HI2 := Lib.hid (HI1.out.below hb2)
  clear hb2 T1 HV1 HK1 HI1 c0 c1 c2
  cases hin : inB (n : Int) 1 40
  · have HZ : Hid (wwB f s = false) := wwB_count (by rw [Hws.out, Hn.out]; exact hin)
    go_wp2_with fail
    refine (l1In_any _ _ _ _).mono ?_
    rintro e w3 ⟨rfl, rfl⟩
    rw [hin]
    go_wp2
    go_ret2
    exact ⟨_, by rw [HZ.out]; rfl, by rw [wwL_no HZ.out]; exact own_none _ _, T2.out⟩
  have Hin := Lib.hid hin
  go_wp2_with fail
  refine (l1In_any _ _ _ _).mono ?_
  rintro e w3 ⟨rfl, rfl⟩
  rw [hin]
  clear hin
  go_wp2
  have HE : Hid (Own (w2.alloc (.cells #[] 3)) w2.heap.size (.slice (some ⟨w2.heap.size, 0, none⟩) 0 0) []) := World.ownsRow_lit w2 #[] 0 (Nat.le_refl _) (Nat.zero_le _) rfl
  have HBE := Lib.hid ((Below.refl w2.heap.size w2).alloc (Nat.le_refl _) (.cells #[] 3))
  go_loopw [7, 27] (fun u i wr => ∃ j : Nat, j ≤ n ∧ i = .int .i64 j ∧ Own wr w2.heap.size u ((ws.take j).map (wRes f)) ∧ Hid ((ws.take j).all (wGood f) = true) ∧ Below w2.heap.size w2 wr) (fun _ i _ => n - (intOf i).toNat)
  case atStart => exact ⟨0, Nat.zero_le _, rfl, HE.out, rfl, HBE.out⟩
  case round =>
    clear HE HBE
    rename World => wo
    obtain ⟨j, hj, rfl, hO, hall, hb⟩ := hrel
    have HB := Lib.hid hb; have HO := Lib.hid hO
    have zr := hb.size
    have HIr := Lib.hid (HI2.out.below hb)
    have Hmj : Hid (((ws.take j).map (wRes f)).length ≤ 1048576) := by show _ ≤ _; simp; omega
    clear hb hO
    by_cases hlt : j < n
    · obtain ⟨ad, x, rfl, hx, hcx⟩ := HIr.out.at_ (k := j) (by rw [Hn.out]; exact hlt)
      have Hmem : Hid (x ∈ wordsB s) := by show _ ∈ _; rw [Hws.out]; exact smem_at hx.out
      have hxs : x.size ≤ 2097151 := by have := wordsB_size Hmem.out; omega
      have HST := Lib.hid (wstep (f := f) hx.out)
      go_wp2
      go_loopw [10, 11] (fun u2 i2 wq => ∃ k : Nat, k ≤ x.size ∧ i2 = .int .i64 k ∧ u2 = .int .i64 (wSum f x k) ∧ Hid (wAll f x k = true) ∧ Hid (wSum f x k ≤ 2000) ∧ Below wo.heap.size wo wq) (fun _ i2 _ => x.size - (intOf i2).toNat)
      case atStart => exact ⟨0, Nat.zero_le _, rfl, rfl, rfl, by show (0 : Int) ≤ 2000; decide, Below.refl _ _⟩
      case round =>
        rename World => wq
        obtain ⟨k, hk, rfl, rfl, hka, hks, hb⟩ := hrel
        have HBq := Lib.hid (HB.out.trans (hb.mono zr)); have HBr := Lib.hid hb
        have zq := hb.size
        clear hb
        have HVq := Lib.hid (HV2.out.below (by omega) HBq.out); have HKq := Lib.hid (HK2.out.below HBq.out (by omega))
        by_cases hlk : k < x.size
        · have c0 : wq.cell? ⟨w.heap.size, 0, none⟩ = some (.string t) := cellOfBlk HKq.out 0
          have c1 : wq.cell? ⟨w.heap.size, 1, none⟩ = some (.slice A p d) := cellOfBlk HKq.out 1
          have c2 : wq.cell? ⟨w.heap.size, 2, none⟩ = some (.slice A2 q d2) := cellOfBlk HKq.out 2
          have Hbt := Lib.hid (byt_eq hlk)
          go_wp2
          go_still_tail 5, (by kernel_rfl)
          change wpList _ _ _ _ _ wq.drew
          have HD := Lib.hid ((Below.refl wq.heap.size wq).drew)
          have HVd := Lib.hid (HVq.out.below (B := wq.heap.size) (by omega) HD.out)
          go_wp2_with fail
          refine (specKeyOf_any lo hi _ f _ _ HVd.out (by show _ ≤ wq.heap.size; omega) HSm.out).mono ?_
          rintro e w5 ⟨rfl, hb5⟩
          have HB5 := Lib.hid (HD.out.trans hb5); have HK5 := Lib.hid (HKq.out.below HB5.out (by omega)); have z5 := HB5.out.size
          have HI5 := Lib.hid ((HVq.out.below (B := wq.heap.size) (by omega) HB5.out))
          clear hb5 c0 c1 c2 HD HVd
          have d1 : w5.cell? ⟨w.heap.size, 1, none⟩ = some (.slice A p d) := cellOfBlk HK5.out 1
          have ek : keyI f (wrap64 ((x[k]'hlk).toNat : Int)) = keyI f (byt x k) := by
            have h1 := byt_lt x k
            rw [← Hbt.out]
            congr 1
            unfold wrap64
            omega
          rcases key_range Hf.out (byt x k) with hk1 | ⟨kk, hkk, hk1⟩
          · have HF : Hid (wHas f x k = false) := by show _ = _; unfold wHas; rw [hk1]; decide
            have HZ := Lib.hid (wwB_word Hmem.out (wAll_bad hlk HF.out))
            rw [ek, hk1]
            clear HF ek hk1
            go_wp2
            go_ret2
            exact ⟨_, by rw [HZ.out]; rfl, by rw [wwL_no HZ.out]; exact own_none _ _, T2.out.trans ((HBq.out.mono (by omega)).trans (HB5.out.mono (by omega)))⟩
          · have HW5 := Lib.hid (T2.out.trans ((HBq.out.mono (B' := w.heap.size) (by omega)).trans (HB5.out.mono (by omega))))
            have hjp : kk < p := by have := (fontB_ws Hf.out).1; rw [Hp.out] at this; omega
            obtain ⟨bd, y, rfl, hy, hcy⟩ := (HIA.out.below hhi HW5.out).ints.at_ (k := kk) (by rw [Hp.out]; exact hjp)
            have hxw : wAdd f x k = y := by unfold wAdd; rw [hk1, Int.toNat_natCast, getD_at hy.out]
            have HH : Hid (wAll f x (k + 1) = true) := wAll_succ hka.out (by unfold wHas; rw [hk1]; simp)
            have hS1 := (wSum_le Hf.out x k).1
            have hA1 := wAdd_le Hf.out x k
            obtain ⟨S, hS⟩ : ∃ S, wSum f x k = S := ⟨_, rfl⟩
            have HS : Hid (wSum f x (k + 1) = S + y) := by show _ = _; unfold wSum; rw [hS, hxw]
            have b2 := hks.out
            rw [hS] at hS1 b2
            rw [hxw] at hA1
            rw [ek, hk1, hS]
            have b3 : 0 ≤ y := hA1.1
            have b4 : y ≤ 60 := hA1.2.1
            clear hkk ek hk1 hy hxw hA1 hS hka hks
            by_cases hbig : 2000 < S + y
            · have HZ := Lib.hid (wwB_big (k := k + 1) Hmem.out (by omega) (by rw [HS.out]; exact hbig))
              go_wp2
              go_ret2
              exact ⟨_, by rw [HZ.out]; rfl, by rw [wwL_no HZ.out]; exact own_none _ _, HW5.out⟩
            · go_wp2
              go_roundw
              case rel => exact ⟨k + 1, by omega, by go_num, by rw [HS.out], HH, by show _ ≤ _; rw [HS.out]; omega, HBr.out.trans (HB5.out.mono (by omega))⟩
              case measure => simp [intOf]; omega
        · have hkn : k = x.size := by omega
          subst hkn
          have HOq := Lib.hid (HO.out.below HBr.out)
          have hzq : w2.heap.size ≤ wq.heap.size := by omega
          have HR : Hid (wRes f x = wSum f x x.size) := by show _ = _; unfold wRes; rw [if_pos hka.out]
          have HG := Lib.hid (wgood_step hall hx.out hka.out hks.out).out
          clear hka hks
          go_wp2_with (at_builtin; refine wpl_push2 _ rfl (.tmp 54) (.tmp 56) rfl w2.heap.size u7 _ (wSum f x x.size) rfl rfl HOq.out hzq Hmj.out ?_; intro v6 w6 hO6 hg6 hv6; have HO6 := Lib.hid hO6; have HG6 := Lib.hid hg6; clear hO6 hg6 hv6)
          have HB6 := Lib.hid (HBq.out.grown HG6.out hzq (fun k hk => (World.ownsRow.lt HOq.out k hk).1))
          go_roundw
          case rel => exact ⟨j + 1, by omega, by go_num, by rw [HST.out, HR.out]; exact HO6.out, HG.out, HB6.out⟩
          case measure => simp [intOf]; omega
    · have hjn : j = n := by omega
      subst hjn
      have HA : Hid (ws.take j = ws) := stake_all Hn.out
      have HZ : Hid (wwB f s = true) := by
        refine wwB_good Hf.out (fun x hx => ?_) (by rw [Hws.out, Hn.out]; exact Hin.out)
        rw [Hws.out, ← HA.out] at hx
        exact wGood_iff.1 (List.all_eq_true.1 hall.out x hx)
      go_wp2
      go_ret2
      refine ⟨_, by rw [HZ.out]; rfl, ?_, T2.out.trans (HB.out.mono (by omega))⟩
      rw [wwL_yes HZ.out, Hws.out, ← HA.out]
      exact own_mono HO.out (by omega)
end Go.Proofs.YtobakeahbgodbaaGreat

namespace Go.Proofs.YtobakeahbgodbaaGreat
open Go.RowKit
set_option linter.unusedVariables false

/-- the first k strings -/
def gtK (zs : List ByteArray) (k : Nat) : ByteArray := ⟨(Lib.join ((zs.take k).map (·.data.toList)) [32]).toArray⟩
def gtS (zs : List ByteArray) : ByteArray := ⟨(Lib.join (zs.map (·.data.toList)) [32]).toArray⟩
theorem gt_full {zs : List ByteArray} {n : Nat} (h : zs.length = n) : gtK zs n = gtS zs := by unfold gtK gtS; rw [stake_all h]
theorem join_snoc (y : List UInt8) (r : List (List UInt8)) (x sep : List UInt8) : Lib.join (y :: r ++ [x]) sep = Lib.join (y :: r) sep ++ (sep ++ x) := by
  rw [List.cons_append, Lib.join_cons, Lib.join_cons]
  unfold Lib.joinTail
  rw [List.map_append, List.flatten_append]
  simp
theorem ba_append (a b : List UInt8) : (⟨a.toArray⟩ : ByteArray) ++ ⟨b.toArray⟩ = ⟨(a ++ b).toArray⟩ := by
  apply ByteArray.ext
  rw [ByteArray.data_append]
  simp
theorem ba_self (x : ByteArray) : x = ⟨x.data.toList.toArray⟩ := by cases x; simp
theorem gt_one {zs : List ByteArray} {x : ByteArray} (h : zs[0]? = some x) : (⟨#[]⟩ : ByteArray) ++ x = gtK zs 1 := by
  unfold gtK
  rw [stake_at h, List.take_zero, List.nil_append, List.map_cons, List.map_nil, Lib.join_one]
  conv => lhs; rw [ba_self x]
  exact ba_append [] _
theorem gt_more {zs : List ByteArray} {k : Nat} {x : ByteArray} (hk : 0 < k) (h : zs[k]? = some x) : (gtK zs k ++ (⟨#[32]⟩ : ByteArray)) ++ x = gtK zs (k + 1) := by
  unfold gtK
  rw [stake_at h, List.map_append]
  have hl : 0 < ((zs.take k).map (·.data.toList)).length := by rw [List.length_map, List.length_take]; have := slt_at h; omega
  generalize (zs.take k).map (·.data.toList) = L at hl
  cases L with
  | nil => simp at hl
  | cons y r =>
    rw [List.map_cons, List.map_nil, join_snoc]
    conv => lhs; rw [ba_self x]
    rw [show (⟨#[32]⟩ : ByteArray) = ⟨([32] : List UInt8).toArray⟩ from rfl, ba_append, ba_append, List.append_assoc]
theorem gt_size {zs : List ByteArray} : ∀ k, k ≤ zs.length → (gtK zs k).size ≤ szT zs k + k
  | 0, _ => by simp [gtK, Lib.join_nil, ByteArray.size]
  | k + 1, h => by
    obtain ⟨x, hx⟩ : ∃ x, zs[k]? = some x := ⟨_, List.getElem?_eq_getElem h⟩
    have ih := gt_size (zs := zs) k (by omega)
    rw [szT_succ hx]
    rcases Nat.eq_zero_or_pos k with h0 | h0
    · subst h0
      rw [← gt_one hx, ByteArray.size_append]
      have : (⟨#[]⟩ : ByteArray).size = 0 := rfl
      omega
    · rw [← gt_more h0 hx, ByteArray.size_append, ByteArray.size_append]
      have : (⟨#[32]⟩ : ByteArray).size = 1 := rfl
      omega

set_option maxRecDepth 100000 in
set_option maxHeartbeats 1600000 in
theorem l6Join_any (A : Option Addr) (n c : Nat) (zs : List ByteArray) (w : World) (hn : zs.length = n) (hm : szL zs ≤ 2097152) (h : Strs w A zs) :
    Calls Tryz.prog 34 #[.slice A n c] w fun e w' => e = .returned (.string (gtS zs)) ∧ w = w' := by
  have Hn := Lib.hid hn; have H := Lib.hid h
  have hsz : n + szT zs n ≤ 2097152 := by unfold szL at hm; rw [hn] at hm; exact hm
  have HZ := Lib.hid hsz
  have hnb : n ≤ 2097152 := by omega
  clear hn h hm hsz
  go_enter Tryz.func34, Tryz.ntmps34
  go_wp2
  go_loop [3, 8] (fun v i => ∃ (k : Nat) (s : ByteArray), k ≤ n ∧ i = .int .i64 k ∧ v = .string s ∧ s = gtK zs k) (fun _ i => n - (intOf i).toNat)
  case atStart => exact ⟨0, _, Nat.zero_le _, rfl, rfl, by simp [gtK, Lib.join_nil]⟩
  case round =>
    obtain ⟨k, s, hk, rfl, rfl, hs⟩ := hrel
    have HS := Lib.hid hs
    have hss : s.size ≤ 2097152 := by rw [hs]; have := gt_size (zs := zs) k (by rw [Hn.out]; exact hk); have := szT_le zs hk; have := HZ.out; omega
    clear hs
    by_cases hlt : k < n
    · obtain ⟨ad, x, rfl, hx, hc⟩ := H.out.at_ (k := k) (by rw [Hn.out]; exact hlt)
      have hxs : x.size ≤ 2097152 := by have := szT_succ hx.out; have := szT_le zs (show k + 1 ≤ n from hlt); have := HZ.out; omega
      by_cases hp : 0 < k
      · have HX : Hid ((s ++ (⟨#[32]⟩ : ByteArray)) ++ x = gtK zs (k + 1)) := by show _ = _; rw [HS.out]; exact gt_more hp hx.out
        have hs1 : (s ++ (⟨#[32]⟩ : ByteArray)).size ≤ 2097153 := by rw [ByteArray.size_append]; have : (⟨#[32]⟩ : ByteArray).size = 1 := rfl; omega
        go_wp2
        go_round
        case rel => exact ⟨k + 1, _, by omega, by go_num, rfl, HX.out⟩
        case measure => simp [intOf]; omega
      · have HX : Hid (s ++ x = gtK zs (k + 1)) := by
          show _ = _
          have hk0 : k = 0 := by omega
          have h1 := HS.out
          have h2 := hx.out
          rw [hk0] at h1 h2 ⊢
          rw [h1, ← gt_one h2]
          congr 1
        go_wp2
        go_round
        case rel => exact ⟨k + 1, _, by omega, by go_num, rfl, HX.out⟩
        case measure => simp [intOf]; omega
    · have HX : Hid (s = gtS zs) := by show _ = _; rw [HS.out, show k = n from by omega, gt_full Hn.out]
      go_wp2
      go_ret
      exact ⟨by rw [HX.out]; rfl, rfl⟩

theorem blanks_any (g n c : Nat) (zs : List ByteArray) (w : World) (hn : zs.length = n) (hm : szL zs ≤ 2097152) (hc : n ≤ c) (hg : g < w.heap.size) (h : Strs w (some ⟨g, 0, none⟩) zs) :
    Calls Tryz.prog 50 #[.slice (some ⟨g, 0, none⟩) n c] w fun e w' => e = .returned (.string (gtS zs)) ∧ Below w.heap.size w w' := by
  subst hn
  have hsz := hm
  unfold szL at hsz
  have HL : Hid ((Lib.join (zs.map (·.data.toList)) (⟨#[32]⟩ : ByteArray).data.toList).length ≤ 140737488355328) := by
    show _ ≤ _
    have h1 := gt_size (zs := zs) zs.length (Nat.le_refl _)
    rw [gt_full rfl] at h1
    have h2 : (gtS zs).size = (Lib.join (zs.map (·.data.toList)) (⟨#[32]⟩ : ByteArray).data.toList).length := by simp [gtS, ByteArray.size]
    omega
  have HN : zs.length ≤ 140737488355328 := by omega
  have HC : Hid (∀ (j : Nat) x, zs[j]? = some x → w.cell? ⟨g, 0 + j, none⟩ = some (.string x)) := fun j x hx => by
    obtain ⟨ad, e, hcell⟩ := h (by have := slt_at hx; omega)
    injection e with e
    subst e
    rw [Nat.zero_add, ← add_zero_at g j, hcell j (slt_at hx), sgetD_at hx]
  clear h hsz
  go_enter Tryz.func50, Tryz.ntmps50
  go_wp2_with fail
  refine (Tryz.strings_Join g 0 c zs ⟨#[32]⟩ _ HC.out hg HN hc HL.out).mono ?_
  rintro e w1 ⟨rfl, hb1⟩
  have HB := Lib.hid hb1
  clear hb1
  go_wp2
  go_ret
  exact ⟨rfl, HB.out⟩
theorem implGT_any (g n c : Nat) (zs : List ByteArray) (w : World) (hn : zs.length = n) (hm : szL zs ≤ 2097152) (hc : n ≤ c) (hg : g < w.heap.size) (h : Strs w (some ⟨g, 0, none⟩) zs) :
    Calls Tryz.prog 11 #[.slice (some ⟨g, 0, none⟩) n c] w fun e w' => e = .returned (.string (gtS zs)) ∧ Below w.heap.size w w' := by
  have H := Lib.hid h; have Hn := Lib.hid hn; have Hm := Lib.hid hm
  clear h hn hm
  go_enter Tryz.func11, Tryz.ntmps11
  go_wp2_with fail
  refine (blanks_any g n c zs _ Hn.out Hm.out hc hg H.out).mono ?_
  rintro e w1 ⟨rfl, hb1⟩
  have HB := Lib.hid hb1
  clear hb1
  go_wp2
  go_ret
  exact ⟨rfl, HB.out⟩
theorem implGT_own (B : Nat) (A : Option Addr) (n c : Nat) (zs : List ByteArray) (w : World) (hn : zs.length = n) (hm : szL zs ≤ 2097152) (h : OwnS w B (.slice A n c) zs) :
    Calls Tryz.prog 11 #[.slice A n c] w fun e w' => e = .returned (.string (gtS zs)) ∧ Below w.heap.size w w' := by
  rcases h.2 with ⟨hv, hz⟩ | ⟨g, cap, cur, hv, hg, hh, hnc, _⟩
  · injection hv with e1 e2 e3
    subst e1; subst e2; subst e3
    have hzs : zs = [] := List.eq_nil_of_length_eq_zero hz
    have HG : Hid (gtS zs = ⟨#[]⟩) := by show _ = _; subst hzs; rfl
    clear hzs hz hn hm h
    go_enter Tryz.func11, Tryz.ntmps11
    go_wp2_with (first
      | (go_at_call 83; refine (Tryz.strings_Join_none _ _ _ _).mono ?_; rintro e w' ⟨rfl, rfl⟩)
      | go_in)
    go_ret
    exact ⟨by rw [HG.out]; rfl, Below.refl _ _⟩
  · injection hv with e1 e2 e3
    subst e1
    have hI : Strs w (some ⟨g, 0, none⟩) zs := by
      obtain ⟨A', c', hv', hI, _⟩ := h.form
      injection hv' with h1 h2 h3
      subst h1
      exact hI
    exact implGT_any g n c zs w hn hm (by omega) ((Array.getElem?_eq_some_iff.1 hh).1) hI
end Go.Proofs.YtobakeahbgodbaaGreat

namespace Go.Proofs.YtobakeahbgodbaaGreat
open Go.RowKit
set_option linter.unusedVariables false

theorem isFromQ_any (a x b : Int) (w : World) : Calls Tryz.prog 69 #[.int .i64 a, .int .i64 x, .int .i64 b] w fun e w' => e = .returned (.bool (inB x a b)) ∧ w = w' := by
  by_cases h1 : a ≤ x
  · by_cases h2 : x ≤ b
    · have hr : inB x a b = true := by simp [inB, h1, h2]
      rw [hr]; clear hr
      go_enter Tryz.func69, Tryz.ntmps69
      go_wp2
      go_ret
      exact ⟨rfl, rfl⟩
    · have hr : inB x a b = false := by simp [inB, h2]
      rw [hr]; clear hr
      go_enter Tryz.func69, Tryz.ntmps69
      go_wp2
      go_ret
      exact ⟨rfl, rfl⟩
  · have hr : inB x a b = false := by simp [inB, h1]
    rw [hr]; clear hr
    go_enter Tryz.func69, Tryz.ntmps69
    go_wp2
    go_ret
    exact ⟨rfl, rfl⟩
def aplB (n : Nat) (f o : Int) : Bool := inB f 0 n && inB o 0 ((n : Int) - f)
def aplL (zs ls : List ByteArray) (f o : Int) : List ByteArray := if aplB zs.length f o = true then (zs.take f.toNat ++ ls) ++ zs.drop (f.toNat + o.toNat) else []
theorem aplB_iff (n : Nat) (f o : Int) : aplB n f o = true ↔ (0 ≤ f ∧ 0 ≤ o ∧ f + o ≤ n) := by
  unfold aplB inB
  rw [Bool.and_eq_true, decide_eq_true_eq, decide_eq_true_eq]
  omega
theorem aplB_nat {n : Nat} {f o : Int} (h : aplB n f o = true) : ∃ p q r : Nat, f = p ∧ o = q ∧ p + q = r ∧ r ≤ n := by
  obtain ⟨h1, h2, h3⟩ := (aplB_iff n f o).1 h
  obtain ⟨p, rfl⟩ := Int.eq_ofNat_of_zero_le h1
  obtain ⟨q, rfl⟩ := Int.eq_ofNat_of_zero_le h2
  exact ⟨p, q, p + q, rfl, rfl, rfl, by omega⟩
theorem aplL_len {zs ls : List ByteArray} {f o : Int} : (aplL zs ls f o).length ≤ zs.length + ls.length := by
  unfold aplL
  split
  · rename_i h
    obtain ⟨p, q, r, rfl, rfl, hr, hl⟩ := aplB_nat h
    simp
    omega
  · simp
theorem owns_form {w : World} {B : Nat} {v : Value} {zs : List ByteArray} (h : OwnS w B v zs) :
    ∃ A n c, v = .slice A n c ∧ zs.length = n ∧ OwnS w B (.slice A n c) zs ∧ n ≤ c ∧ c ≤ maxLen ∧ Strs w A zs := by
  obtain ⟨A, c, rfl, hI, _, h1, h2⟩ := h.form
  exact ⟨A, zs.length, c, rfl, rfl, h, h1, h2, hI⟩
theorem owns_base {w : World} {B B' : Nat} {v : Value} {zs : List ByteArray} (h : OwnS w B v zs) (hB : B' ≤ B) : OwnS w B' v zs := by
  refine ⟨h.1, ?_⟩
  rcases h.2 with hn | ⟨g, cap, cur, hv, hg, rest⟩
  · exact .inl hn
  · exact .inr ⟨g, cap, cur, hv, by omega, rest⟩
theorem strs_take {w : World} {A : Option Addr} {zs : List ByteArray} {q : Nat} (h : Strs w A zs) : Strs w A (zs.take q) := fun hp => by
  rw [List.length_take] at hp
  obtain ⟨ad, e, hc⟩ := h (by omega)
  refine ⟨ad, e, fun j hj => ?_⟩
  rw [List.length_take] at hj
  rw [hc j (by omega)]
  simp only [List.getD, List.getElem?_take]
  rw [if_pos (by omega)]
theorem strs_from {w : World} {A : Option Addr} {c l : Nat} {zs : List ByteArray} (h : Strs w A zs) (hc : zs.length ≤ c) : Strs w (if c = l then A else Option.map (fun x => x.add l) A) (zs.drop l) := by
  intro hp
  rw [List.length_drop] at hp
  obtain ⟨ad, rfl, hcell⟩ := h (by omega)
  rw [if_neg (by omega)]
  refine ⟨ad.add l, rfl, fun j hj => ?_⟩
  rw [List.length_drop] at hj
  rw [show (ad.add l).add j = ad.add (l + j) from by by_cases hq0 : l = 0 <;> by_cases hj0 : j = 0 <;> simp [Addr.add, hq0, hj0, Nat.add_assoc], hcell (l + j) (by omega)]
  simp [List.getD, List.getElem?_drop]

set_option maxRecDepth 100000 in
set_option maxHeartbeats 3200000 in
theorem implApl_any (A B : Option Addr) (n c m d : Nat) (zs ls : List ByteArray) (f o : Int) (w : World) (hn : zs.length = n) (hm : ls.length = m) (hl : n + m ≤ 1048576) (hc : n ≤ c) (hcm : c ≤ maxLen) (h : Strs w A zs) (h2 : Strs w B ls)
    (wf : (Lit.int .i64 f).wf = true) (wo : (Lit.int .i64 o).wf = true) :
    Calls Tryz.prog 38 #[.slice A n c, .int .i64 f, .int .i64 o, .slice B m d] w fun e w' => ∃ v, e = .returned (.tuple #[v, .bool (aplB n f o)]) ∧ OwnS w' w.heap.size v (aplL zs ls f o) ∧ Below w.heap.size w w' := by
  unfold maxLen at hcm
  have hfr : -9223372036854775808 ≤ f ∧ f ≤ 9223372036854775807 := by simpa [Lit.wf, IntKind.min, IntKind.max, IntKind.signed, IntKind.bits] using wf
  obtain ⟨hf1, hf2⟩ := hfr
  have Hn := Lib.hid hn; have Hm := Lib.hid hm; have H1 := Lib.hid h; have H2 := Lib.hid h2
  clear hn hm h h2 wf wo
  cases hb : aplB n f o
  · have HL : Hid (aplL zs ls f o = []) := by show _ = _; unfold aplL; rw [Hn.out, hb]; rfl
    by_cases hf0 : f < 0
    · go_enter Tryz.func38, Tryz.ntmps38
      go_wp2
      go_ret2
      exact ⟨.slice none 0 0, rfl, by rw [HL.out]; exact ⟨rfl, .inl ⟨rfl, rfl⟩⟩, Below.refl _ _⟩
    · have hB : inB o 0 ((n : Int) - f) = false := by
        have h1 := aplB_iff n f o
        rw [hb] at h1
        unfold inB
        rw [decide_eq_false_iff_not]
        intro h2
        have := h1.2 ⟨by omega, by omega, by omega⟩
        cases this
      go_enter Tryz.func38, Tryz.ntmps38
      go_wp2_with (go_at_call 69; refine (isFromQ_any _ _ _ _).mono ?_; rintro e w' ⟨rfl, rfl⟩; rw [hB])
      go_ret2
      exact ⟨.slice none 0 0, rfl, by rw [HL.out]; exact ⟨rfl, .inl ⟨rfl, rfl⟩⟩, Below.refl _ _⟩
  · obtain ⟨p, q, r, rfl, rfl, hr, hrn⟩ := aplB_nat hb
    have HL : Hid (aplL zs ls (p : Int) (q : Int) = (zs.take p ++ ls) ++ zs.drop r) := by
      show _ = _
      unfold aplL
      rw [Hn.out, hb, if_pos rfl, Int.toNat_natCast, Int.toNat_natCast, hr]
    have hB : inB (q : Int) 0 ((n : Int) - (p : Int)) = true := by unfold inB; rw [decide_eq_true_eq]; omega
    have hpn : p ≤ n := by omega
    obtain ⟨t, ht⟩ : ∃ t, n - r = t := ⟨_, rfl⟩
    obtain ⟨AN, hAN⟩ : ∃ AN, (if c = r then A else Option.map (fun x => x.add r) A) = AN := ⟨_, rfl⟩
    have SD := strs_from (c := c) (l := r) H1.out (by rw [Hn.out]; exact hc)
    rw [hAN] at SD
    have HT1 : Hid ((zs.take p).length = p) := by show _ = _; rw [List.length_take, Hn.out]; omega
    have HT3 : Hid ((zs.drop r).length = t) := by show _ = _; rw [List.length_drop, Hn.out]; exact ht
    have HP := Lib.hid (sparts3 w A p c (zs.take p) B m d ls AN t (c - r) (zs.drop r) 28 HT1.out Hm.out HT3.out (StrsB.of (strs_take H1.out)) (StrsB.of H2.out) (StrsB.of SD))
    have HW : Hid (Below w.heap.size w (w.alloc (.cells #[.slice A p c, .slice B m d, .slice AN t (c - r)] 28))) := (Below.refl _ _).alloc (Nat.le_refl _) _
    have HFL : Hid ((sflat [⟨A, p, c, zs.take p⟩, ⟨B, m, d, ls⟩, ⟨AN, t, c - r, zs.drop r⟩]) = (zs.take p ++ ls) ++ zs.drop r) := by show _ = _; simp [sflat]
    have HFN : Hid ((sflat [⟨A, p, c, zs.take p⟩, ⟨B, m, d, ls⟩, ⟨AN, t, c - r, zs.drop r⟩]).length ≤ 1048576) := by
      show _ ≤ _
      rw [HFL.out, List.length_append, List.length_append, HT1.out, Hm.out, HT3.out]; omega
    have a1 : (p : Int) + (q : Int) = (r : Int) := by omega
    have a2 : IntKind.i64.wrap (r : Int) = (r : Int) := by rw [IntKind.wrap_i64]; omega
    have hrc : r ≤ c := by omega
    have hpc : p ≤ c := by omega
    have a3 : (n : Int) - (r : Int) = (t : Int) := by omega
    clear hr SD hb
    go_enter Tryz.func38, Tryz.ntmps38
    go_wp2_with (go_at_call 69; refine (isFromQ_any _ _ _ _).mono ?_; rintro e w' ⟨rfl, rfl⟩; rw [hB])
    have HPd : Hid (SPartsAt ((w.alloc (.cells #[.slice A p c, .slice B m d, .slice AN t (c - r)] 28)).drew) ⟨w.heap.size, 0, none⟩ (w.heap.size + 1) [⟨A, p, c, zs.take p⟩, ⟨B, m, d, ls⟩, ⟨AN, t, c - r, zs.drop r⟩]) := HP.out
    have HWd : Hid (Below w.heap.size w ((w.alloc (.cells #[.slice A p c, .slice B m d, .slice AN t (c - r)] 28)).drew)) := below_drewN HW.out 1
    clear HP HW
    go_region_with ((go_at_call 70; refine (sconcat_any ⟨w.heap.size, 0, none⟩ (w.heap.size + 1) 3 3 [⟨A, p, c, zs.take p⟩, ⟨B, m, d, ls⟩, ⟨AN, t, c - r, zs.drop r⟩] _ rfl (by omega) (by simp) HPd.out HFN.out).mono ?_; rintro e w2 ⟨v2, rfl, hO2, hb2⟩))
    go_wp2
    go_ret2
    have hO3 := owns_base hO2 (show w.heap.size ≤ _ from HWd.out.size)
    exact ⟨v2, rfl, by rw [HL.out, ← HFL.out]; exact hO3, HWd.out.trans (hb2.mono HWd.out.size)⟩

end Go.Proofs.YtobakeahbgodbaaGreat
