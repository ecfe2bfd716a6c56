/-
  The helpers of the exact laws over slices of whole numbers, by contract: toIntS copies, eqIntS compares. Conditions: the slice that is copied has at most 2^20 elements.
-/
import Derived.Test.YtddkedinkgnboaaBase
import Derived.Deep.RegionHeld3
import Derived.Outline
namespace Go.Proofs.Ytddkedinkgnboaa
open Go.RowKit

theorem intInfo : (Try.prog.info? 3).map (fun i => (i.zero, i.size, i.bytes)) = some (some (.int .i64 0), 1, 8) := by kernel_rfl

/-- What a copy holds after k rounds. -/
def half (zs : List Int) (n k : Nat) : List Value := (zs.take k).map (Value.int .i64) ++ List.replicate (n - k) (.int .i64 0)
theorem half_zero (zs : List Int) (n : Nat) : (madeCells (Value.int .i64 0).cells (n * 1)).toList = half zs n 0 := by
  rw [show half zs n 0 = List.replicate n (.int .i64 0) from by simp [half]]
  apply List.ext_getElem
  · simp [madeCells, Value.cells]
  · intro i h1 h2
    simp [madeCells, Value.cells, Nat.mod_one]
theorem half_set {zs : List Int} {n k : Nat} {x : Int} (hn : zs.length = n) (hx : zs[k]? = some x) : (half zs n k).set k (.int .i64 x) = half zs n (k + 1) := by
  have hk := lt_at hx
  unfold half
  rw [take_at hx, List.set_append, if_neg (by simp; omega)]
  have : n - k = (n - (k + 1)) + 1 := by omega
  rw [this, List.replicate_succ]
  simp [Nat.min_eq_left (Nat.le_of_lt hk)]
theorem half_full {zs : List Int} {n : Nat} (hn : zs.length = n) : half zs n n = zs.map (Value.int .i64) := by
  simp [half, take_all hn]
theorem half_cell (zs : List Int) (n k : Nat) (hn : zs.length = n) (hk : k < n) : ∃ v, (half zs n k)[k]? = some v := by
  refine ⟨.int .i64 0, ?_⟩
  unfold half
  rw [List.getElem?_append_right (by simp; omega)]
  rw [List.length_map, List.length_take, Nat.min_eq_left (by omega), Nat.sub_self, List.getElem?_replicate, if_pos (by omega)]

set_option maxHeartbeats 400000 in
theorem toIntS_any (A : Option Addr) (n c : Nat) (zs : List Int) (w : World) (hn : zs.length = n) (hm : n ≤ 1048576) (h : Ints w A zs) :
    Calls Try.prog 33 #[.slice A n c] w fun e w' => ∃ v, e = .returned v ∧ Own w' w.heap.size v zs ∧ Below w.heap.size w w' := by
  have Hn := Lib.hid hn; clear hn
  obtain ⟨i0, hi, hz0, hz1, hz2⟩ := info_parts intInfo
  go_enter Try.func33, Try.ntmps33
  go_wp2_with (at_make; refine wpList_make_full _ rfl (.tmp 6) (.tmp 6) 25 rfl w.heap.size 3 i0 (.int .i64 0) 1 Try.underlying25 hi hz0 hz1 .i64 .i64 (n : Int) (n : Int) n rfl rfl rfl rfl (by rw [hz2]; omega) (by unfold maxLen; omega) (Nat.le_refl _) ?_; intro w1 hown1 hg1; rw [half_zero zs] at hown1)
  have hb1 : Below w.heap.size w w1 := (Below.refl _ _).grown hg1 (Nat.le_refl _) (fun k hk => by cases hk)
  clear hg1
  go_loopw [4] (fun i wr => ∃ k : Nat, k ≤ n ∧ i = .int .i64 k ∧ wr.ownsRow w.heap.size 3 1 (.slice (some ⟨w.heap.size, 0, none⟩) n n) n (half zs n k) ∧ Below w.heap.size w wr) (fun i _ => n - (intOf i).toNat)
  case atStart => exact ⟨0, Nat.zero_le _, rfl, hown1, hb1⟩
  case round =>
    clear hown1 hb1
    obtain ⟨k, hk, rfl, hown, hb⟩ := hrel
    by_cases hlt : k < n
    · obtain ⟨ad, x, rfl, hx, hc⟩ := (h.below hb).at_ (k := k) (by rw [Hn.out]; exact hlt)
      obtain ⟨v0, hv0⟩ := half_cell zs n k Hn.out hlt
      have hd := (hown.cellAt k (by omega)).trans hv0
      have hf := hown.frozenAt k
      have hst := hown.stored k (.int .i64 x)
      rw [half_set Hn.out hx.out] at hst
      have HS := Lib.hid hst.1
      have HB := Lib.hid (hb.setCell (p := ⟨w.heap.size, k, none⟩) (Nat.le_refl _) (.int .i64 x))
      clear hst hv0 hown hb h
      go_wp2
      go_roundw
      case rel => exact ⟨k + 1, by omega, by go_num, HS.out, HB.out⟩
      case measure => simp [intOf]; omega
    · have hkn : k = n := by omega
      subst hkn
      go_wp2
      go_ret
      refine ⟨_, rfl, ?_, hb⟩
      unfold Own
      rw [Hn.out, ← half_full Hn.out]
      exact hown

set_option maxHeartbeats 400000 in
theorem eqIntS_any (A B : Option Addr) (n m c d : Nat) (zs ys : List Int) (w : World) (hn : zs.length = n) (hm : ys.length = m) (hl : n ≤ 1048576) (hl2 : m ≤ maxLen) (h : Ints w A zs) (h2 : Ints w B ys) :
    Calls Try.prog 34 #[.slice A n c, .slice B m d] w fun e w' => e = .returned (.bool (decide (zs = ys))) ∧ ∃ k, w' = w.drewN k := by
  unfold maxLen at hl2
  have Hn := Lib.hid hn; have Hm := Lib.hid hm; clear hn hm
  by_cases hnm : n = m
  · subst hnm
    go_enter Try.func34, Try.ntmps34
    go_wp2
    go_loopw [5] (fun i wr => ∃ k : Nat, k ≤ n ∧ i = .int .i64 k ∧ (∃ q, wr = w.drewN q) ∧ zs.take k = ys.take k) (fun i _ => n - (intOf i).toNat)
    case atStart => exact ⟨0, Nat.zero_le _, rfl, ⟨0, rfl⟩, rfl⟩
    case round =>
      obtain ⟨k, hk, rfl, ⟨q, rfl⟩, ht⟩ := hrel
      have Ht := Lib.hid ht; clear ht
      by_cases hlt : k < n
      · obtain ⟨ad, x, rfl, hx, hc⟩ := h.at_ (k := k) (by rw [Hn.out]; exact hlt)
        obtain ⟨bd, y, rfl, hy, hd⟩ := h2.at_ (k := k) (by rw [Hm.out]; exact hlt)
        by_cases hxy : x = y
        · subst hxy
          have HT : Hid (zs.take (k + 1) = ys.take (k + 1)) := by
            show _ = _
            rw [take_at hx.out, take_at hy.out, Ht.out]
          go_wp2
          go_quiet (fail)
          go_wp2
          go_roundw
          case rel => exact ⟨k + 1, by omega, by go_num, ⟨_, rfl⟩, HT.out⟩
          case measure => simp [intOf]; omega
        · have HN : Hid (zs ≠ ys) := fun e => hxy (by have := hx.out; rw [e, hy.out] at this; injection this with this; exact this.symm)
          have hb : (x == y) = false := by simpa using hxy
          have hb' : (x != y) = true := by simpa using hxy
          clear hxy
          go_wp2
          go_quiet (fail)
          go_wp2
          go_ret
          exact ⟨ret_bool (by simpa using HN.out), ⟨_, World.drewN_drewN _ _ _⟩⟩
      · have hkn : k = n := by omega
        subst hkn
        go_wp2
        go_ret
        have := Ht.out
        rw [take_all Hn.out, take_all Hm.out] at this
        exact ⟨ret_bool (by simpa using this), ⟨q, rfl⟩⟩
  · have HN : Hid (zs ≠ ys) := fun e => hnm (by rw [← Hn.out, ← Hm.out, e])
    have hb' : ((n : Int) != (m : Int)) = true := by rw [bne_iff_ne]; omega
    go_enter Try.func34, Try.ntmps34
    go_wp2
    go_ret
    exact ⟨ret_bool (by simpa using HN.out), ⟨0, rfl⟩⟩

/-- k, k + 1, .. (n numbers) -/
def upFrom (k : Int) (n : Nat) : List Int := (List.range n).map (fun (i : Nat) => k + (i : Int))
theorem upFrom_len (k : Int) (n : Nat) : (upFrom k n).length = n := by simp [upFrom]
theorem upFrom_get (k : Int) (n i : Nat) (h : i < n) : (upFrom k n)[i]? = some (k + (i : Int)) := by simp [upFrom, h]

/-- What a marked row holds after j rounds. -/
def marked (zs : List Int) (k : Int) (j : Nat) : List Int := upFrom k j ++ zs.drop j
theorem marked_set {zs : List Int} {k : Int} {j : Nat} (h : j < zs.length) : (marked zs k j).set j (k + (j : Int)) = marked zs k (j + 1) := by
  unfold marked
  rw [List.set_append, if_neg (by simp [upFrom_len]), upFrom_len, Nat.sub_self]
  have : zs.drop j = zs[j] :: zs.drop (j + 1) := List.drop_eq_getElem_cons h
  rw [this, List.set_cons_zero]
  simp [upFrom, List.range_succ]
theorem marked_len (zs : List Int) (k : Int) (j : Nat) (h : j ≤ zs.length) : (marked zs k j).length = zs.length := by
  simp [marked, upFrom_len]; omega
theorem marked_full (zs : List Int) (k : Int) : marked zs k zs.length = upFrom k zs.length := by simp [marked]

theorem grown_drew {a w : World} {row : Option Nat} (h : a.grownBy w row) : a.grownBy w.drew row := ⟨h.os, h.tape, h.output, h.size, h.block⟩
theorem grown_set {a w : World} {g : Nat} (h : a.grownBy w (some g)) (i : Nat) (u : Value) : a.grownBy (w.setCell ⟨g, i, none⟩ u) (some g) :=
  ⟨h.os, h.tape, h.output, by simpa [World.setCell] using h.size, fun j hj hne => (Below.heap_setCell w ⟨g, i, none⟩ u j (by rintro rfl; exact hne rfl)).trans (h.block j hj hne)⟩

set_option maxHeartbeats 400000 in
/-- markIntS writes k, k + 1, .. into a row of the call's own, and returns the number behind the last. -/
theorem markIntS_any (B : Nat) (v : Value) (k : Int) (zs : List Int) (w : World) (hk0 : 0 ≤ k) (hk1 : k ≤ 4194304) (hl : zs.length ≤ 1048576) (h : Own w B v zs) :
    Calls Try.prog 35 #[v, .int .i64 k] w fun e w' => e = .returned (.int .i64 (k + zs.length)) ∧ Own w' B v (upFrom k zs.length) ∧ w.grownBy w' v.ownBlock := by
  rcases h.2 with ⟨rfl, hn⟩ | ⟨g, cap, cur, rfl, hg, hh, hrest⟩
  · have hz : zs = [] := List.eq_nil_of_length_eq_zero hn
    subst hz
    go_enter Try.func35, Try.ntmps35
    go_wp2
    refine wp_loop_rounds 1 ?_
    rw [rounds_succ]
    go_wp2
    go_ret
    exact ⟨ret_int (by simp), h, World.grownBy.refl w _⟩
  · obtain ⟨n, hn⟩ : ∃ n, zs.length = n := ⟨_, rfl⟩
    have hO := h
    unfold Own at hO
    rw [hn] at hO hl ⊢
    have Hn := Lib.hid hn
    have HO := Lib.hid hO
    clear hn hO h hh hrest cur hg
    go_enter Try.func35, Try.ntmps35
    go_wp2
    go_loopw [1, 5] (fun q i wr => ∃ j : Nat, j ≤ n ∧ i = .int .i64 j ∧ q = .int .i64 (k + j) ∧ wr.ownsRow B 3 1 (.slice (some ⟨g, 0, none⟩) n cap) n ((marked zs k j).map (Value.int .i64)) ∧ w.grownBy wr (some g)) (fun _ i _ => n - (intOf i).toNat)
    case atStart => exact ⟨0, Nat.zero_le _, rfl, by simp, by have := HO.out; simpa [marked, upFrom] using this, World.grownBy.refl w _⟩
    case round =>
      obtain ⟨j, hj, rfl, rfl, hown, hgr⟩ := hrel
      by_cases hlt : j < n
      · have hlz : j < zs.length := by rw [Hn.out]; exact hlt
        obtain ⟨v0, hv0⟩ : ∃ v0, ((marked zs k j).map (Value.int .i64))[j]? = some v0 := ⟨_, List.getElem?_eq_getElem (by rw [List.length_map, marked_len _ _ _ (by omega)]; exact hlz)⟩
        have hd := (hown.cellAt j (by omega)).trans hv0
        have hf := hown.frozenAt j
        have hst := hown.stored j (.int .i64 (k + (j : Int)))
        rw [← List.map_set, marked_set hlz] at hst
        have HS := Lib.hid hst.1
        have HG := Lib.hid (grown_set hgr j (.int .i64 (k + (j : Int))))
        clear hst hv0 hown hgr hlz
        go_wp2
        go_roundw
        case rel => exact ⟨j + 1, by omega, by go_num, by go_num, HS.out, HG.out⟩
        case measure => simp [intOf]; omega
      · have hjn : j = n := by omega
        subst hjn
        go_wp2
        go_ret
        refine ⟨rfl, ?_, hgr⟩
        unfold Own
        rw [upFrom_len, ← Hn.out, ← marked_full, Hn.out]
        exact hown

set_option maxHeartbeats 400000 in
/-- heldIntS at a row that holds k, k + 1, .. -/
theorem heldIntS_any (A : Option Addr) (n c : Nat) (k : Int) (w : World) (hk0 : 0 ≤ k) (hk1 : k ≤ 1048576) (hl : n ≤ 1048576) (h : Ints w A (upFrom k n)) :
    Calls Try.prog 36 #[.slice A n c, .int .i64 k] w fun e w' => e = .returned (.int .i64 (k + n)) ∧ w = w' := by
  go_enter Try.func36, Try.ntmps36
  go_wp2
  go_loop [1, 5] (fun q i => ∃ j : Nat, j ≤ n ∧ i = .int .i64 j ∧ q = .int .i64 (k + j)) (fun _ i => n - (intOf i).toNat)
  case atStart => exact ⟨0, Nat.zero_le _, rfl, by simp⟩
  case round =>
    obtain ⟨j, hj, rfl, rfl⟩ := hrel
    by_cases hlt : j < n
    · obtain ⟨ad, x, rfl, hx, hc⟩ := h.at_ (k := j) (by rw [upFrom_len]; exact hlt)
      have hxe : k + (j : Int) = x := by have := hx.out; rw [upFrom_get _ _ _ hlt] at this; injection this
      subst hxe
      clear h
      go_wp2
      go_round
      case rel => exact ⟨j + 1, by omega, by go_num, by go_num⟩
      case measure => simp [intOf]; omega
    · have hjn : j = n := by omega
      subst hjn
      go_wp2
      go_ret
      exact ⟨rfl, rfl⟩

theorem Ints.of_row {w : World} {x : Addr} {zs : List Int} {n : Nat} (hn : n ≤ zs.length) (hc : ∀ i, i < zs.length → w.cell? (x.add i) = some (.int .i64 (zs.getD i 0))) : Ints w (some x) (zs.take n) := by
  intro _
  refine ⟨x, rfl, fun j hj => ?_⟩
  rw [List.length_take] at hj
  rw [hc j (by omega)]
  simp only [List.getD, List.getElem?_take]
  rw [if_pos (by omega)]

theorem toIntS_call (A : Option Addr) (n c : Nat) (zs : List Int) (w : World) (hn : zs.length = n) (hm : n ≤ 1048576) (h : Ints w A zs) :
    Calls Try.prog 33 #[.slice A n c] w fun e w' => ∃ A' c', e = .returned (.slice A' n c') ∧ Ints w' A' zs ∧ Own w' w.heap.size (.slice A' n c') zs ∧ Below w.heap.size w w' ∧ n ≤ c' ∧ c' ≤ maxLen := by
  refine (toIntS_any A n c zs w hn hm h).mono ?_
  rintro e w' ⟨v, rfl, hO, hb⟩
  obtain ⟨A', c', rfl, hI, _, hc1, hc2⟩ := hO.form
  rw [hn] at hO hc1
  exact ⟨A', c', by rw [hn], hI, hO, hb, hc1, hc2⟩

theorem eqIntS_same (A B : Option Addr) (n c d : Nat) (zs : List Int) (w : World) (hn : zs.length = n) (hl : n ≤ 1048576) (h : Ints w A zs) (h2 : Ints w B zs) :
    Calls Try.prog 34 #[.slice A n c, .slice B n d] w fun e w' => e = .returned (.bool true) ∧ ∃ k, w' = w.drewN k := by
  refine (eqIntS_any A B n n c d zs zs w hn hn hl (by unfold maxLen; omega) h h2).mono ?_
  rintro e w' ⟨rfl, hw⟩
  exact ⟨by simp, hw⟩
theorem below_step {B : Nat} {a b c : World} (h : Below B a b) (h2 : Below b.heap.size b c) (hB : B ≤ a.heap.size) : Below B a c := h.trans (h2.mono (Nat.le_trans hB h.size))
end Go.Proofs.Ytddkedinkgnboaa
