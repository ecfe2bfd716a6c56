/-
  OrderBar of the model by contract. Conditions of the contracts: a length of at most 2^20, which is at most the capacity.
-/
import Derived.Test.YtdijlofcgcikjaaDoorOrdP
import Derived.Test.YtdijlofcgcikjaaDoorPkA
import Derived.Outline
namespace Go.Proofs.YtdijlofcgcikjaaDoor
open Go.RowKit
set_option linter.unusedVariables false

def distTo (zs : List Int) (k : Nat) : Bool := (List.range k).all (fun i => !(zs.take i).contains (zs.getD i 0))
theorem distTo_full {zs : List Int} {n : Nat} (hn : zs.length = n) : distTo zs n = distB zs := by unfold distTo distB; rw [hn]
theorem distTo_succ {zs : List Int} {k : Nat} {x : Int} (hx : zs[k]? = some x) (h : distTo zs k = true) (hno : (zs.take k).contains x = false) : distTo zs (k + 1) = true := by
  unfold distTo at *
  rw [List.range_succ, List.all_append, h]
  simp only [List.all_cons, List.all_nil, getD_at hx, hno]; rfl
theorem distB_bad {zs : List Int} {k : Nat} {x : Int} (hx : zs[k]? = some x) (hc : (zs.take k).contains x = true) : distB zs = false := by
  unfold distB
  rw [List.all_eq_false]
  exact ⟨k, List.mem_range.2 (lt_at hx), by rw [getD_at hx, hc]; simp⟩
theorem contains_succ {zs : List Int} {j : Nat} {x y : Int} (hy : zs[j]? = some y) (h : (zs.take j).contains x = false) (hne : x ≠ y) : (zs.take (j + 1)).contains x = false := by
  rw [take_at hy]
  simp only [List.contains_eq_mem, decide_eq_false_iff_not, List.mem_append, List.mem_singleton] at *
  rintro (h1 | h1)
  · exact h h1
  · exact hne h1
theorem contains_hit {zs : List Int} {j k : Nat} {x : Int} (hj : j < k) (hy : zs[j]? = some x) : (zs.take k).contains x = true := by
  simp only [List.contains_eq_mem, decide_eq_true_eq]
  have := lt_at hy
  exact List.mem_iff_getElem.2 ⟨j, by rw [List.length_take]; omega, by rw [List.getElem_take]; exact (List.getElem?_eq_some_iff.1 hy).2⟩

set_option maxHeartbeats 1600000 in
theorem l1Sets_any (A : Option Addr) (n c : Nat) (zs : List Int) (w : World) (hn : zs.length = n) (hm0 : n ≤ maxLen) (hcap : n ≤ c) (hcm : c ≤ maxLen) (h : Ints w A zs) :
    Calls Tryd.prog 99 #[.slice A n c] w fun e w' => e = .returned (.bool (setsB zs)) ∧ w = w' := by
  have Hn := Lib.hid hn; clear hn
  have hm := hm0
  unfold maxLen at hm hcm
  go_enter Tryd.func99, Tryd.ntmps99
  go_wp2
  go_loop [9] (fun i => ∃ k : Nat, k ≤ n ∧ i = .int .i64 k ∧ distTo zs k = true) (fun i => n - (intOf i).toNat)
  case atStart => exact ⟨0, Nat.zero_le _, rfl, rfl⟩
  case round =>
    obtain ⟨k, hk, rfl, hd⟩ := hrel
    have Hd := Lib.hid hd; clear hd
    by_cases hlt : k < n
    · obtain ⟨ad, x, hade, hx, hcx⟩ := h.at_ (k := k) (by rw [Hn.out]; exact hlt)
      subst hade
      go_wp2
      go_loop [18] (fun i => ∃ j : Nat, j ≤ k ∧ i = .int .i64 j ∧ (zs.take j).contains x = false) (fun i => k - (intOf i).toNat)
      case atStart => exact ⟨0, Nat.zero_le _, rfl, rfl⟩
      case round =>
        obtain ⟨j, hj, rfl, hno⟩ := hrel
        have Hno := Lib.hid hno; clear hno
        by_cases hjk : j < k
        · obtain ⟨ad2, y, hade, hy, hcy⟩ := h.at_ (k := j) (by rw [Hn.out]; omega)
          obtain rfl : ad2 = ad := by injection hade with e; exact e.symm
          clear hade
          by_cases hxy : x = y
          · subst hxy
            have Hb := Lib.hid (distB_bad hx.out (contains_hit hjk hy.out))
            go_wp2
            go_ret
            exact ⟨ret_bool (by unfold setsB; rw [Hb.out]; rfl), rfl⟩
          · have Hs := Lib.hid (contains_succ hy.out Hno.out hxy)
            have hb : (x == y) = false := by simpa using hxy
            clear hxy
            go_wp2
            go_round
            case rel => exact ⟨j + 1, by omega, by go_num, Hs.out⟩
            case measure => simp [intOf]; omega
        · have hjk2 : j = k := by omega
          subst hjk2
          have Hs := Lib.hid (distTo_succ hx.out Hd.out Hno.out)
          go_wp2
          go_round
          case rel => exact ⟨j + 1, by omega, by go_num, Hs.out⟩
          case measure => simp [intOf]; omega
    · have hkn : k = n := by omega
      subst hkn
      go_wp2_with (go_at_call 96; refine (specIsBar_any _ _ _ zs _ Hn.out hm0 h).mono ?_; rintro e w' ⟨rfl, rfl⟩)
      go_ret
      exact ⟨ret_bool (by have := Hd.out; rw [distTo_full Hn.out] at this; unfold setsB; rw [this]; rfl), rfl⟩

/-- no set below j speaks against i -/
def freeTo (zs : List Int) (lf : Nat → Bool) (i j : Nat) : Bool := (List.range j).all (fun k => !(k != i && (lf k && partB (zs.getD k 0) (zs.getD i 0))))
theorem freeTo_succ {zs : List Int} {lf : Nat → Bool} {i j : Nat} (h : freeTo zs lf i j = true) (hj : (j != i && (lf j && partB (zs.getD j 0) (zs.getD i 0))) = false) : freeTo zs lf i (j + 1) = true := by
  unfold freeTo at *
  rw [List.range_succ, List.all_append, h]
  simp only [List.all_cons, List.all_nil, hj]; rfl
theorem freeB_bad {zs : List Int} {lf : Nat → Bool} {i j : Nat} (hj : j < zs.length) (hb : (j != i && (lf j && partB (zs.getD j 0) (zs.getD i 0))) = true) : freeB zs lf i = false := by
  unfold freeB
  rw [List.all_eq_false]
  exact ⟨j, List.mem_range.2 hj, by rw [hb]; simp⟩

set_option maxHeartbeats 1600000 in
theorem l1Free_any (A : Option Addr) (n c i g m d : Nat) (x : Int) (zs : List Int) (lf : Nat → Bool) (w : World) (hn : zs.length = n) (hm : n ≤ 1048576) (h : Ints w A zs) (hi : i < n) (hx : zs[i]? = some x)
    (hl : ∀ k, k < n → w.cell? ⟨g, k, none⟩ = some (.bool (lf k))) (hnm : n ≤ m) :
    Calls Tryd.prog 104 #[.slice A n c, .slice (some ⟨g, 0, none⟩) m d, .int .i64 i] w fun e w' => e = .returned (.bool (freeB zs lf i)) ∧ w = w' := by
  have Hn := Lib.hid hn; clear hn
  have Hl := Lib.hid hl; clear hl
  obtain ⟨ad, x', hade, hx', hcx⟩ := h.at_ (k := i) (by rw [Hn.out]; exact hi)
  subst hade
  obtain rfl : x' = x := by have := hx'.out; rw [hx] at this; injection this with e; exact e.symm
  have Hx := Lib.hid hx; clear hx hx'
  go_enter Tryd.func104, Tryd.ntmps104
  go_wp2
  go_loop [11] (fun q => ∃ j : Nat, j ≤ n ∧ q = .int .i64 j ∧ freeTo zs lf i j = true) (fun q => n - (intOf q).toNat)
  case atStart => exact ⟨0, Nat.zero_le _, rfl, rfl⟩
  case round =>
    obtain ⟨j, hj, rfl, hf⟩ := hrel
    have Hf := Lib.hid hf; clear hf
    by_cases hlt : j < n
    · obtain ⟨ad2, y, hade, hy, hcy⟩ := h.at_ (k := j) (by rw [Hn.out]; exact hlt)
      obtain rfl : ad2 = ad := by injection hade with e; exact e.symm
      clear hade
      have hlj := Hl.out j hlt
      by_cases hji : j = i
      · subst hji
        have Hs : Hid (freeTo zs lf j (j + 1) = true) := freeTo_succ Hf.out (by simp)
        have hb : ((j : Int) != (j : Int)) = false := by simp
        go_wp2
        go_round
        case rel => exact ⟨j + 1, by omega, by go_num, Hs.out⟩
        case measure => simp [intOf]; omega
      · have hb : ((j : Int) != (i : Int)) = true := by rw [bne_iff_ne]; omega
        have hb2 : (j != i) = true := by rw [bne_iff_ne]; exact hji
        cases hlfj : lf j
        · rw [hlfj] at hlj
          have Hs : Hid (freeTo zs lf i (j + 1) = true) := freeTo_succ Hf.out (by rw [hlfj]; simp)
          clear hlfj hb2
          go_wp2
          go_round
          case rel => exact ⟨j + 1, by omega, by go_num, Hs.out⟩
          case measure => simp [intOf]; omega
        · rw [hlfj] at hlj
          cases hp : partB y x'
          · have Hs : Hid (freeTo zs lf i (j + 1) = true) := freeTo_succ Hf.out (by rw [hlfj, getD_at hy.out, getD_at Hx.out, hp]; simp)
            clear hlfj hb2
            go_wp2_with (go_at_call 79; refine (l1Part_any _ _ _).mono ?_; rintro e w' ⟨rfl, rfl⟩)
            go_round
            case rel => exact ⟨j + 1, by omega, by go_num, Hs.out⟩
            case measure => simp [intOf]; omega
          · have Hb : Hid (freeB zs lf i = false) := freeB_bad (j := j) (by rw [Hn.out]; exact hlt) (by rw [hlfj, getD_at hy.out, getD_at Hx.out, hp, hb2]; rfl)
            clear hlfj hb2
            go_wp2_with (go_at_call 79; refine (l1Part_any _ _ _).mono ?_; rintro e w' ⟨rfl, rfl⟩)
            go_ret
            exact ⟨ret_bool Hb.out.symm, rfl⟩
    · have hjn : j = n := by omega
      subst hjn
      go_wp2
      go_ret
      refine ⟨ret_bool ?_, rfl⟩
      have := Hf.out
      unfold freeTo at this
      unfold freeB
      rw [Hn.out]; exact this.symm

def lenOf : Value → Nat | .slice _ k _ => k | _ => 0
def lfRow (lf : Nat → Bool) (n : Nat) : List Value := (List.range n).map (fun k => Value.bool (lf k))
theorem lfRow_get {lf : Nat → Bool} {n k : Nat} (h : k < n) : (lfRow lf n)[k]? = some (.bool (lf k)) := range_get (fun k => Value.bool (lf k)) h
theorem lfRow_drop {lf : Nat → Bool} {n i : Nat} (hi : i < n) : (lfRow lf n).set i (.bool false) = lfRow (drop1 lf i) n := by
  unfold lfRow
  apply List.ext_getElem
  · simp
  · intro k h1 h2
    rw [List.getElem_set]
    simp only [List.getElem_map, List.getElem_range]
    split
    · rename_i e
      subst e; simp [drop1]
    · rename_i e
      have : (k != i) = true := by rw [bne_iff_ne]; omega
      simp [drop1, this]
/-- a row of n bools that was filled with true up to k -/
def someTrue (k : Nat) : Nat → Bool := fun j => decide (j < k)
theorem someTrue_set {k n : Nat} (hk : k < n) : (lfRow (someTrue k) n).set k (.bool true) = lfRow (someTrue (k + 1)) n := by
  unfold lfRow
  apply List.ext_getElem
  · simp
  · intro j h1 h2
    rw [List.getElem_set]
    simp only [List.getElem_map, List.getElem_range, someTrue]
    split
    · rename_i e
      subst e; simp
    · rename_i e
      have : (decide (j < k)) = decide (j < k + 1) := by rw [Bool.eq_iff_iff]; simp; omega
      rw [this]
theorem someTrue_none (n : Nat) : List.replicate n (Value.bool false) = lfRow (someTrue 0) n := by
  unfold lfRow
  apply List.ext_getElem
  · simp
  · intro j h1 h2; simp [someTrue]
theorem someTrue_all (zs : List Int) (n : Nat) : lfRow (someTrue n) n = lfRow (leftAt zs 0) n := by
  unfold lfRow
  apply List.map_congr_left
  intro k hk
  rw [List.mem_range] at hk
  simp [someTrue, hk, leftAt]
theorem ordAt_push {zs : List Int} {w : World} {B : Nat} {v : Value} {k i : Nat} {x : Int} (hn : nextOf zs (leftAt zs k) = i) (hx : zs[i]? = some x) (h : Own w B v (ordAt zs k ++ [x])) : Own w B v (ordAt zs (k + 1)) := by
  unfold ordAt; rw [hn, getD_at hx]; exact h

set_option maxHeartbeats 3200000 in
theorem specOrder_yes (A : Option Addr) (n c : Nat) (zs : List Int) (w : World) (hn : zs.length = n) (hm : n ≤ 1048576) (hcap : n ≤ c) (hcm : c ≤ maxLen) (h : Ints w A zs) (hs : setsB zs = true) :
    Calls Tryd.prog 100 #[.slice A n c] w fun e w' => ∃ v, e = .returned (.tuple #[v, .bool true]) ∧ Own w' w.heap.size v (ordAt zs n) ∧ Below w.heap.size w w' := by
  have hm0 : n ≤ maxLen := by unfold maxLen; omega
  have hbar : isBar zs = true := by unfold setsB at hs; rw [Bool.and_eq_true] at hs; exact hs.2
  have hdist : distinct zs := by unfold setsB at hs; rw [Bool.and_eq_true] at hs; exact (distB_iff zs).1 hs.1
  have HN := Lib.hid (fun k hk => ordNext_at (bar_set hbar) hdist (k := k) hk)
  clear hdist
  have Hn := Lib.hid hn; clear hn
  go_enter Tryd.func100, Tryd.ntmps100
  go_wp2_with (first
    | (go_at_call 99; refine (l1Sets_any _ _ _ zs _ Hn.out hm0 hcap hcm h).mono ?_; rintro e w' ⟨rfl, rfl⟩)
    | (at_make; refine wpl_make_bool _ rfl (.tmp 13) rfl n _ rfl rfl (by omega) ?_; intro w1 hown1 hb1 hlt1; rw [someTrue_none n] at hown1))
  have HO1 := Lib.hid hown1
  clear hown1
  go_loopw [17] (fun q wr => ∃ k : Nat, k ≤ n ∧ q = .int .i64 k ∧ wr.ownsRow w.heap.size 4 1 (.slice (some ⟨w.heap.size, 0, none⟩) n n) n (lfRow (someTrue k) n) ∧ Below w.heap.size w wr) (fun q _ => n - (intOf q).toNat)
  case atStart => exact ⟨0, Nat.zero_le _, rfl, HO1.out, hb1⟩
  case round =>
    clear HO1 hb1 hlt1
    obtain ⟨k, hk, rfl, hown, hb⟩ := hrel
    by_cases hlt : k < n
    · have hd := (hown.cellAt k (by omega)).trans (lfRow_get hlt)
      have hfz := hown.frozenAt k
      have hst := (hown.stored k (.bool true)).1
      rw [someTrue_set hlt] at hst
      have HO := Lib.hid hst
      have HB := Lib.hid (hb.setCell (p := ⟨w.heap.size, k, none⟩) (Nat.le_refl _) (.bool true))
      clear hst hown
      go_wp2
      go_roundw
      case rel => exact ⟨k + 1, by omega, by go_num, HO.out, HB.out⟩
      case measure => simp [intOf]; omega
    · have hkn : k = n := by omega
      subst hkn
      rw [someTrue_all zs k] at hown
      have hlt0 : w.heap.size < wr.heap.size := (World.ownsRow.lt hown w.heap.size rfl).2
      have HR := Lib.hid hown
      clear hown
      go_wp2
      obtain ⟨wo, rfl⟩ : ∃ wo : World, wo = wr := ⟨_, rfl⟩
      obtain ⟨n, rfl⟩ : ∃ n : Nat, n = k := ⟨_, rfl⟩
      go_loopw [6] (fun v wr => ∃ k : Nat, ∃ (A2 : Option Addr) (c2 : Nat), k ≤ n ∧ v = .slice A2 k c2 ∧ Own wr wo.heap.size (.slice A2 k c2) (ordAt zs k) ∧ wr.ownsRow w.heap.size 4 1 (.slice (some ⟨w.heap.size, 0, none⟩) n n) n (lfRow (leftAt zs k) n) ∧ Below w.heap.size wo wr) (fun v _ => n - lenOf v)
      case atStart => exact ⟨0, _, _, Nat.zero_le _, rfl, World.ownsRow_lit wo #[] 0 (Nat.le_refl _) (Nat.zero_le _) rfl, World.ownsRow.alloc HR.out _, (Below.refl _ _).alloc (Nat.le_of_lt hlt0) _⟩
      case round =>
        clear HR
        obtain ⟨k, A2, c2, hk2, rfl, hO, hrow, hB⟩ := hrel
        have hsz := hB.size
        have hbr := hb.trans hB
        have hI : Ints wr A zs := ((IntsB.of h).keep (Nat.le_refl _) hbr).ints
        have hol := hO.1
        by_cases hkn : k < n
        · obtain ⟨hx1, hx2, hx3⟩ := HN.out k (by rw [Hn.out]; exact hkn)
          have HX1 := Lib.hid hx1; have HX2 := Lib.hid hx2; have HX3 := Lib.hid hx3
          clear hx1 hx2 hx3
          go_wp2
          go_loop [6, 32] (fun v q => ∃ j : Nat, j ≤ n ∧ v = .slice A2 k c2 ∧ q = .int .i64 j ∧ ∀ t, t < j → (leftAt zs k t && freeB zs (leftAt zs k) t) = false) (fun _ q => n - (intOf q).toNat)
          case atStart => exact ⟨0, Nat.zero_le _, rfl, rfl, fun t ht => absurd ht (by omega)⟩
          case round =>
            obtain ⟨j, hj, rfl, rfl, hno⟩ := hrel
            have Hno := Lib.hid hno; clear hno
            by_cases hjn : j < n
            · obtain ⟨ad, x, hade, hx, hcx⟩ := hI.at_ (k := j) (by rw [Hn.out]; exact hjn)
              subst hade
              have hcj := (hrow.cellAt j (by omega)).trans (lfRow_get hjn)
              cases hl : leftAt zs k j
              · rw [hl] at hcj
                have Hs : Hid (∀ t, t < j + 1 → (leftAt zs k t && freeB zs (leftAt zs k) t) = false) := fun t ht => by
                  by_cases e : t = j
                  · subst e; rw [hl]; rfl
                  · exact Hno.out t (by omega)
                clear hl
                go_wp2
                go_round
                case rel => exact ⟨j + 1, by omega, rfl, by go_num, Hs.out⟩
                case measure => simp [intOf]; omega
              · rw [hl] at hcj
                have Hcells : Hid (∀ t, t < n → wr.cell? ⟨w.heap.size, t, none⟩ = some (.bool (leftAt zs k t))) := fun t ht => (hrow.cellAt t (by omega)).trans (lfRow_get ht)
                cases hf : freeB zs (leftAt zs k) j
                · have Hs : Hid (∀ t, t < j + 1 → (leftAt zs k t && freeB zs (leftAt zs k) t) = false) := fun t ht => by
                    by_cases e : t = j
                    · subst e; rw [hf]; simp
                    · exact Hno.out t (by omega)
                  clear hl
                  go_wp2_with (go_at_call 104; refine (l1Free_any _ _ _ _ _ _ _ _ zs (leftAt zs k) _ Hn.out hm hI hjn hx.out Hcells.out (Nat.le_refl _)).mono ?_; rintro e w' ⟨rfl, rfl⟩)
                  go_round
                  case rel => exact ⟨j + 1, by omega, rfl, by go_num, Hs.out⟩
                  case measure => simp [intOf]; omega
                · have HNX : Hid (nextOf zs (leftAt zs k) = j) := nextOf_is (by rw [Hn.out]; exact hjn) hl hf Hno.out
                  have HR := Lib.hid hrow
                  have HBr := Lib.hid hB
                  clear hl hrow hol
                  go_wp2_with (first
                    | (go_at_call 104; refine (l1Free_any _ _ _ _ _ _ _ _ zs (leftAt zs k) _ Hn.out hm hI hjn hx.out Hcells.out (Nat.le_refl _)).mono ?_; rintro e w' ⟨rfl, rfl⟩)
                    | (at_builtin; refine wpl_push _ rfl (.tmp 47) (.tmp 49) rfl wo.heap.size _ (ordAt zs k) x rfl rfl hO hsz (by rw [ordAt_len]; omega) ?_; intro v' w2 hO2 hB2; have hr2 := row_below HR.out (b := wo.heap.size) (fun g hg => by injection hg with hg; subst hg; exact hlt0) hB2; have hd2 := (hr2.cellAt j (by omega)).trans (lfRow_get hjn); have hf2 := hr2.frozenAt j))
                  have HO3 := ordAt_push HNX.out hx.out hO2
                  obtain ⟨A3, c3, rfl, _⟩ := HO3.form
                  rw [ordAt_len] at HO3 hO2 ⊢
                  have hst := (hr2.stored j (.bool false)).1
                  rw [lfRow_drop hjn] at hst
                  have hla : leftAt zs (k + 1) = drop1 (leftAt zs k) j := by show drop1 (leftAt zs k) (nextOf zs (leftAt zs k)) = _; rw [HNX.out]
                  rw [← hla] at hst
                  go_roundw
                  case rel => exact ⟨k + 1, A3, c3, by omega, rfl, ownsRow_setCell_below HO3 (a := ⟨w.heap.size, j, none⟩) hlt0 _, hst, (HBr.out.trans (hB2.mono (Nat.le_of_lt hlt0))).setCell (p := ⟨w.heap.size, j, none⟩) (Nat.le_refl _) _⟩
                  case measure => simp [lenOf]; omega
            · have hx1 := HX1.out
              rw [Hn.out] at hx1
              exact absurd (Hno.out (nextOf zs (leftAt zs k)) (by omega)) (by rw [HX2.out, HX3.out]; simp)
        · have hkn2 : k = n := by omega
          subst hkn2
          go_wp2
          go_ret2
          exact ⟨_, rfl, own_base hO (Nat.le_of_lt hlt0), hbr⟩

set_option maxHeartbeats 800000 in
theorem specOrder_no (A : Option Addr) (n c : Nat) (zs : List Int) (w : World) (hn : zs.length = n) (hm0 : n ≤ maxLen) (hcap : n ≤ c) (hcm : c ≤ maxLen) (h : Ints w A zs) (hs : setsB zs = false) :
    Calls Tryd.prog 100 #[.slice A n c] w fun e w' => e = .returned (.tuple #[.slice none 0 0, .bool false]) ∧ w = w' := by
  have Hn := Lib.hid hn; clear hn
  go_enter Tryd.func100, Tryd.ntmps100
  go_wp2_with (go_at_call 99; refine (l1Sets_any _ _ _ zs _ Hn.out hm0 hcap hcm h).mono ?_; rintro e w' ⟨rfl, rfl⟩)
  go_ret2
  exact ⟨rfl, rfl⟩

theorem specOrder_any (A : Option Addr) (n c : Nat) (zs : List Int) (w : World) (hn : zs.length = n) (hm : n ≤ 1048576) (hcap : n ≤ c) (hcm : c ≤ maxLen) (h : Ints w A zs) :
    Calls Tryd.prog 100 #[.slice A n c] w fun e w' => ∃ v, e = .returned (.tuple #[v, .bool (setsB zs)]) ∧ Own w' w.heap.size v (ordL zs) ∧ Below w.heap.size w w' := by
  cases hy : setsB zs
  · have hL : ordL zs = [] := by unfold ordL; rw [hy]; rfl
    rw [hL]
    refine (specOrder_no A n c zs w hn (by unfold maxLen; omega) hcap hcm h hy).mono ?_
    rintro e w' ⟨rfl, rfl⟩
    exact ⟨_, rfl, World.ownsRow_nil _ _ _ _, Below.refl _ _⟩
  · have hL : ordL zs = ordAt zs n := by unfold ordL; rw [hy, hn]; rfl
    rw [hL]
    exact specOrder_yes A n c zs w hn hm hcap hcm h hy
end Go.Proofs.YtdijlofcgcikjaaDoor
