/-
  The map of the keys of letters that lie from '!' to '~': keysOf by contract, and areLetters. Conditions: at most 2^20 letters; for keysOf all of them from '!' to '~'.
-/
import Derived.Test.YthoepelgmplcmaaFontOk
import Derived.Maps.Own
import Derived.Maps.OwnOps
import Derived.Maps.OwnSet
import Derived.Laws.RangeAny
namespace Go.Proofs.Ythoepelgmplcmaa
open Go.RowKit Go.Maps
set_option linter.unusedVariables false

theorem keyLaw : Keyed Try.prog 21 := int_keyed Try.underlying21
theorem zeroInt (w : World) : (zeroValue 3).run Try.prog w = .ok (.int .i64 0) w := by kernel_rfl

theorem run_makeHint {P : Program} (t k e : TypeId) (ht : P.underlying t = some (.map k e)) (n : Int) (w : World) : (Instr.makeMap t (some (.int .i64 n))).run P w = .ok (.map (some w.heap.size)) (w.alloc (.map #[] 0)) := by
  simp [Instr.makeMap, run_underlying ht, asInt, asIntOf]

/-- the next letter of a string whose bytes are ASCII, the iterator being in block g -/
def itSet (w : World) (g : Nat) (s : ByteArray) (p : Nat) : World := { w with heap := w.heap.setIfInBounds g (.stringIter s p) }
theorem next_at {P : Program} (w : World) (g : Nat) (s : ByteArray) (pos : Nat) (ty : TypeId) (hit : w.heap[g]? = some (.stringIter s pos)) (h : pos < s.size) (ha : (s[pos]'h).toNat < 128) :
    (Instr.next (.pointer (some ⟨g, 0, none⟩)) true ty).run P w = .ok (.tuple #[.bool true, .int .i64 pos, .int .i32 (s[pos]'h).toNat]) (itSet w g s (pos + 1)) := by
  simp only [Instr.next, getObj, setObj, Sem.run_bind, Sem.run, hit, Result.andThen, h, if_true, decode_ascii s pos h ha]
  simp [goInt, itSet]
theorem next_end {P : Program} (w : World) (g : Nat) (s : ByteArray) (pos : Nat) (ty : TypeId) (hit : w.heap[g]? = some (.stringIter s pos)) (h : ¬ pos < s.size) :
    (Instr.next (.pointer (some ⟨g, 0, none⟩)) true ty).run P w = .ok (.tuple #[.bool false]) w := by
  simp [Instr.next, getObj, Sem.run, hit, h]
theorem itSet_heap {w : World} {g p p' : Nat} {s : ByteArray} (hit : w.heap[g]? = some (.stringIter s p)) : (itSet w g s p').heap[g]? = some (.stringIter s p') := by
  have : g < w.heap.size := by
    rcases Nat.lt_or_ge g w.heap.size with h | h
    · exact h
    · rw [Array.getElem?_eq_none h] at hit; cases hit
  simp [itSet, this]
theorem itSet_grown (w : World) (g p : Nat) (s : ByteArray) : w.grownBy (itSet w g s p) (some g) :=
  ⟨rfl, rfl, rfl, by simp [itSet], fun j hj hne => by simp only [itSet]; rw [Array.getElem?_setIfInBounds_ne (fun e => hne (by rw [e]))]⟩

theorem i32_wf {b : Nat} (h : b < 128) : (Lit.int .i32 (b : Int)).wf = true := by
  have h2 : ∀ b : Fin 128, (Lit.int .i32 ((b : Nat) : Int)).wf = true := by decide +kernel
  exact h2 ⟨b, h⟩
/-- the keys of the first k letters -/
def keysD (s : ByteArray) : Nat → DataW Unit
  | 0 => .map []
  | k + 1 => (keysD s k).put (.int .i32 (byt s k)) (.lit (.int .i64 k))
theorem keyLit (b : Int) : WideAt.IsKeyLit (.int .i32 b) := by simp [WideAt.IsKeyLit]
theorem keysD_tidy (s : ByteArray) : ∀ k, Tidy (keysD s k)
  | 0 => tidy_empty
  | k + 1 => (keysD_tidy s k).put (keyLit _) _
theorem keysD_has (s : ByteArray) (b : Nat) : ∀ k, Maps.has (keysD s k) (.int .i32 (b : Int)) = (List.range k).any (fun j => byt s j == b)
  | 0 => rfl
  | k + 1 => by
    rw [List.range_succ, List.any_append]
    unfold keysD
    by_cases e : byt s k = b
    · subst e
      rw [has_put_same (keysD_tidy s k).isMap (keyLit _)]
      simp
    · rw [has_put_other (by intro h; injection h with h1 h2; exact e (by omega)), keysD_has s b k]
      simp [e]
theorem keysD_size (s : ByteArray) : ∀ k, Maps.size (keysD s k) ≤ k ∧ (Maps.size (keysD s k) = k ↔ ∀ i, i < k → diffs s i = true)
  | 0 => ⟨Nat.le_refl _, fun _ i h => absurd h (by omega), fun _ => rfl⟩
  | k + 1 => by
    obtain ⟨h1, h2⟩ := keysD_size s k
    have hp := size_put (k := .int .i32 (byt s k : Int)) (keysD_tidy s k) (.lit (.int .i64 k))
    have hd : diffs s k = !Maps.has (keysD s k) (.int .i32 (byt s k : Int)) := by
      rw [keysD_has, Bool.eq_iff_iff]
      unfold diffs
      simp only [List.all_eq_true, Bool.not_eq_true', List.any_eq_false, bne_iff_ne, beq_iff_eq, List.mem_range]
      constructor
      · intro h j hj e; exact h j hj e.symm
      · intro h j hj e; exact h j hj e.symm
    show Maps.size ((keysD s k).put _ _) ≤ k + 1 ∧ (Maps.size ((keysD s k).put _ _) = k + 1 ↔ _)
    rw [hp]
    cases hh : Maps.has (keysD s k) (.int .i32 (byt s k : Int))
    · rw [if_neg (by simp)]
      rw [hh] at hd
      refine ⟨by omega, fun e i hi => ?_, fun h => ?_⟩
      · by_cases ei : i = k
        · subst ei; simpa using hd
        · exact h2.1 (by omega) i (by omega)
      · have := h2.2 (fun i hi => h i (by omega)); omega
    · rw [if_pos rfl]
      rw [hh] at hd
      refine ⟨by omega, fun e => by omega, fun h => ?_⟩
      have := h k (by omega)
      rw [hd] at this; cases this

theorem letOk_lt {s : ByteArray} {k : Nat} (hk : k < s.size) (h : letOk s k = true) : (s[k]'hk).toNat < 128 := by
  unfold letOk at h
  rw [decide_eq_true_eq, byt_eq hk] at h
  omega

set_option maxRecDepth 100000 in
set_option maxHeartbeats 800000 in
theorem keysOf_any (s : ByteArray) (w : World) (hs : s.size ≤ 1048576) (hall : ∀ i, i < s.size → letOk s i = true) :
    Calls Try.prog 98 #[.string s] w fun e w' => e = .returned (.map (some w.heap.size)) ∧ w'.ownsMap Try.prog 21 (plainElem (H := Unit) Try.prog 3) w.heap.size s.size (keysD s s.size) ∧ Below w.heap.size w w' := by
  have Hall := Lib.hid hall; clear hall
  have hmm := fun n w => run_makeHint (P := Try.prog) 119 _ _ Try.underlying119 n w
  go_enter Try.func98, Try.ntmps98
  go_wp2
  have hz := (World.ownsMap_made w Try.prog 21 (plainElem (H := Unit) Try.prog 3)).alloc (.stringIter s 0)
  have HZ := Lib.hid hz
  clear hz hmm
  go_loopw [4, 5] (fun i j wr => ∃ k : Nat, k ≤ s.size ∧ wr.ownsMap Try.prog 21 (plainElem (H := Unit) Try.prog 3) w.heap.size k (keysD s k) ∧ wr.heap[w.heap.size + 1]? = some (.stringIter s k) ∧ Below w.heap.size w wr) (fun i j wr => s.size - wr.iterPos (w.heap.size + 1))
  case atStart => exact ⟨0, Nat.zero_le _, HZ.out, by simpa using World.iter_heap (w.alloc (.map #[] 0)) s 0, ((Below.refl _ _).alloc (Nat.le_refl _) _).alloc (by simp) _⟩
  case round =>
    obtain ⟨k, hk, hown, hit, hb⟩ := hrel
    have Hit := Lib.hid hit
    by_cases hlt : k < s.size
    · have hc := letOk_lt hlt (Hall.out k hlt)
      have hnx := fun ty => next_at (P := Try.prog) wr (w.heap.size + 1) s k ty hit hlt hc
      have hkey : keyOf Try.prog 21 (.int .i32 ((s[k]'hlt).toNat : Int)) = some (.int .i32 ((s[k]'hlt).toNat : Int)) := keyOf_int_mk Try.underlying21 (i32_wf hc)
      have HO2 := Lib.hid (hown.kept (itSet_grown wr (w.heap.size + 1) (k + 1) s) (by simp))
      have HB2 := Lib.hid (hb.grown (itSet_grown wr (w.heap.size + 1) (k + 1) s) hb.size (fun j hj => by cases hj; omega))
      have HE := Lib.hid (byt_eq hlt)
      have hkm : k < maxLen := by unfold maxLen; omega
      clear hown hb hc hit
      go_wp2_with (at_mapUpdate; refine wpList_mapUpdate_own _ rfl _ _ _ 119 rfl 21 3 keyLaw Try.underlying119 (plainElem (H := Unit) Try.prog 3) w.heap.size k _ rfl HO2.out hkm _ _ _ rfl rfl hkey _ [] (plainElem_int Try.underlying3 (WalkArith.wf_i64 (by omega))) ?_; intro w1 hown1 hgrow1)
      have hit1 : w1.heap[w.heap.size + 1]? = some (.stringIter s (k + 1)) := (hgrow1.block _ (by
        have := itSet_heap (p' := k + 1) Hit.out
        exact (Array.getElem?_eq_some_iff.1 this).1) (by simp)).trans (itSet_heap Hit.out)
      have hb1 := HB2.out.grown hgrow1 HB2.out.size (fun j hj => by cases hj; exact Nat.le_refl _)
      have hD : keysD s (k + 1) = (keysD s k).put (.int .i32 ((s[k]'hlt).toNat : Int)) (.lit (.int .i64 (k : Int))) := by
        show (keysD s k).put _ _ = _
        rw [HE.out]
      rw [← hD] at hown1
      have HP := Lib.hid hown1; have HI := Lib.hid hit1; have HB := Lib.hid hb1
      have hpos : w1.iterPos (w.heap.size + 1) = k + 1 := by unfold World.iterPos; rw [hit1]
      have hpos0 : wr.iterPos (w.heap.size + 1) = k := by unfold World.iterPos; rw [Hit.out]
      clear hown1 hit1 hb1 hD hgrow1
      go_wp2
      simp only [Act.put]
      go_roundw
      case rel => exact ⟨k + 1, by omega, HP.out, HI.out, HB.out⟩
      case measure => rw [hpos, hpos0]; omega
    · have hkn : k = s.size := by omega
      subst hkn
      have hnx := fun ty => next_end (P := Try.prog) wr (w.heap.size + 1) s s.size ty hit (Nat.lt_irrefl _)
      go_wp2
      go_ret
      exact ⟨rfl, hown, hb⟩

theorem lettersB_of {s : ByteArray} (h : ∀ i, i < s.size → letOk s i = true) : ((Maps.size (keysD s s.size) : Int) == (s.size : Int)) = lettersB s := by
  obtain ⟨h1, h2⟩ := keysD_size s s.size
  have ha : (List.range s.size).all (letOk s) = true := by
    rw [List.all_eq_true]; intro i hi; exact h i (List.mem_range.1 hi)
  unfold lettersB
  rw [ha, Bool.true_and, Bool.eq_iff_iff, beq_iff_eq, List.all_eq_true]
  constructor
  · intro e i hi
    exact h2.1 (by omega) i (List.mem_range.1 hi)
  · intro hd
    have := h2.2 (fun i hi => hd i (List.mem_range.2 hi))
    omega
theorem lettersB_bad {s : ByteArray} {k : Nat} (hk : k < s.size) (h : letOk s k = false) : lettersB s = false := by
  unfold lettersB
  have : (List.range s.size).all (letOk s) = false := by
    rw [List.all_eq_false]
    exact ⟨k, List.mem_range.2 hk, by rw [h]; simp⟩
  rw [this]; rfl

set_option maxRecDepth 100000 in
set_option maxHeartbeats 800000 in
theorem areLetters_any (s : ByteArray) (w : World) (hs : s.size ≤ 1048576) :
    Calls Try.prog 158 #[.string s] w fun e w' => e = .returned (.bool (lettersB s)) ∧ Below w.heap.size w w' := by
  go_enter Try.func158, Try.ntmps158
  go_wp2
  go_loopw [4] (fun j wr => ∃ k : Nat, k ≤ s.size ∧ wr = w.iter s k ∧ ∀ i, i < k → letOk s i = true) (fun j wr => s.size - wr.iterPos w.heap.size)
  case atStart => exact ⟨0, Nat.zero_le _, rfl, fun i h => absurd h (by omega)⟩
  case round =>
    obtain ⟨k, hk, rfl, hall⟩ := hrel
    have Hall := Lib.hid hall; clear hall
    by_cases hlt : k < s.size
    · have hb8 := Lib.hid (byt_eq hlt)
      by_cases hhi : 128 ≤ (s[k]'hlt).toNat
      · have hnx := fun ty => run_next_any (P := Try.prog) w s k ty hlt
        obtain ⟨d1, d2⟩ := decode_high s k hlt hhi
        have d3 := decode_le s k
        have Hbad := Lib.hid (lettersB_bad hlt (show letOk s k = false by unfold letOk; rw [hb8.out, decide_eq_false_iff_not]; omega))
        obtain ⟨r, hr⟩ : ∃ r, (Utf8.decode s k).1 = r := ⟨_, rfl⟩
        rw [hr] at d1 d3
        rw [hr] at hnx
        have t1 : decide (r < 33) = false := by rw [decide_eq_false_iff_not]; omega
        have t2 : decide (126 < r) = true := by rw [decide_eq_true_eq]; omega
        clear hr hhi d2
        go_wp2
        go_ret
        exact ⟨ret_bool Hbad.out.symm, (Below.refl _ _).alloc (Nat.le_refl _) _⟩
      · have hc : (s[k]'hlt).toNat < 128 := by omega
        have hnx := fun ty => run_next_ascii (P := Try.prog) w s k ty hlt hc
        clear hhi
        by_cases h1 : (s[k]'hlt).toNat < 33
        · have Hbad := Lib.hid (lettersB_bad hlt (show letOk s k = false by unfold letOk; rw [hb8.out, decide_eq_false_iff_not]; omega))
          have t1 : decide (((s[k]'hlt).toNat : Int) < 33) = true := by rw [decide_eq_true_eq]; omega
          clear h1
          go_wp2
          go_ret
          exact ⟨ret_bool Hbad.out.symm, (Below.refl _ _).alloc (Nat.le_refl _) _⟩
        have t1 : decide (((s[k]'hlt).toNat : Int) < 33) = false := by rw [decide_eq_false_iff_not]; omega
        by_cases h2 : 126 < (s[k]'hlt).toNat
        · have Hbad := Lib.hid (lettersB_bad hlt (show letOk s k = false by unfold letOk; rw [hb8.out, decide_eq_false_iff_not]; omega))
          have t2 : decide (126 < ((s[k]'hlt).toNat : Int)) = true := by rw [decide_eq_true_eq]; omega
          clear h1 h2
          go_wp2
          go_ret
          exact ⟨ret_bool Hbad.out.symm, (Below.refl _ _).alloc (Nat.le_refl _) _⟩
        have t2 : decide (126 < ((s[k]'hlt).toNat : Int)) = false := by rw [decide_eq_false_iff_not]; omega
        have HL : Hid (∀ i, i < k + 1 → letOk s i = true) := fun i hi => by
          by_cases e : i = k
          · subst e; unfold letOk; rw [hb8.out, decide_eq_true_eq]; omega
          · exact Hall.out i (by omega)
        clear h1 h2
        go_wp2
        go_roundw
        case rel => exact ⟨k + 1, by omega, rfl, HL.out⟩
        case measure => simp; omega
    · have hkn : k = s.size := by omega
      subst hkn
      have hnx := fun ty => run_next_end (P := Try.prog) w s s.size ty (Nat.lt_irrefl _)
      have Hl := Lib.hid (lettersB_of Hall.out)
      have Hk := Lib.hid (Below.refl w.heap.size w |>.alloc (Nat.le_refl _) (.stringIter s s.size))
      go_wp2_with fail
      refine (keysOf_any s _ hs Hall.out).mono ?_
      rintro e w1 ⟨rfl, hown, hb⟩
      have HB := Lib.hid hb
      go_wp2_with (at_len; refine wpList_len_own _ rfl _ 119 rfl 21 3 Try.underlying119 _ _ _ _ rfl hown ?_)
      go_ret
      exact ⟨ret_bool Hl.out, Hk.out.trans (HB.out.mono (by simp [World.iter]))⟩

end Go.Proofs.Ythoepelgmplcmaa
