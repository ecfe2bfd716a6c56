/-
  The words of a text, by the model: l6Words by contract. Condition: a text of at most 2^20 bytes.
-/
import Derived.Test.YthoepelgmplcmaaWrdM
import Derived.Test.YthoepelgmplcmaaStrP
import Derived.Test.YthoepelgmplcmaaPkA
namespace Go.Proofs.Ythoepelgmplcmaa
open Go.RowKit
set_option linter.unusedVariables false

theorem wst_other {s : ByteArray} {i : Nat} (h : byt s i ≠ 32) : wst s (i + 1) = wst s i := by
  show (if byt s i = 32 then _ else wst s i) = _
  rw [if_neg h]
theorem wst_blank {s : ByteArray} {i : Nat} (h : byt s i = 32) : (wst s (i + 1)).2 = i + 1 ∧ (wst s (i + 1)).1 = if (wst s i).2 < i then (wst s i).1 ++ [((wst s i).2, i)] else (wst s i).1 := by
  have e : wst s (i + 1) = if (wst s i).2 < i then ((wst s i).1 ++ [((wst s i).2, i)], i + 1) else ((wst s i).1, i + 1) := by
    show (if byt s i = 32 then _ else wst s i) = _
    rw [if_pos h]
  rw [e]
  split
  · exact ⟨rfl, rfl⟩
  · exact ⟨rfl, rfl⟩
theorem wpc_snoc (s : ByteArray) (l : List (Nat × Nat)) (a b : Nat) : wpc s (l ++ [(a, b)]) = wpc s l ++ [s.extract a b] := by simp [wpc]
theorem wpc_len (s : ByteArray) (l : List (Nat × Nat)) : (wpc s l).length = l.length := by simp [wpc]

/-- what holds ahead of round i: the row, where the next word begins -/
def WSt (s : ByteArray) (wr : World) (B : Nat) (u : Value) (f : Nat) (i : Nat) : Prop :=
  (i ≤ s.size ∧ OwnS wr B u (wpc s (wst s i).1) ∧ f = (wst s i).2 ∧ f ≤ i) ∨ (i = s.size + 1 ∧ OwnS wr B u (wordsB s))
/-- ahead of a blank or the end: what the row holds behind it -/
theorem WSt.same {s : ByteArray} {wr : World} {B : Nat} {u : Value} {f i : Nat} (h : OwnS wr B u (wpc s (wst s i).1)) (hf : f = (wst s i).2) (hi : i ≤ s.size) (hb : i < s.size → byt s i = 32) (hn : ¬ f < i) : WSt s wr B u (i + 1) (i + 1) := by
  by_cases hlt : i < s.size
  · obtain ⟨e1, e2⟩ := wst_blank (hb hlt)
    rw [if_neg (by omega)] at e2
    exact .inl ⟨by omega, by rw [e2]; exact h, e1.symm, Nat.le_refl _⟩
  · have : i = s.size := by omega
    subst this
    refine .inr ⟨rfl, ?_⟩
    unfold wordsB wend
    rw [if_neg (by omega)]
    exact h
theorem WSt.more {s : ByteArray} {wr : World} {B : Nat} {u : Value} {f i : Nat} (h : OwnS wr B u (wpc s (wst s i).1 ++ [s.extract f i])) (hf : f = (wst s i).2) (hi : i ≤ s.size) (hb : i < s.size → byt s i = 32) (hn : f < i) : WSt s wr B u (i + 1) (i + 1) := by
  by_cases hlt : i < s.size
  · obtain ⟨e1, e2⟩ := wst_blank (hb hlt)
    rw [if_pos (by omega)] at e2
    exact .inl ⟨by omega, by rw [e2, wpc_snoc, ← hf]; exact h, e1.symm, Nat.le_refl _⟩
  · have : i = s.size := by omega
    subst this
    refine .inr ⟨rfl, ?_⟩
    unfold wordsB wend
    rw [if_pos (by omega), wpc_snoc, ← hf]
    exact h
theorem owns_empty (w : World) : OwnS (w.alloc (.cells #[] 9)) w.heap.size (.slice (some ⟨w.heap.size, 0, none⟩) 0 0) [] := World.ownsRow_lit w #[] 0 (Nat.le_refl _) (Nat.zero_le _) rfl

set_option maxRecDepth 100000 in
set_option maxHeartbeats 1600000 in
theorem l6Words_any (s : ByteArray) (w : World) (hs : s.size ≤ 1048576) :
    Calls Try.prog 135 #[.string s] w fun e w' => ∃ v, e = .returned v ∧ OwnS w' w.heap.size v (wordsB s) ∧ Below w.heap.size w w' := by
  have HO := Lib.hid (owns_empty w)
  have HB := Lib.hid ((Below.refl w.heap.size w).alloc (Nat.le_refl _) (.cells #[] 9))
  go_enter Try.func135, Try.ntmps135
  go_wp2
  go_loopw [3, 4, 5] (fun u v q wr => ∃ i f : Nat, q = .int .i64 i ∧ v = .int .i64 f ∧ WSt s wr w.heap.size u f i ∧ Below w.heap.size w wr) (fun _ _ q _ => s.size + 1 - (intOf q).toNat)
  case atStart => exact ⟨0, 0, rfl, rfl, .inl ⟨Nat.zero_le _, HO.out, rfl, Nat.le_refl _⟩, HB.out⟩
  case round =>
    clear HO HB
    obtain ⟨i, f, rfl, rfl, hst, hb⟩ := hrel
    have HB := Lib.hid hb
    have hwz := hb.size
    clear hb
    rcases hst with ⟨hi, hO, hf, hfi⟩ | ⟨hi, hO⟩
    · have HO := Lib.hid hO
      have Hf := Lib.hid hf
      have hbl := (wst_le s i).2
      have hlen : (wpc s (wst s i).1).length ≤ 1048576 := by rw [wpc_len]; omega
      have Hlen := Lib.hid hlen
      clear hO hf hbl hlen
      by_cases hlt : i < s.size
      · by_cases h32 : byt s i = 32
        · have H32 := Lib.hid h32
          have hbt : s[i].toNat = 32 := by rw [← byt_eq hlt]; exact h32
          clear h32
          by_cases hfl : f < i
          · go_wp2_with (at_builtin; refine wpls_push2 _ rfl (.tmp 26) (.tmp 31) rfl w.heap.size u3 _ (s.extract f i) rfl rfl HO.out hwz Hlen.out ?_; intro v4 w4 hO4 hg4 hv4; have HO4 := Lib.hid hO4; have HG4 := Lib.hid hg4; clear hO4 hg4 hv4)
            have HB4 := Lib.hid (HB.out.grown HG4.out hwz (fun k hk => (World.ownsRow.lt HO.out k hk).1))
            go_roundw
            case rel => exact ⟨i + 1, i + 1, by go_num, by go_num, WSt.more HO4.out Hf.out hi (fun _ => H32.out) hfl, HB4.out⟩
            case measure => simp [intOf]; omega
          · go_wp2
            go_roundw
            case rel => exact ⟨i + 1, i + 1, by go_num, by go_num, WSt.same HO.out Hf.out hi (fun _ => H32.out) hfl, HB.out⟩
            case measure => simp [intOf]; omega
        · have hbt : ¬ s[i].toNat = 32 := by rw [← byt_eq hlt]; exact h32
          go_wp2
          go_roundw
          case rel => exact ⟨i + 1, f, by go_num, by go_num, .inl ⟨by omega, by rw [wst_other h32]; exact HO.out, by rw [wst_other h32]; exact Hf.out, by omega⟩, HB.out⟩
          case measure => simp [intOf]; omega
      · by_cases hfl : f < i
        · go_wp2_with (at_builtin; refine wpls_push2 _ rfl (.tmp 26) (.tmp 31) rfl w.heap.size u3 _ (s.extract f i) rfl rfl HO.out hwz Hlen.out ?_; intro v4 w4 hO4 hg4 hv4; have HO4 := Lib.hid hO4; have HG4 := Lib.hid hg4; clear hO4 hg4 hv4)
          have HB4 := Lib.hid (HB.out.grown HG4.out hwz (fun k hk => (World.ownsRow.lt HO.out k hk).1))
          go_roundw
          case rel => exact ⟨i + 1, i + 1, by go_num, by go_num, WSt.more HO4.out Hf.out hi (fun h => absurd h hlt) hfl, HB4.out⟩
          case measure => simp [intOf]; omega
        · go_wp2
          go_roundw
          case rel => exact ⟨i + 1, i + 1, by go_num, by go_num, WSt.same HO.out Hf.out hi (fun h => absurd h hlt) hfl, HB.out⟩
          case measure => simp [intOf]; omega
    · have HO := Lib.hid hO
      clear hO
      subst hi
      go_wp2
      go_ret
      exact ⟨_, rfl, HO.out, HB.out⟩
end Go.Proofs.Ythoepelgmplcmaa
