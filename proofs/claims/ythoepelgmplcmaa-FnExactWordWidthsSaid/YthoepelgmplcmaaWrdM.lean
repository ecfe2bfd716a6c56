/-
  The words of a text, byte by byte: that the library's parting by runes and the model's by bytes give the same list. No condition.
-/
import Derived.Test.YthoepelgmplcmaaWrd
import Derived.Test.YthoepelgmplcmaaFontOk
import Derived.Lib.FieldsP
import Derived.Lib.SpaceUEq
import Derived.Lib.TrimU
namespace Go.Proofs.Ythoepelgmplcmaa
open Go.RowKit
set_option linter.unusedVariables false

/-- the spans of the words that end before byte i, and where the next one begins -/
def wst (s : ByteArray) : Nat → List (Nat × Nat) × Nat
  | 0 => ([], 0)
  | i + 1 => if byt s i = 32 then (if (wst s i).2 < i then ((wst s i).1 ++ [((wst s i).2, i)], i + 1) else ((wst s i).1, i + 1)) else wst s i
def wend (s : ByteArray) : List (Nat × Nat) := if (wst s s.size).2 < s.size then (wst s s.size).1 ++ [((wst s s.size).2, s.size)] else (wst s s.size).1
def wpc (s : ByteArray) (l : List (Nat × Nat)) : List ByteArray := l.map fun x => s.extract x.1 x.2
/-- the words -/
def wordsB (s : ByteArray) : List ByteArray := wpc s (wend s)

theorem wst_le (s : ByteArray) : ∀ i, (wst s i).2 ≤ i ∧ (wst s i).1.length ≤ i
  | 0 => ⟨Nat.le_refl _, Nat.le_refl _⟩
  | i + 1 => by
    obtain ⟨h1, h2⟩ := wst_le s i
    unfold wst
    split
    · split
      · exact ⟨Nat.le_refl _, by simp; omega⟩
      · exact ⟨Nat.le_refl _, by simp only; omega⟩
    · exact ⟨by omega, by omega⟩
theorem wst_skip (s : ByteArray) (i : Nat) : ∀ k, (∀ j, j < k → byt s (i + j) ≠ 32) → wst s (i + k) = wst s i
  | 0, _ => rfl
  | k + 1, h => by
    rw [← Nat.add_assoc]
    show (if byt s (i + k) = 32 then _ else wst s (i + k)) = _
    rw [if_neg (h k (by omega)), wst_skip s i k (fun j hj => h j (by omega))]
theorem byt_get (s : ByteArray) (i : Nat) (h : i < s.size) : (s.get! i).toNat = byt s i := by
  rw [byt_eq h]
  congr 1
  show s.data.toList.toArray.getD i default = _
  simp only [Array.getD]
  rw [dif_pos (by simpa using h)]
  simp
  rfl
/-- a rune that is a blank is the one byte 32 -/
theorem dec_blank (s : ByteArray) (i : Nat) (h : i < s.size) (hb : byt s i = 32) : Utf8.decode s i = (32, 1) := by
  rw [Lib.decode_at, byt_get s i h, hb]
  exact Lib.decodeN_ascii _ _ _ _ _ (by omega)
theorem dec_other (s : ByteArray) (i : Nat) (h : i < s.size) (hb : byt s i ≠ 32) : (Utf8.decode s i).1 ≠ 32 ∧ i + (Utf8.decode s i).2 ≤ s.size ∧ ∀ j, j < (Utf8.decode s i).2 → byt s (i + j) ≠ 32 := by
  have hlt := byt_lt s i
  have hc := Lib.decodeN_conts (s.size - i) (s.get! i).toNat (s.get! (i + 1)).toNat (s.get! (i + 2)).toNat (s.get! (i + 3)).toNat
  rw [← Lib.decode_at] at hc
  obtain ⟨c2, c3, c4, c5⟩ := hc
  have h1 : (Utf8.decode s i).1 ≠ 32 := by
    rw [Lib.decode_at, byt_get s i h]
    unfold Lib.decodeN
    repeat' split
    all_goals (simp only; omega)
  have hg : ∀ j, i + j < s.size → (s.get! (i + j)).toNat / 64 = 2 → byt s (i + j) ≠ 32 := fun j hj e => by rw [← byt_get s _ hj]; omega
  refine ⟨h1, by omega, fun j hj => ?_⟩
  match j, hj with
  | 0, _ => exact hb
  | 1, hj => exact hg 1 (by omega) (c2 (by omega)).1
  | 2, hj => exact hg 2 (by omega) (c3 (by omega)).1
  | 3, hj => exact hg 3 (by omega) (c4 (by omega)).1
  | j + 4, hj => omega

/-- where a word has begun, as the library says it -/
def wopen (s : ByteArray) (pos : Nat) : Option Nat := if (wst s pos).2 < pos then some (wst s pos).2 else none
theorem spans_wst (s : ByteArray) : ∀ (f pos : Nat), pos ≤ s.size → s.size ≤ pos + f → Lib.spansFromP isBl s f pos (wopen s pos) (wst s pos).1 = ((wst s s.size).1, wopen s s.size)
  | 0, pos, h1, h2 => by
    have : pos = s.size := by omega
    subst this; rfl
  | f + 1, pos, h1, h2 => by
    by_cases hlt : pos < s.size
    · unfold Lib.spansFromP
      rw [if_pos hlt]
      by_cases hb : byt s pos = 32
      · rw [dec_blank s pos hlt hb]
        have hnone : wopen s (pos + 1) = none := by
          unfold wopen wst
          rw [if_pos hb]
          split <;> rw [if_neg (by simp)]
        rw [if_pos (by rfl)]
        have ih := spans_wst s f (pos + 1) (by omega) (by omega)
        rw [hnone] at ih
        by_cases hw : (wst s pos).2 < pos
        · have e1 : wopen s pos = some (wst s pos).2 := by unfold wopen; rw [if_pos hw]
          have e2 : (wst s (pos + 1)).1 = (wst s pos).1 ++ [((wst s pos).2, pos)] := by
            show (if byt s pos = 32 then _ else _ : List (Nat × Nat) × Nat).1 = _
            rw [if_pos hb, if_pos hw]
          rw [e1, ← ih, e2]
        · have e1 : wopen s pos = none := by unfold wopen; rw [if_neg hw]
          have e2 : (wst s (pos + 1)).1 = (wst s pos).1 := by
            show (if byt s pos = 32 then _ else _ : List (Nat × Nat) × Nat).1 = _
            rw [if_pos hb, if_neg hw]
          rw [e1, ← ih, e2]
      · obtain ⟨g1, g2, g3⟩ := dec_other s pos hlt hb
        have hp := Lib.width_pos s pos
        have hsk := wst_skip s pos (Utf8.decode s pos).2 g3
        have hle := (wst_le s pos).1
        have ih := spans_wst s f (pos + (Utf8.decode s pos).2) g2 (by omega)
        have hso : wopen s (pos + (Utf8.decode s pos).2) = some (wst s pos).2 := by
          unfold wopen; rw [hsk, if_pos (by omega)]
        rw [hso, hsk] at ih
        have hn : isBl (Utf8.decode s pos).1 = false := by unfold isBl; rw [beq_eq_false_iff_ne]; exact g1
        rw [hn]
        simp only [Bool.false_eq_true, if_false]
        by_cases hw : (wst s pos).2 < pos
        · have e1 : wopen s pos = some (wst s pos).2 := by unfold wopen; rw [if_pos hw]
          rw [e1]; exact ih
        · have e1 : wopen s pos = none := by unfold wopen; rw [if_neg hw]
          have e2 : (wst s pos).2 = pos := by omega
          rw [e1]
          rw [e2] at ih
          exact ih
    · have : pos = s.size := by omega
      subst this
      rw [Lib.spansFromP_end _ _ _ _ _ _ hlt]
/-- the two partings give the same words -/
theorem words_eq (s : ByteArray) : wordsR s = wordsB s := by
  unfold wordsR wordsB wpc Lib.goFieldsP
  congr 1
  unfold Lib.spansOfP wend
  have h := spans_wst s s.size 0 (Nat.zero_le _) (by omega)
  have h0 : wopen s 0 = none := by unfold wopen wst; rfl
  rw [h0] at h
  have h00 : (wst s 0).1 = [] := rfl
  rw [h00] at h
  rw [h]
  unfold Lib.closeSpans wopen
  by_cases hw : (wst s s.size).2 < s.size
  · simp only [if_pos hw]
  · simp only [if_neg hw]
theorem wend_le (s : ByteArray) : (wend s).length ≤ s.size := by
  unfold wend
  have h := wst_le s s.size
  split
  · rename_i hw
    have : ∀ i, (wst s i).1.length ≤ (wst s i).2 := fun i => by
      induction i with
      | zero => exact Nat.le_refl _
      | succ i ih =>
        have := wst_le s i
        unfold wst
        split
        · split
          · simp; omega
          · simp only; omega
        · exact ih
    have := this s.size
    simp; omega
  · exact h.2
theorem wordsB_len (s : ByteArray) : (wordsB s).length ≤ s.size := by unfold wordsB wpc; rw [List.length_map]; exact wend_le s
end Go.Proofs.Ythoepelgmplcmaa
