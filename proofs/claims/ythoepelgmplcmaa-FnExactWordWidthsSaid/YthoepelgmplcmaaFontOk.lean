/-
  FontOk of the model: by contract. Condition: lengths of at most 2^20.
-/
import Derived.Test.YthoepelgmplcmaaFontT
import Derived.Test.YthoepelgmplcmaaLoss
namespace Go.Proofs.Ythoepelgmplcmaa
open Go.RowKit
set_option linter.unusedVariables false

/-- byte i as a number -/
def byt (s : ByteArray) (i : Nat) : Nat := if h : i < s.size then s[i].toNat else 0
theorem byt_eq {s : ByteArray} {i : Nat} (h : i < s.size) : byt s i = s[i].toNat := by unfold byt; rw [dif_pos h]
theorem byt_lt (s : ByteArray) (i : Nat) : byt s i < 256 := by
  unfold byt; split
  · exact UInt8.toNat_lt _
  · omega
def letOk (s : ByteArray) (i : Nat) : Bool := decide (33 ≤ byt s i ∧ byt s i ≤ 126)
def diffs (s : ByteArray) (i : Nat) : Bool := (List.range i).all (fun k => byt s i != byt s k)
def widOk (ws : List Int) (i : Nat) : Bool := inB (ws.getD i 0) 1 60
def lettersB (s : ByteArray) : Bool := (List.range s.size).all (letOk s) && (List.range s.size).all (diffs s)
def widthsB (ws : List Int) : Bool := ws.all (fun x => inB x 1 60)
def fontB (f : Fnt) : Bool := sortsAll f.cs && (f.s.size == f.cs.length && (f.ws.length == f.cs.length && (lettersB f.s && widthsB f.ws)))

def goodTo (s : ByteArray) (ws : List Int) (n : Nat) : Bool := (List.range n).all (fun i => letOk s i && (widOk ws i && diffs s i))
theorem goodTo_succ {s : ByteArray} {ws : List Int} {n : Nat} (h : goodTo s ws n = true) (h1 : letOk s n = true) (h2 : widOk ws n = true) (h3 : diffs s n = true) : goodTo s ws (n + 1) = true := by
  unfold goodTo at *
  rw [List.range_succ, List.all_append, h]; simp [h1, h2, h3]
theorem goodTo_full {s : ByteArray} {ws : List Int} (hl : ws.length = s.size) : goodTo s ws s.size = (lettersB s && widthsB ws) := by
  rw [Bool.eq_iff_iff]
  unfold goodTo lettersB widthsB
  simp only [List.all_eq_true, Bool.and_eq_true, List.mem_range]
  constructor
  · intro h
    refine ⟨⟨fun i hi => (h i hi).1, fun i hi => (h i hi).2.2⟩, fun x hx => ?_⟩
    obtain ⟨i, hi, rfl⟩ := List.mem_iff_getElem.1 hx
    have := (h i (by omega)).2.1
    unfold widOk at this
    simpa [List.getD, hi] using this
  · rintro ⟨⟨h1, h2⟩, h3⟩ i hi
    refine ⟨h1 i hi, ?_, h2 i hi⟩
    unfold widOk
    have hi' : i < ws.length := by omega
    simp only [List.getD, List.getElem?_eq_getElem hi', Option.getD_some]
    exact h3 _ (List.getElem_mem hi')
theorem fontB_good {f : Fnt} (h1 : f.ws.length = f.s.size) (h2 : f.cs.length = f.s.size) (h3 : sortsAll f.cs = true) : fontB f = goodTo f.s f.ws f.s.size := by
  rw [goodTo_full h1]
  unfold fontB
  rw [h3, h1, h2]; simp
theorem sortsAll_len {cs : List Int} (h : sortsAll cs = true) : 1 ≤ cs.length ∧ cs.length ≤ 40 := by
  unfold sortsAll at h
  rw [Bool.and_eq_true] at h
  exact bar_len h.2
/-- what a font is, besides its letters -/
theorem fontB_bad {f : Fnt} (h : ¬ (1 ≤ f.s.size ∧ f.s.size ≤ 40 ∧ f.ws.length = f.s.size ∧ f.cs.length = f.s.size ∧ sortsAll f.cs = true)) : fontB f = false := by
  cases hb : fontB f
  · rfl
  · unfold fontB at hb
    simp only [Bool.and_eq_true, beq_iff_eq] at hb
    obtain ⟨h1, h2, h3, _⟩ := hb
    have := sortsAll_len h1
    exact absurd ⟨by omega, by omega, by omega, by omega, h1⟩ h
theorem goodTo_bad {s : ByteArray} {ws : List Int} {n i : Nat} (hi : i < n) (h : (letOk s i && (widOk ws i && diffs s i)) = false) : goodTo s ws n = false := by
  unfold goodTo
  rw [List.all_eq_false]
  exact ⟨i, List.mem_range.2 hi, by rw [h]; simp⟩
def diffTo (s : ByteArray) (i j : Nat) : Bool := (List.range j).all (fun k => byt s i != byt s k)
theorem diffTo_succ {s : ByteArray} {i j : Nat} (h : diffTo s i j = true) (h1 : byt s i ≠ byt s j) : diffTo s i (j + 1) = true := by
  unfold diffTo at *
  rw [List.range_succ, List.all_append, h]; simp [h1]
theorem diffs_bad {s : ByteArray} {i j : Nat} (hj : j < i) (h : byt s i = byt s j) : diffs s i = false := by
  unfold diffs
  rw [List.all_eq_false]
  exact ⟨j, List.mem_range.2 hj, by simp [h]⟩

set_option maxHeartbeats 1600000 in
theorem specFontOk_any (lo hi : Nat) (v : Value) (f : Fnt) (w : World) (h : FontV w lo hi v f) (hhi : hi ≤ w.heap.size) (hs : Small f) :
    Calls Try.prog 26 #[v] w fun e w' => e = .returned (.bool (fontB f)) ∧ Below w.heap.size w w' := by
  obtain ⟨A, c, A2, d, rfl, hI1, hI2, hc1, hc2, hd1, hd2, hss⟩ := h
  obtain ⟨s, ws, cs⟩ := f
  obtain ⟨hs1, hs2, hs3⟩ := hs
  simp only at *
  obtain ⟨n, hn⟩ : ∃ n, ws.length = n := ⟨_, rfl⟩
  obtain ⟨m, hm⟩ : ∃ m, cs.length = m := ⟨_, rfl⟩
  have Hn := Lib.hid hn; have Hm := Lib.hid hm
  rw [hn, hm]
  rw [hn] at hs2
  rw [hm] at hs3
  have hW : Below w.heap.size w (w.alloc (.cells #[.string s, .slice A n c, .slice A2 m d] 25)) := (Below.refl _ _).alloc (Nat.le_refl _) _
  have G1 := Lib.hid (hI1.below hhi hW); have G2 := Lib.hid (hI2.below hhi hW)
  have HW := Lib.hid hW
  clear hI1 hI2 hc1 hc2 hd1 hd2 hss hW
  by_cases hall : 1 ≤ s.size ∧ s.size ≤ 40 ∧ n = s.size ∧ m = s.size ∧ sortsAll cs = true
  · obtain ⟨p1, p2, rfl, rfl, p5⟩ := hall
    have Hf : Hid (fontB ⟨s, ws, cs⟩ = goodTo s ws s.size) := fontB_good hn hm p5
    rw [Hf.out]
    have hb1 : inB s.size 1 40 = true := by
      have : inB s.size 1 40 = decide ((1 : Int) ≤ s.size ∧ (s.size : Int) ≤ 40) := rfl
      rw [this, decide_eq_true_eq]; omega
    have hb2 : ((s.size : Int) != (s.size : Int)) = false := by simp
    clear hn hm Hf
    go_enter Try.func26, Try.ntmps26
    go_wp2_with (first
      | (go_at_call 80; refine (l1In_any _ _ _ _).mono ?_; rintro e w' ⟨rfl, rfl⟩)
      | (go_at_call 96; refine (specSortsAll_any _ _ _ cs _ Hm.out (by unfold maxLen; omega) G2.out.ints).mono ?_; rintro e w' ⟨rfl, rfl⟩))
    clear hb1 hb2 p5
    go_loopw [4] (fun i wr => ∃ k q : Nat, k ≤ s.size ∧ i = .int .i64 k ∧ wr = (w.alloc (.cells #[.string s, .slice A s.size c, .slice A2 s.size d] 25)).drewN q ∧ goodTo s ws k = true) (fun i _ => s.size - (intOf i).toNat)
    case atStart => exact ⟨0, 0, Nat.zero_le _, rfl, rfl, rfl⟩
    case round =>
      obtain ⟨k, q, hk, rfl, rfl, hg⟩ := hrel
      have Hg := Lib.hid hg; clear hg
      by_cases hlt : k < s.size
      · obtain ⟨ad, x, rfl, hx, hc⟩ := (G1.out.ints.drewN q).at_ (k := k) (by rw [Hn.out]; exact hlt)
        have Hb := Lib.hid (byt_eq hlt)
        have HX := Lib.hid (getD_at hx.out)
        by_cases h1 : (s[k].toNat : Int) < 33
        · have Hbad := Lib.hid (goodTo_bad (ws := ws) hlt (show (letOk s k && (widOk ws k && diffs s k)) = false by
            have : letOk s k = false := by unfold letOk; rw [Hb.out, decide_eq_false_iff_not]; omega
            rw [this]; rfl))
          have hd1 : decide ((s[k].toNat : Int) < 33) = true := by simpa using h1
          clear h1
          go_wp2
          go_ret
          exact ⟨ret_bool Hbad.out.symm, below_drewN HW.out _⟩
        have hd1 : decide ((s[k].toNat : Int) < 33) = false := by simpa using h1
        by_cases h2 : (126 : Int) < (s[k].toNat : Int)
        · have Hbad := Lib.hid (goodTo_bad (ws := ws) hlt (show (letOk s k && (widOk ws k && diffs s k)) = false by
            have : letOk s k = false := by unfold letOk; rw [Hb.out, decide_eq_false_iff_not]; omega
            rw [this]; rfl))
          have hd2 : decide ((126 : Int) < (s[k].toNat : Int)) = true := by simpa using h2
          clear h1 h2
          go_wp2
          go_ret
          exact ⟨ret_bool Hbad.out.symm, below_drewN HW.out _⟩
        have hd2 : decide ((126 : Int) < (s[k].toNat : Int)) = false := by simpa using h2
        have HL : Hid (letOk s k = true) := by show _ = _; unfold letOk; rw [Hb.out, decide_eq_true_eq]; omega
        clear h1 h2
        cases h3 : inB x 1 60
        · have Hbad := Lib.hid (goodTo_bad (ws := ws) hlt (show (letOk s k && (widOk ws k && diffs s k)) = false by
            have : widOk ws k = false := by unfold widOk; rw [HX.out]; exact h3
            rw [this]; simp))
          go_wp2_with (go_at_call 80; refine (l1In_any _ _ _ _).mono ?_; rintro e w' ⟨rfl, rfl⟩)
          go_ret
          exact ⟨ret_bool Hbad.out.symm, below_drewN HW.out _⟩
        have HD : Hid (widOk ws k = true) := by show _ = _; unfold widOk; rw [HX.out]; exact h3
        go_wp2_with (go_at_call 80; refine (l1In_any _ _ _ _).mono ?_; rintro e w' ⟨rfl, rfl⟩)
        go_loopw [5] (fun i wr => ∃ j q : Nat, j ≤ k ∧ i = .int .i64 j ∧ wr = (w.alloc (.cells #[.string s, .slice (some ad) s.size c, .slice A2 s.size d] 25)).drewN q ∧ diffTo s k j = true) (fun i _ => k - (intOf i).toNat)
        case atStart => exact ⟨0, q, Nat.zero_le _, rfl, rfl, rfl⟩
        case round =>
          obtain ⟨j, q2, hj, rfl, rfl, hdf⟩ := hrel
          have Hdf := Lib.hid hdf; clear hdf
          by_cases hjk : j < k
          · have hjs : j < s.size := by omega
            have Hbj := Lib.hid (byt_eq hjs)
            by_cases he : s[k].toNat = s[j].toNat
            · have Hbad := Lib.hid (goodTo_bad (ws := ws) hlt (show (letOk s k && (widOk ws k && diffs s k)) = false by
                have : diffs s k = false := diffs_bad hjk (by rw [Hb.out, Hbj.out]; exact he)
                rw [this]; simp))
              have he1 : ((s[k].toNat : Int) == (s[j].toNat : Int)) = true := by rw [beq_iff_eq]; omega
              clear he
              go_wp2
              go_quiet (fail)
              go_wp2
              go_ret
              exact ⟨ret_bool Hbad.out.symm, by rw [World.drewN_drewN]; exact below_drewN HW.out _⟩
            · have Hs := Lib.hid (diffTo_succ Hdf.out (show byt s k ≠ byt s j by rw [Hb.out, Hbj.out]; exact he))
              have he1 : ((s[k].toNat : Int) == (s[j].toNat : Int)) = false := by rw [beq_eq_false_iff_ne]; omega
              clear he
              go_wp2
              go_quiet (fail)
              go_wp2
              go_roundw
              case rel => exact ⟨j + 1, _, by omega, by go_num, rfl, Hs.out⟩
              case measure => simp [intOf]; omega
          · have hjn : j = k := by omega
            subst hjn
            have Hs := Lib.hid (goodTo_succ Hg.out HL.out HD.out Hdf.out)
            go_wp2
            go_roundw
            case rel => exact ⟨j + 1, _, by omega, by go_num, rfl, Hs.out⟩
            case measure => simp [intOf]; omega
      · have hkn : k = s.size := by omega
        subst hkn
        go_wp2
        go_ret
        exact ⟨ret_bool Hg.out.symm, below_drewN HW.out _⟩
  · have Hf : Hid (fontB ⟨s, ws, cs⟩ = false) := fontB_bad (f := ⟨s, ws, cs⟩) (by simp only; rw [hn, hm]; exact hall)
    rw [Hf.out]
    clear hn hm Hf
    cases hb1 : inB s.size 1 40
    · go_enter Try.func26, Try.ntmps26
      go_wp2_with (go_at_call 80; refine (l1In_any _ _ _ _).mono ?_; rintro e w' ⟨rfl, rfl⟩)
      go_ret
      exact ⟨rfl, HW.out⟩
    by_cases hb2 : n = s.size
    · have hb2' : ((n : Int) != (s.size : Int)) = false := by rw [bne_eq_false_iff_eq]; omega
      by_cases hb3 : m = s.size
      · have hb3' : ((m : Int) != (s.size : Int)) = false := by rw [bne_eq_false_iff_eq]; omega
        have hb4 : sortsAll cs = false := by
          cases h5 : sortsAll cs
          · rfl
          · have : inB s.size 1 40 = decide ((1 : Int) ≤ s.size ∧ (s.size : Int) ≤ 40) := rfl
            rw [this, decide_eq_true_eq] at hb1
            exact absurd ⟨by omega, by omega, hb2, hb3, h5⟩ hall
        clear hall hb2 hb3
        go_enter Try.func26, Try.ntmps26
        go_wp2_with (first
          | (go_at_call 80; refine (l1In_any _ _ _ _).mono ?_; rintro e w' ⟨rfl, rfl⟩)
          | (go_at_call 96; refine (specSortsAll_any _ _ _ cs _ Hm.out (by unfold maxLen; omega) G2.out.ints).mono ?_; rintro e w' ⟨rfl, rfl⟩))
        go_ret
        exact ⟨rfl, HW.out⟩
      · have hb3' : ((m : Int) != (s.size : Int)) = true := by rw [bne_iff_ne]; omega
        clear hall hb2 hb3
        go_enter Try.func26, Try.ntmps26
        go_wp2_with (go_at_call 80; refine (l1In_any _ _ _ _).mono ?_; rintro e w' ⟨rfl, rfl⟩)
        go_ret
        exact ⟨rfl, HW.out⟩
    · have hb2' : ((n : Int) != (s.size : Int)) = true := by rw [bne_iff_ne]; omega
      clear hall hb2
      go_enter Try.func26, Try.ntmps26
      go_wp2_with (go_at_call 80; refine (l1In_any _ _ _ _).mono ?_; rintro e w' ⟨rfl, rfl⟩)
      go_ret
      exact ⟨rfl, HW.out⟩
end Go.Proofs.Ythoepelgmplcmaa
