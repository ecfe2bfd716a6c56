/-
  The widths of the words of a text, by the program: WordWidths by contract. Conditions: a font of lengths of at most 2^20, a text of at most 2^20 bytes.
-/
import Derived.Test.YthoepelgmplcmaaWrdW
import Derived.Test.YthoepelgmplcmaaPkA
import Derived.Test.YthoepelgmplcmaaPkC
import Derived.Test.YthoepelgmplcmaaMchL
namespace Go.Proofs.Ythoepelgmplcmaa
open Go.RowKit Go.Maps
set_option linter.unusedVariables false

def wwB (f : Fnt) (s : ByteArray) : Bool := fontB f && ((wordsB s).all (fun x => wAll f x x.size) && textB ((wordsB s).map (wRes f)))
def wwL (f : Fnt) (s : ByteArray) : List Int := if wwB f s = true then (wordsB s).map (wRes f) else []
theorem wwB_font {f : Fnt} {s : ByteArray} (h : fontB f = false) : wwB f s = false := by unfold wwB; rw [h]; rfl
theorem wwB_word {f : Fnt} {s : ByteArray} {x : ByteArray} (hx : x ∈ wordsB s) (h : wAll f x x.size = false) : wwB f s = false := by
  unfold wwB
  have : (wordsB s).all (fun x => wAll f x x.size) = false := by
    rw [List.all_eq_false]; exact ⟨x, hx, by simp [h]⟩
  rw [this]; simp
theorem wwB_text {f : Fnt} {s : ByteArray} (h : textB ((wordsB s).map (wRes f)) = false) : wwB f s = false := by
  unfold wwB; rw [h]; simp
theorem wwB_all {f : Fnt} {s : ByteArray} (h1 : fontB f = true) (h2 : (wordsB s).all (fun x => wAll f x x.size) = true) (h3 : textB ((wordsB s).map (wRes f)) = true) : wwB f s = true := by
  unfold wwB; rw [h1, h2, h3]; rfl
theorem wwL_no {f : Fnt} {s : ByteArray} (h : wwB f s = false) : wwL f s = [] := by unfold wwL; rw [h]; rfl
theorem wwL_yes {f : Fnt} {s : ByteArray} (h : wwB f s = true) : wwL f s = (wordsB s).map (wRes f) := by unfold wwL; rw [if_pos h]
theorem wwL_len (f : Fnt) (s : ByteArray) : (wwL f s).length ≤ 40 := by
  unfold wwL
  split
  · rename_i h
    unfold wwB at h
    simp only [Bool.and_eq_true] at h
    exact (textB_parts h.2.2).2.2
  · simp
theorem wordsOf_own (s : ByteArray) (w : World) (hs : s.size ≤ 1048576) :
    Calls Try.prog 137 #[.string s] w fun e w' => ∃ v, e = .returned v ∧ OwnS w' w.heap.size v (wordsB s) ∧ Below w.heap.size w w' := by
  refine (wordsOf_any s w hs).mono ?_
  rintro e w' ⟨A, n, rfl, hn, hO, hb⟩
  refine ⟨_, rfl, ?_, hb⟩
  unfold OwnS
  rw [hn] at hO ⊢
  rw [← words_eq]
  exact hO
theorem own_mono {w : World} {B B' : Nat} {v : Value} {zs : List Int} (h : Own w B v zs) (hB : B' ≤ B) : Own w B' v zs := by
  refine ⟨h.1, ?_⟩
  rcases h.2 with hn | ⟨g, cap, cur, hv, hg, hh, rest⟩
  · exact .inl hn
  · exact .inr ⟨g, cap, cur, hv, by omega, hh, rest⟩
theorem wst_size (s : ByteArray) : ∀ i, ∀ x ∈ (wst s i).1, x.1 < x.2 ∧ x.2 ≤ i
  | 0, x, h => by simp [wst] at h
  | i + 1, x, h => by
    have ih := wst_size s i
    unfold wst at h
    split at h
    · split at h
      · rename_i h1 h2
        rcases List.mem_append.1 h with h | h
        · have := ih x h; exact ⟨this.1, by omega⟩
        · simp at h; subst h; exact ⟨h2, by omega⟩
      · have := ih x h; exact ⟨this.1, by omega⟩
    · have := ih x h; exact ⟨this.1, by omega⟩
theorem wordsB_span {s x : ByteArray} (h : x ∈ wordsB s) : ∃ a b, a < b ∧ b ≤ s.size ∧ x = s.extract a b := by
  unfold wordsB wpc at h
  obtain ⟨y, hy, rfl⟩ := List.mem_map.1 h
  unfold wend at hy
  split at hy
  · rename_i h2
    rcases List.mem_append.1 hy with h | h
    · have := wst_size s _ y h; exact ⟨_, _, this.1, this.2, rfl⟩
    · simp at h; subst h; exact ⟨_, _, h2, Nat.le_refl _, rfl⟩
  · have := wst_size s _ y hy; exact ⟨_, _, this.1, this.2, rfl⟩
theorem wordsB_size {s x : ByteArray} (h : x ∈ wordsB s) : x.size ≤ s.size := by
  obtain ⟨a, b, h1, h2, rfl⟩ := wordsB_span h
  simp; omega
theorem wordsB_pos {s x : ByteArray} (h : x ∈ wordsB s) : 0 < x.size := by
  obtain ⟨a, b, h1, h2, rfl⟩ := wordsB_span h
  simp; omega
theorem wall_step {f : Fnt} {ws : List ByteArray} {j : Nat} {x : ByteArray} (h : Hid ((ws.take j).all (fun x => wAll f x x.size) = true)) (hx : ws[j]? = some x) (hw : wAll f x x.size = true) : Hid ((ws.take (j + 1)).all (fun x => wAll f x x.size) = true) := by
  show _ = _
  rw [stake_at hx, List.all_append, h.out]
  simp [hw]
theorem wstep {f : Fnt} {ws : List ByteArray} {j : Nat} {x : ByteArray} (hx : ws[j]? = some x) : (ws.take (j + 1)).map (wRes f) = (ws.take j).map (wRes f) ++ [wRes f x] := by
  rw [stake_at hx]; simp

set_option maxRecDepth 100000 in
set_option maxHeartbeats 1600000 in
theorem implWords_any (lo hi : Nat) (v : Value) (f : Fnt) (s : ByteArray) (w : World) (h : FontV w lo hi v f) (hhi : hi ≤ w.heap.size) (hsm : Small f) (hs : s.size ≤ 1048576) :
    Calls Try.prog 58 #[v, .string s] w fun e w' => ∃ u, e = .returned (.tuple #[u, .bool (wwB f s)]) ∧ Own w' w.heap.size u (wwL f s) ∧ Below w.heap.size w w' := by
  obtain ⟨A, d, A2, d2, hv, hrest⟩ := id h
  obtain ⟨p, hp⟩ : ∃ p, f.ws.length = p := ⟨_, rfl⟩
  obtain ⟨q, hq⟩ : ∃ p, f.cs.length = p := ⟨_, rfl⟩
  obtain ⟨t, ht⟩ : ∃ s, f.s = s := ⟨_, rfl⟩
  rw [hp, hq, ht] at hv
  have Ht := Lib.hid ht
  obtain ⟨w0, hw0, hb0, hz0, K0⟩ := mxWorld w #[.string t, .slice A p d, .slice A2 q d2] 25
  have HV := Lib.hid (h.below hhi hb0); have T0 := Lib.hid hb0; have HK0 := Lib.hid K0; have HSm := Lib.hid hsm
  rw [hv] at HV
  rw [hv]
  have z0 : w.heap.size < w0.heap.size := by omega
  have zt : t.size ≤ 1048576 := by have := hsm.1; rw [ht] at this; exact this
  clear h hv hrest hp hq ht hb0 hz0 K0 hsm
  have c0 : w0.cell? ⟨w.heap.size, 0, none⟩ = some (.string t) := cellOfBlk HK0.out 0
  have c1 : w0.cell? ⟨w.heap.size, 1, none⟩ = some (.slice A p d) := cellOfBlk HK0.out 1
  have c2 : w0.cell? ⟨w.heap.size, 2, none⟩ = some (.slice A2 q d2) := cellOfBlk HK0.out 2
  cases hf : fontB f
  · have HR := Lib.hid (wwB_font (s := s) hf); have HRL := Lib.hid (wwL_no (wwB_font (s := s) hf))
    have hf' := hf
    go_enter Try.func58, Try.ntmps58
    go_wp2_with fail
    clear hw0
    refine (implFontOk_any lo hi _ f _ HV.out (by omega) HSm.out).mono ?_
    rintro e w1 ⟨rfl, hb1⟩
    have HB := Lib.hid hb1; clear hb1
    go_wp2
    go_ret2
    exact ⟨_, by rw [HR.out]; rfl, by rw [HRL.out]; exact own_none _ _, T0.out.trans (HB.out.mono (by omega))⟩
  · have hLt := fontB_letters hf
    have HLT := Lib.hid (letters_all hLt)
    have Hf := Lib.hid hf
    clear hLt
    go_enter Try.func58, Try.ntmps58
    go_wp2_with fail
    clear hw0
    refine (implFontOk_any lo hi _ f _ HV.out (by omega) HSm.out).mono ?_
    rintro e w1 ⟨rfl, hb1⟩
    have HB1 := Lib.hid hb1; have HV1 := Lib.hid (HV.out.below (by omega) hb1); have HK1 := Lib.hid (HK0.out.below hb1 (by omega)); have z1 := hb1.size
    clear hb1
    clear c0 c1 c2
    have c0 : w1.cell? ⟨w.heap.size, 0, none⟩ = some (.string t) := cellOfBlk HK1.out 0
    go_wp2_with fail
    refine (keysOf_any t _ zt (by rw [← Ht.out]; exact HLT.out)).mono ?_
    rintro e w2 ⟨rfl, hown, hb2⟩
    have HB2 := Lib.hid hb2; have HV2 := Lib.hid (HV1.out.below (by omega) hb2); have HK2 := Lib.hid (HK1.out.below hb2 (by omega)); have z2 := hb2.size
    have HO2 := Lib.hid hown
    clear hb2 hown c0
    go_wp2_with fail
    refine (wordsOf_own s _ hs).mono ?_
    rintro e w3 ⟨vw, rfl, hOw, hb3⟩
    obtain ⟨Aw, cw, rfl, hIw, -, hcw, hcm⟩ := hOw.form
    have hwl := wordsB_len s
    obtain ⟨ws, hws⟩ : ∃ l, wordsB s = l := ⟨_, rfl⟩
    rw [hws] at hIw hwl hcw ⊢
    obtain ⟨n, hn⟩ : ∃ n, ws.length = n := ⟨_, rfl⟩
    rw [hn] at hwl hcw ⊢
    have Hn := Lib.hid hn; have Hws := Lib.hid hws
    have HT3 := Lib.hid (((T0.out.trans (HB1.out.mono (by omega))).trans (HB2.out.mono (by omega))).trans (hb3.mono (by omega)))
    have HV3 := Lib.hid (HV2.out.below (by omega) hb3); have HK3 := Lib.hid (HK2.out.below hb3 (by omega)); have z3 := hb3.size
    have HO3 := Lib.hid (ownsMap_below HO2.out hb3)
    have HI3 := Lib.hid hIw
    clear hb3 hOw hIw T0 HB1 HV HK0 HB2 HV1 HK1 HV2 HK2 HO2 hn hws hcw hcm
    go_wp2
    go_loopw [7, 21] (fun u i wr => ∃ j : Nat, j ≤ n ∧ i = .int .i64 j ∧ Own wr w3.heap.size u ((ws.take j).map (wRes f)) ∧ Hid ((ws.take j).all (fun x => wAll f x x.size) = true) ∧ Below w3.heap.size w3 wr) (fun _ i _ => n - (intOf i).toNat)
    case atStart => exact ⟨0, Nat.zero_le _, rfl, own_none _ _, rfl, Below.refl _ _⟩
    case round =>
      obtain ⟨j, hj, rfl, hO, hall, hb⟩ := hrel
      have HB := Lib.hid hb; have HO := Lib.hid hO
      have zr := hb.size
      have HVr := Lib.hid (HV3.out.below (by omega) hb); have HKr := Lib.hid (HK3.out.below hb (by omega)); have HIr := Lib.hid (HI3.out.below hb)
      have HOr := Lib.hid (ownsMap_below HO3.out hb)
      have hmj : ((ws.take j).map (wRes f)).length ≤ 1048576 := by simp; omega
      have Hmj := Lib.hid hmj
      have c0 : wr.cell? ⟨w.heap.size, 0, none⟩ = some (.string t) := cellOfBlk HKr.out 0
      have c1 : wr.cell? ⟨w.heap.size, 1, none⟩ = some (.slice A p d) := cellOfBlk HKr.out 1
      have c2 : wr.cell? ⟨w.heap.size, 2, none⟩ = some (.slice A2 q d2) := cellOfBlk HKr.out 2
      clear hb hO hmj
      by_cases hlt : j < n
      · obtain ⟨ad, x, rfl, hx, hcx⟩ := HIr.out.at_ (k := j) (by rw [Hn.out]; exact hlt)
        have hxs : x.size ≤ 1048576 := by
          have := smem_at hx.out
          rw [← Hws.out] at this
          have := wordsB_size this
          omega
        have HST := Lib.hid (wstep (f := f) hx.out)
        cases hwa : wAll f x x.size
        · have HZ := Lib.hid (wwB_word (s := s) (by rw [Hws.out]; exact smem_at hx.out) hwa)
          go_wp2_with fail
          refine (wordWidth_any lo hi _ _ f x _ HVr.out (by omega) Hf.out (by rw [Ht.out]; exact HOr.out) hxs).mono ?_
          rintro e w5 ⟨rfl, hb5⟩
          rw [hwa]
          have HB5 := Lib.hid hb5; clear hb5
          go_wp2
          go_ret2
          exact ⟨_, by rw [HZ.out]; rfl, by rw [wwL_no HZ.out]; exact own_none _ _, HT3.out.trans ((HB.out.mono (by omega)).trans (HB5.out.mono (by omega)))⟩
        · go_wp2_with fail
          refine (wordWidth_any lo hi _ _ f x _ HVr.out (by omega) Hf.out (by rw [Ht.out]; exact HOr.out) hxs).mono ?_
          rintro e w5 ⟨rfl, hb5⟩
          rw [hwa]
          have HB5 := Lib.hid (HB.out.trans (hb5.mono zr)); have HO5 := Lib.hid (HO.out.below hb5); have z5 := hb5.size
          have hz5 : w3.heap.size ≤ w5.heap.size := by omega
          clear hb5
          go_wp2_with (at_builtin; refine wpl_push2 _ rfl (.tmp 34) (.tmp 36) rfl w3.heap.size u7 _ (wRes f x) rfl rfl HO5.out hz5 Hmj.out ?_; intro v6 w6 hO6 hg6 hv6; have HO6 := Lib.hid hO6; have HG6 := Lib.hid hg6; clear hO6 hg6 hv6)
          have HB6 := Lib.hid (HB5.out.grown HG6.out hz5 (fun k hk => (World.ownsRow.lt HO5.out k hk).1))
          go_roundw
          case rel => exact ⟨j + 1, by omega, by go_num, by rw [HST.out]; exact HO6.out, wall_step hall hx.out hwa, HB6.out⟩
          case measure => simp [intOf]; omega
      · have hjn : j = n := by omega
        subst hjn
        have HA : Hid (ws.take j = ws) := stake_all Hn.out
        obtain ⟨Au, cu, rfl, hIu, -, hcu, hcm⟩ := HO.out.form
        have hlen : ((ws.take j).map (wRes f)).length = j := by rw [HA.out, List.length_map, Hn.out]
        have HIu := Lib.hid hIu
        have HL := Lib.hid hlen
        rw [hlen]
        have hjm : j ≤ maxLen := by unfold maxLen; omega
        have HOu := HO
        clear hIu hcu hcm hlen
        have HAl : Hid (ws.all (fun x => wAll f x x.size) = true) := by show _ = _; rw [← HA.out]; exact hall.out
        cases htx : textB ((ws.take j).map (wRes f))
        · have HZ : Hid (wwB f s = false) := wwB_text (by rw [Hws.out, ← HA.out]; exact htx)
          go_wp2_with fail
          refine (implTextOk_any _ _ _ _ _ HL.out hjm HIu.out).mono ?_
          rintro e w5 ⟨rfl, rfl⟩
          rw [htx]
          go_wp2
          go_ret2
          exact ⟨_, by rw [HZ.out]; rfl, by rw [wwL_no HZ.out]; exact own_none _ _, HT3.out.trans (HB.out.mono (by omega))⟩
        · have HZ : Hid (wwB f s = true) := wwB_all Hf.out (by rw [Hws.out]; exact HAl.out) (by rw [Hws.out, ← HA.out]; exact htx)
          go_wp2_with fail
          refine (implTextOk_any _ _ _ _ _ HL.out hjm HIu.out).mono ?_
          rintro e w5 ⟨rfl, rfl⟩
          rw [htx]
          go_wp2
          go_ret2
          refine ⟨_, by rw [HZ.out]; rfl, ?_, HT3.out.trans (HB.out.mono (by omega))⟩
          rw [wwL_yes HZ.out, Hws.out, ← HA.out]
          have h := HO.out
          rw [HL.out] at h
          exact own_mono h (by omega)
end Go.Proofs.Ythoepelgmplcmaa
