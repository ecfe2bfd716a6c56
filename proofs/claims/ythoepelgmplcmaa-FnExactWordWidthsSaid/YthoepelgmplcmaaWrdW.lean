/-
  The width of a word, by the program: wordWidth by contract. Conditions: a font that is one; a word of at most 2^20 bytes.
-/
import Derived.Test.YthoepelgmplcmaaWrdM
import Derived.Test.YthoepelgmplcmaaFontI
import Derived.Test.YthoepelgmplcmaaPkA
import Derived.Test.YthoepelgmplcmaaMchI
namespace Go.Proofs.Ythoepelgmplcmaa
open Go.RowKit Go.Maps
set_option linter.unusedVariables false

/-- what byte i of the word adds to its width -/
def wAdd (f : Fnt) (s : ByteArray) (i : Nat) : Int := f.ws.getD (keyI f (byt s i)).toNat 0
def wSum (f : Fnt) (s : ByteArray) : Nat → Int
  | 0 => 0
  | k + 1 => wSum f s k + wAdd f s k
def wHas (f : Fnt) (s : ByteArray) (i : Nat) : Bool := decide (0 ≤ keyI f (byt s i))
def wAll (f : Fnt) (s : ByteArray) (k : Nat) : Bool := (List.range k).all (wHas f s)
def wRes (f : Fnt) (s : ByteArray) : Int := if wAll f s s.size = true then wSum f s s.size else 0
theorem wAll_succ {f : Fnt} {s : ByteArray} {k : Nat} (h : wAll f s k = true) (h1 : wHas f s k = true) : wAll f s (k + 1) = true := by
  unfold wAll at *
  rw [List.range_succ, List.all_append, h]; simp [h1]
theorem wAll_bad {f : Fnt} {s : ByteArray} {n k : Nat} (hk : k < n) (h : wHas f s k = false) : wAll f s n = false := by
  unfold wAll
  rw [List.all_eq_false]
  exact ⟨k, List.mem_range.2 hk, by simp [h]⟩
theorem wAll_at {f : Fnt} {s : ByteArray} {n k : Nat} (h : wAll f s n = true) (hk : k < n) : wHas f s k = true := by
  unfold wAll at h
  exact List.all_eq_true.1 h k (List.mem_range.2 hk)
theorem fontB_ws {f : Fnt} (h : fontB f = true) : f.ws.length = f.s.size ∧ f.s.size ≤ 40 ∧ ∀ k, k < f.s.size → 1 ≤ f.ws.getD k 0 ∧ f.ws.getD k 0 ≤ 60 := by
  unfold fontB at h
  simp only [Bool.and_eq_true, beq_iff_eq] at h
  obtain ⟨h1, h2, h3, h4, h5⟩ := h
  have := sortsAll_len h1
  refine ⟨by omega, by omega, fun k hk => ?_⟩
  have hk' : k < f.ws.length := by omega
  unfold widthsB at h5
  have h6 := List.all_eq_true.1 h5 _ (List.getElem_mem hk')
  have h7 := (inB_iff _ _ _).1 h6
  simpa [List.getD, hk'] using h7
theorem key_range {f : Fnt} (h : fontB f = true) (x : Int) : keyI f x = -1 ∨ ∃ k : Nat, k < f.s.size ∧ keyI f x = (k : Int) := by
  rw [keyI_good h]
  unfold keyTo
  split
  · rename_i i hi
    exact .inr ⟨i, List.mem_range.1 (List.mem_of_find?_eq_some hi), rfl⟩
  · exact .inl rfl
theorem wAdd_le {f : Fnt} (h : fontB f = true) (s : ByteArray) (i : Nat) : 0 ≤ wAdd f s i ∧ wAdd f s i ≤ 60 ∧ (wHas f s i = true → 1 ≤ wAdd f s i) := by
  obtain ⟨h1, h2, h3⟩ := fontB_ws h
  unfold wAdd wHas
  rcases key_range h (byt s i) with e | ⟨k, hk, e⟩
  · rw [e]
    have hz : f.ws.getD (-1 : Int).toNat 0 = f.ws.getD 0 0 := rfl
    rw [hz]
    refine ⟨?_, ?_, fun h => by simp at h⟩
    · rcases Nat.eq_zero_or_pos f.s.size with h0 | h0
      · have : f.ws = [] := List.eq_nil_of_length_eq_zero (by omega)
        rw [this]; simp
      · have := h3 0 h0; omega
    · rcases Nat.eq_zero_or_pos f.s.size with h0 | h0
      · have : f.ws = [] := List.eq_nil_of_length_eq_zero (by omega)
        rw [this]; simp
      · have := h3 0 h0; omega
  · rw [e, Int.toNat_natCast]
    have := h3 k hk
    exact ⟨by omega, by omega, fun _ => by omega⟩
theorem wSum_le {f : Fnt} (h : fontB f = true) (s : ByteArray) : ∀ k, 0 ≤ wSum f s k ∧ wSum f s k ≤ 60 * k
  | 0 => ⟨Int.le_refl _, by simp [wSum]⟩
  | k + 1 => by
    have h1 := wSum_le h s k
    have h2 := wAdd_le h s k
    unfold wSum
    exact ⟨by omega, by omega⟩

/-- what the map of the keys says of any letter -/
theorem key_any {s : ByteArray} (hl : lettersB s = true) (b : Nat) :
    (Maps.has (keysD s s.size) (.int .i32 (b : Int)) = true → ∃ k : Nat, k < s.size ∧ keyTo s (b : Int) s.size = k ∧ ∀ c : Int, (keysD s s.size).atKey (.int .i32 (b : Int)) (.lit (.int .i64 0)) = .lit (.int .i64 c) → c = k) ∧
    (Maps.has (keysD s s.size) (.int .i32 (b : Int)) = false → keyTo s (b : Int) s.size = -1) := by
  rw [keysD_has]
  constructor
  · intro h
    rw [List.any_eq_true] at h
    obtain ⟨k, hk, hb⟩ := h
    rw [List.mem_range] at hk
    have hb : byt s k = b := by simpa using hb
    subst hb
    have hu := fun j hj e => lettersB_dist hl j k hj hk e
    refine ⟨k, hk, keyTo_hit hk rfl (fun j hj e => by have := hu j (by omega) (by omega); omega), fun c hc => ?_⟩
    rw [keysD_at hk hu] at hc
    injection hc with hc
    injection hc with _ hc
    exact hc.symm
  · intro h
    rw [List.any_eq_false] at h
    exact keyTo_none (fun j hj e => h j (List.mem_range.2 hj) (by simp; omega))

/-- the next rune of any string -/
theorem next_any {P : Program} (w : World) (g : Nat) (s : ByteArray) (pos : Nat) (ty : TypeId) (hit : w.heap[g]? = some (.stringIter s pos)) (h : pos < s.size) (r n : Nat) (hd : Utf8.decode s pos = (r, n)) :
    (Instr.next (.pointer (some ⟨g, 0, none⟩)) true ty).run P w = .ok (.tuple #[.bool true, .int .i64 pos, .int .i32 r]) (itSet w g s (pos + n)) := by
  simp only [Instr.next, getObj, setObj, Sem.run_bind, Sem.run, hit, Result.andThen, h, if_true, hd]
  simp [goInt, itSet]
/-- a byte beyond ASCII begins a rune beyond it -/
theorem dec_high (s : ByteArray) (i : Nat) (h : i < s.size) (hb : 128 ≤ byt s i) : ∃ r n, Utf8.decode s i = (r, n) ∧ 128 ≤ r ∧ r ≤ 1114111 := by
  refine ⟨(Utf8.decode s i).1, (Utf8.decode s i).2, rfl, ?_, Lib.rune_le s i⟩
  rw [Lib.decode_at, byt_get s i h]
  unfold Lib.decodeN
  repeat' split
  all_goals (simp only; omega)
theorem ownsMap_below {w w' : World} {n b : Nat} {D : DataW Unit} (h : w.ownsMap Try.prog 21 (plainElem (H := Unit) Try.prog 3) b n D) (hb : Below w.heap.size w w') : w'.ownsMap Try.prog 21 (plainElem (H := Unit) Try.prog 3) b n D := by
  have hlt := h.lt
  obtain ⟨es, clock, hm, F, hs, hD⟩ := h
  exact ⟨es, clock, (hb.block b hlt).trans hm, F, hs, hD⟩

set_option maxRecDepth 100000 in
set_option maxHeartbeats 1600000 in
theorem wordWidth_any (lo hi B : Nat) (v : Value) (f : Fnt) (s : ByteArray) (w : World) (h : FontV w lo hi v f) (hhi : hi ≤ w.heap.size) (hf : fontB f = true)
    (hown : w.ownsMap Try.prog 21 (plainElem (H := Unit) Try.prog 3) B f.s.size (keysD f.s f.s.size)) (hs : s.size ≤ 1048576) :
    Calls Try.prog 138 #[v, .map (some B), .string s] w fun e w' => e = .returned (.tuple #[.int .i64 (wRes f s), .bool (wAll f s s.size)]) ∧ Below w.heap.size w w' := by
  obtain ⟨A, d, A2, d2, rfl, hI1, hI2, hc1, hc2, hd1, hd2, -⟩ := h
  have HKA := Lib.hid (key_any (fontB_letters hf)); have HG := Lib.hid (fun x => keyI_good (x := x) hf); have HKI := Lib.hid (fontB_ws hf); have HSL := Lib.hid (wSum_le hf s); have HAL := Lib.hid (wAdd_le hf s)
  obtain ⟨p, hp⟩ : ∃ p, f.ws.length = p := ⟨_, rfl⟩
  obtain ⟨q, hq⟩ : ∃ p, f.cs.length = p := ⟨_, rfl⟩
  obtain ⟨t, ht⟩ : ∃ s, f.s = s := ⟨_, rfl⟩
  rw [hp] at HKI
  rw [ht] at hown HKA HG HKI
  rw [hp, hq, ht]
  obtain ⟨w0, hw0, hb0, hz0, K0⟩ := mxWorld w #[.string t, .slice A p d, .slice A2 q d2] 25
  have HO := Lib.hid (ownsMap_below hown hb0); have HI := Lib.hid (hI1.below hhi hb0); have T0 := Lib.hid hb0; have HK0 := Lib.hid K0
  have z0 : w.heap.size < w0.heap.size := by omega
  have Hp := Lib.hid hp; have HTs := Lib.hid ht; have HLT : Hid (lettersB t = true) := by show _ = _; rw [← ht]; exact fontB_letters hf
  clear hI1 hI2 hc1 hc2 hd1 hd2 hp hq ht hown hb0 hz0 hf K0
  go_enter Try.func138, Try.ntmps138
  go_wp2
  clear hw0
  have H0 := Lib.hid (World.iter_heap w0 s 0)
  have HB0 := Lib.hid ((Below.refl w0.heap.size w0).alloc (Nat.le_refl _) (.stringIter s 0))
  go_loopw [8] (fun u wr => ∃ k : Nat, k ≤ s.size ∧ u = .int .i64 (wSum f s k) ∧ Hid (wAll f s k = true) ∧ wr.heap[w0.heap.size]? = some (.stringIter s k) ∧ Below w0.heap.size w0 wr) (fun _ wr => s.size - wr.iterPos w0.heap.size)
  case atStart => exact ⟨0, Nat.zero_le _, rfl, rfl, by simpa using H0.out, HB0.out⟩
  case round =>
    clear H0 HB0
    obtain ⟨k, hk, rfl, hall, hit, hb⟩ := hrel
    have Hit := Lib.hid hit
    by_cases hlt : k < s.size
    · by_cases hc : byt s k < 128
      · have hc2 : (s[k]'hlt).toNat < 128 := by rw [← byt_eq hlt]; exact hc
        have hnx := fun ty => next_at (P := Try.prog) wr w0.heap.size s k ty hit hlt hc2
        obtain ⟨b, hbb⟩ : ∃ b, (s[k]'hlt).toNat = b := ⟨_, rfl⟩
        have Hbb : Hid (byt s k = b) := by show _ = _; rw [byt_eq hlt, hbb]
        rw [hbb] at hnx hc2
        have hkey : keyOf Try.prog 21 (.int .i32 (b : Int)) = some (.int .i32 (b : Int)) := keyOf_int_mk Try.underlying21 (i32_wf hc2)
        have HB2 := Lib.hid (hb.grown (itSet_grown wr w0.heap.size (k + 1) s) hb.size (fun j hj => by cases hj; omega))
        have hown2 := ownsMap_below HO.out HB2.out
        have HI2 := Lib.hid (HI.out.below (by omega) HB2.out); have HK2 := Lib.hid (HK0.out.below HB2.out (by omega))
        have Hi2 := Lib.hid (itSet_heap (p' := k + 1) hit)
        have hka := HKA.out b
        have q1 : (itSet wr w0.heap.size s (k + 1)).cell? ⟨w.heap.size, 1, none⟩ = some (.slice A p d) := cellOfBlk HK2.out 1
        clear hb hc hit hc2 hbb
        cases hh : Maps.has (keysD t t.size) (.int .i32 (b : Int))
        · have hno0 : keyTo t (b : Int) t.size = -1 := hka.2 hh
          clear hka
          have HF : Hid (wHas f s k = false) := by
            show _ = _
            unfold wHas
            rw [Hbb.out, HG.out, hno0]
            decide
          clear hno0
          have HZ : Hid (wAll f s s.size = false ∧ wRes f s = 0) := by
            have e := wAll_bad hlt HF.out
            exact ⟨e, by unfold wRes; rw [e]; rfl⟩
          clear HF
          go_wp2_with (at_lookup; refine wpList_lookup_own_ok_int _ rfl _ _ 119 rfl 21 3 .i64 keyLaw Try.underlying119 Try.underlying3 (zeroInt _) _ _ _ rfl hown2 _ _ rfl hkey ?_; intro c hat hwc; clear hat hwc)
          go_ret2
          exact ⟨by rw [HZ.out.1, HZ.out.2]; rfl, T0.out.trans (HB2.out.mono (by omega))⟩
        · obtain ⟨j, hj, hkt, hcs⟩ := hka.1 hh
          clear hka
          have e1 : keyI f (byt s k) = (j : Int) := by rw [Hbb.out, HG.out]; exact hkt
          obtain ⟨ad, x, rfl, hx, hcx⟩ := HI2.out.ints.at_ (k := j) (by rw [Hp.out, HKI.out.1]; exact hj)
          have hjp : j < p := by rw [HKI.out.1]; exact hj
          have hxw : wAdd f s k = x := by unfold wAdd; rw [e1, Int.toNat_natCast, getD_at hx.out]
          have HH : Hid (wAll f s (k + 1) = true) := wAll_succ hall.out (by unfold wHas; rw [e1]; simp)
          have hS1 := HSL.out k
          have hA1 := HAL.out k
          obtain ⟨S, hS⟩ : ∃ S, wSum f s k = S := ⟨_, rfl⟩
          have HS : Hid (wSum f s (k + 1) = S + x) := by show _ = _; unfold wSum; rw [hS, hxw]
          rw [hS] at hS1
          rw [hxw] at hA1
          rw [hS]
          have b1 : 0 ≤ S := hS1.1
          have b2 : S ≤ 62914560 := by omega
          have b3 : 0 ≤ x := hA1.1
          have b4 : x ≤ 60 := hA1.2.1
          have hno := Lib.hid hh
          clear hkt e1 hx hxw hS1 hA1 hS hall
          go_wp2_with (at_lookup; refine wpList_lookup_own_ok_int _ rfl _ _ 119 rfl 21 3 .i64 keyLaw Try.underlying119 Try.underlying3 (zeroInt _) _ _ _ rfl hown2 _ _ rfl hkey ?_; intro c hat hwc; obtain rfl := hcs c hat; rw [hno.out]; clear hat hwc)
          go_roundw
          case rel => exact ⟨k + 1, by omega, by rw [HS.out], HH, Hi2.out, HB2.out⟩
          case measure =>
            have e1 : (itSet wr w0.heap.size s (k + 1)).iterPos w0.heap.size = k + 1 := by unfold World.iterPos; rw [Hi2.out]
            have e2 : wr.iterPos w0.heap.size = k := by unfold World.iterPos; rw [Hit.out]
            rw [e1, e2]; omega
      · obtain ⟨r, n, hd, hr1, hr2⟩ := dec_high s k hlt (by omega)
        have hnx := fun ty => next_any (P := Try.prog) wr w0.heap.size s k ty hit hlt r n hd
        have hkey : keyOf Try.prog 21 (.int .i32 (r : Int)) = some (.int .i32 (r : Int)) := keyOf_int_mk Try.underlying21 (WalkArith.wf_i32 ⟨by omega, by omega⟩)
        have HB2 := Lib.hid (hb.grown (itSet_grown wr w0.heap.size (k + n) s) hb.size (fun j hj => by cases hj; omega))
        have hown2 := ownsMap_below HO.out HB2.out
        have hh : Maps.has (keysD t t.size) (.int .i32 (r : Int)) = false := by
          cases hh : Maps.has (keysD t t.size) (.int .i32 (r : Int))
          · rfl
          · obtain ⟨j, hj, hkt, -⟩ := (HKA.out r).1 hh
            have h1 := keyTo_out (HLT.out) (x := (r : Int)) (.inr (by omega))
            rw [h1] at hkt; omega
        have HF : Hid (wHas f s k = false) := by
          show _ = _
          unfold wHas
          rw [HG.out, keyTo_out HLT.out (.inr (by omega))]
          decide
        have HZ : Hid (wAll f s s.size = false ∧ wRes f s = 0) := by
          have e := wAll_bad hlt HF.out
          exact ⟨e, by unfold wRes; rw [e]; rfl⟩
        clear HF hb hc hit hd hr1 hr2
        go_wp2_with (at_lookup; refine wpList_lookup_own_ok_int _ rfl _ _ 119 rfl 21 3 .i64 keyLaw Try.underlying119 Try.underlying3 (zeroInt _) _ _ _ rfl hown2 _ _ rfl hkey ?_; intro c hat hwc; rw [hh]; clear hat hwc)
        go_ret2
        exact ⟨by rw [HZ.out.1, HZ.out.2]; rfl, T0.out.trans (HB2.out.mono (by omega))⟩
    · have hkn : k = s.size := by omega
      subst hkn
      have hnx := fun ty => next_end (P := Try.prog) wr w0.heap.size s s.size ty hit (by omega)
      have HZ : Hid (wRes f s = wSum f s s.size) := by show _ = _; unfold wRes; rw [if_pos hall.out]
      go_wp2
      go_ret2
      exact ⟨by rw [HZ.out, hall.out]; rfl, T0.out.trans (hb.mono (by omega))⟩
end Go.Proofs.Ythoepelgmplcmaa
