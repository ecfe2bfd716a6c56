/-
  FontOk of the program and KeyOf of both by contract. Condition: lengths of at most 2^20.
-/
import Derived.Test.YthoepelgmplcmaaKeys
namespace Go.Proofs.Ythoepelgmplcmaa
open Go.RowKit Go.Maps
set_option linter.unusedVariables false

theorem fontWidth_enter (args : Array Value) (w : World) : Sem.run Try.prog (callFunc 160 args) w = .ok (.enter 160 args) w := by kernel_rfl
theorem fontB_chain {f : Fnt} {a b : Bool} (ha : (f.s.size == f.cs.length) = a) (hb : (f.ws.length == f.cs.length) = b) : fontB f = (sortsAll f.cs && (a && (b && (lettersB f.s && widthsB f.ws)))) := by
  unfold fontB; rw [ha, hb]
set_option maxHeartbeats 1600000 in
theorem implFontOk_any (lo hi : Nat) (v : Value) (f : Fnt) (w : World) (h : FontV w lo hi v f) (hhi : hi ≤ w.heap.size) (hs : Small f) :
    Calls Try.prog 95 #[v] w fun e w' => e = .returned (.bool (fontB f)) ∧ Below w.heap.size w w' := by
  obtain ⟨A, c, A2, d, rfl, hI1, hI2, hc1, hc2, hd1, hd2, hss⟩ := h
  obtain ⟨s, ws, cs⟩ := f
  obtain ⟨hs1, hs2, hs3⟩ := hs
  simp only at *
  obtain ⟨n, hn⟩ : ∃ n, ws.length = n := ⟨_, rfl⟩
  obtain ⟨m, hm⟩ : ∃ m, cs.length = m := ⟨_, rfl⟩
  have Hn := Lib.hid hn; have Hm := Lib.hid hm
  rw [hn] at hs2
  rw [hm] at hs3
  have hm0 : m ≤ maxLen := by unfold maxLen; omega
  have hW : Below w.heap.size w (w.alloc (.cells #[.string s, .slice A n c, .slice A2 m d] 25)) := (Below.refl _ _).alloc (Nat.le_refl _) _
  have G1 := Lib.hid (hI1.below hhi hW); have G2 := Lib.hid (hI2.below hhi hW)
  have HW := Lib.hid hW
  have HC : ∀ a b : Bool, (s.size == m) = a → (n == m) = b → Hid (fontB ⟨s, ws, cs⟩ = (sortsAll cs && (a && (b && (lettersB s && widthsB ws))))) := fun a b ha hb =>
    fontB_chain (f := ⟨s, ws, cs⟩) (by simp only; rw [hm]; exact ha) (by simp only; rw [hn, hm]; exact hb)
  rw [hn, hm]
  clear hI1 hI2 hc1 hc2 hd1 hd2 hss hW hn hm
  cases h1 : sortsAll cs
  · have Hf := HC _ _ rfl rfl
    have HF : Hid (fontB ⟨s, ws, cs⟩ = false) := by show _ = _; rw [Hf.out, h1]; rfl
    clear HC Hf
    go_enter Try.func95, Try.ntmps95
    go_wp2_with (go_at_call 157; refine (implSortsAll_any _ _ _ cs _ Hm.out hm0 G2.out.ints).mono ?_; rintro e w' ⟨rfl, rfl⟩; rw [h1])
    go_ret
    exact ⟨ret_bool HF.out.symm, HW.out⟩
  by_cases h2 : s.size = m
  · have t2 : ((s.size : Int) == (m : Int)) = true := by rw [beq_iff_eq]; omega
    have Hf := HC true _ (by rw [beq_iff_eq]; exact h2) rfl
    cases h4 : lettersB s
    · have HF : Hid (fontB ⟨s, ws, cs⟩ = false) := by show _ = _; rw [Hf.out, h1, h4]; simp
      clear HC Hf h2
      go_enter Try.func95, Try.ntmps95
      go_wp2_with (first
        | (go_at_call 157; refine (implSortsAll_any _ _ _ cs _ Hm.out hm0 G2.out.ints).mono ?_; rintro e w' ⟨rfl, rfl⟩; rw [h1])
        | (go_at_call 158; refine (areLetters_any s _ hs1).mono ?_; rintro e w1 ⟨rfl, hb1⟩; rw [h4]; have HB1 := Lib.hid hb1; clear hb1))
      go_ret
      exact ⟨ret_bool HF.out.symm, HW.out.trans (HB1.out.mono (by simp))⟩
    · have HF : Hid ((inB n m m && ws.all (fun x => inB x 1 60)) = fontB ⟨s, ws, cs⟩) := by
        show _ = _
        rw [Hf.out, h1, h4]
        show (inB n m m && widthsB ws) = _
        by_cases h3 : n = m
        · subst h3; simp [inB]
        · have e1 : inB n m m = false := by unfold inB; rw [decide_eq_false_iff_not]; omega
          have e2 : (n == m) = false := by rw [beq_eq_false_iff_ne]; exact h3
          rw [e1, e2]; rfl
      clear HC Hf h2
      go_enter Try.func95, Try.ntmps95
      go_wp2_with (first
        | (go_at_call 157; refine (implSortsAll_any _ _ _ cs _ Hm.out hm0 G2.out.ints).mono ?_; rintro e w' ⟨rfl, rfl⟩; rw [h1])
        | (go_at_call 158; refine (areLetters_any s _ hs1).mono ?_; rintro e w1 ⟨rfl, hb1⟩; rw [h4]; have HB1 := Lib.hid hb1; have HI1 := Lib.hid ((G1.out.below (B := w.heap.size + 1) (by omega) (hb1.mono (by simp))).ints); have k1 : w1.cell? ⟨w.heap.size, 1, none⟩ = some (.slice A n c) := (hb1.cell (p := ⟨w.heap.size, 1, none⟩) (by simp)).trans (by rw [World.cell?_alloc_at _ _ _ _ rfl]; rfl); clear hb1)
        | (go_at_call 159; refine (isListOf_any 160 fontWidth_enter (fun x => inB x 1 60) isWidth_any _ _ _ ws _ _ _ Hn.out (by unfold maxLen; omega) HI1.out).mono ?_; rintro e w' ⟨rfl, rfl⟩))
      go_ret
      exact ⟨ret_bool HF.out, HW.out.trans (HB1.out.mono (by simp))⟩
  · have t2 : ((s.size : Int) == (m : Int)) = false := by rw [beq_eq_false_iff_ne]; omega
    have Hf := HC false _ (by rw [beq_eq_false_iff_ne]; exact h2) rfl
    have HF : Hid (fontB ⟨s, ws, cs⟩ = false) := by show _ = _; rw [Hf.out, h1]; rfl
    clear HC Hf h2
    go_enter Try.func95, Try.ntmps95
    go_wp2_with (go_at_call 157; refine (implSortsAll_any _ _ _ cs _ Hm.out hm0 G2.out.ints).mono ?_; rintro e w' ⟨rfl, rfl⟩; rw [h1])
    go_ret
    exact ⟨ret_bool HF.out.symm, HW.out⟩

theorem wrap64_byte (b : UInt8) : wrap64 (b.toNat : Int) = (b.toNat : Int) := by
  rw [show wrap64 (b.toNat : Int) = IntKind.i64.wrap (b.toNat : Int) from by unfold wrap64; exact (IntKind.wrap_i64 _).symm]
  have := UInt8.toNat_lt b
  exact wrap_small _ (by omega) (by omega)
/-- the place of a letter, -1 if there is none: of letters below n -/
def keyTo (s : ByteArray) (x : Int) (n : Nat) : Int := match (List.range n).find? (fun i => (byt s i : Int) == x) with | some i => i | none => -1
def keyI (f : Fnt) (x : Int) : Int := if fontB f = true then keyTo f.s x f.s.size else -1
theorem keyTo_hit {s : ByteArray} {x : Int} {n k : Nat} (hk : k < n) (h : (byt s k : Int) = x) (hno : ∀ j, j < k → (byt s j : Int) ≠ x) : keyTo s x n = k := by
  unfold keyTo
  have : (List.range n).find? (fun i => (byt s i : Int) == x) = some k := by
    rw [List.find?_range_eq_some]
    exact ⟨by rw [h]; simp, List.mem_range.2 hk, fun j hj => by have := hno j hj; simp [this]⟩
  rw [this]
theorem keyTo_none {s : ByteArray} {x : Int} {n : Nat} (hno : ∀ j, j < n → (byt s j : Int) ≠ x) : keyTo s x n = -1 := by
  unfold keyTo
  have : (List.range n).find? (fun i => (byt s i : Int) == x) = none := by
    rw [List.find?_eq_none]
    intro j hj
    have := hno j (List.mem_range.1 hj)
    simpa using this
  rw [this]
theorem keyI_good {f : Fnt} {x : Int} (h : fontB f = true) : keyI f x = keyTo f.s x f.s.size := by unfold keyI; rw [if_pos h]
theorem keyI_bad {f : Fnt} {x : Int} (h : fontB f = false) : keyI f x = -1 := by unfold keyI; rw [h]; rfl

set_option maxHeartbeats 1600000 in
theorem specKeyOf_any (lo hi : Nat) (v : Value) (f : Fnt) (x : Int) (w : World) (h : FontV w lo hi v f) (hhi : hi ≤ w.heap.size) (hs : Small f) :
    Calls Try.prog 136 #[v, .int .i64 x] w fun e w' => e = .returned (.int .i64 (keyI f x)) ∧ Below w.heap.size w w' := by
  obtain ⟨A, c, A2, d, hv, hrest⟩ := id h
  have hsz := hs.1
  obtain ⟨s, hs0⟩ : ∃ s, f.s = s := ⟨_, rfl⟩
  obtain ⟨n, hn⟩ : ∃ n, f.ws.length = n := ⟨_, rfl⟩
  obtain ⟨m, hm⟩ : ∃ m, f.cs.length = m := ⟨_, rfl⟩
  rw [hs0, hn, hm] at hv
  rw [hs0] at hsz
  have hW : Below w.heap.size w (w.alloc (.cells #[.string s, .slice A n c, .slice A2 m d] 25)) := (Below.refl _ _).alloc (Nat.le_refl _) _
  have HV := Lib.hid (h.below hhi hW)
  have HW := Lib.hid hW
  rw [hv] at HV
  rw [hv]
  have Hs0 := Lib.hid hs0
  have HS := Lib.hid hs
  clear hrest hv hs0 hn hm h hW hs
  cases hf : fontB f
  · have HK := Lib.hid (keyI_bad (x := x) hf)
    go_enter Try.func136, Try.ntmps136
    go_wp2_with (go_at_call 26; refine (specFontOk_any lo hi _ f _ HV.out (by simp; omega) HS.out).mono ?_; rintro e w1 ⟨rfl, hb1⟩; have HB := Lib.hid hb1; clear hb1)
    go_ret
    exact ⟨ret_int HK.out.symm, HW.out.trans (HB.out.mono (by simp))⟩
  · have HK := Lib.hid (keyI_good (x := x) hf)
    rw [Hs0.out] at HK
    go_enter Try.func136, Try.ntmps136
    go_wp2_with (go_at_call 26; refine (specFontOk_any lo hi _ f _ HV.out (by simp; omega) HS.out).mono ?_; rintro e w1 ⟨rfl, hb1⟩; have HB := Lib.hid hb1; have k0 : w1.cell? ⟨w.heap.size, 0, none⟩ = some (.string s) := (hb1.cell (p := ⟨w.heap.size, 0, none⟩) (by simp)).trans (by rw [World.cell?_alloc_at _ _ _ _ rfl]; rfl); clear hb1)
    go_loop [5] (fun i => ∃ k : Nat, k ≤ s.size ∧ i = .int .i64 k ∧ ∀ j, j < k → (byt s j : Int) ≠ x) (fun i => s.size - (intOf i).toNat)
    case atStart => exact ⟨0, Nat.zero_le _, rfl, fun j hj => absurd hj (by omega)⟩
    case round =>
      obtain ⟨k, hk, rfl, hno⟩ := hrel
      have Hno := Lib.hid hno; clear hno
      by_cases hlt : k < s.size
      · have hb8 := Lib.hid (byt_eq hlt)
        by_cases he : ((s[k]'hlt).toNat : Int) = x
        · have HR := Lib.hid (keyTo_hit (s := s) (x := x) hlt (by rw [hb8.out]; exact he) Hno.out)
          have t1 : (wrap64 ((s[k]'hlt).toNat : Int) == x) = true := by rw [wrap64_byte, beq_iff_eq]; exact he
          clear he
          go_wp2
          go_ret
          exact ⟨ret_int (by rw [HK.out, HR.out]), HW.out.trans (HB.out.mono (by simp))⟩
        · have HN : Hid (∀ j, j < k + 1 → (byt s j : Int) ≠ x) := fun j hj => by
            by_cases e : j = k
            · subst e; rw [hb8.out]; exact he
            · exact Hno.out j (by omega)
          have t1 : (wrap64 ((s[k]'hlt).toNat : Int) == x) = false := by rw [wrap64_byte, beq_eq_false_iff_ne]; exact he
          clear he
          go_wp2
          go_round
          case rel => exact ⟨k + 1, by omega, by go_num, HN.out⟩
          case measure => simp [intOf]; omega
      · have hkn : k = s.size := by omega
        subst hkn
        have HR := Lib.hid (keyTo_none (s := s) (x := x) Hno.out)
        go_wp2
        go_ret
        exact ⟨ret_int (by rw [HK.out, HR.out]), HW.out.trans (HB.out.mono (by simp))⟩

/-- what the map of the keys says -/
theorem keysD_at {s : ByteArray} {k n : Nat} (hk : k < n) (hd : ∀ j, j < n → byt s j = byt s k → j = k) (z : DataW Unit) : (keysD s n).atKey (.int .i32 (byt s k : Int)) z = .lit (.int .i64 k) := by
  induction n with
  | zero => omega
  | succ n ih =>
    show ((keysD s n).put _ _).atKey _ _ = _
    by_cases e : byt s n = byt s k
    · have := hd n (by omega) e
      subst this
      exact atKey_put_same (keysD_tidy s n).isMap (keyLit _) _ _
    · rw [atKey_put_other (by intro h; injection h with h1 h2; exact e (by omega))]
      exact ih (by
        by_cases ek : k = n
        · subst ek; exact absurd rfl e
        · omega) (fun j hj => hd j (by omega))
theorem lettersB_dist {s : ByteArray} (h : lettersB s = true) : ∀ i j, i < s.size → j < s.size → byt s i = byt s j → i = j := by
  unfold lettersB at h
  rw [Bool.and_eq_true] at h
  have hd := h.2
  rw [List.all_eq_true] at hd
  have key : ∀ i j, j < i → i < s.size → byt s i ≠ byt s j := fun i j hij hi => by
    have := hd i (List.mem_range.2 hi)
    unfold diffs at this
    rw [List.all_eq_true] at this
    simpa using this j (List.mem_range.2 hij)
  intro i j hi hj e
  rcases Nat.lt_trichotomy i j with hlt | heq | hgt
  · exact absurd e.symm (key j i hlt hj)
  · exact heq
  · exact absurd e (key i j hgt hi)
theorem fontB_letters {f : Fnt} (h : fontB f = true) : lettersB f.s = true := by
  unfold fontB at h
  simp only [Bool.and_eq_true] at h
  exact h.2.2.2.1
theorem letters_all {s : ByteArray} (h : lettersB s = true) : ∀ i, i < s.size → letOk s i = true := by
  unfold lettersB at h
  rw [Bool.and_eq_true, List.all_eq_true] at h
  exact fun i hi => h.1 i (List.mem_range.2 hi)
theorem key_has {s : ByteArray} (hl : lettersB s = true) {x : Int} (h0 : 33 ≤ x) (h1 : x ≤ 126) {c : Int} (hc : (keysD s s.size).atKey (.int .i32 x) (.lit (.int .i64 0)) = .lit (.int .i64 c)) :
    (Maps.has (keysD s s.size) (.int .i32 x) = true → keyTo s x s.size = c) ∧ (Maps.has (keysD s s.size) (.int .i32 x) = false → keyTo s x s.size = -1) := by
  obtain ⟨b, rfl⟩ := Int.eq_ofNat_of_zero_le (show 0 ≤ x by omega)
  rw [keysD_has]
  constructor
  · intro h
    rw [List.any_eq_true] at h
    obtain ⟨k, hk, hb⟩ := h
    rw [List.mem_range] at hk
    have hb : byt s k = b := by simpa using hb
    subst hb
    have hu := fun j hj e => lettersB_dist hl j k hj hk e
    rw [keysD_at hk hu] at hc
    injection hc with hc
    injection hc with _ hc
    rw [keyTo_hit hk rfl (fun j hj e => by have := hu j (by omega) (by omega); omega), hc]
  · intro h
    rw [List.any_eq_false] at h
    exact keyTo_none (fun j hj e => h j (List.mem_range.2 hj) (by simp; omega))
theorem keyTo_out {s : ByteArray} (hl : lettersB s = true) {x : Int} (hx : x < 33 ∨ 126 < x) : keyTo s x s.size = -1 := by
  refine keyTo_none fun j hj e => ?_
  have := letters_all hl j hj
  unfold letOk at this
  rw [decide_eq_true_eq] at this
  omega
theorem wrap32_small {x : Int} (h0 : 33 ≤ x) (h1 : x ≤ 126) : wrap32 x = x := by
  unfold wrap32
  omega

set_option maxRecDepth 100000 in
set_option maxHeartbeats 1600000 in
theorem implKeyOf_any (lo hi : Nat) (v : Value) (f : Fnt) (x : Int) (w : World) (h : FontV w lo hi v f) (hhi : hi ≤ w.heap.size) (hs : Small f) :
    Calls Try.prog 28 #[v, .int .i64 x] w fun e w' => e = .returned (.int .i64 (keyI f x)) ∧ Below w.heap.size w w' := by
  obtain ⟨A, c, A2, d, hv, hrest⟩ := id h
  have hsz := hs.1
  obtain ⟨s, hs0⟩ : ∃ s, f.s = s := ⟨_, rfl⟩
  obtain ⟨n, hn⟩ : ∃ n, f.ws.length = n := ⟨_, rfl⟩
  obtain ⟨m, hm⟩ : ∃ m, f.cs.length = m := ⟨_, rfl⟩
  rw [hs0, hn, hm] at hv
  rw [hs0] at hsz
  have hW : Below w.heap.size w (w.alloc (.cells #[.string s, .slice A n c, .slice A2 m d] 25)) := (Below.refl _ _).alloc (Nat.le_refl _) _
  have HV := Lib.hid (h.below hhi hW)
  have HW := Lib.hid hW
  rw [hv] at HV
  rw [hv]
  have Hs0 := Lib.hid hs0
  have HS := Lib.hid hs
  clear hrest hv hs0 hn hm h hW hs
  cases hf : fontB f
  · have HK := Lib.hid (keyI_bad (x := x) hf)
    go_enter Try.func28, Try.ntmps28
    go_wp2_with (go_at_call 95; refine (implFontOk_any lo hi _ f _ HV.out (by simp; omega) HS.out).mono ?_; rintro e w1 ⟨rfl, hb1⟩; have HB := Lib.hid hb1; clear hb1)
    go_ret
    exact ⟨ret_int HK.out.symm, HW.out.trans (HB.out.mono (by simp))⟩
  · have HL := Lib.hid (fontB_letters hf)
    have HK := Lib.hid (keyI_good (x := x) hf)
    rw [Hs0.out] at HK HL
    by_cases h1 : x < 33
    · have HO := Lib.hid (keyTo_out HL.out (.inl h1))
      have t1 : decide (x < 33) = true := by rw [decide_eq_true_eq]; exact h1
      clear h1
      go_enter Try.func28, Try.ntmps28
      go_wp2_with (go_at_call 95; refine (implFontOk_any lo hi _ f _ HV.out (by simp; omega) HS.out).mono ?_; rintro e w1 ⟨rfl, hb1⟩; have HB := Lib.hid hb1; clear hb1)
      go_ret
      exact ⟨ret_int (by rw [HK.out, HO.out]), HW.out.trans (HB.out.mono (by simp))⟩
    have t1 : decide (x < 33) = false := by rw [decide_eq_false_iff_not]; exact h1
    by_cases h2 : 126 < x
    · have HO := Lib.hid (keyTo_out HL.out (.inr h2))
      have t2 : decide (126 < x) = true := by rw [decide_eq_true_eq]; exact h2
      clear h1 h2
      go_enter Try.func28, Try.ntmps28
      go_wp2_with (go_at_call 95; refine (implFontOk_any lo hi _ f _ HV.out (by simp; omega) HS.out).mono ?_; rintro e w1 ⟨rfl, hb1⟩; have HB := Lib.hid hb1; clear hb1)
      go_ret
      exact ⟨ret_int (by rw [HK.out, HO.out]), HW.out.trans (HB.out.mono (by simp))⟩
    have t2 : decide (126 < x) = false := by rw [decide_eq_false_iff_not]; exact h2
    have hx0 : 33 ≤ x := by omega
    have hx1 : x ≤ 126 := by omega
    obtain ⟨b, rfl⟩ := Int.eq_ofNat_of_zero_le (show 0 ≤ x by omega)
    have hkey : keyOf Try.prog 21 (.int .i32 (b : Int)) = some (.int .i32 (b : Int)) := keyOf_int_mk Try.underlying21 (i32_wf (by omega))
    have HH := Lib.hid (fun c hc => key_has HL.out hx0 hx1 (c := c) hc)
    have hall := letters_all HL.out
    have HA := Lib.hid hall
    have hw32 := Lib.hid (wrap32_small hx0 hx1)
    clear h1 h2 hall
    cases hh : Maps.has (keysD s s.size) (.int .i32 (b : Int))
    all_goals
      go_enter Try.func28, Try.ntmps28
      go_wp2_with (first
        | (go_at_call 95; refine (implFontOk_any lo hi _ f _ HV.out (by simp; omega) HS.out).mono ?_; rintro e w1 ⟨rfl, hb1⟩; have HB := Lib.hid hb1; have k0 : w1.cell? ⟨w.heap.size, 0, none⟩ = some (.string s) := (hb1.cell (p := ⟨w.heap.size, 0, none⟩) (by simp)).trans (by rw [World.cell?_alloc_at _ _ _ _ rfl]; rfl); clear hb1)
        | (go_at_call 98; refine (keysOf_any s _ hsz HA.out).mono ?_; rintro e w2 ⟨rfl, hown, hb2⟩; have HB2 := Lib.hid hb2; clear hb2)
        | (at_lookup; refine wpList_lookup_own_ok_int _ rfl _ _ 119 rfl 21 3 .i64 keyLaw Try.underlying119 Try.underlying3 (zeroInt _) _ _ _ rfl hown _ _ rfl hkey ?_; intro c hat hwc; have Hat := Lib.hid hat; clear hat hwc))
      go_ret
    · exact ⟨ret_int (by rw [HK.out, (HH.out _ Hat.out).2 hh]), (HW.out.trans (HB.out.mono (by simp))).trans (HB2.out.mono (by have := HB.out.size; simp at this; omega))⟩
    · exact ⟨ret_int (by rw [HK.out, (HH.out _ Hat.out).1 hh]), (HW.out.trans (HB.out.mono (by simp))).trans (HB2.out.mono (by have := HB.out.size; simp at this; omega))⟩
end Go.Proofs.Ythoepelgmplcmaa
