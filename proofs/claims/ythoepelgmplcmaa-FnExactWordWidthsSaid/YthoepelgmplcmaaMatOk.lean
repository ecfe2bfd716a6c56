/-
  Matrices of a font: l2Matrix, isMatrix and MatrixOk by contract. Conditions: lengths of at most 2^20; for the program the teeth are in the range of int.
-/
import Derived.Test.YthoepelgmplcmaaFontI
import Derived.Test.YthoepelgmplcmaaMat
import Derived.Test.YthoepelgmplcmaaSets
import Derived.Test.YthoepelgmplcmaaLawsFont
namespace Go.Proofs.Ythoepelgmplcmaa
open Go.RowKit
set_option linter.unusedVariables false

theorem part_set {s t : Int} (wf : (Lit.int .i64 s).wf = true) (h0 : 0 ≤ t) (h1 : t ≤ 127) (h : partB s t = true) : setB s = true := by
  have hw : -9223372036854775808 ≤ s ∧ s ≤ 9223372036854775807 := by
    simp [Lit.wf, IntKind.min, IntKind.max, IntKind.signed, IntKind.bits] at wf
    omega
  obtain ⟨b, rfl⟩ := Int.eq_ofNat_of_zero_le h0
  have hb : b < 128 := by omega
  rw [partB_eq, beq_iff_eq] at h
  have e : IntKind.i64.wrap ((BitVec.ofInt 64 s &&& ~~~ BitVec.ofInt 64 (b : Int)).toNat : Int) = 0 := h
  have hlt : (BitVec.ofInt 64 s &&& ~~~ BitVec.ofInt 64 (b : Int)).toNat < 2 ^ 64 := (BitVec.ofInt 64 s &&& ~~~ BitVec.ofInt 64 (b : Int)).isLt
  rw [IntKind.wrap_i64] at e
  have hz : (BitVec.ofInt 64 s &&& ~~~ BitVec.ofInt 64 (b : Int)).toNat = 0 := by omega
  have hle : (BitVec.ofInt 64 s).toNat < 2 ^ 7 := by
    apply Nat.lt_of_not_le
    intro hge
    obtain ⟨i, hi, hbit⟩ := Nat.exists_ge_and_testBit_of_ge_two_pow hge
    have hz' : (BitVec.ofInt 64 s &&& ~~~ BitVec.ofInt 64 (b : Int)).toNat.testBit i = false := by rw [hz]; simp
    have hi64 : i < 64 := by
      apply Nat.lt_of_not_le
      intro h64
      have : (BitVec.ofInt 64 s).toNat.testBit i = false := Nat.testBit_lt_two_pow (Nat.lt_of_lt_of_le (BitVec.ofInt 64 s).isLt (Nat.pow_le_pow_right (by omega) h64))
      rw [this] at hbit; cases hbit
    have hbf : b.testBit i = false := Nat.testBit_lt_two_pow (Nat.lt_of_lt_of_le hb (Nat.le_trans (by decide : 128 ≤ 2 ^ 7) (Nat.pow_le_pow_right (by omega) hi)))
    rw [BitVec.testBit_toNat, BitVec.getLsbD_and, BitVec.getLsbD_not, ← BitVec.testBit_toNat, ← BitVec.testBit_toNat, ofInt_i64 b (by omega), hbit, hbf] at hz'
    simp [hi64] at hz'
  rw [setB_iff]
  rw [BitVec.toNat_ofInt] at hle
  omega

/-- a matrix of a font -/
def matB (f : Fnt) (x : Mat) : Bool := inB x.1 0 ((f.s.size : Int) - 1) && (setB x.2 && partB x.2 (f.cs.getD x.1.toNat 0))
def matI (f : Fnt) (x : Mat) : Bool := fontB f && matB f x
theorem fontB_codes {f : Fnt} (h : fontB f = true) : f.s.size = f.cs.length ∧ f.ws.length = f.cs.length ∧ isBar f.cs = true := by
  unfold fontB at h
  simp only [Bool.and_eq_true, beq_iff_eq] at h
  have := h.1
  unfold sortsAll at this
  rw [Bool.and_eq_true] at this
  exact ⟨h.2.1, h.2.2.1, this.2⟩
theorem inB_iff (x a b : Int) : inB x a b = true ↔ a ≤ x ∧ x ≤ b := by unfold inB; rw [decide_eq_true_eq]

set_option maxRecDepth 100000 in
set_option maxHeartbeats 1600000 in
theorem l2Matrix_any (lo hi : Nat) (v : Value) (f : Fnt) (x : Mat) (w : World) (h : FontV w lo hi v f) (hhi : hi ≤ w.heap.size) (hs : Small f) (hf : fontB f = true) :
    Calls Try.prog 89 #[v, .agg #[.int .i64 x.1, .int .i64 x.2]] w fun e w' => e = .returned (.bool (matB f x)) ∧ Below w.heap.size w w' := by
  obtain ⟨A, c, A2, d, rfl, hI1, hI2, hc1, hc2, hd1, hd2, hss⟩ := h
  obtain ⟨e1, e2, hbar⟩ := fontB_codes hf
  have hbl := bar_len hbar
  obtain ⟨s, ws, cs⟩ := f
  obtain ⟨k, t⟩ := x
  obtain ⟨hs1, hs2, hs3⟩ := hs
  simp only at *
  obtain ⟨n, hn⟩ : ∃ n, ws.length = n := ⟨_, rfl⟩
  obtain ⟨m, hm⟩ : ∃ m, cs.length = m := ⟨_, rfl⟩
  have Hn := Lib.hid hn; have Hm := Lib.hid hm
  have He := Lib.hid e1
  rw [hn, hm]
  rw [hm] at hbl
  have hsz : s.size = m := by rw [e1, hm]
  have HM : Hid (matB ⟨s, ws, cs⟩ (k, t) = (inB k 0 ((s.size : Int) - 1) && (setB t && partB t (cs.getD k.toNat 0)))) := rfl
  have hW : Below w.heap.size w ((w.alloc (.cells #[.string s, .slice A n c, .slice A2 m d] 25)).alloc (.cells #[.int .i64 k, .int .i64 t] 34)) := ((Below.refl _ _).alloc (Nat.le_refl _) _).alloc (by simp) _
  have G2 := Lib.hid (hI2.below hhi hW)
  have HW := Lib.hid hW
  have hsb1 : 1 ≤ s.size := by omega
  have hsb2 : s.size ≤ 40 := by omega
  have Hsz := Lib.hid hsz
  clear hI1 hI2 hc1 hc2 hd1 hd2 hss hW hn hm e1 e2 hbar hbl hs1 hs2 hs3 hf hsz
  cases h1 : inB k 0 ((s.size : Int) - 1)
  · have HR : Hid (matB ⟨s, ws, cs⟩ (k, t) = false) := by show _ = _; rw [HM.out, h1]; rfl
    go_enter Try.func89, Try.ntmps89
    go_wp2
    go_quiet ((go_at_call 80; exact Calls.quiet_of_same ((l1In_any _ _ _ _).mono fun _ _ hh => ⟨by rw [hh.1, h1], hh.2.symm⟩)))
    go_wp2
    go_ret
    exact ⟨ret_bool HR.out.symm, below_drewN HW.out _⟩
  · obtain ⟨k0, k1⟩ := (inB_iff _ _ _).1 h1
    obtain ⟨j, rfl⟩ := Int.eq_ofNat_of_zero_le k0
    have hjm : j < m := by have := Hsz.out; omega
    cases h2 : setB t
    · have HR : Hid (matB ⟨s, ws, cs⟩ ((j : Int), t) = false) := by show _ = _; rw [HM.out, h1, h2]; rfl
      go_enter Try.func89, Try.ntmps89
      go_wp2
      go_quiet ((first
        | (go_at_call 80; exact Calls.quiet_of_same ((l1In_any _ _ _ _).mono fun _ _ hh => ⟨by rw [hh.1, h1], hh.2.symm⟩))
        | (go_at_call 155; exact Calls.quiet_of_same ((l1Set_any _ _).mono fun _ _ hh => ⟨by rw [hh.1, h2], hh.2.symm⟩))))
      go_wp2
      go_ret
      exact ⟨ret_bool HR.out.symm, below_drewN HW.out _⟩
    · obtain ⟨ad, x, rfl, hx, hc⟩ := G2.out.ints.at_ (k := j) (by rw [Hm.out]; exact hjm)
      have HR : Hid (matB ⟨s, ws, cs⟩ ((j : Int), t) = partB t x) := by
        show _ = _
        rw [HM.out, h1, h2, Int.toNat_natCast, getD_at hx.out]; rfl
      go_enter Try.func89, Try.ntmps89
      go_wp2
      go_quiet ((first
        | (go_at_call 80; exact Calls.quiet_of_same ((l1In_any _ _ _ _).mono fun _ _ hh => ⟨by rw [hh.1, h1], hh.2.symm⟩))
        | (go_at_call 155; exact Calls.quiet_of_same ((l1Set_any _ _).mono fun _ _ hh => ⟨by rw [hh.1, h2], hh.2.symm⟩))
        | (go_at_call 156; exact Calls.quiet_of_same ((l1Part_any _ _ _).mono fun _ _ hh => ⟨hh.1, hh.2.symm⟩))))
      go_wp2
      go_ret
      exact ⟨ret_bool HR.out.symm, below_drewN HW.out _⟩
set_option maxRecDepth 100000 in
set_option maxHeartbeats 1600000 in
theorem isMatrix_any (lo hi : Nat) (v : Value) (f : Fnt) (x : Mat) (w : World) (h : FontV w lo hi v f) (hhi : hi ≤ w.heap.size) (hs : Small f) (hf : fontB f = true) (wf : (Lit.int .i64 x.2).wf = true) :
    Calls Try.prog 97 #[v, .agg #[.int .i64 x.1, .int .i64 x.2]] w fun e w' => e = .returned (.bool (matB f x)) ∧ Below w.heap.size w w' := by
  obtain ⟨A, c, A2, d, rfl, hI1, hI2, hc1, hc2, hd1, hd2, hss⟩ := h
  obtain ⟨e1, e2, hbar⟩ := fontB_codes hf
  have hbl := bar_len hbar
  obtain ⟨s, ws, cs⟩ := f
  obtain ⟨k, t⟩ := x
  obtain ⟨hs1, hs2, hs3⟩ := hs
  simp only at *
  obtain ⟨n, hn⟩ : ∃ n, ws.length = n := ⟨_, rfl⟩
  obtain ⟨m, hm⟩ : ∃ m, cs.length = m := ⟨_, rfl⟩
  have Hn := Lib.hid hn; have Hm := Lib.hid hm
  have He := Lib.hid e1
  rw [hn, hm]
  rw [hm] at hbl
  have Hbar := Lib.hid (bar_set hbar)
  have Hwf := Lib.hid wf
  have hm0 : m ≤ maxLen := by unfold maxLen; omega
  have hsz : s.size = m := by rw [e1, hm]
  have HM : Hid (matB ⟨s, ws, cs⟩ (k, t) = (inB k 0 ((s.size : Int) - 1) && (setB t && partB t (cs.getD k.toNat 0)))) := rfl
  have hW : Below w.heap.size w ((w.alloc (.cells #[.string s, .slice A n c, .slice A2 m d] 25)).alloc (.cells #[.int .i64 k, .int .i64 t] 34)) := ((Below.refl _ _).alloc (Nat.le_refl _) _).alloc (by simp) _
  have G2 := Lib.hid (hI2.below hhi hW)
  have HW := Lib.hid hW
  have hsb1 : 1 ≤ s.size := by omega
  have hsb2 : s.size ≤ 40 := by omega
  have Hsz := Lib.hid hsz
  clear hI1 hI2 hc1 hc2 hd1 hd2 hss hW hn hm e1 e2 hbar hbl hs1 hs2 hs3 hf hsz wf
  have HZ : Hid (inB k 0 ((m : Int) - 1) = inB k 0 ((s.size : Int) - 1)) := by show _ = _; rw [Hsz.out]
  cases h1 : inB k 0 ((m : Int) - 1)
  · have HR : Hid (matB ⟨s, ws, cs⟩ (k, t) = false) := by show _ = _; rw [HM.out, ← HZ.out, h1]; rfl
    go_enter Try.func97, Try.ntmps97
    go_wp2
    go_quiet ((go_at_call 163; exact Calls.quiet_of_same ((hasPlace_any _ _ _ _ _ hm0).mono fun _ _ hh => ⟨by rw [hh.1, h1], hh.2.symm⟩)))
    go_wp2
    go_ret
    exact ⟨ret_bool HR.out.symm, below_drewN HW.out _⟩
  · obtain ⟨k0, k1⟩ := (inB_iff _ _ _).1 h1
    obtain ⟨j, rfl⟩ := Int.eq_ofNat_of_zero_le k0
    have hjm : j < m := by omega
    obtain ⟨ad, x, rfl, hx, hc⟩ := G2.out.ints.at_ (k := j) (by rw [Hm.out]; exact hjm)
    have HR : Hid (matB ⟨s, ws, cs⟩ ((j : Int), t) = partB t x) := by
      show _ = _
      have hxb := Hbar.out x (mem_at hx.out)
      rw [HM.out, ← HZ.out, h1, Int.toNat_natCast, getD_at hx.out, Bool.true_and]
      cases hp : partB t x
      · simp
      · rw [part_set Hwf.out hxb.1 hxb.2 hp]; rfl
    go_enter Try.func97, Try.ntmps97
    go_wp2
    go_quiet ((first
      | (go_at_call 163; exact Calls.quiet_of_same ((hasPlace_any _ _ _ _ _ hm0).mono fun _ _ hh => ⟨by rw [hh.1, h1], hh.2.symm⟩))
      | (go_at_call 86; exact Calls.quiet_of_same ((isPartOf_any _ _ _).mono fun _ _ hh => ⟨hh.1, hh.2.symm⟩))))
    go_wp2
    go_ret
    exact ⟨ret_bool HR.out.symm, below_drewN HW.out _⟩

end Go.Proofs.Ythoepelgmplcmaa
