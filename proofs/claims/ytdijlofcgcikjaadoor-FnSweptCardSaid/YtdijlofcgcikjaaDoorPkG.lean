/-
  Contracts and plain mathematics (MatOk, MagOk, MchM, LnKit, MchU), each with its conditions in its own statement.
-/
import Derived.Test.YtdijlofcgcikjaaDoorPkE
import Derived.Test.YtdijlofcgcikjaaDoorPkF
import Derived.Test.YtdijlofcgcikjaaDoorPkB
import Derived.Test.YtdijlofcgcikjaaDoorPkA
namespace Go.Proofs.YtdijlofcgcikjaaDoor
open Go.RowKit
set_option linter.unusedVariables false

theorem part_set {s t : Int} (wf : (Lit.int .i64 s).wf = true) (h0 : 0 ≤ t) (h1 : t ≤ 127) (h : partB s t = true) : setB s = true := by
  have hw : -9223372036854775808 ≤ s ∧ s ≤ 9223372036854775807 := by
    simp [Lit.wf, IntKind.min, IntKind.max, IntKind.signed, IntKind.bits] at wf
    omega
  obtain ⟨b, rfl⟩ := Int.eq_ofNat_of_zero_le h0
  have hb : b < 128 := by omega
  rw [partB_eq, beq_iff_eq] at h
  have e : IntKind.i64.wrap ((BitVec.ofInt 64 s &&& ~~~ BitVec.ofInt 64 (b : Int)).toNat : Int) = 0 := h
  have hlt : (BitVec.ofInt 64 s &&& ~~~ BitVec.ofInt 64 (b : Int)).toNat < 2 ^ 64 := (BitVec.ofInt 64 s &&& ~~~ BitVec.ofInt 64 (b : Int)).isLt
  rw [IntKind.wrap_i64] at e
  have hz : (BitVec.ofInt 64 s &&& ~~~ BitVec.ofInt 64 (b : Int)).toNat = 0 := by omega
  have hle : (BitVec.ofInt 64 s).toNat < 2 ^ 7 := by
    apply Nat.lt_of_not_le
    intro hge
    obtain ⟨i, hi, hbit⟩ := Nat.exists_ge_and_testBit_of_ge_two_pow hge
    have hz' : (BitVec.ofInt 64 s &&& ~~~ BitVec.ofInt 64 (b : Int)).toNat.testBit i = false := by rw [hz]; simp
    have hi64 : i < 64 := by
      apply Nat.lt_of_not_le
      intro h64
      have : (BitVec.ofInt 64 s).toNat.testBit i = false := Nat.testBit_lt_two_pow (Nat.lt_of_lt_of_le (BitVec.ofInt 64 s).isLt (Nat.pow_le_pow_right (by omega) h64))
      rw [this] at hbit; cases hbit
    have hbf : b.testBit i = false := Nat.testBit_lt_two_pow (Nat.lt_of_lt_of_le hb (Nat.le_trans (by decide : 128 ≤ 2 ^ 7) (Nat.pow_le_pow_right (by omega) hi)))
    rw [BitVec.testBit_toNat, BitVec.getLsbD_and, BitVec.getLsbD_not, ← BitVec.testBit_toNat, ← BitVec.testBit_toNat, ofInt_i64 b (by omega), hbit, hbf] at hz'
    simp [hi64] at hz'
  rw [setB_iff]
  rw [BitVec.toNat_ofInt] at hle
  omega

/-- a matrix of a font -/
def matB (f : Fnt) (x : Mat) : Bool := inB x.1 0 ((f.s.size : Int) - 1) && (setB x.2 && partB x.2 (f.cs.getD x.1.toNat 0))
def matI (f : Fnt) (x : Mat) : Bool := fontB f && matB f x
theorem fontB_codes {f : Fnt} (h : fontB f = true) : f.s.size = f.cs.length ∧ f.ws.length = f.cs.length ∧ isBar f.cs = true := by
  unfold fontB at h
  simp only [Bool.and_eq_true, beq_iff_eq] at h
  have := h.1
  unfold sortsAll at this
  rw [Bool.and_eq_true] at this
  exact ⟨h.2.1, h.2.2.1, this.2⟩
theorem inB_iff (x a b : Int) : inB x a b = true ↔ a ≤ x ∧ x ≤ b := by unfold inB; rw [decide_eq_true_eq]

set_option maxRecDepth 100000 in
set_option maxHeartbeats 1600000 in
theorem l2Matrix_any (lo hi : Nat) (v : Value) (f : Fnt) (x : Mat) (w : World) (h : FontV w lo hi v f) (hhi : hi ≤ w.heap.size) (hs : Small f) (hf : fontB f = true) :
    Calls Tryd.prog 45 #[v, .agg #[.int .i64 x.1, .int .i64 x.2]] w fun e w' => e = .returned (.bool (matB f x)) ∧ Below w.heap.size w w' := by
  obtain ⟨A, c, A2, d, rfl, hI1, hI2, hc1, hc2, hd1, hd2, hss⟩ := h
  obtain ⟨e1, e2, hbar⟩ := fontB_codes hf
  have hbl := bar_len hbar
  obtain ⟨s, ws, cs⟩ := f
  obtain ⟨k, t⟩ := x
  obtain ⟨hs1, hs2, hs3⟩ := hs
  simp only at *
  obtain ⟨n, hn⟩ : ∃ n, ws.length = n := ⟨_, rfl⟩
  obtain ⟨m, hm⟩ : ∃ m, cs.length = m := ⟨_, rfl⟩
  have Hn := Lib.hid hn; have Hm := Lib.hid hm
  have He := Lib.hid e1
  rw [hn, hm]
  rw [hm] at hbl
  have hsz : s.size = m := by rw [e1, hm]
  have HM : Hid (matB ⟨s, ws, cs⟩ (k, t) = (inB k 0 ((s.size : Int) - 1) && (setB t && partB t (cs.getD k.toNat 0)))) := rfl
  have hW : Below w.heap.size w ((w.alloc (.cells #[.string s, .slice A n c, .slice A2 m d] 25)).alloc (.cells #[.int .i64 k, .int .i64 t] 30)) := ((Below.refl _ _).alloc (Nat.le_refl _) _).alloc (by simp) _
  have G2 := Lib.hid (hI2.below hhi hW)
  have HW := Lib.hid hW
  have hsb1 : 1 ≤ s.size := by omega
  have hsb2 : s.size ≤ 40 := by omega
  have Hsz := Lib.hid hsz
  clear hI1 hI2 hc1 hc2 hd1 hd2 hss hW hn hm e1 e2 hbar hbl hs1 hs2 hs3 hf hsz
  cases h1 : inB k 0 ((s.size : Int) - 1)
  · have HR : Hid (matB ⟨s, ws, cs⟩ (k, t) = false) := by show _ = _; rw [HM.out, h1]; rfl
    go_enter Tryd.func45, Tryd.ntmps45
    go_wp2
    go_quiet ((go_at_call 62; exact Calls.quiet_of_same ((l1In_any _ _ _ _).mono fun _ _ hh => ⟨by rw [hh.1, h1], hh.2.symm⟩)))
    go_wp2
    go_ret
    exact ⟨ret_bool HR.out.symm, below_drewN HW.out _⟩
  · obtain ⟨k0, k1⟩ := (inB_iff _ _ _).1 h1
    obtain ⟨j, rfl⟩ := Int.eq_ofNat_of_zero_le k0
    have hjm : j < m := by have := Hsz.out; omega
    cases h2 : setB t
    · have HR : Hid (matB ⟨s, ws, cs⟩ ((j : Int), t) = false) := by show _ = _; rw [HM.out, h1, h2]; rfl
      go_enter Tryd.func45, Tryd.ntmps45
      go_wp2
      go_quiet ((first
        | (go_at_call 62; exact Calls.quiet_of_same ((l1In_any _ _ _ _).mono fun _ _ hh => ⟨by rw [hh.1, h1], hh.2.symm⟩))
        | (go_at_call 78; exact Calls.quiet_of_same ((l1Set_any _ _).mono fun _ _ hh => ⟨by rw [hh.1, h2], hh.2.symm⟩))))
      go_wp2
      go_ret
      exact ⟨ret_bool HR.out.symm, below_drewN HW.out _⟩
    · obtain ⟨ad, x, rfl, hx, hc⟩ := G2.out.ints.at_ (k := j) (by rw [Hm.out]; exact hjm)
      have HR : Hid (matB ⟨s, ws, cs⟩ ((j : Int), t) = partB t x) := by
        show _ = _
        rw [HM.out, h1, h2, Int.toNat_natCast, getD_at hx.out]; rfl
      go_enter Tryd.func45, Tryd.ntmps45
      go_wp2
      go_quiet ((first
        | (go_at_call 62; exact Calls.quiet_of_same ((l1In_any _ _ _ _).mono fun _ _ hh => ⟨by rw [hh.1, h1], hh.2.symm⟩))
        | (go_at_call 78; exact Calls.quiet_of_same ((l1Set_any _ _).mono fun _ _ hh => ⟨by rw [hh.1, h2], hh.2.symm⟩))
        | (go_at_call 79; exact Calls.quiet_of_same ((l1Part_any _ _ _).mono fun _ _ hh => ⟨hh.1, hh.2.symm⟩))))
      go_wp2
      go_ret
      exact ⟨ret_bool HR.out.symm, below_drewN HW.out _⟩
set_option maxRecDepth 100000 in
set_option maxHeartbeats 1600000 in
theorem isMatrix_any (lo hi : Nat) (v : Value) (f : Fnt) (x : Mat) (w : World) (h : FontV w lo hi v f) (hhi : hi ≤ w.heap.size) (hs : Small f) (hf : fontB f = true) (wf : (Lit.int .i64 x.2).wf = true) :
    Calls Tryd.prog 46 #[v, .agg #[.int .i64 x.1, .int .i64 x.2]] w fun e w' => e = .returned (.bool (matB f x)) ∧ Below w.heap.size w w' := by
  obtain ⟨A, c, A2, d, rfl, hI1, hI2, hc1, hc2, hd1, hd2, hss⟩ := h
  obtain ⟨e1, e2, hbar⟩ := fontB_codes hf
  have hbl := bar_len hbar
  obtain ⟨s, ws, cs⟩ := f
  obtain ⟨k, t⟩ := x
  obtain ⟨hs1, hs2, hs3⟩ := hs
  simp only at *
  obtain ⟨n, hn⟩ : ∃ n, ws.length = n := ⟨_, rfl⟩
  obtain ⟨m, hm⟩ : ∃ m, cs.length = m := ⟨_, rfl⟩
  have Hn := Lib.hid hn; have Hm := Lib.hid hm
  have He := Lib.hid e1
  rw [hn, hm]
  rw [hm] at hbl
  have Hbar := Lib.hid (bar_set hbar)
  have Hwf := Lib.hid wf
  have hm0 : m ≤ maxLen := by unfold maxLen; omega
  have hsz : s.size = m := by rw [e1, hm]
  have HM : Hid (matB ⟨s, ws, cs⟩ (k, t) = (inB k 0 ((s.size : Int) - 1) && (setB t && partB t (cs.getD k.toNat 0)))) := rfl
  have hW : Below w.heap.size w ((w.alloc (.cells #[.string s, .slice A n c, .slice A2 m d] 25)).alloc (.cells #[.int .i64 k, .int .i64 t] 30)) := ((Below.refl _ _).alloc (Nat.le_refl _) _).alloc (by simp) _
  have G2 := Lib.hid (hI2.below hhi hW)
  have HW := Lib.hid hW
  have hsb1 : 1 ≤ s.size := by omega
  have hsb2 : s.size ≤ 40 := by omega
  have Hsz := Lib.hid hsz
  clear hI1 hI2 hc1 hc2 hd1 hd2 hss hW hn hm e1 e2 hbar hbl hs1 hs2 hs3 hf hsz wf
  have HZ : Hid (inB k 0 ((m : Int) - 1) = inB k 0 ((s.size : Int) - 1)) := by show _ = _; rw [Hsz.out]
  cases h1 : inB k 0 ((m : Int) - 1)
  · have HR : Hid (matB ⟨s, ws, cs⟩ (k, t) = false) := by show _ = _; rw [HM.out, ← HZ.out, h1]; rfl
    go_enter Tryd.func46, Tryd.ntmps46
    go_wp2
    go_quiet ((go_at_call 80; exact Calls.quiet_of_same ((hasPlace_any _ _ _ _ _ hm0).mono fun _ _ hh => ⟨by rw [hh.1, h1], hh.2.symm⟩)))
    go_wp2
    go_ret
    exact ⟨ret_bool HR.out.symm, below_drewN HW.out _⟩
  · obtain ⟨k0, k1⟩ := (inB_iff _ _ _).1 h1
    obtain ⟨j, rfl⟩ := Int.eq_ofNat_of_zero_le k0
    have hjm : j < m := by omega
    obtain ⟨ad, x, rfl, hx, hc⟩ := G2.out.ints.at_ (k := j) (by rw [Hm.out]; exact hjm)
    have HR : Hid (matB ⟨s, ws, cs⟩ ((j : Int), t) = partB t x) := by
      show _ = _
      have hxb := Hbar.out x (mem_at hx.out)
      rw [HM.out, ← HZ.out, h1, Int.toNat_natCast, getD_at hx.out, Bool.true_and]
      cases hp : partB t x
      · simp
      · rw [part_set Hwf.out hxb.1 hxb.2 hp]; rfl
    go_enter Tryd.func46, Tryd.ntmps46
    go_wp2
    go_quiet ((first
      | (go_at_call 80; exact Calls.quiet_of_same ((hasPlace_any _ _ _ _ _ hm0).mono fun _ _ hh => ⟨by rw [hh.1, h1], hh.2.symm⟩))
      | (go_at_call 81; exact Calls.quiet_of_same ((isPartOf_any _ _ _).mono fun _ _ hh => ⟨hh.1, hh.2.symm⟩))))
    go_wp2
    go_ret
    exact ⟨ret_bool HR.out.symm, below_drewN HW.out _⟩

set_option maxRecDepth 100000 in
set_option maxHeartbeats 1600000 in
theorem implMatrixOk_any (lo hi : Nat) (v : Value) (f : Fnt) (x : Mat) (w : World) (h : FontV w lo hi v f) (hhi : hi ≤ w.heap.size) (hs : Small f) (wf : (Lit.int .i64 x.2).wf = true) :
    Calls Tryd.prog 13 #[v, .agg #[.int .i64 x.1, .int .i64 x.2]] w fun e w' => e = .returned (.bool (matI f x)) ∧ Below w.heap.size w w' := by
  obtain ⟨A, c, A2, d, hv⟩ := fontForm h
  obtain ⟨s, hs0⟩ : ∃ s, f.s = s := ⟨_, rfl⟩
  obtain ⟨n, hn⟩ : ∃ n, f.ws.length = n := ⟨_, rfl⟩
  obtain ⟨m, hm⟩ : ∃ m, f.cs.length = m := ⟨_, rfl⟩
  rw [hs0, hn, hm] at hv
  rw [hv] at h
  rw [hv]
  have hW : Below w.heap.size w ((w.alloc (.cells #[.string s, .slice A n c, .slice A2 m d] 25)).alloc (.cells #[.int .i64 x.1, .int .i64 x.2] 30)) := ((Below.refl _ _).alloc (Nat.le_refl _) _).alloc (by simp) _
  have V0 := Lib.hid (h.below hhi hW)
  have T0 := Lib.hid hW
  clear hv hs0 hn hm h hW
  cases hf : fontB f
  · have HR : Hid (matI f x = false) := by show _ = _; unfold matI; rw [hf]; rfl
    go_enter Tryd.func13, Tryd.ntmps13
    go_wp2_with (go_at_call 51; refine (implFontOk_any lo hi _ f _ V0.out (by simp; omega) hs).mono ?_; rintro e w1 ⟨rfl, hb1⟩; have T1 := Lib.hid (T0.out.trans (hb1.mono (by simp; omega))); clear hb1)
    go_ret
    exact ⟨ret_bool HR.out.symm, T1.out⟩
  · have HR : Hid (matI f x = matB f x) := by show _ = _; unfold matI; rw [hf]; rfl
    go_enter Tryd.func13, Tryd.ntmps13
    go_wp2_with fail
    refine (implFontOk_any lo hi _ f _ V0.out (by simp; omega) hs).mono ?_
    rintro e w1 ⟨rfl, hb1⟩
    have T1 := Lib.hid (T0.out.trans (hb1.mono (by simp; omega)))
    have V1 := Lib.hid (V0.out.below (by simp; omega) hb1)
    have q0 : w1.cell? ⟨w.heap.size, 0, none⟩ = some (.string s) := (hb1.cell (p := ⟨w.heap.size, 0, none⟩) (by simp; omega)).trans (by simp)
    have q1 : w1.cell? ⟨w.heap.size, 1, none⟩ = some (.slice A n c) := (hb1.cell (p := ⟨w.heap.size, 1, none⟩) (by simp; omega)).trans (by simp)
    have q2 : w1.cell? ⟨w.heap.size, 2, none⟩ = some (.slice A2 m d) := (hb1.cell (p := ⟨w.heap.size, 2, none⟩) (by simp; omega)).trans (by simp)
    have q3 : w1.cell? ⟨w.heap.size + 1, 0, none⟩ = some (.int .i64 x.1) := (hb1.cell (p := ⟨w.heap.size + 1, 0, none⟩) (by simp)).trans (by simp)
    have q4 : w1.cell? ⟨w.heap.size + 1, 1, none⟩ = some (.int .i64 x.2) := (hb1.cell (p := ⟨w.heap.size + 1, 1, none⟩) (by simp)).trans (by simp)
    have s1 := hb1.size
    simp at s1
    clear hb1 V0 T0
    go_wp2_with fail
    refine (isMatrix_any lo hi _ f x _ V1.out (by omega) hs hf wf).mono ?_
    rintro e w2 ⟨rfl, hb2⟩
    have T2 := Lib.hid (T1.out.trans (hb2.mono (by omega)))
    clear hb2
    go_wp2
    go_ret
    exact ⟨ret_bool HR.out.symm, T2.out⟩
end Go.Proofs.YtdijlofcgcikjaaDoor

namespace Go.Proofs.YtdijlofcgcikjaaDoor
open Go.RowKit
set_option linter.unusedVariables false

def rowB (f : Fnt) (xs : List Mat) : Bool := decide (xs.length ≤ 20) && xs.all (matB f)
def magB (f : Fnt) (ms : List (List Mat)) : Bool := fontB f && ((ms.length == f.s.size) && ms.all (rowB f))
theorem rowB_room {f : Fnt} {xs : List Mat} (h : 20 < xs.length) : rowB f xs = false := by
  unfold rowB; rw [decide_eq_false (by omega)]; rfl
theorem rowB_bad {f : Fnt} {xs : List Mat} {k : Nat} {x : Mat} (hx : xs[k]? = some x) (h : matB f x = false) : rowB f xs = false := by
  have : xs.all (matB f) = false := by
    rw [List.all_eq_false]; exact ⟨x, List.mem_of_getElem? hx, by rw [h]; simp⟩
  unfold rowB; rw [this, Bool.and_false]
theorem rows_bad {f : Fnt} {ms : List (List Mat)} {k : Nat} {xs : List Mat} (hx : ms[k]? = some xs) (h : rowB f xs = false) : ms.all (rowB f) = false := by
  rw [List.all_eq_false]; exact ⟨xs, List.mem_of_getElem? hx, by rw [h]; simp⟩
theorem all_step {f : Fnt} {xs : List Mat} {k : Nat} {x : Mat} (hx : xs[k]? = some x) (h : matB f x = true) (ht : (xs.take k).all (matB f) = true) : (xs.take (k + 1)).all (matB f) = true := by
  rw [mtake_at hx, List.all_append, ht]; simp [h]
theorem all_step2 {f : Fnt} {ms : List (List Mat)} {k : Nat} {xs : List Mat} (hx : ms[k]? = some xs) (hr : xs.length ≤ 20) (h : xs.all (matB f) = true) (ht : (ms.take k).all (rowB f) = true) : (ms.take (k + 1)).all (rowB f) = true := by
  rw [ttake_at hx, List.all_append, ht]
  simp [rowB, h, hr]
theorem fontB_size {f : Fnt} (h : fontB f = true) : 1 ≤ f.s.size ∧ f.s.size ≤ 40 := by
  obtain ⟨e, _, hb⟩ := fontB_codes h
  have := bar_len hb
  omega

set_option maxRecDepth 100000 in
set_option maxHeartbeats 3200000 in
theorem specMagOk_any (lo hi lo2 hi2 : Nat) (v : Value) (f : Fnt) (A : Option Addr) (n c : Nat) (ms : List (List Mat)) (w : World) (h : FontV w lo hi v f) (hhi : hi ≤ w.heap.size) (hs : Small f) (hn : ms.length = n) (hm : n ≤ 1048576) (hM : MagI w lo2 hi2 A ms) (hhi2 : hi2 ≤ w.heap.size) :
    Calls Tryd.prog 10 #[v, .slice A n c] w fun e w' => e = .returned (.bool (magB f ms)) ∧ Below w.heap.size w w' := by
  obtain ⟨B, d, B2, d2, hv⟩ := fontForm h
  obtain ⟨s, hs0⟩ : ∃ s, f.s = s := ⟨_, rfl⟩
  obtain ⟨p, hp⟩ : ∃ n, f.ws.length = n := ⟨_, rfl⟩
  obtain ⟨q, hq⟩ : ∃ m, f.cs.length = m := ⟨_, rfl⟩
  rw [hs0, hp, hq] at hv
  rw [hv] at h
  rw [hv]
  have hW : Below w.heap.size w (w.alloc (.cells #[.string s, .slice B p d, .slice B2 q d2] 25)) := (Below.refl _ _).alloc (Nat.le_refl _) _
  have V0 := Lib.hid (h.below hhi hW)
  have M0 := Lib.hid (hM.below hhi2 hW)
  have X0 := Lib.hid (new3 w (.string s) (.slice B p d) (.slice B2 q d2) 25)
  have T0 := Lib.hid hW
  have Hn := Lib.hid hn; have Hs0 := Lib.hid hs0
  have HS := Lib.hid hs
  clear hv hs0 hp hq h hW hM hn hs
  cases hf : fontB f
  · have HR : Hid (magB f ms = false) := by show _ = _; unfold magB; rw [hf]; rfl
    go_enter Tryd.func10, Tryd.ntmps10
    go_wp2_with (go_at_call 44; refine (specFontOk_any lo hi _ f _ V0.out (by simp; omega) HS.out).mono ?_; rintro e w1 ⟨rfl, hb1⟩; have T1 := Lib.hid (T0.out.trans (hb1.mono (by simp))); clear hb1)
    go_ret
    exact ⟨ret_bool HR.out.symm, T1.out⟩
  have hfs := fontB_size hf
  rw [Hs0.out] at hfs
  have HF := Lib.hid hf
  by_cases hl : n = s.size
  · have hl' : ((n : Int) != (s.size : Int)) = false := by rw [bne_eq_false_iff_eq]; omega
    have HR : Hid (magB f ms = ms.all (rowB f)) := by
      show _ = _
      unfold magB; rw [hf, Hn.out, Hs0.out, hl]; simp
    have hn40 : n ≤ 40 := by omega
    have Hl := Lib.hid hl
    clear hl hfs hf
    go_enter Tryd.func10, Tryd.ntmps10
    go_wp2_with fail
    refine (specFontOk_any lo hi _ f _ V0.out (by simp; omega) HS.out).mono ?_
    rintro e w1 ⟨rfl, hb1⟩
    rw [HF.out]
    have T1 := Lib.hid (T0.out.trans (hb1.mono (by simp)))
    have V1 := Lib.hid (V0.out.below (by simp; omega) hb1)
    have M1 := Lib.hid (M0.out.below (by simp; omega) hb1)
    have X1 := Lib.hid (keep3 hb1 (by simp) X0.out)
    have s1 := hb1.size
    simp only [World.size_alloc] at s1
    clear hb1 V0 M0 X0 T0
    obtain ⟨q0, q1, q2⟩ := X1.out
    go_wp2
    clear q0 q1 q2
    go_loopw [22] (fun i wr => ∃ k : Nat, k ≤ n ∧ i = .int .i64 k ∧ Below w1.heap.size w1 wr ∧ (ms.take k).all (rowB f) = true) (fun i _ => n - (intOf i).toNat)
    case atStart => exact ⟨0, Nat.zero_le _, rfl, Below.refl _ _, rfl⟩
    case round =>
      obtain ⟨k, hk, rfl, hb, hall⟩ := hrel
      have HB := Lib.hid hb; have Hall := Lib.hid hall
      clear hb hall
      by_cases hlt : k < n
      · obtain ⟨ad, xs, Aj, cj, rfl, hx, hc, hcap, hcm, hI⟩ := (M1.out.below (by omega) HB.out).at_ (k := k) (by rw [Hn.out]; exact hlt)
        obtain ⟨l, hl⟩ : ∃ l, xs.length = l := ⟨_, rfl⟩
        rw [hl] at hc hcap
        have hlm : l ≤ maxLen := by omega
        unfold maxLen at hlm
        have HI := Lib.hid hI; have HL := Lib.hid hl
        clear hI hcap hcm hl
        by_cases h20 : 20 < l
        · have Hbad := Lib.hid (rows_bad hx.out (rowB_room (f := f) (by rw [HL.out]; exact h20)))
          have t1 : decide (20 < (l : Int)) = true := by rw [decide_eq_true_eq]; omega
          clear h20
          go_wp2
          go_ret
          exact ⟨ret_bool (by rw [HR.out, Hbad.out]), T1.out.trans (HB.out.mono (by omega))⟩
        · have t1 : decide (20 < (l : Int)) = false := by rw [decide_eq_false_iff_not]; omega
          have hl20 : l ≤ 20 := by omega
          clear h20
          go_wp2
          go_loopw [31] (fun i wr => ∃ j : Nat, j ≤ l ∧ i = .int .i64 j ∧ Below w1.heap.size w1 wr ∧ (xs.take j).all (matB f) = true) (fun i _ => l - (intOf i).toNat)
          case atStart => exact ⟨0, Nat.zero_le _, rfl, HB.out, rfl⟩
          case round =>
            obtain ⟨j, hj, rfl, hb2, hall2⟩ := hrel
            have HB2 := Lib.hid hb2; have Hall2 := Lib.hid hall2
            clear hb2 hall2
            by_cases hjl : j < l
            · obtain ⟨bd, x, rfl, hxj, d1, e1⟩ := (HI.out.keep (w' := wr) (fun p _ h2 => (HB2.out.cell (by omega)).trans (HB.out.cell (by omega)).symm)).at_ (k := j) (by rw [HL.out]; exact hjl)
              obtain ⟨q0, q1, q2⟩ := keep3 HB2.out (by omega) X1.out
              have hz : w.heap.size < wr.heap.size := by have := HB2.out.size; omega
              have V2 := Lib.hid ((V1.out.below (by omega) HB2.out).below (B := wr.heap.size) (by have := HB2.out.size; omega) ((Below.refl _ _).alloc (Nat.le_refl _) (.cells #[.int .i64 x.1, .int .i64 x.2] 30)))
              have hsz2 := HB2.out.size
              go_wp2_with fail
              refine (l2Matrix_any lo hi _ f x _ V2.out (by simp; omega) HS.out HF.out).mono ?_
              rintro e w2 ⟨rfl, hbb⟩
              have HB3 := Lib.hid ((HB2.out.alloc HB2.out.size (.cells #[.int .i64 x.1, .int .i64 x.2] 30)).trans (hbb.mono (by simp; omega)))
              clear hbb d1 e1 q0 q1 q2 hz hsz2
              cases hmb : matB f x
              · have Hbad := Lib.hid (rows_bad hx.out (rowB_bad hxj.out hmb))
                go_wp2
                go_ret
                exact ⟨ret_bool (by rw [HR.out, Hbad.out]), T1.out.trans (HB3.out.mono (by omega))⟩
              · have HA := Lib.hid (all_step hxj.out hmb Hall2.out)
                go_wp2
                go_roundw
                case rel => exact ⟨j + 1, by omega, by go_num, HB3.out, HA.out⟩
                case measure => simp [intOf]; omega
            · have hjn : j = l := by omega
              subst hjn
              have HA := Lib.hid (all_step2 hx.out (by rw [HL.out]; exact hl20) (by have := Hall2.out; rwa [mtake_all HL.out] at this) Hall.out)
              go_wp2
              go_roundw
              case rel => exact ⟨k + 1, by omega, by go_num, HB2.out, HA.out⟩
              case measure => simp [intOf]; omega
      · have hkn : k = n := by omega
        subst hkn
        go_wp2
        go_ret
        have := Hall.out
        rw [ttake_all Hn.out] at this
        exact ⟨ret_bool (by rw [HR.out, this]), T1.out.trans (HB.out.mono (by omega))⟩
  · have hl' : ((n : Int) != (s.size : Int)) = true := by rw [bne_iff_ne]; omega
    have HR : Hid (magB f ms = false) := by
      show _ = _
      have : (ms.length == f.s.size) = false := by rw [Hn.out, Hs0.out, beq_eq_false_iff_ne]; exact hl
      unfold magB; rw [hf, this]; rfl
    clear hl hfs hf
    go_enter Tryd.func10, Tryd.ntmps10
    go_wp2_with fail
    refine (specFontOk_any lo hi _ f _ V0.out (by simp; omega) HS.out).mono ?_
    rintro e w1 ⟨rfl, hb1⟩
    rw [HF.out]
    have T1 := Lib.hid (T0.out.trans (hb1.mono (by simp)))
    obtain ⟨q0, q1, q2⟩ := keep3 hb1 (by simp) X0.out
    clear hb1
    go_wp2
    go_ret
    exact ⟨ret_bool HR.out.symm, T1.out⟩

/-- isListOf of the program at matrices, with a function that captured one pointer -/
theorem mats_all {p : Mat → Bool} {xs : List Mat} {k : Nat} {x : Mat} (h : xs[k]? = some x) : (xs.take (k + 1)).all p = ((xs.take k).all p && p x) := by
  rw [List.take_add_one, h]; simp
theorem mats_bad {p : Mat → Bool} {xs : List Mat} {k : Nat} {x : Mat} (h : xs[k]? = some x) (hb : p x = false) : xs.all p = false := by
  rw [List.all_eq_false]
  exact ⟨x, List.mem_of_getElem? h, by rw [hb]; simp⟩
set_option maxRecDepth 100000 in
set_option maxHeartbeats 1600000 in
theorem listMats_any (F : Nat) (hF : ∀ (args : Array Value) (w : World), Sem.run Tryd.prog (callFunc F args) w = .ok (.enter F args) w) (g : Nat) (p : Mat → Bool) (lo hi : Nat) (A : Option Addr) (n c : Nat) (xs : List Mat) (a b : Int) (w : World) (hn : xs.length = n) (hm : n ≤ maxLen) (hI : MatsI w lo hi A xs) (hhi : hi ≤ w.heap.size)
    (hp : ∀ (x : Mat) (wr : World), x ∈ xs → Below w.heap.size w wr → Calls Tryd.prog F #[.agg #[.int .i64 x.1, .int .i64 x.2], .pointer (some ⟨g, 0, none⟩)] wr fun e w' => e = .returned (.bool (p x)) ∧ Below wr.heap.size wr w') :
    Calls Tryd.prog 55 #[.slice A n c, .int .i64 a, .int .i64 b, .func (.func F) #[] #[.pointer (some ⟨g, 0, none⟩)]] w fun e w' => e = .returned (.bool (inB n a b && xs.all p)) ∧ Below w.heap.size w w' := by
  unfold maxLen at hm
  have Hn := Lib.hid hn; have HI := Lib.hid hI; have HP := Lib.hid hp
  clear hn hI hp
  by_cases hlo : (n : Int) < a
  · have H0 : Hid (inB n a b = false) := by show _ = _; unfold inB; rw [decide_eq_false_iff_not]; omega
    go_enter Tryd.func55, Tryd.ntmps55
    go_wp2
    go_ret
    exact ⟨ret_bool (by rw [H0.out]; rfl), Below.refl _ _⟩
  by_cases hhi2 : b < (n : Int)
  · have H0 : Hid (inB n a b = false) := by show _ = _; unfold inB; rw [decide_eq_false_iff_not]; omega
    go_enter Tryd.func55, Tryd.ntmps55
    go_wp2
    go_ret
    exact ⟨ret_bool (by rw [H0.out]; rfl), Below.refl _ _⟩
  have H1 : Hid (inB n a b = true) := by show _ = _; unfold inB; rw [decide_eq_true_eq]; omega
  go_enter Tryd.func55, Tryd.ntmps55
  go_wp2
  go_loopw [23] (fun i wr => ∃ k : Nat, k ≤ n ∧ i = .int .i64 k ∧ (xs.take k).all p = true ∧ Below w.heap.size w wr) (fun i _ => n - (intOf i).toNat)
  case atStart => exact ⟨0, Nat.zero_le _, rfl, rfl, Below.refl _ _⟩
  case round =>
    obtain ⟨k, hk, rfl, hall, hb⟩ := hrel
    have Hall := Lib.hid hall; have HB := Lib.hid hb
    clear hall hb
    by_cases hlt : k < n
    · obtain ⟨ad, x, rfl, hx, d1, e1⟩ := (HI.out.below hhi HB.out).at_ (k := k) (by rw [Hn.out]; exact hlt)
      have HBa := Lib.hid (HB.out.alloc HB.out.size (.cells #[.int .i64 x.1, .int .i64 x.2] 30))
      cases hs : p x
      · have Hb := Lib.hid (mats_bad hx.out hs)
        go_wp2_with fail
        refine (HP.out x _ (List.mem_of_getElem? hx.out) HBa.out).mono ?_
        rintro e w2 ⟨rfl, hb2⟩
        rw [hs]
        have HE := Lib.hid (HBa.out.trans (hb2.mono HBa.out.size))
        clear hb2 d1 e1
        go_wp2
        go_ret
        exact ⟨ret_bool (by rw [Hb.out]; simp), HE.out⟩
      · have Hs := Lib.hid (mats_all (p := p) hx.out)
        go_wp2_with fail
        refine (HP.out x _ (List.mem_of_getElem? hx.out) HBa.out).mono ?_
        rintro e w2 ⟨rfl, hb2⟩
        rw [hs]
        have HE := Lib.hid (HBa.out.trans (hb2.mono HBa.out.size))
        clear hb2 d1 e1
        go_wp2
        go_roundw
        case rel => exact ⟨k + 1, by omega, by go_num, by rw [Hs.out, Hall.out, hs]; rfl, HE.out⟩
        case measure => simp [intOf]; omega
    · have hkn : k = n := by omega
      subst hkn
      go_wp2
      go_ret
      refine ⟨ret_bool ?_, HB.out⟩
      have := Hall.out
      rw [mtake_all Hn.out] at this
      rw [this, H1.out]; rfl

theorem magFn_enter (args : Array Value) (w : World) : Sem.run Tryd.prog (callFunc 56 args) w = .ok (.enter 56 args) w := by kernel_rfl
set_option maxRecDepth 100000 in
set_option maxHeartbeats 800000 in
theorem magFn_any (lo hi g : Nat) (B B2 : Option Addr) (s : ByteArray) (p d q d2 : Nat) (f : Fnt) (x : Mat) (w : World) (h : FontV w lo hi (.agg #[.string s, .slice B p d, .slice B2 q d2]) f) (hhi : hi ≤ w.heap.size) (hs : Small f) (hf : fontB f = true) (wf : (Lit.int .i64 x.2).wf = true)
    (hg : g < w.heap.size) (hb : w.cell? ⟨g, 0, none⟩ = some (.string s) ∧ w.cell? ⟨g, 1, none⟩ = some (.slice B p d) ∧ w.cell? ⟨g, 2, none⟩ = some (.slice B2 q d2)) :
    Calls Tryd.prog 56 #[.agg #[.int .i64 x.1, .int .i64 x.2], .pointer (some ⟨g, 0, none⟩)] w fun e w' => e = .returned (.bool (matB f x)) ∧ Below w.heap.size w w' := by
  have hW : Below w.heap.size w (w.alloc (.cells #[.int .i64 x.1, .int .i64 x.2] 30)) := (Below.refl _ _).alloc (Nat.le_refl _) _
  have V1 := Lib.hid (h.below hhi hW)
  have HW := Lib.hid hW
  have Hwf := Lib.hid wf; have HF := Lib.hid hf
  obtain ⟨q0, q1, q2⟩ := hb
  clear h hW wf hf
  go_enter Tryd.func56, Tryd.ntmps56
  go_wp2_with fail
  refine (isMatrix_any lo hi _ f x _ V1.out (by simp; omega) hs HF.out Hwf.out).mono ?_
  rintro e w1 ⟨rfl, hb1⟩
  have T1 := Lib.hid (HW.out.trans (hb1.mono (by simp)))
  clear hb1
  go_wp2
  go_ret
  exact ⟨rfl, T1.out⟩

set_option maxRecDepth 100000 in
set_option maxHeartbeats 3200000 in
theorem implMagOk_any (lo hi lo2 hi2 : Nat) (v : Value) (f : Fnt) (A : Option Addr) (n c : Nat) (ms : List (List Mat)) (w : World) (h : FontV w lo hi v f) (hhi : hi ≤ w.heap.size) (hs : Small f) (hn : ms.length = n) (hm : n ≤ 1048576) (hM : MagI w lo2 hi2 A ms) (hhi2 : hi2 ≤ w.heap.size) (wf : wfM ms) :
    Calls Tryd.prog 19 #[v, .slice A n c] w fun e w' => e = .returned (.bool (magB f ms)) ∧ Below w.heap.size w w' := by
  obtain ⟨B, d, B2, d2, hv⟩ := fontForm h
  obtain ⟨s, hs0⟩ : ∃ s, f.s = s := ⟨_, rfl⟩
  obtain ⟨p, hp⟩ : ∃ n, f.ws.length = n := ⟨_, rfl⟩
  obtain ⟨q, hq⟩ : ∃ m, f.cs.length = m := ⟨_, rfl⟩
  rw [hs0, hp, hq] at hv
  rw [hv] at h
  rw [hv]
  have hW : Below w.heap.size w (w.alloc (.cells #[.string s, .slice B p d, .slice B2 q d2] 25)) := (Below.refl _ _).alloc (Nat.le_refl _) _
  have V0 := Lib.hid (h.below hhi hW)
  have M0 := Lib.hid (hM.below hhi2 hW)
  have X0 := Lib.hid (new3 w (.string s) (.slice B p d) (.slice B2 q d2) 25)
  have T0 := Lib.hid hW
  have Hn := Lib.hid hn; have Hs0 := Lib.hid hs0
  have HS := Lib.hid hs
  clear hv hs0 hp hq h hW hM hn hs
  cases hf : fontB f
  · have HR : Hid (magB f ms = false) := by show _ = _; unfold magB; rw [hf]; rfl
    go_enter Tryd.func19, Tryd.ntmps19
    go_wp2_with (go_at_call 51; refine (implFontOk_any lo hi _ f _ V0.out (by simp; omega) HS.out).mono ?_; rintro e w1 ⟨rfl, hb1⟩; have T1 := Lib.hid (T0.out.trans (hb1.mono (by simp))); clear hb1)
    go_ret
    exact ⟨ret_bool HR.out.symm, T1.out⟩
  have hfs := fontB_size hf
  rw [Hs0.out] at hfs
  have HF := Lib.hid hf
  by_cases hl : n = s.size
  · have hl' : ((n : Int) != (s.size : Int)) = false := by rw [bne_eq_false_iff_eq]; omega
    have HR : Hid (magB f ms = ms.all (rowB f)) := by
      show _ = _
      unfold magB; rw [hf, Hn.out, Hs0.out, hl]; simp
    have hn40 : n ≤ 40 := by omega
    have Hl := Lib.hid hl
    clear hl hfs hf
    go_enter Tryd.func19, Tryd.ntmps19
    go_wp2_with fail
    refine (implFontOk_any lo hi _ f _ V0.out (by simp; omega) HS.out).mono ?_
    rintro e w1 ⟨rfl, hb1⟩
    rw [HF.out]
    have T1 := Lib.hid (T0.out.trans (hb1.mono (by simp)))
    have V1 := Lib.hid (V0.out.below (by simp; omega) hb1)
    have M1 := Lib.hid (M0.out.below (by simp; omega) hb1)
    have X1 := Lib.hid (keep3 hb1 (by simp) X0.out)
    have s1 := hb1.size
    simp only [World.size_alloc] at s1
    clear hb1 V0 M0 X0 T0
    obtain ⟨q0, q1, q2⟩ := X1.out
    go_wp2
    clear q0 q1 q2
    go_loopw [20] (fun i wr => ∃ k : Nat, k ≤ n ∧ i = .int .i64 k ∧ Below w1.heap.size w1 wr ∧ (ms.take k).all (rowB f) = true) (fun i _ => n - (intOf i).toNat)
    case atStart => exact ⟨0, Nat.zero_le _, rfl, Below.refl _ _, rfl⟩
    case round =>
      obtain ⟨k, hk, rfl, hb, hall⟩ := hrel
      have HB := Lib.hid hb; have Hall := Lib.hid hall
      clear hb hall
      by_cases hlt : k < n
      · obtain ⟨ad, xs, Aj, cj, rfl, hx, hc, hcap, hcm, hI⟩ := (M1.out.below (by omega) HB.out).at_ (k := k) (by rw [Hn.out]; exact hlt)
        obtain ⟨l, hl⟩ : ∃ l, xs.length = l := ⟨_, rfl⟩
        rw [hl] at hc hcap
        have hlm : l ≤ maxLen := by omega
        have HI := Lib.hid hI; have HL := Lib.hid hl
        have HXM := Lib.hid (List.mem_of_getElem? hx.out)
        have HEQ : Hid ((inB l 0 20 && xs.all (matB f)) = rowB f xs) := by
          show _ = _
          unfold rowB inB
          rw [HL.out]
          congr 1
          exact decide_eq_decide.2 (by omega)
        clear hI hcap hcm hl
        cases hrow : rowB f xs
        all_goals
          go_wp2_with fail
          refine (listMats_any 56 magFn_enter w.heap.size (matB f) lo2 hi2 _ _ _ xs _ _ _ HL.out hlm HI.out (by have := HB.out.size; omega) (fun x wr' hx' hb' => magFn_any lo hi w.heap.size B B2 s p d q d2 f x wr' ((V1.out.below (by omega) HB.out).below (by have := HB.out.size; omega) hb') (by have := HB.out.size; have := hb'.size; omega) HS.out HF.out (wf _ HXM.out _ hx') (by have := HB.out.size; have := hb'.size; omega) (keep3 hb' (by have := HB.out.size; omega) (keep3 HB.out (by omega) X1.out)))).mono ?_
          rintro e w2 ⟨rfl, hb2⟩
          rw [HEQ.out, hrow]
          have HB2 := Lib.hid (HB.out.trans (hb2.mono HB.out.size))
          clear hb2
        · have Hbad := Lib.hid (rows_bad hx.out hrow)
          go_wp2
          go_ret
          exact ⟨ret_bool (by rw [HR.out, Hbad.out]), T1.out.trans (HB2.out.mono (by omega))⟩
        · have HA : Hid ((ms.take (k + 1)).all (rowB f) = true) := by
            show _ = _
            rw [List.take_add_one, hx.out, List.all_append, Hall.out]
            simp [hrow]
          go_wp2
          go_roundw
          case rel => exact ⟨k + 1, by omega, by go_num, HB2.out, HA.out⟩
          case measure => simp [intOf]; omega
      · have hkn : k = n := by omega
        subst hkn
        go_wp2
        go_ret
        have := Hall.out
        rw [ttake_all Hn.out] at this
        exact ⟨ret_bool (by rw [HR.out, this]), T1.out.trans (HB.out.mono (by omega))⟩
  · have hl' : ((n : Int) != (s.size : Int)) = true := by rw [bne_iff_ne]; omega
    have HR : Hid (magB f ms = false) := by
      show _ = _
      have : (ms.length == f.s.size) = false := by rw [Hn.out, Hs0.out, beq_eq_false_iff_ne]; exact hl
      unfold magB; rw [hf, this]; rfl
    clear hl hfs hf
    go_enter Tryd.func19, Tryd.ntmps19
    go_wp2_with fail
    refine (implFontOk_any lo hi _ f _ V0.out (by simp; omega) HS.out).mono ?_
    rintro e w1 ⟨rfl, hb1⟩
    rw [HF.out]
    have T1 := Lib.hid (T0.out.trans (hb1.mono (by simp)))
    obtain ⟨q0, q1, q2⟩ := keep3 hb1 (by simp) X0.out
    clear hb1
    go_wp2
    go_ret
    exact ⟨ret_bool HR.out.symm, T1.out⟩
end Go.Proofs.YtdijlofcgcikjaaDoor

namespace Go.Proofs.YtdijlofcgcikjaaDoor
open Go.RowKit
set_option linter.unusedVariables false

/-- font, magazine, spare bands, measure, line, waiting -/
structure Mch where
  f : Fnt
  ms : List (List Mat)
  sp : Int
  w : Int
  t : Int
  k : Int
  ln : List Mat
  wt : List Mat
def Mch.big (X : Mch) : Nat := X.f.big + magBig X.ms + X.ln.length + X.wt.length
/-- lengths of at most 2^20 -/
structure SmallX (X : Mch) : Prop where
  f : Small X.f
  ms : X.ms.length ≤ 1048576
  row : ∀ xs ∈ X.ms, xs.length ≤ 1048576
  tot : tot X.ms ≤ 1048576
  ln : X.ln.length ≤ 1048576
  wt : X.wt.length ≤ 1048576
/-- all teeth are in the range of int -/
structure WfX (X : Mch) : Prop where
  ms : wfM X.ms
  ln : ∀ x ∈ X.ln, (Lit.int .i64 x.2).wf = true
  wt : ∀ x ∈ X.wt, (Lit.int .i64 x.2).wf = true
theorem len_tot {ms : List (List Mat)} {xs : List Mat} (h : xs ∈ ms) : xs.length ≤ tot ms := by
  unfold tot
  induction ms with
  | nil => cases h
  | cons y ys ih =>
    rw [List.map_cons, List.sum_cons]
    rcases List.mem_cons.1 h with rfl | h
    · omega
    · have := ih h; omega
theorem big_smallX {X : Mch} (h : X.big ≤ 1048576) : SmallX X := by
  unfold Mch.big Fnt.big magBig at h
  exact ⟨⟨by omega, by omega, by omega⟩, by omega, fun xs hx => by have := len_tot hx; omega, by omega, by omega, by omega⟩

/-- the ten words of a machine -/
def mwords (X : Mch) (A : Option Addr) (c : Nat) (A2 : Option Addr) (d : Nat) (M : Option Addr) (e : Nat) (L : Option Addr) (lc : Nat) (T : Option Addr) (tc : Nat) : Array Value :=
  #[.string X.f.s, .slice A X.f.ws.length c, .slice A2 X.f.cs.length d, .slice M X.ms.length e, .int .i64 X.sp, .int .i64 X.w, .int .i64 X.t, .int .i64 X.k, .slice L X.ln.length lc, .slice T X.wt.length tc]
structure MchP (w : World) (lo hi : Nat) (X : Mch) (A : Option Addr) (c : Nat) (A2 : Option Addr) (d : Nat) (M : Option Addr) (e : Nat) (L : Option Addr) (lc : Nat) (T : Option Addr) (tc : Nat) : Prop where
  font : FontV w lo hi (.agg #[.string X.f.s, .slice A X.f.ws.length c, .slice A2 X.f.cs.length d]) X.f
  mag : MagI w lo hi M X.ms
  line : MatsI w lo hi L X.ln
  wait : MatsI w lo hi T X.wt
  me : X.ms.length ≤ e
  em : e ≤ maxLen
  ll : X.ln.length ≤ lc
  lm : lc ≤ maxLen
  tl : X.wt.length ≤ tc
  tm : tc ≤ maxLen
/-- the value v reads as the machine X, in blocks from lo up to hi -/
def MchV (w : World) (lo hi : Nat) (v : Value) (X : Mch) : Prop :=
  ∃ A c A2 d M e L lc T tc, v = .agg (mwords X A c A2 d M e L lc T tc) ∧ MchP w lo hi X A c A2 d M e L lc T tc
section
variable {w w' : World} {lo hi : Nat} {X : Mch} {v : Value} {A A2 M L T : Option Addr} {c d e lc tc : Nat}
theorem MchP.keep (h : MchP w lo hi X A c A2 d M e L lc T tc) (hk : ∀ p : Addr, lo ≤ p.block → p.block < hi → w'.cell? p = w.cell? p) : MchP w' lo hi X A c A2 d M e L lc T tc :=
  ⟨h.font.keep hk, h.mag.keep hk, h.line.keep hk, h.wait.keep hk, h.me, h.em, h.ll, h.lm, h.tl, h.tm⟩
theorem MchP.below {B : Nat} (h : MchP w lo hi X A c A2 d M e L lc T tc) (hB : hi ≤ B) (hb : Below B w w') : MchP w' lo hi X A c A2 d M e L lc T tc := h.keep fun p _ h2 => hb.cell (by omega)
theorem MchP.chg {lo' hi' : Nat} (h : MchP w lo hi X A c A2 d M e L lc T tc) (hc : Chg lo' hi' w w') (hs : hi ≤ w.heap.size) (hn : hi ≤ lo' ∨ hi' ≤ lo) : MchP w' lo hi X A c A2 d M e L lc T tc :=
  h.keep fun p h1 h2 => hc.cell (by omega) (by omega)
theorem MchV.below {B : Nat} (h : MchV w lo hi v X) (hB : hi ≤ B) (hb : Below B w w') : MchV w' lo hi v X := by
  obtain ⟨A, c, A2, d, M, e, L, lc, T, tc, hv, hp⟩ := h
  exact ⟨A, c, A2, d, M, e, L, lc, T, tc, hv, hp.below hB hb⟩
theorem MchV.chg {lo' hi' : Nat} (h : MchV w lo hi v X) (hc : Chg lo' hi' w w') (hs : hi ≤ w.heap.size) (hn : hi ≤ lo' ∨ hi' ≤ lo) : MchV w' lo hi v X := by
  obtain ⟨A, c, A2, d, M, e, L, lc, T, tc, hv, hp⟩ := h
  exact ⟨A, c, A2, d, M, e, L, lc, T, tc, hv, hp.chg hc hs hn⟩
theorem MatsI.cutM {hi' n : Nat} {xs : List Mat} (h : OwnM w lo (.slice A n c) xs) (hk : ∀ k, (Value.slice A n c).ownBlock = some k → k < hi') : MatsI w lo hi' A xs := fun hn => by
  obtain ⟨ad, e, h1, h2, hc⟩ := h.reads hn
  obtain ⟨A', c', hv, _, _, hA, _⟩ := h.form
  injection hv with e1 e2 e3
  subst e1
  obtain ⟨g, rfl, h3, h4⟩ := hA ad e
  subst e
  exact ⟨_, rfl, h1, hk g rfl, hc⟩
theorem ownM_caps {B n : Nat} {xs : List Mat} (h : OwnM w B (.slice A n c) xs) : xs.length ≤ c ∧ c ≤ maxLen := by
  obtain ⟨A', c', hv, h1, h2, _⟩ := h.form
  injection hv with e1 e2 e3
  subst e3
  exact ⟨h1, h2⟩
theorem ownMag_caps {B n hi : Nat} {hs : List Value} {ms : List (List Mat)} (h : OwnMag w B hi (.slice A n c) hs ms) : ms.length ≤ c ∧ c ≤ maxLen := by
  obtain ⟨A', c', hv, h1, h2, _⟩ := h.form
  injection hv with e1 e2 e3
  subst e3
  exact ⟨h1, h2⟩
end

/-- the words of a machine and what they hold, by names -/
theorem MchV.parts {w : World} {lo hi : Nat} {X : Mch} {v : Value} (h : MchV w lo hi v X) : ∃ s A n c A2 m d M q e L l lc T r tc, v = .agg #[.string s, .slice A n c, .slice A2 m d, .slice M q e, .int .i64 X.sp, .int .i64 X.w, .int .i64 X.t, .int .i64 X.k, .slice L l lc, .slice T r tc]
    ∧ FontV w lo hi (.agg #[.string s, .slice A n c, .slice A2 m d]) X.f ∧ X.ms.length = q ∧ MagI w lo hi M X.ms ∧ q ≤ e ∧ e ≤ maxLen ∧ X.ln.length = l ∧ MatsI w lo hi L X.ln ∧ l ≤ lc ∧ lc ≤ maxLen ∧ X.wt.length = r ∧ MatsI w lo hi T X.wt ∧ r ≤ tc ∧ tc ≤ maxLen := by
  obtain ⟨A, c, A2, d, M, e, L, lc, T, tc, hv, hp⟩ := h
  exact ⟨_, A, _, c, A2, _, d, M, _, e, L, _, lc, T, _, tc, hv, hp.font, rfl, hp.mag, hp.me, hp.em, rfl, hp.line, hp.ll, hp.lm, rfl, hp.wait, hp.tl, hp.tm⟩
theorem MchV.form {w : World} {lo hi : Nat} {X : Mch} {v : Value} (h : MchV w lo hi v X) : ∃ s A n c A2 m d M q e sp W t k L l lc T r tc, v = .agg #[.string s, .slice A n c, .slice A2 m d, .slice M q e, .int .i64 sp, .int .i64 W, .int .i64 t, .int .i64 k, .slice L l lc, .slice T r tc] := by
  obtain ⟨A, c, A2, d, M, e, L, lc, T, tc, hv, hp⟩ := h
  exact ⟨_, A, _, c, A2, _, d, M, _, e, _, _, _, _, L, _, lc, T, _, tc, hv⟩
theorem cellOfBlk {w : World} {B : Nat} {cs : Array Value} {T : TypeId} (h : Blk w B cs T) (i : Nat) : w.cell? ⟨B, i, none⟩ = cs[i]? := by
  unfold Blk at h
  simp [World.cell?, h]
theorem Blk.ten {w : World} {B : Nat} {a0 a1 a2 a3 a4 a5 a6 a7 a8 a9 : Value} {T : TypeId} (h : Blk w B #[a0, a1, a2, a3, a4, a5, a6, a7, a8, a9] T) :
    w.cell? ⟨B, 0, none⟩ = some a0 ∧ w.cell? ⟨B, 1, none⟩ = some a1 ∧ w.cell? ⟨B, 2, none⟩ = some a2 ∧ w.cell? ⟨B, 3, none⟩ = some a3 ∧ w.cell? ⟨B, 4, none⟩ = some a4 ∧ w.cell? ⟨B, 5, none⟩ = some a5 ∧ w.cell? ⟨B, 6, none⟩ = some a6 ∧ w.cell? ⟨B, 7, none⟩ = some a7 ∧ w.cell? ⟨B, 8, none⟩ = some a8 ∧ w.cell? ⟨B, 9, none⟩ = some a9 :=
  ⟨cellOfBlk h 0, cellOfBlk h 1, cellOfBlk h 2, cellOfBlk h 3, cellOfBlk h 4, cellOfBlk h 5, cellOfBlk h 6, cellOfBlk h 7, cellOfBlk h 8, cellOfBlk h 9⟩
theorem mxWorld (w : World) (cs : Array Value) (T : TypeId) : ∃ w0, w.alloc (.cells cs T) = w0 ∧ Below w.heap.size w w0 ∧ w0.heap.size = w.heap.size + 1 ∧ Blk w0 w.heap.size cs T :=
  ⟨_, rfl, (Below.refl _ _).alloc (Nat.le_refl _) _, by simp, Blk.new _ _ _⟩

/-- two ranges of blocks that do not meet -/
def Off (a b c d : Nat) : Prop := b ≤ c ∨ d ≤ a
/-- .. and each of its parts is the call's own, in ranges of blocks that do not meet -/
structure MchO (w : World) (B hi : Nat) (v : Value) (X : Mch) (A : Option Addr) (c : Nat) (A2 : Option Addr) (d : Nat) (M : Option Addr) (e : Nat) (L : Option Addr) (lc : Nat) (T : Option Addr) (tc : Nat) (hs : List Value) (f0 f1 g0 g1 l0 l1 t0 t1 : Nat) : Prop where
  v : v = .agg (mwords X A c A2 d M e L lc T tc)
  font : FontO w f0 f1 (.agg #[.string X.f.s, .slice A X.f.ws.length c, .slice A2 X.f.cs.length d]) X.f
  mag : OwnMag w g0 g1 (.slice M X.ms.length e) hs X.ms
  line : OwnM w l0 (.slice L X.ln.length lc) X.ln
  lineT : ∀ k, (Value.slice L X.ln.length lc).ownBlock = some k → k < l1
  wait : OwnM w t0 (.slice T X.wt.length tc) X.wt
  waitT : ∀ k, (Value.slice T X.wt.length tc).ownBlock = some k → k < t1
  fg : Off f0 f1 g0 g1
  fl : Off f0 f1 l0 l1
  ft : Off f0 f1 t0 t1
  gl : Off g0 g1 l0 l1
  gt : Off g0 g1 t0 t1
  lt : Off l0 l1 t0 t1
  fi : B ≤ f0 ∧ f1 ≤ hi
  gi : B ≤ g0 ∧ g1 ≤ hi
  li : B ≤ l0 ∧ l1 ≤ hi
  ti : B ≤ t0 ∧ t1 ≤ hi
def MchX (w : World) (B hi : Nat) (v : Value) (X : Mch) : Prop := ∃ A c A2 d M e L lc T tc hs f0 f1 g0 g1 l0 l1 t0 t1, MchO w B hi v X A c A2 d M e L lc T tc hs f0 f1 g0 g1 l0 l1 t0 t1
section
variable {w w' : World} {B hi : Nat} {X : Mch} {v : Value}
theorem MchX.reads (h : MchX w B hi v X) : MchV w B hi v X := by
  obtain ⟨A, c, A2, d, M, e, L, lc, T, tc, hs, f0, f1, g0, g1, l0, l1, t0, t1, h⟩ := h
  have fv := h.font.font
  refine ⟨A, c, A2, d, M, e, L, lc, T, tc, h.v, ?_, h.mag.reads.wide h.gi.1 h.gi.2, (MatsI.cutM h.line h.lineT).wide h.li.1 h.li.2, (MatsI.cutM h.wait h.waitT).wide h.ti.1 h.ti.2, (ownMag_caps h.mag).1, (ownMag_caps h.mag).2, (ownM_caps h.line).1, (ownM_caps h.line).2, (ownM_caps h.wait).1, (ownM_caps h.wait).2⟩
  obtain ⟨A', c', A2', d', hv, h1, h2, rest⟩ := fv
  exact ⟨A', c', A2', d', hv, h1.wide h.fi.1 h.fi.2, h2.wide h.fi.1 h.fi.2, rest⟩
theorem MchX.below (h : MchX w B hi v X) (hb : Below w.heap.size w w') : MchX w' B hi v X := by
  obtain ⟨A, c, A2, d, M, e, L, lc, T, tc, hs, f0, f1, g0, g1, l0, l1, t0, t1, h⟩ := h
  exact ⟨A, c, A2, d, M, e, L, lc, T, tc, hs, f0, f1, g0, g1, l0, l1, t0, t1, ⟨h.v, h.font.below hb, h.mag.below hb, h.line.below hb, h.lineT, h.wait.below hb, h.waitT, h.fg, h.fl, h.ft, h.gl, h.gt, h.lt, h.fi, h.gi, h.li, h.ti⟩⟩
theorem MchX.wide {B' hi' : Nat} (h : MchX w B hi v X) (h1 : B' ≤ B) (h2 : hi ≤ hi') : MchX w B' hi' v X := by
  obtain ⟨A, c, A2, d, M, e, L, lc, T, tc, hs, f0, f1, g0, g1, l0, l1, t0, t1, h⟩ := h
  exact ⟨A, c, A2, d, M, e, L, lc, T, tc, hs, f0, f1, g0, g1, l0, l1, t0, t1, ⟨h.v, h.font, h.mag, h.line, h.lineT, h.wait, h.waitT, h.fg, h.fl, h.ft, h.gl, h.gt, h.lt, ⟨by have := h.fi.1; omega, by have := h.fi.2; omega⟩, ⟨by have := h.gi.1; omega, by have := h.gi.2; omega⟩, ⟨by have := h.li.1; omega, by have := h.li.2; omega⟩, ⟨by have := h.ti.1; omega, by have := h.ti.2; omega⟩⟩⟩
theorem FontO.chg {lo' hi' f0 f1 : Nat} {f : Fnt} (h : FontO w f0 f1 v f) (hc : Chg lo' hi' w w') (hn : Off f0 f1 lo' hi') : FontO w' f0 f1 v f := by
  obtain ⟨A, c, A2, d, mid, hv, h1, hm, h2, hm2, h3, h4, hs⟩ := h
  unfold Off at hn
  have l1 := fun g hg => World.ownsRow.lt h1 g hg
  have l2 := fun g hg => World.ownsRow.lt h2 g hg
  exact ⟨A, c, A2, d, mid, hv, hc.own h1 (fun k hk => by have := l1 k hk; have := hm k hk; omega), hm, hc.own h2 (fun k hk => by have := l2 k hk; have := hm2 k hk; omega), hm2, h3, h4, hs⟩
theorem MchX.chg {lo' hi' : Nat} (h : MchX w B hi v X) (hc : Chg lo' hi' w w') (hn : Off B hi lo' hi') : MchX w' B hi v X := by
  obtain ⟨A, c, A2, d, M, e, L, lc, T, tc, hs, f0, f1, g0, g1, l0, l1, t0, t1, h⟩ := h
  have q1 := h.fi; have q2 := h.gi; have q3 := h.li; have q4 := h.ti
  unfold Off at hn
  refine ⟨A, c, A2, d, M, e, L, lc, T, tc, hs, f0, f1, g0, g1, l0, l1, t0, t1, ⟨h.v, h.font.chg hc (by unfold Off; omega), h.mag.chg hc (by omega), h.line.chg hc (fun k hk => ?_), h.lineT, h.wait.chg hc (fun k hk => ?_), h.waitT, h.fg, h.fl, h.ft, h.gl, h.gt, h.lt, h.fi, h.gi, h.li, h.ti⟩⟩
  · have := h.line.lt k hk; have := h.lineT k hk; omega
  · have := h.wait.lt k hk; have := h.waitT k hk; omega
end

/-! what a machine is -/
def bandM (x : Mat) : Bool := x.1 == -1 && x.2 == 0
def setM (f : Fnt) (x : Mat) : Bool := bandM x || matB f x
def itemM (f : Fnt) (x : Mat) : Int := if x.1 < 0 then 0 else f.ws.getD x.1.toNat 0
def itemsM (f : Fnt) (ln : List Mat) : List Int := ln.map (itemM f)
def Mch.m (X : Mch) : Msr := ⟨X.w, X.t, X.k⟩
def machB (X : Mch) : Bool := magB X.f X.ms && (inB X.sp 0 60 && ((decide (X.wt.length ≤ 240) && X.wt.all (matB X.f)) && ((decide (X.ln.length ≤ 120) && X.ln.all (setM X.f)) && goodB X.m (itemsM X.f X.ln))))
end Go.Proofs.YtdijlofcgcikjaaDoor

namespace Go.Proofs.YtdijlofcgcikjaaDoor
open Go.RowKit
set_option linter.unusedVariables false

end Go.Proofs.YtdijlofcgcikjaaDoor

namespace Go.Proofs.YtdijlofcgcikjaaDoor
open Go.RowKit
set_option linter.unusedVariables false

theorem heapSet {w : World} {B i : Nat} {cs : Array Value} {T : TypeId} (h : Blk w B cs T) (u : Value) : Blk (w.setCell ⟨B, i, none⟩ u) B (cs.setIfInBounds i u) T := by
  unfold Blk; exact heap_setCell_same w B i _ _ _ h
theorem Blk.fill {w : World} {B : Nat} {a0 a1 a2 a3 a4 a5 a6 a7 a8 a9 : Value} {T : TypeId} (h : Blk w B #[a0, a1, a2, a3, a4, a5, a6, a7, a8, a9] T) (u0 u1 u2 u3 u4 u5 u6 u7 u8 u9 : Value) :
    Blk (((((((((((w.setCell ⟨B, 0, none⟩ u0).setCell ⟨B, 1, none⟩ u1).setCell ⟨B, 2, none⟩ u2).setCell ⟨B, 3, none⟩ u3).setCell ⟨B, 4, none⟩ u4).setCell ⟨B, 5, none⟩ u5).setCell ⟨B, 6, none⟩ u6).setCell ⟨B, 7, none⟩ u7).setCell ⟨B, 8, none⟩ u8).setCell ⟨B, 9, none⟩ u9)) B #[u0, u1, u2, u3, u4, u5, u6, u7, u8, u9] T := by
  have h0 : Blk (w.setCell ⟨B, 0, none⟩ u0) B #[u0, a1, a2, a3, a4, a5, a6, a7, a8, a9] T := heapSet (i := 0) h u0
  have h1 : Blk ((w.setCell ⟨B, 0, none⟩ u0).setCell ⟨B, 1, none⟩ u1) B #[u0, u1, a2, a3, a4, a5, a6, a7, a8, a9] T := heapSet (i := 1) h0 u1
  have h2 : Blk (((w.setCell ⟨B, 0, none⟩ u0).setCell ⟨B, 1, none⟩ u1).setCell ⟨B, 2, none⟩ u2) B #[u0, u1, u2, a3, a4, a5, a6, a7, a8, a9] T := heapSet (i := 2) h1 u2
  have h3 : Blk ((((w.setCell ⟨B, 0, none⟩ u0).setCell ⟨B, 1, none⟩ u1).setCell ⟨B, 2, none⟩ u2).setCell ⟨B, 3, none⟩ u3) B #[u0, u1, u2, u3, a4, a5, a6, a7, a8, a9] T := heapSet (i := 3) h2 u3
  have h4 : Blk (((((w.setCell ⟨B, 0, none⟩ u0).setCell ⟨B, 1, none⟩ u1).setCell ⟨B, 2, none⟩ u2).setCell ⟨B, 3, none⟩ u3).setCell ⟨B, 4, none⟩ u4) B #[u0, u1, u2, u3, u4, a5, a6, a7, a8, a9] T := heapSet (i := 4) h3 u4
  have h5 : Blk ((((((w.setCell ⟨B, 0, none⟩ u0).setCell ⟨B, 1, none⟩ u1).setCell ⟨B, 2, none⟩ u2).setCell ⟨B, 3, none⟩ u3).setCell ⟨B, 4, none⟩ u4).setCell ⟨B, 5, none⟩ u5) B #[u0, u1, u2, u3, u4, u5, a6, a7, a8, a9] T := heapSet (i := 5) h4 u5
  have h6 : Blk (((((((w.setCell ⟨B, 0, none⟩ u0).setCell ⟨B, 1, none⟩ u1).setCell ⟨B, 2, none⟩ u2).setCell ⟨B, 3, none⟩ u3).setCell ⟨B, 4, none⟩ u4).setCell ⟨B, 5, none⟩ u5).setCell ⟨B, 6, none⟩ u6) B #[u0, u1, u2, u3, u4, u5, u6, a7, a8, a9] T := heapSet (i := 6) h5 u6
  have h7 : Blk ((((((((w.setCell ⟨B, 0, none⟩ u0).setCell ⟨B, 1, none⟩ u1).setCell ⟨B, 2, none⟩ u2).setCell ⟨B, 3, none⟩ u3).setCell ⟨B, 4, none⟩ u4).setCell ⟨B, 5, none⟩ u5).setCell ⟨B, 6, none⟩ u6).setCell ⟨B, 7, none⟩ u7) B #[u0, u1, u2, u3, u4, u5, u6, u7, a8, a9] T := heapSet (i := 7) h6 u7
  have h8 : Blk (((((((((w.setCell ⟨B, 0, none⟩ u0).setCell ⟨B, 1, none⟩ u1).setCell ⟨B, 2, none⟩ u2).setCell ⟨B, 3, none⟩ u3).setCell ⟨B, 4, none⟩ u4).setCell ⟨B, 5, none⟩ u5).setCell ⟨B, 6, none⟩ u6).setCell ⟨B, 7, none⟩ u7).setCell ⟨B, 8, none⟩ u8) B #[u0, u1, u2, u3, u4, u5, u6, u7, u8, a9] T := heapSet (i := 8) h7 u8
  have h9 : Blk ((((((((((w.setCell ⟨B, 0, none⟩ u0).setCell ⟨B, 1, none⟩ u1).setCell ⟨B, 2, none⟩ u2).setCell ⟨B, 3, none⟩ u3).setCell ⟨B, 4, none⟩ u4).setCell ⟨B, 5, none⟩ u5).setCell ⟨B, 6, none⟩ u6).setCell ⟨B, 7, none⟩ u7).setCell ⟨B, 8, none⟩ u8).setCell ⟨B, 9, none⟩ u9) B #[u0, u1, u2, u3, u4, u5, u6, u7, u8, u9] T := heapSet (i := 9) h8 u9
  exact h9
theorem Blk.warm {w : World} {B : Nat} {cs : Array Value} {T : TypeId} (h : Blk w B cs T) (i : Nat) : w.frozen? ⟨B, i, none⟩ = false := by
  unfold Blk at h
  simp [World.frozen?, h]
theorem ownM_set {w : World} {B : Nat} {v : Value} {xs : List Mat} (h : OwnM w B v xs) {a : Addr} (ha : a.block < B) (u : Value) : OwnM (w.setCell a u) B v xs := ownsRow_setCell_below h ha u
theorem FontO.names {w : World} {B hi : Nat} {v : Value} {f : Fnt} (h : FontO w B hi v f) : ∃ s A n c A2 m d, v = .agg #[.string s, .slice A n c, .slice A2 m d] := by
  obtain ⟨A, c, A2, d, mid, hv, -⟩ := h
  exact ⟨_, A, _, c, A2, _, d, hv⟩
/-- one value stored in a block below all that a font holds -/
theorem FontO.setB {w : World} {B hi b o : Nat} {v : Value} {f : Fnt} (h : FontO w B hi v f) (hb : b < B) (u : Value) : FontO (w.setCell ⟨b, o, none⟩ u) B hi v f := by
  obtain ⟨A, c, A2, d, mid, hv, h1, hm, h2, hm2, h3, h4, hs⟩ := h
  exact ⟨A, c, A2, d, mid, hv, own_set h1 hb u, hm, own_set h2 (by show b < mid; omega) u, hm2, h3, h4, hs⟩
theorem OwnMag.setB {w : World} {B hi b o : Nat} {v : Value} {hs : List Value} {ms : List (List Mat)} (h : OwnMag w B hi v hs ms) (hb : b < B) (u : Value) : OwnMag (w.setCell ⟨b, o, none⟩ u) B hi v hs ms where
  outer := ownsRow_setCell_below h.outer (by show b < B; exact hb) u
  rows := fun j xs hx => by obtain ⟨hj, e, ho⟩ := h.rows j xs hx; exact ⟨hj, e, ownM_set ho (by show b < B; exact hb) u⟩
  apart := h.apart
  other := h.other
  top := h.top
theorem MchX.build {w : World} {B hi : Nat} {X : Mch} {s : ByteArray} {A A2 M L T : Option Addr} {n c m d q e l lc r tc : Nat} {hs : List Value} {f0 f1 g0 g1 l0 l1 t0 t1 : Nat}
    (h1 : FontO w f0 f1 (.agg #[.string s, .slice A n c, .slice A2 m d]) X.f) (h2 : OwnMag w g0 g1 (.slice M q e) hs X.ms)
    (h3 : OwnM w l0 (.slice L l lc) X.ln) (h3t : ∀ k, (Value.slice L l lc).ownBlock = some k → k < l1) (h4 : OwnM w t0 (.slice T r tc) X.wt) (h4t : ∀ k, (Value.slice T r tc).ownBlock = some k → k < t1)
    (o1 : Off f0 f1 g0 g1) (o2 : Off f0 f1 l0 l1) (o3 : Off f0 f1 t0 t1) (o4 : Off g0 g1 l0 l1) (o5 : Off g0 g1 t0 t1) (o6 : Off l0 l1 t0 t1)
    (i1 : B ≤ f0 ∧ f1 ≤ hi) (i2 : B ≤ g0 ∧ g1 ≤ hi) (i3 : B ≤ l0 ∧ l1 ≤ hi) (i4 : B ≤ t0 ∧ t1 ≤ hi) :
    MchX w B hi (.agg #[.string s, .slice A n c, .slice A2 m d, .slice M q e, .int .i64 X.sp, .int .i64 X.w, .int .i64 X.t, .int .i64 X.k, .slice L l lc, .slice T r tc]) X := by
  have h1' := h1
  obtain ⟨A', c', A2', d', mid, hv, -⟩ := h1'
  injection hv with hv
  injection hv with hv
  simp only [List.cons.injEq, Value.string.injEq, Value.slice.injEq] at hv
  obtain ⟨rfl, ⟨rfl, rfl, rfl⟩, ⟨rfl, rfl, rfl⟩, -⟩ := hv
  obtain ⟨M', e', hv2, -⟩ := h2.form
  simp only [Value.slice.injEq] at hv2
  obtain ⟨rfl, rfl, rfl⟩ := hv2
  obtain ⟨L', e2', hv3, -⟩ := h3.form
  simp only [Value.slice.injEq] at hv3
  obtain ⟨rfl, rfl, rfl⟩ := hv3
  obtain ⟨T', e3', hv4, -⟩ := h4.form
  simp only [Value.slice.injEq] at hv4
  obtain ⟨rfl, rfl, rfl⟩ := hv4
  exact ⟨A, c, A2, d, M, e, L, lc, T, tc, hs, f0, f1, g0, g1, l0, l1, t0, t1, ⟨rfl, h1, h2, h3, h3t, h4, h4t, o1, o2, o3, o4, o5, o6, i1, i2, i3, i4⟩⟩

end Go.Proofs.YtdijlofcgcikjaaDoor
