/-
  Contracts and plain mathematics (MatOk, MagOk, MchM, SpecL, MchS, MchI, LnKit, MchT, MchS2, MchJ, MchL, MchU, MchK, FontK), each with its conditions in its own statement.
-/
import Derived.Test.YtobakeahbgodbaaGreatPkE
import Derived.Test.YtobakeahbgodbaaGreatPkF
import Derived.Test.YtobakeahbgodbaaGreatPkB
import Derived.Test.YtobakeahbgodbaaGreatPkA
import Derived.Test.YtobakeahbgodbaaGreatPkC
import Derived.Test.YtobakeahbgodbaaGreatPkD
namespace Go.Proofs.YtobakeahbgodbaaGreat
open Go.RowKit
set_option linter.unusedVariables false

theorem part_set {s t : Int} (wf : (Lit.int .i64 s).wf = true) (h0 : 0 ≤ t) (h1 : t ≤ 127) (h : partB s t = true) : setB s = true := by
  have hw : -9223372036854775808 ≤ s ∧ s ≤ 9223372036854775807 := by
    simp [Lit.wf, IntKind.min, IntKind.max, IntKind.signed, IntKind.bits] at wf
    omega
  obtain ⟨b, rfl⟩ := Int.eq_ofNat_of_zero_le h0
  have hb : b < 128 := by omega
  rw [partB_eq, beq_iff_eq] at h
  have e : IntKind.i64.wrap ((BitVec.ofInt 64 s &&& ~~~ BitVec.ofInt 64 (b : Int)).toNat : Int) = 0 := h
  have hlt : (BitVec.ofInt 64 s &&& ~~~ BitVec.ofInt 64 (b : Int)).toNat < 2 ^ 64 := (BitVec.ofInt 64 s &&& ~~~ BitVec.ofInt 64 (b : Int)).isLt
  rw [IntKind.wrap_i64] at e
  have hz : (BitVec.ofInt 64 s &&& ~~~ BitVec.ofInt 64 (b : Int)).toNat = 0 := by omega
  have hle : (BitVec.ofInt 64 s).toNat < 2 ^ 7 := by
    apply Nat.lt_of_not_le
    intro hge
    obtain ⟨i, hi, hbit⟩ := Nat.exists_ge_and_testBit_of_ge_two_pow hge
    have hz' : (BitVec.ofInt 64 s &&& ~~~ BitVec.ofInt 64 (b : Int)).toNat.testBit i = false := by rw [hz]; simp
    have hi64 : i < 64 := by
      apply Nat.lt_of_not_le
      intro h64
      have : (BitVec.ofInt 64 s).toNat.testBit i = false := Nat.testBit_lt_two_pow (Nat.lt_of_lt_of_le (BitVec.ofInt 64 s).isLt (Nat.pow_le_pow_right (by omega) h64))
      rw [this] at hbit; cases hbit
    have hbf : b.testBit i = false := Nat.testBit_lt_two_pow (Nat.lt_of_lt_of_le hb (Nat.le_trans (by decide : 128 ≤ 2 ^ 7) (Nat.pow_le_pow_right (by omega) hi)))
    rw [BitVec.testBit_toNat, BitVec.getLsbD_and, BitVec.getLsbD_not, ← BitVec.testBit_toNat, ← BitVec.testBit_toNat, ofInt_i64 b (by omega), hbit, hbf] at hz'
    simp [hi64] at hz'
  rw [setB_iff]
  rw [BitVec.toNat_ofInt] at hle
  omega

/-- a matrix of a font -/
def matB (f : Fnt) (x : Mat) : Bool := inB x.1 0 ((f.s.size : Int) - 1) && (setB x.2 && partB x.2 (f.cs.getD x.1.toNat 0))
def matI (f : Fnt) (x : Mat) : Bool := fontB f && matB f x
theorem fontB_codes {f : Fnt} (h : fontB f = true) : f.s.size = f.cs.length ∧ f.ws.length = f.cs.length ∧ isBar f.cs = true := by
  unfold fontB at h
  simp only [Bool.and_eq_true, beq_iff_eq] at h
  have := h.1
  unfold sortsAll at this
  rw [Bool.and_eq_true] at this
  exact ⟨h.2.1, h.2.2.1, this.2⟩
theorem inB_iff (x a b : Int) : inB x a b = true ↔ a ≤ x ∧ x ≤ b := by unfold inB; rw [decide_eq_true_eq]

set_option maxRecDepth 100000 in
set_option maxHeartbeats 1600000 in
theorem l2Matrix_any (lo hi : Nat) (v : Value) (f : Fnt) (x : Mat) (w : World) (h : FontV w lo hi v f) (hhi : hi ≤ w.heap.size) (hs : Small f) (hf : fontB f = true) :
    Calls Tryz.prog 89 #[v, .agg #[.int .i64 x.1, .int .i64 x.2]] w fun e w' => e = .returned (.bool (matB f x)) ∧ Below w.heap.size w w' := by
  obtain ⟨A, c, A2, d, rfl, hI1, hI2, hc1, hc2, hd1, hd2, hss⟩ := h
  obtain ⟨e1, e2, hbar⟩ := fontB_codes hf
  have hbl := bar_len hbar
  obtain ⟨s, ws, cs⟩ := f
  obtain ⟨k, t⟩ := x
  obtain ⟨hs1, hs2, hs3⟩ := hs
  simp only at *
  obtain ⟨n, hn⟩ : ∃ n, ws.length = n := ⟨_, rfl⟩
  obtain ⟨m, hm⟩ : ∃ m, cs.length = m := ⟨_, rfl⟩
  have Hn := Lib.hid hn; have Hm := Lib.hid hm
  have He := Lib.hid e1
  rw [hn, hm]
  rw [hm] at hbl
  have hsz : s.size = m := by rw [e1, hm]
  have HM : Hid (matB ⟨s, ws, cs⟩ (k, t) = (inB k 0 ((s.size : Int) - 1) && (setB t && partB t (cs.getD k.toNat 0)))) := rfl
  have hW : Below w.heap.size w ((w.alloc (.cells #[.string s, .slice A n c, .slice A2 m d] 25)).alloc (.cells #[.int .i64 k, .int .i64 t] 121)) := ((Below.refl _ _).alloc (Nat.le_refl _) _).alloc (by simp) _
  have G2 := Lib.hid (hI2.below hhi hW)
  have HW := Lib.hid hW
  have hsb1 : 1 ≤ s.size := by omega
  have hsb2 : s.size ≤ 40 := by omega
  have Hsz := Lib.hid hsz
  clear hI1 hI2 hc1 hc2 hd1 hd2 hss hW hn hm e1 e2 hbar hbl hs1 hs2 hs3 hf hsz
  cases h1 : inB k 0 ((s.size : Int) - 1)
  · have HR : Hid (matB ⟨s, ws, cs⟩ (k, t) = false) := by show _ = _; rw [HM.out, h1]; rfl
    go_enter Tryz.func89, Tryz.ntmps89
    go_wp2
    go_quiet ((go_at_call 87; exact Calls.quiet_of_same ((l1In_any _ _ _ _).mono fun _ _ hh => ⟨by rw [hh.1, h1], hh.2.symm⟩)))
    go_wp2
    go_ret
    exact ⟨ret_bool HR.out.symm, below_drewN HW.out _⟩
  · obtain ⟨k0, k1⟩ := (inB_iff _ _ _).1 h1
    obtain ⟨j, rfl⟩ := Int.eq_ofNat_of_zero_le k0
    have hjm : j < m := by have := Hsz.out; omega
    cases h2 : setB t
    · have HR : Hid (matB ⟨s, ws, cs⟩ ((j : Int), t) = false) := by show _ = _; rw [HM.out, h1, h2]; rfl
      go_enter Tryz.func89, Tryz.ntmps89
      go_wp2
      go_quiet ((first
        | (go_at_call 87; exact Calls.quiet_of_same ((l1In_any _ _ _ _).mono fun _ _ hh => ⟨by rw [hh.1, h1], hh.2.symm⟩))
        | (go_at_call 122; exact Calls.quiet_of_same ((l1Set_any _ _).mono fun _ _ hh => ⟨by rw [hh.1, h2], hh.2.symm⟩))))
      go_wp2
      go_ret
      exact ⟨ret_bool HR.out.symm, below_drewN HW.out _⟩
    · obtain ⟨ad, x, rfl, hx, hc⟩ := G2.out.ints.at_ (k := j) (by rw [Hm.out]; exact hjm)
      have HR : Hid (matB ⟨s, ws, cs⟩ ((j : Int), t) = partB t x) := by
        show _ = _
        rw [HM.out, h1, h2, Int.toNat_natCast, getD_at hx.out]; rfl
      go_enter Tryz.func89, Tryz.ntmps89
      go_wp2
      go_quiet ((first
        | (go_at_call 87; exact Calls.quiet_of_same ((l1In_any _ _ _ _).mono fun _ _ hh => ⟨by rw [hh.1, h1], hh.2.symm⟩))
        | (go_at_call 122; exact Calls.quiet_of_same ((l1Set_any _ _).mono fun _ _ hh => ⟨by rw [hh.1, h2], hh.2.symm⟩))
        | (go_at_call 123; exact Calls.quiet_of_same ((l1Part_any _ _ _).mono fun _ _ hh => ⟨hh.1, hh.2.symm⟩))))
      go_wp2
      go_ret
      exact ⟨ret_bool HR.out.symm, below_drewN HW.out _⟩
set_option maxRecDepth 100000 in
set_option maxHeartbeats 1600000 in
theorem isMatrix_any (lo hi : Nat) (v : Value) (f : Fnt) (x : Mat) (w : World) (h : FontV w lo hi v f) (hhi : hi ≤ w.heap.size) (hs : Small f) (hf : fontB f = true) (wf : (Lit.int .i64 x.2).wf = true) :
    Calls Tryz.prog 95 #[v, .agg #[.int .i64 x.1, .int .i64 x.2]] w fun e w' => e = .returned (.bool (matB f x)) ∧ Below w.heap.size w w' := by
  obtain ⟨A, c, A2, d, rfl, hI1, hI2, hc1, hc2, hd1, hd2, hss⟩ := h
  obtain ⟨e1, e2, hbar⟩ := fontB_codes hf
  have hbl := bar_len hbar
  obtain ⟨s, ws, cs⟩ := f
  obtain ⟨k, t⟩ := x
  obtain ⟨hs1, hs2, hs3⟩ := hs
  simp only at *
  obtain ⟨n, hn⟩ : ∃ n, ws.length = n := ⟨_, rfl⟩
  obtain ⟨m, hm⟩ : ∃ m, cs.length = m := ⟨_, rfl⟩
  have Hn := Lib.hid hn; have Hm := Lib.hid hm
  have He := Lib.hid e1
  rw [hn, hm]
  rw [hm] at hbl
  have Hbar := Lib.hid (bar_set hbar)
  have Hwf := Lib.hid wf
  have hm0 : m ≤ maxLen := by unfold maxLen; omega
  have hsz : s.size = m := by rw [e1, hm]
  have HM : Hid (matB ⟨s, ws, cs⟩ (k, t) = (inB k 0 ((s.size : Int) - 1) && (setB t && partB t (cs.getD k.toNat 0)))) := rfl
  have hW : Below w.heap.size w ((w.alloc (.cells #[.string s, .slice A n c, .slice A2 m d] 25)).alloc (.cells #[.int .i64 k, .int .i64 t] 121)) := ((Below.refl _ _).alloc (Nat.le_refl _) _).alloc (by simp) _
  have G2 := Lib.hid (hI2.below hhi hW)
  have HW := Lib.hid hW
  have hsb1 : 1 ≤ s.size := by omega
  have hsb2 : s.size ≤ 40 := by omega
  have Hsz := Lib.hid hsz
  clear hI1 hI2 hc1 hc2 hd1 hd2 hss hW hn hm e1 e2 hbar hbl hs1 hs2 hs3 hf hsz wf
  have HZ : Hid (inB k 0 ((m : Int) - 1) = inB k 0 ((s.size : Int) - 1)) := by show _ = _; rw [Hsz.out]
  cases h1 : inB k 0 ((m : Int) - 1)
  · have HR : Hid (matB ⟨s, ws, cs⟩ (k, t) = false) := by show _ = _; rw [HM.out, ← HZ.out, h1]; rfl
    go_enter Tryz.func95, Tryz.ntmps95
    go_wp2
    go_quiet ((go_at_call 127; exact Calls.quiet_of_same ((hasPlace_any _ _ _ _ _ hm0).mono fun _ _ hh => ⟨by rw [hh.1, h1], hh.2.symm⟩)))
    go_wp2
    go_ret
    exact ⟨ret_bool HR.out.symm, below_drewN HW.out _⟩
  · obtain ⟨k0, k1⟩ := (inB_iff _ _ _).1 h1
    obtain ⟨j, rfl⟩ := Int.eq_ofNat_of_zero_le k0
    have hjm : j < m := by omega
    obtain ⟨ad, x, rfl, hx, hc⟩ := G2.out.ints.at_ (k := j) (by rw [Hm.out]; exact hjm)
    have HR : Hid (matB ⟨s, ws, cs⟩ ((j : Int), t) = partB t x) := by
      show _ = _
      have hxb := Hbar.out x (mem_at hx.out)
      rw [HM.out, ← HZ.out, h1, Int.toNat_natCast, getD_at hx.out, Bool.true_and]
      cases hp : partB t x
      · simp
      · rw [part_set Hwf.out hxb.1 hxb.2 hp]; rfl
    go_enter Tryz.func95, Tryz.ntmps95
    go_wp2
    go_quiet ((first
      | (go_at_call 127; exact Calls.quiet_of_same ((hasPlace_any _ _ _ _ _ hm0).mono fun _ _ hh => ⟨by rw [hh.1, h1], hh.2.symm⟩))
      | (go_at_call 128; exact Calls.quiet_of_same ((isPartOf_any _ _ _).mono fun _ _ hh => ⟨hh.1, hh.2.symm⟩))))
    go_wp2
    go_ret
    exact ⟨ret_bool HR.out.symm, below_drewN HW.out _⟩

end Go.Proofs.YtobakeahbgodbaaGreat

namespace Go.Proofs.YtobakeahbgodbaaGreat
open Go.RowKit
set_option linter.unusedVariables false

def rowB (f : Fnt) (xs : List Mat) : Bool := decide (xs.length ≤ 20) && xs.all (matB f)
def magB (f : Fnt) (ms : List (List Mat)) : Bool := fontB f && ((ms.length == f.s.size) && ms.all (rowB f))
theorem rowB_room {f : Fnt} {xs : List Mat} (h : 20 < xs.length) : rowB f xs = false := by
  unfold rowB; rw [decide_eq_false (by omega)]; rfl
theorem rowB_bad {f : Fnt} {xs : List Mat} {k : Nat} {x : Mat} (hx : xs[k]? = some x) (h : matB f x = false) : rowB f xs = false := by
  have : xs.all (matB f) = false := by
    rw [List.all_eq_false]; exact ⟨x, List.mem_of_getElem? hx, by rw [h]; simp⟩
  unfold rowB; rw [this, Bool.and_false]
theorem rows_bad {f : Fnt} {ms : List (List Mat)} {k : Nat} {xs : List Mat} (hx : ms[k]? = some xs) (h : rowB f xs = false) : ms.all (rowB f) = false := by
  rw [List.all_eq_false]; exact ⟨xs, List.mem_of_getElem? hx, by rw [h]; simp⟩
theorem all_step {f : Fnt} {xs : List Mat} {k : Nat} {x : Mat} (hx : xs[k]? = some x) (h : matB f x = true) (ht : (xs.take k).all (matB f) = true) : (xs.take (k + 1)).all (matB f) = true := by
  rw [mtake_at hx, List.all_append, ht]; simp [h]
theorem all_step2 {f : Fnt} {ms : List (List Mat)} {k : Nat} {xs : List Mat} (hx : ms[k]? = some xs) (hr : xs.length ≤ 20) (h : xs.all (matB f) = true) (ht : (ms.take k).all (rowB f) = true) : (ms.take (k + 1)).all (rowB f) = true := by
  rw [ttake_at hx, List.all_append, ht]
  simp [rowB, h, hr]
theorem fontB_size {f : Fnt} (h : fontB f = true) : 1 ≤ f.s.size ∧ f.s.size ≤ 40 := by
  obtain ⟨e, _, hb⟩ := fontB_codes h
  have := bar_len hb
  omega

set_option maxRecDepth 100000 in
set_option maxHeartbeats 3200000 in
theorem specMagOk_any (lo hi lo2 hi2 : Nat) (v : Value) (f : Fnt) (A : Option Addr) (n c : Nat) (ms : List (List Mat)) (w : World) (h : FontV w lo hi v f) (hhi : hi ≤ w.heap.size) (hs : Small f) (hn : ms.length = n) (hm : n ≤ 1048576) (hM : MagI w lo2 hi2 A ms) (hhi2 : hi2 ≤ w.heap.size) :
    Calls Tryz.prog 86 #[v, .slice A n c] w fun e w' => e = .returned (.bool (magB f ms)) ∧ Below w.heap.size w w' := by
  obtain ⟨B, d, B2, d2, hv⟩ := fontForm h
  obtain ⟨s, hs0⟩ : ∃ s, f.s = s := ⟨_, rfl⟩
  obtain ⟨p, hp⟩ : ∃ n, f.ws.length = n := ⟨_, rfl⟩
  obtain ⟨q, hq⟩ : ∃ m, f.cs.length = m := ⟨_, rfl⟩
  rw [hs0, hp, hq] at hv
  rw [hv] at h
  rw [hv]
  have hW : Below w.heap.size w (w.alloc (.cells #[.string s, .slice B p d, .slice B2 q d2] 25)) := (Below.refl _ _).alloc (Nat.le_refl _) _
  have V0 := Lib.hid (h.below hhi hW)
  have M0 := Lib.hid (hM.below hhi2 hW)
  have X0 := Lib.hid (new3 w (.string s) (.slice B p d) (.slice B2 q d2) 25)
  have T0 := Lib.hid hW
  have Hn := Lib.hid hn; have Hs0 := Lib.hid hs0
  have HS := Lib.hid hs
  clear hv hs0 hp hq h hW hM hn hs
  cases hf : fontB f
  · have HR : Hid (magB f ms = false) := by show _ = _; unfold magB; rw [hf]; rfl
    go_enter Tryz.func86, Tryz.ntmps86
    go_wp2_with (go_at_call 110; refine (specFontOk_any lo hi _ f _ V0.out (by simp; omega) HS.out).mono ?_; rintro e w1 ⟨rfl, hb1⟩; have T1 := Lib.hid (T0.out.trans (hb1.mono (by simp))); clear hb1)
    go_ret
    exact ⟨ret_bool HR.out.symm, T1.out⟩
  have hfs := fontB_size hf
  rw [Hs0.out] at hfs
  have HF := Lib.hid hf
  by_cases hl : n = s.size
  · have hl' : ((n : Int) != (s.size : Int)) = false := by rw [bne_eq_false_iff_eq]; omega
    have HR : Hid (magB f ms = ms.all (rowB f)) := by
      show _ = _
      unfold magB; rw [hf, Hn.out, Hs0.out, hl]; simp
    have hn40 : n ≤ 40 := by omega
    have Hl := Lib.hid hl
    clear hl hfs hf
    go_enter Tryz.func86, Tryz.ntmps86
    go_wp2_with fail
    refine (specFontOk_any lo hi _ f _ V0.out (by simp; omega) HS.out).mono ?_
    rintro e w1 ⟨rfl, hb1⟩
    rw [HF.out]
    have T1 := Lib.hid (T0.out.trans (hb1.mono (by simp)))
    have V1 := Lib.hid (V0.out.below (by simp; omega) hb1)
    have M1 := Lib.hid (M0.out.below (by simp; omega) hb1)
    have X1 := Lib.hid (keep3 hb1 (by simp) X0.out)
    have s1 := hb1.size
    simp only [World.size_alloc] at s1
    clear hb1 V0 M0 X0 T0
    obtain ⟨q0, q1, q2⟩ := X1.out
    go_wp2
    clear q0 q1 q2
    go_loopw [22] (fun i wr => ∃ k : Nat, k ≤ n ∧ i = .int .i64 k ∧ Below w1.heap.size w1 wr ∧ (ms.take k).all (rowB f) = true) (fun i _ => n - (intOf i).toNat)
    case atStart => exact ⟨0, Nat.zero_le _, rfl, Below.refl _ _, rfl⟩
    case round =>
      obtain ⟨k, hk, rfl, hb, hall⟩ := hrel
      have HB := Lib.hid hb; have Hall := Lib.hid hall
      clear hb hall
      by_cases hlt : k < n
      · obtain ⟨ad, xs, Aj, cj, rfl, hx, hc, hcap, hcm, hI⟩ := (M1.out.below (by omega) HB.out).at_ (k := k) (by rw [Hn.out]; exact hlt)
        obtain ⟨l, hl⟩ : ∃ l, xs.length = l := ⟨_, rfl⟩
        rw [hl] at hc hcap
        have hlm : l ≤ maxLen := by omega
        unfold maxLen at hlm
        have HI := Lib.hid hI; have HL := Lib.hid hl
        clear hI hcap hcm hl
        by_cases h20 : 20 < l
        · have Hbad := Lib.hid (rows_bad hx.out (rowB_room (f := f) (by rw [HL.out]; exact h20)))
          have t1 : decide (20 < (l : Int)) = true := by rw [decide_eq_true_eq]; omega
          clear h20
          go_wp2
          go_ret
          exact ⟨ret_bool (by rw [HR.out, Hbad.out]), T1.out.trans (HB.out.mono (by omega))⟩
        · have t1 : decide (20 < (l : Int)) = false := by rw [decide_eq_false_iff_not]; omega
          have hl20 : l ≤ 20 := by omega
          clear h20
          go_wp2
          go_loopw [31] (fun i wr => ∃ j : Nat, j ≤ l ∧ i = .int .i64 j ∧ Below w1.heap.size w1 wr ∧ (xs.take j).all (matB f) = true) (fun i _ => l - (intOf i).toNat)
          case atStart => exact ⟨0, Nat.zero_le _, rfl, HB.out, rfl⟩
          case round =>
            obtain ⟨j, hj, rfl, hb2, hall2⟩ := hrel
            have HB2 := Lib.hid hb2; have Hall2 := Lib.hid hall2
            clear hb2 hall2
            by_cases hjl : j < l
            · obtain ⟨bd, x, rfl, hxj, d1, e1⟩ := (HI.out.keep (w' := wr) (fun p _ h2 => (HB2.out.cell (by omega)).trans (HB.out.cell (by omega)).symm)).at_ (k := j) (by rw [HL.out]; exact hjl)
              obtain ⟨q0, q1, q2⟩ := keep3 HB2.out (by omega) X1.out
              have hz : w.heap.size < wr.heap.size := by have := HB2.out.size; omega
              have V2 := Lib.hid ((V1.out.below (by omega) HB2.out).below (B := wr.heap.size) (by have := HB2.out.size; omega) ((Below.refl _ _).alloc (Nat.le_refl _) (.cells #[.int .i64 x.1, .int .i64 x.2] 121)))
              have hsz2 := HB2.out.size
              go_wp2_with fail
              refine (l2Matrix_any lo hi _ f x _ V2.out (by simp; omega) HS.out HF.out).mono ?_
              rintro e w2 ⟨rfl, hbb⟩
              have HB3 := Lib.hid ((HB2.out.alloc HB2.out.size (.cells #[.int .i64 x.1, .int .i64 x.2] 121)).trans (hbb.mono (by simp; omega)))
              clear hbb d1 e1 q0 q1 q2 hz hsz2
              cases hmb : matB f x
              · have Hbad := Lib.hid (rows_bad hx.out (rowB_bad hxj.out hmb))
                go_wp2
                go_ret
                exact ⟨ret_bool (by rw [HR.out, Hbad.out]), T1.out.trans (HB3.out.mono (by omega))⟩
              · have HA := Lib.hid (all_step hxj.out hmb Hall2.out)
                go_wp2
                go_roundw
                case rel => exact ⟨j + 1, by omega, by go_num, HB3.out, HA.out⟩
                case measure => simp [intOf]; omega
            · have hjn : j = l := by omega
              subst hjn
              have HA := Lib.hid (all_step2 hx.out (by rw [HL.out]; exact hl20) (by have := Hall2.out; rwa [mtake_all HL.out] at this) Hall.out)
              go_wp2
              go_roundw
              case rel => exact ⟨k + 1, by omega, by go_num, HB2.out, HA.out⟩
              case measure => simp [intOf]; omega
      · have hkn : k = n := by omega
        subst hkn
        go_wp2
        go_ret
        have := Hall.out
        rw [ttake_all Hn.out] at this
        exact ⟨ret_bool (by rw [HR.out, this]), T1.out.trans (HB.out.mono (by omega))⟩
  · have hl' : ((n : Int) != (s.size : Int)) = true := by rw [bne_iff_ne]; omega
    have HR : Hid (magB f ms = false) := by
      show _ = _
      have : (ms.length == f.s.size) = false := by rw [Hn.out, Hs0.out, beq_eq_false_iff_ne]; exact hl
      unfold magB; rw [hf, this]; rfl
    clear hl hfs hf
    go_enter Tryz.func86, Tryz.ntmps86
    go_wp2_with fail
    refine (specFontOk_any lo hi _ f _ V0.out (by simp; omega) HS.out).mono ?_
    rintro e w1 ⟨rfl, hb1⟩
    rw [HF.out]
    have T1 := Lib.hid (T0.out.trans (hb1.mono (by simp)))
    obtain ⟨q0, q1, q2⟩ := keep3 hb1 (by simp) X0.out
    clear hb1
    go_wp2
    go_ret
    exact ⟨ret_bool HR.out.symm, T1.out⟩

/-- isListOf of the program at matrices, with a function that captured one pointer -/
theorem mats_all {p : Mat → Bool} {xs : List Mat} {k : Nat} {x : Mat} (h : xs[k]? = some x) : (xs.take (k + 1)).all p = ((xs.take k).all p && p x) := by
  rw [List.take_add_one, h]; simp
theorem mats_bad {p : Mat → Bool} {xs : List Mat} {k : Nat} {x : Mat} (h : xs[k]? = some x) (hb : p x = false) : xs.all p = false := by
  rw [List.all_eq_false]
  exact ⟨x, List.mem_of_getElem? h, by rw [hb]; simp⟩
set_option maxRecDepth 100000 in
set_option maxHeartbeats 1600000 in
theorem listMats_any (F : Nat) (hF : ∀ (args : Array Value) (w : World), Sem.run Tryz.prog (callFunc F args) w = .ok (.enter F args) w) (g : Nat) (p : Mat → Bool) (lo hi : Nat) (A : Option Addr) (n c : Nat) (xs : List Mat) (a b : Int) (w : World) (hn : xs.length = n) (hm : n ≤ maxLen) (hI : MatsI w lo hi A xs) (hhi : hi ≤ w.heap.size)
    (hp : ∀ (x : Mat) (wr : World), x ∈ xs → Below w.heap.size w wr → Calls Tryz.prog F #[.agg #[.int .i64 x.1, .int .i64 x.2], .pointer (some ⟨g, 0, none⟩)] wr fun e w' => e = .returned (.bool (p x)) ∧ Below wr.heap.size wr w') :
    Calls Tryz.prog 99 #[.slice A n c, .int .i64 a, .int .i64 b, .func (.func F) #[] #[.pointer (some ⟨g, 0, none⟩)]] w fun e w' => e = .returned (.bool (inB n a b && xs.all p)) ∧ Below w.heap.size w w' := by
  unfold maxLen at hm
  have Hn := Lib.hid hn; have HI := Lib.hid hI; have HP := Lib.hid hp
  clear hn hI hp
  by_cases hlo : (n : Int) < a
  · have H0 : Hid (inB n a b = false) := by show _ = _; unfold inB; rw [decide_eq_false_iff_not]; omega
    go_enter Tryz.func99, Tryz.ntmps99
    go_wp2
    go_ret
    exact ⟨ret_bool (by rw [H0.out]; rfl), Below.refl _ _⟩
  by_cases hhi2 : b < (n : Int)
  · have H0 : Hid (inB n a b = false) := by show _ = _; unfold inB; rw [decide_eq_false_iff_not]; omega
    go_enter Tryz.func99, Tryz.ntmps99
    go_wp2
    go_ret
    exact ⟨ret_bool (by rw [H0.out]; rfl), Below.refl _ _⟩
  have H1 : Hid (inB n a b = true) := by show _ = _; unfold inB; rw [decide_eq_true_eq]; omega
  go_enter Tryz.func99, Tryz.ntmps99
  go_wp2
  go_loopw [23] (fun i wr => ∃ k : Nat, k ≤ n ∧ i = .int .i64 k ∧ (xs.take k).all p = true ∧ Below w.heap.size w wr) (fun i _ => n - (intOf i).toNat)
  case atStart => exact ⟨0, Nat.zero_le _, rfl, rfl, Below.refl _ _⟩
  case round =>
    obtain ⟨k, hk, rfl, hall, hb⟩ := hrel
    have Hall := Lib.hid hall; have HB := Lib.hid hb
    clear hall hb
    by_cases hlt : k < n
    · obtain ⟨ad, x, rfl, hx, d1, e1⟩ := (HI.out.below hhi HB.out).at_ (k := k) (by rw [Hn.out]; exact hlt)
      have HBa := Lib.hid (HB.out.alloc HB.out.size (.cells #[.int .i64 x.1, .int .i64 x.2] 121))
      cases hs : p x
      · have Hb := Lib.hid (mats_bad hx.out hs)
        go_wp2_with fail
        refine (HP.out x _ (List.mem_of_getElem? hx.out) HBa.out).mono ?_
        rintro e w2 ⟨rfl, hb2⟩
        rw [hs]
        have HE := Lib.hid (HBa.out.trans (hb2.mono HBa.out.size))
        clear hb2 d1 e1
        go_wp2
        go_ret
        exact ⟨ret_bool (by rw [Hb.out]; simp), HE.out⟩
      · have Hs := Lib.hid (mats_all (p := p) hx.out)
        go_wp2_with fail
        refine (HP.out x _ (List.mem_of_getElem? hx.out) HBa.out).mono ?_
        rintro e w2 ⟨rfl, hb2⟩
        rw [hs]
        have HE := Lib.hid (HBa.out.trans (hb2.mono HBa.out.size))
        clear hb2 d1 e1
        go_wp2
        go_roundw
        case rel => exact ⟨k + 1, by omega, by go_num, by rw [Hs.out, Hall.out, hs]; rfl, HE.out⟩
        case measure => simp [intOf]; omega
    · have hkn : k = n := by omega
      subst hkn
      go_wp2
      go_ret
      refine ⟨ret_bool ?_, HB.out⟩
      have := Hall.out
      rw [mtake_all Hn.out] at this
      rw [this, H1.out]; rfl

theorem magFn_enter (args : Array Value) (w : World) : Sem.run Tryz.prog (callFunc 129 args) w = .ok (.enter 129 args) w := by kernel_rfl
set_option maxRecDepth 100000 in
set_option maxHeartbeats 800000 in
theorem magFn_any (lo hi g : Nat) (B B2 : Option Addr) (s : ByteArray) (p d q d2 : Nat) (f : Fnt) (x : Mat) (w : World) (h : FontV w lo hi (.agg #[.string s, .slice B p d, .slice B2 q d2]) f) (hhi : hi ≤ w.heap.size) (hs : Small f) (hf : fontB f = true) (wf : (Lit.int .i64 x.2).wf = true)
    (hg : g < w.heap.size) (hb : w.cell? ⟨g, 0, none⟩ = some (.string s) ∧ w.cell? ⟨g, 1, none⟩ = some (.slice B p d) ∧ w.cell? ⟨g, 2, none⟩ = some (.slice B2 q d2)) :
    Calls Tryz.prog 129 #[.agg #[.int .i64 x.1, .int .i64 x.2], .pointer (some ⟨g, 0, none⟩)] w fun e w' => e = .returned (.bool (matB f x)) ∧ Below w.heap.size w w' := by
  have hW : Below w.heap.size w (w.alloc (.cells #[.int .i64 x.1, .int .i64 x.2] 121)) := (Below.refl _ _).alloc (Nat.le_refl _) _
  have V1 := Lib.hid (h.below hhi hW)
  have HW := Lib.hid hW
  have Hwf := Lib.hid wf; have HF := Lib.hid hf
  obtain ⟨q0, q1, q2⟩ := hb
  clear h hW wf hf
  go_enter Tryz.func129, Tryz.ntmps129
  go_wp2_with fail
  refine (isMatrix_any lo hi _ f x _ V1.out (by simp; omega) hs HF.out Hwf.out).mono ?_
  rintro e w1 ⟨rfl, hb1⟩
  have T1 := Lib.hid (HW.out.trans (hb1.mono (by simp)))
  clear hb1
  go_wp2
  go_ret
  exact ⟨rfl, T1.out⟩

set_option maxRecDepth 100000 in
set_option maxHeartbeats 3200000 in
theorem implMagOk_any (lo hi lo2 hi2 : Nat) (v : Value) (f : Fnt) (A : Option Addr) (n c : Nat) (ms : List (List Mat)) (w : World) (h : FontV w lo hi v f) (hhi : hi ≤ w.heap.size) (hs : Small f) (hn : ms.length = n) (hm : n ≤ 1048576) (hM : MagI w lo2 hi2 A ms) (hhi2 : hi2 ≤ w.heap.size) (wf : wfM ms) :
    Calls Tryz.prog 98 #[v, .slice A n c] w fun e w' => e = .returned (.bool (magB f ms)) ∧ Below w.heap.size w w' := by
  obtain ⟨B, d, B2, d2, hv⟩ := fontForm h
  obtain ⟨s, hs0⟩ : ∃ s, f.s = s := ⟨_, rfl⟩
  obtain ⟨p, hp⟩ : ∃ n, f.ws.length = n := ⟨_, rfl⟩
  obtain ⟨q, hq⟩ : ∃ m, f.cs.length = m := ⟨_, rfl⟩
  rw [hs0, hp, hq] at hv
  rw [hv] at h
  rw [hv]
  have hW : Below w.heap.size w (w.alloc (.cells #[.string s, .slice B p d, .slice B2 q d2] 25)) := (Below.refl _ _).alloc (Nat.le_refl _) _
  have V0 := Lib.hid (h.below hhi hW)
  have M0 := Lib.hid (hM.below hhi2 hW)
  have X0 := Lib.hid (new3 w (.string s) (.slice B p d) (.slice B2 q d2) 25)
  have T0 := Lib.hid hW
  have Hn := Lib.hid hn; have Hs0 := Lib.hid hs0
  have HS := Lib.hid hs
  clear hv hs0 hp hq h hW hM hn hs
  cases hf : fontB f
  · have HR : Hid (magB f ms = false) := by show _ = _; unfold magB; rw [hf]; rfl
    go_enter Tryz.func98, Tryz.ntmps98
    go_wp2_with (go_at_call 46; refine (implFontOk_any lo hi _ f _ V0.out (by simp; omega) HS.out).mono ?_; rintro e w1 ⟨rfl, hb1⟩; have T1 := Lib.hid (T0.out.trans (hb1.mono (by simp))); clear hb1)
    go_ret
    exact ⟨ret_bool HR.out.symm, T1.out⟩
  have hfs := fontB_size hf
  rw [Hs0.out] at hfs
  have HF := Lib.hid hf
  by_cases hl : n = s.size
  · have hl' : ((n : Int) != (s.size : Int)) = false := by rw [bne_eq_false_iff_eq]; omega
    have HR : Hid (magB f ms = ms.all (rowB f)) := by
      show _ = _
      unfold magB; rw [hf, Hn.out, Hs0.out, hl]; simp
    have hn40 : n ≤ 40 := by omega
    have Hl := Lib.hid hl
    clear hl hfs hf
    go_enter Tryz.func98, Tryz.ntmps98
    go_wp2_with fail
    refine (implFontOk_any lo hi _ f _ V0.out (by simp; omega) HS.out).mono ?_
    rintro e w1 ⟨rfl, hb1⟩
    rw [HF.out]
    have T1 := Lib.hid (T0.out.trans (hb1.mono (by simp)))
    have V1 := Lib.hid (V0.out.below (by simp; omega) hb1)
    have M1 := Lib.hid (M0.out.below (by simp; omega) hb1)
    have X1 := Lib.hid (keep3 hb1 (by simp) X0.out)
    have s1 := hb1.size
    simp only [World.size_alloc] at s1
    clear hb1 V0 M0 X0 T0
    obtain ⟨q0, q1, q2⟩ := X1.out
    go_wp2
    clear q0 q1 q2
    go_loopw [20] (fun i wr => ∃ k : Nat, k ≤ n ∧ i = .int .i64 k ∧ Below w1.heap.size w1 wr ∧ (ms.take k).all (rowB f) = true) (fun i _ => n - (intOf i).toNat)
    case atStart => exact ⟨0, Nat.zero_le _, rfl, Below.refl _ _, rfl⟩
    case round =>
      obtain ⟨k, hk, rfl, hb, hall⟩ := hrel
      have HB := Lib.hid hb; have Hall := Lib.hid hall
      clear hb hall
      by_cases hlt : k < n
      · obtain ⟨ad, xs, Aj, cj, rfl, hx, hc, hcap, hcm, hI⟩ := (M1.out.below (by omega) HB.out).at_ (k := k) (by rw [Hn.out]; exact hlt)
        obtain ⟨l, hl⟩ : ∃ l, xs.length = l := ⟨_, rfl⟩
        rw [hl] at hc hcap
        have hlm : l ≤ maxLen := by omega
        have HI := Lib.hid hI; have HL := Lib.hid hl
        have HXM := Lib.hid (List.mem_of_getElem? hx.out)
        have HEQ : Hid ((inB l 0 20 && xs.all (matB f)) = rowB f xs) := by
          show _ = _
          unfold rowB inB
          rw [HL.out]
          congr 1
          exact decide_eq_decide.2 (by omega)
        clear hI hcap hcm hl
        cases hrow : rowB f xs
        all_goals
          go_wp2_with fail
          refine (listMats_any 129 magFn_enter w.heap.size (matB f) lo2 hi2 _ _ _ xs _ _ _ HL.out hlm HI.out (by have := HB.out.size; omega) (fun x wr' hx' hb' => magFn_any lo hi w.heap.size B B2 s p d q d2 f x wr' ((V1.out.below (by omega) HB.out).below (by have := HB.out.size; omega) hb') (by have := HB.out.size; have := hb'.size; omega) HS.out HF.out (wf _ HXM.out _ hx') (by have := HB.out.size; have := hb'.size; omega) (keep3 hb' (by have := HB.out.size; omega) (keep3 HB.out (by omega) X1.out)))).mono ?_
          rintro e w2 ⟨rfl, hb2⟩
          rw [HEQ.out, hrow]
          have HB2 := Lib.hid (HB.out.trans (hb2.mono HB.out.size))
          clear hb2
        · have Hbad := Lib.hid (rows_bad hx.out hrow)
          go_wp2
          go_ret
          exact ⟨ret_bool (by rw [HR.out, Hbad.out]), T1.out.trans (HB2.out.mono (by omega))⟩
        · have HA : Hid ((ms.take (k + 1)).all (rowB f) = true) := by
            show _ = _
            rw [List.take_add_one, hx.out, List.all_append, Hall.out]
            simp [hrow]
          go_wp2
          go_roundw
          case rel => exact ⟨k + 1, by omega, by go_num, HB2.out, HA.out⟩
          case measure => simp [intOf]; omega
      · have hkn : k = n := by omega
        subst hkn
        go_wp2
        go_ret
        have := Hall.out
        rw [ttake_all Hn.out] at this
        exact ⟨ret_bool (by rw [HR.out, this]), T1.out.trans (HB.out.mono (by omega))⟩
  · have hl' : ((n : Int) != (s.size : Int)) = true := by rw [bne_iff_ne]; omega
    have HR : Hid (magB f ms = false) := by
      show _ = _
      have : (ms.length == f.s.size) = false := by rw [Hn.out, Hs0.out, beq_eq_false_iff_ne]; exact hl
      unfold magB; rw [hf, this]; rfl
    clear hl hfs hf
    go_enter Tryz.func98, Tryz.ntmps98
    go_wp2_with fail
    refine (implFontOk_any lo hi _ f _ V0.out (by simp; omega) HS.out).mono ?_
    rintro e w1 ⟨rfl, hb1⟩
    rw [HF.out]
    have T1 := Lib.hid (T0.out.trans (hb1.mono (by simp)))
    obtain ⟨q0, q1, q2⟩ := keep3 hb1 (by simp) X0.out
    clear hb1
    go_wp2
    go_ret
    exact ⟨ret_bool HR.out.symm, T1.out⟩
end Go.Proofs.YtobakeahbgodbaaGreat

namespace Go.Proofs.YtobakeahbgodbaaGreat
open Go.RowKit
set_option linter.unusedVariables false

/-- font, magazine, spare bands, measure, line, waiting -/
structure Mch where
  f : Fnt
  ms : List (List Mat)
  sp : Int
  w : Int
  t : Int
  k : Int
  ln : List Mat
  wt : List Mat
def Mch.big (X : Mch) : Nat := X.f.big + magBig X.ms + X.ln.length + X.wt.length
/-- lengths of at most 2^20 -/
structure SmallX (X : Mch) : Prop where
  f : Small X.f
  ms : X.ms.length ≤ 1048576
  row : ∀ xs ∈ X.ms, xs.length ≤ 1048576
  tot : tot X.ms ≤ 1048576
  ln : X.ln.length ≤ 1048576
  wt : X.wt.length ≤ 1048576
/-- all teeth are in the range of int -/
structure WfX (X : Mch) : Prop where
  ms : wfM X.ms
  ln : ∀ x ∈ X.ln, (Lit.int .i64 x.2).wf = true
  wt : ∀ x ∈ X.wt, (Lit.int .i64 x.2).wf = true
theorem len_tot {ms : List (List Mat)} {xs : List Mat} (h : xs ∈ ms) : xs.length ≤ tot ms := by
  unfold tot
  induction ms with
  | nil => cases h
  | cons y ys ih =>
    rw [List.map_cons, List.sum_cons]
    rcases List.mem_cons.1 h with rfl | h
    · omega
    · have := ih h; omega
theorem big_smallX {X : Mch} (h : X.big ≤ 1048576) : SmallX X := by
  unfold Mch.big Fnt.big magBig at h
  exact ⟨⟨by omega, by omega, by omega⟩, by omega, fun xs hx => by have := len_tot hx; omega, by omega, by omega, by omega⟩

/-- the ten words of a machine -/
def mwords (X : Mch) (A : Option Addr) (c : Nat) (A2 : Option Addr) (d : Nat) (M : Option Addr) (e : Nat) (L : Option Addr) (lc : Nat) (T : Option Addr) (tc : Nat) : Array Value :=
  #[.string X.f.s, .slice A X.f.ws.length c, .slice A2 X.f.cs.length d, .slice M X.ms.length e, .int .i64 X.sp, .int .i64 X.w, .int .i64 X.t, .int .i64 X.k, .slice L X.ln.length lc, .slice T X.wt.length tc]
structure MchP (w : World) (lo hi : Nat) (X : Mch) (A : Option Addr) (c : Nat) (A2 : Option Addr) (d : Nat) (M : Option Addr) (e : Nat) (L : Option Addr) (lc : Nat) (T : Option Addr) (tc : Nat) : Prop where
  font : FontV w lo hi (.agg #[.string X.f.s, .slice A X.f.ws.length c, .slice A2 X.f.cs.length d]) X.f
  mag : MagI w lo hi M X.ms
  line : MatsI w lo hi L X.ln
  wait : MatsI w lo hi T X.wt
  me : X.ms.length ≤ e
  em : e ≤ maxLen
  ll : X.ln.length ≤ lc
  lm : lc ≤ maxLen
  tl : X.wt.length ≤ tc
  tm : tc ≤ maxLen
/-- the value v reads as the machine X, in blocks from lo up to hi -/
def MchV (w : World) (lo hi : Nat) (v : Value) (X : Mch) : Prop :=
  ∃ A c A2 d M e L lc T tc, v = .agg (mwords X A c A2 d M e L lc T tc) ∧ MchP w lo hi X A c A2 d M e L lc T tc
section
variable {w w' : World} {lo hi : Nat} {X : Mch} {v : Value} {A A2 M L T : Option Addr} {c d e lc tc : Nat}
theorem MchP.keep (h : MchP w lo hi X A c A2 d M e L lc T tc) (hk : ∀ p : Addr, lo ≤ p.block → p.block < hi → w'.cell? p = w.cell? p) : MchP w' lo hi X A c A2 d M e L lc T tc :=
  ⟨h.font.keep hk, h.mag.keep hk, h.line.keep hk, h.wait.keep hk, h.me, h.em, h.ll, h.lm, h.tl, h.tm⟩
theorem MchP.below {B : Nat} (h : MchP w lo hi X A c A2 d M e L lc T tc) (hB : hi ≤ B) (hb : Below B w w') : MchP w' lo hi X A c A2 d M e L lc T tc := h.keep fun p _ h2 => hb.cell (by omega)
theorem MchP.chg {lo' hi' : Nat} (h : MchP w lo hi X A c A2 d M e L lc T tc) (hc : Chg lo' hi' w w') (hs : hi ≤ w.heap.size) (hn : hi ≤ lo' ∨ hi' ≤ lo) : MchP w' lo hi X A c A2 d M e L lc T tc :=
  h.keep fun p h1 h2 => hc.cell (by omega) (by omega)
theorem MchV.below {B : Nat} (h : MchV w lo hi v X) (hB : hi ≤ B) (hb : Below B w w') : MchV w' lo hi v X := by
  obtain ⟨A, c, A2, d, M, e, L, lc, T, tc, hv, hp⟩ := h
  exact ⟨A, c, A2, d, M, e, L, lc, T, tc, hv, hp.below hB hb⟩
theorem MchV.chg {lo' hi' : Nat} (h : MchV w lo hi v X) (hc : Chg lo' hi' w w') (hs : hi ≤ w.heap.size) (hn : hi ≤ lo' ∨ hi' ≤ lo) : MchV w' lo hi v X := by
  obtain ⟨A, c, A2, d, M, e, L, lc, T, tc, hv, hp⟩ := h
  exact ⟨A, c, A2, d, M, e, L, lc, T, tc, hv, hp.chg hc hs hn⟩
theorem MatsI.cutM {hi' n : Nat} {xs : List Mat} (h : OwnM w lo (.slice A n c) xs) (hk : ∀ k, (Value.slice A n c).ownBlock = some k → k < hi') : MatsI w lo hi' A xs := fun hn => by
  obtain ⟨ad, e, h1, h2, hc⟩ := h.reads hn
  obtain ⟨A', c', hv, _, _, hA, _⟩ := h.form
  injection hv with e1 e2 e3
  subst e1
  obtain ⟨g, rfl, h3, h4⟩ := hA ad e
  subst e
  exact ⟨_, rfl, h1, hk g rfl, hc⟩
theorem ownM_caps {B n : Nat} {xs : List Mat} (h : OwnM w B (.slice A n c) xs) : xs.length ≤ c ∧ c ≤ maxLen := by
  obtain ⟨A', c', hv, h1, h2, _⟩ := h.form
  injection hv with e1 e2 e3
  subst e3
  exact ⟨h1, h2⟩
theorem ownMag_caps {B n hi : Nat} {hs : List Value} {ms : List (List Mat)} (h : OwnMag w B hi (.slice A n c) hs ms) : ms.length ≤ c ∧ c ≤ maxLen := by
  obtain ⟨A', c', hv, h1, h2, _⟩ := h.form
  injection hv with e1 e2 e3
  subst e3
  exact ⟨h1, h2⟩
end

/-- the words of a machine and what they hold, by names -/
theorem MchV.parts {w : World} {lo hi : Nat} {X : Mch} {v : Value} (h : MchV w lo hi v X) : ∃ s A n c A2 m d M q e L l lc T r tc, v = .agg #[.string s, .slice A n c, .slice A2 m d, .slice M q e, .int .i64 X.sp, .int .i64 X.w, .int .i64 X.t, .int .i64 X.k, .slice L l lc, .slice T r tc]
    ∧ FontV w lo hi (.agg #[.string s, .slice A n c, .slice A2 m d]) X.f ∧ X.ms.length = q ∧ MagI w lo hi M X.ms ∧ q ≤ e ∧ e ≤ maxLen ∧ X.ln.length = l ∧ MatsI w lo hi L X.ln ∧ l ≤ lc ∧ lc ≤ maxLen ∧ X.wt.length = r ∧ MatsI w lo hi T X.wt ∧ r ≤ tc ∧ tc ≤ maxLen := by
  obtain ⟨A, c, A2, d, M, e, L, lc, T, tc, hv, hp⟩ := h
  exact ⟨_, A, _, c, A2, _, d, M, _, e, L, _, lc, T, _, tc, hv, hp.font, rfl, hp.mag, hp.me, hp.em, rfl, hp.line, hp.ll, hp.lm, rfl, hp.wait, hp.tl, hp.tm⟩
theorem MchV.form {w : World} {lo hi : Nat} {X : Mch} {v : Value} (h : MchV w lo hi v X) : ∃ s A n c A2 m d M q e sp W t k L l lc T r tc, v = .agg #[.string s, .slice A n c, .slice A2 m d, .slice M q e, .int .i64 sp, .int .i64 W, .int .i64 t, .int .i64 k, .slice L l lc, .slice T r tc] := by
  obtain ⟨A, c, A2, d, M, e, L, lc, T, tc, hv, hp⟩ := h
  exact ⟨_, A, _, c, A2, _, d, M, _, e, _, _, _, _, L, _, lc, T, _, tc, hv⟩
theorem cellOfBlk {w : World} {B : Nat} {cs : Array Value} {T : TypeId} (h : Blk w B cs T) (i : Nat) : w.cell? ⟨B, i, none⟩ = cs[i]? := by
  unfold Blk at h
  simp [World.cell?, h]
theorem Blk.ten {w : World} {B : Nat} {a0 a1 a2 a3 a4 a5 a6 a7 a8 a9 : Value} {T : TypeId} (h : Blk w B #[a0, a1, a2, a3, a4, a5, a6, a7, a8, a9] T) :
    w.cell? ⟨B, 0, none⟩ = some a0 ∧ w.cell? ⟨B, 1, none⟩ = some a1 ∧ w.cell? ⟨B, 2, none⟩ = some a2 ∧ w.cell? ⟨B, 3, none⟩ = some a3 ∧ w.cell? ⟨B, 4, none⟩ = some a4 ∧ w.cell? ⟨B, 5, none⟩ = some a5 ∧ w.cell? ⟨B, 6, none⟩ = some a6 ∧ w.cell? ⟨B, 7, none⟩ = some a7 ∧ w.cell? ⟨B, 8, none⟩ = some a8 ∧ w.cell? ⟨B, 9, none⟩ = some a9 :=
  ⟨cellOfBlk h 0, cellOfBlk h 1, cellOfBlk h 2, cellOfBlk h 3, cellOfBlk h 4, cellOfBlk h 5, cellOfBlk h 6, cellOfBlk h 7, cellOfBlk h 8, cellOfBlk h 9⟩
theorem mxWorld (w : World) (cs : Array Value) (T : TypeId) : ∃ w0, w.alloc (.cells cs T) = w0 ∧ Below w.heap.size w w0 ∧ w0.heap.size = w.heap.size + 1 ∧ Blk w0 w.heap.size cs T :=
  ⟨_, rfl, (Below.refl _ _).alloc (Nat.le_refl _) _, by simp, Blk.new _ _ _⟩

/-- two ranges of blocks that do not meet -/
def Off (a b c d : Nat) : Prop := b ≤ c ∨ d ≤ a
/-- .. and each of its parts is the call's own, in ranges of blocks that do not meet -/
structure MchO (w : World) (B hi : Nat) (v : Value) (X : Mch) (A : Option Addr) (c : Nat) (A2 : Option Addr) (d : Nat) (M : Option Addr) (e : Nat) (L : Option Addr) (lc : Nat) (T : Option Addr) (tc : Nat) (hs : List Value) (f0 f1 g0 g1 l0 l1 t0 t1 : Nat) : Prop where
  v : v = .agg (mwords X A c A2 d M e L lc T tc)
  font : FontO w f0 f1 (.agg #[.string X.f.s, .slice A X.f.ws.length c, .slice A2 X.f.cs.length d]) X.f
  mag : OwnMag w g0 g1 (.slice M X.ms.length e) hs X.ms
  line : OwnM w l0 (.slice L X.ln.length lc) X.ln
  lineT : ∀ k, (Value.slice L X.ln.length lc).ownBlock = some k → k < l1
  wait : OwnM w t0 (.slice T X.wt.length tc) X.wt
  waitT : ∀ k, (Value.slice T X.wt.length tc).ownBlock = some k → k < t1
  fg : Off f0 f1 g0 g1
  fl : Off f0 f1 l0 l1
  ft : Off f0 f1 t0 t1
  gl : Off g0 g1 l0 l1
  gt : Off g0 g1 t0 t1
  lt : Off l0 l1 t0 t1
  fi : B ≤ f0 ∧ f1 ≤ hi
  gi : B ≤ g0 ∧ g1 ≤ hi
  li : B ≤ l0 ∧ l1 ≤ hi
  ti : B ≤ t0 ∧ t1 ≤ hi
def MchX (w : World) (B hi : Nat) (v : Value) (X : Mch) : Prop := ∃ A c A2 d M e L lc T tc hs f0 f1 g0 g1 l0 l1 t0 t1, MchO w B hi v X A c A2 d M e L lc T tc hs f0 f1 g0 g1 l0 l1 t0 t1
section
variable {w w' : World} {B hi : Nat} {X : Mch} {v : Value}
theorem MchX.reads (h : MchX w B hi v X) : MchV w B hi v X := by
  obtain ⟨A, c, A2, d, M, e, L, lc, T, tc, hs, f0, f1, g0, g1, l0, l1, t0, t1, h⟩ := h
  have fv := h.font.font
  refine ⟨A, c, A2, d, M, e, L, lc, T, tc, h.v, ?_, h.mag.reads.wide h.gi.1 h.gi.2, (MatsI.cutM h.line h.lineT).wide h.li.1 h.li.2, (MatsI.cutM h.wait h.waitT).wide h.ti.1 h.ti.2, (ownMag_caps h.mag).1, (ownMag_caps h.mag).2, (ownM_caps h.line).1, (ownM_caps h.line).2, (ownM_caps h.wait).1, (ownM_caps h.wait).2⟩
  obtain ⟨A', c', A2', d', hv, h1, h2, rest⟩ := fv
  exact ⟨A', c', A2', d', hv, h1.wide h.fi.1 h.fi.2, h2.wide h.fi.1 h.fi.2, rest⟩
theorem MchX.below (h : MchX w B hi v X) (hb : Below w.heap.size w w') : MchX w' B hi v X := by
  obtain ⟨A, c, A2, d, M, e, L, lc, T, tc, hs, f0, f1, g0, g1, l0, l1, t0, t1, h⟩ := h
  exact ⟨A, c, A2, d, M, e, L, lc, T, tc, hs, f0, f1, g0, g1, l0, l1, t0, t1, ⟨h.v, h.font.below hb, h.mag.below hb, h.line.below hb, h.lineT, h.wait.below hb, h.waitT, h.fg, h.fl, h.ft, h.gl, h.gt, h.lt, h.fi, h.gi, h.li, h.ti⟩⟩
theorem MchX.wide {B' hi' : Nat} (h : MchX w B hi v X) (h1 : B' ≤ B) (h2 : hi ≤ hi') : MchX w B' hi' v X := by
  obtain ⟨A, c, A2, d, M, e, L, lc, T, tc, hs, f0, f1, g0, g1, l0, l1, t0, t1, h⟩ := h
  exact ⟨A, c, A2, d, M, e, L, lc, T, tc, hs, f0, f1, g0, g1, l0, l1, t0, t1, ⟨h.v, h.font, h.mag, h.line, h.lineT, h.wait, h.waitT, h.fg, h.fl, h.ft, h.gl, h.gt, h.lt, ⟨by have := h.fi.1; omega, by have := h.fi.2; omega⟩, ⟨by have := h.gi.1; omega, by have := h.gi.2; omega⟩, ⟨by have := h.li.1; omega, by have := h.li.2; omega⟩, ⟨by have := h.ti.1; omega, by have := h.ti.2; omega⟩⟩⟩
theorem FontO.chg {lo' hi' f0 f1 : Nat} {f : Fnt} (h : FontO w f0 f1 v f) (hc : Chg lo' hi' w w') (hn : Off f0 f1 lo' hi') : FontO w' f0 f1 v f := by
  obtain ⟨A, c, A2, d, mid, hv, h1, hm, h2, hm2, h3, h4, hs⟩ := h
  unfold Off at hn
  have l1 := fun g hg => World.ownsRow.lt h1 g hg
  have l2 := fun g hg => World.ownsRow.lt h2 g hg
  exact ⟨A, c, A2, d, mid, hv, hc.own h1 (fun k hk => by have := l1 k hk; have := hm k hk; omega), hm, hc.own h2 (fun k hk => by have := l2 k hk; have := hm2 k hk; omega), hm2, h3, h4, hs⟩
theorem MchX.chg {lo' hi' : Nat} (h : MchX w B hi v X) (hc : Chg lo' hi' w w') (hn : Off B hi lo' hi') : MchX w' B hi v X := by
  obtain ⟨A, c, A2, d, M, e, L, lc, T, tc, hs, f0, f1, g0, g1, l0, l1, t0, t1, h⟩ := h
  have q1 := h.fi; have q2 := h.gi; have q3 := h.li; have q4 := h.ti
  unfold Off at hn
  refine ⟨A, c, A2, d, M, e, L, lc, T, tc, hs, f0, f1, g0, g1, l0, l1, t0, t1, ⟨h.v, h.font.chg hc (by unfold Off; omega), h.mag.chg hc (by omega), h.line.chg hc (fun k hk => ?_), h.lineT, h.wait.chg hc (fun k hk => ?_), h.waitT, h.fg, h.fl, h.ft, h.gl, h.gt, h.lt, h.fi, h.gi, h.li, h.ti⟩⟩
  · have := h.line.lt k hk; have := h.lineT k hk; omega
  · have := h.wait.lt k hk; have := h.waitT k hk; omega
end

/-! what a machine is -/
def bandM (x : Mat) : Bool := x.1 == -1 && x.2 == 0
def setM (f : Fnt) (x : Mat) : Bool := bandM x || matB f x
def itemM (f : Fnt) (x : Mat) : Int := if x.1 < 0 then 0 else f.ws.getD x.1.toNat 0
def itemsM (f : Fnt) (ln : List Mat) : List Int := ln.map (itemM f)
def Mch.m (X : Mch) : Msr := ⟨X.w, X.t, X.k⟩
def machB (X : Mch) : Bool := magB X.f X.ms && (inB X.sp 0 60 && ((decide (X.wt.length ≤ 240) && X.wt.all (matB X.f)) && ((decide (X.ln.length ≤ 120) && X.ln.all (setM X.f)) && goodB X.m (itemsM X.f X.ln))))
end Go.Proofs.YtobakeahbgodbaaGreat

namespace Go.Proofs.YtobakeahbgodbaaGreat
open Go.RowKit
set_option linter.unusedVariables false

set_option maxHeartbeats 800000 in
theorem l3Sum_yes (A : Option Addr) (n c : Nat) (zs : List Int) (w : World) (hn : zs.length = n) (h : Ints w A zs) (hl : lineB zs = true) :
    Calls Tryz.prog 124 #[.slice A n c] w fun e w' => e = .returned (.tuple #[.int .i64 (sumL zs), .int .i64 (bandsN zs)]) ∧ w = w' := by
  obtain ⟨hz, hlen⟩ := lineB_parts hl
  have HZ := Lib.hid hz
  have HL := Lib.hid (lineB_take hl)
  have Hn := Lib.hid hn
  have hm : n ≤ 120 := by omega
  clear hz hlen hn hl
  go_enter Tryz.func124, Tryz.ntmps124
  go_wp2
  go_loop [4, 5, 10] (fun s b i => ∃ k : Nat, k ≤ n ∧ i = .int .i64 k ∧ s = .int .i64 (sumL (zs.take k)) ∧ b = .int .i64 (bandsN (zs.take k))) (fun _ _ i => n - (intOf i).toNat)
  case atStart => exact ⟨0, Nat.zero_le _, rfl, rfl, rfl⟩
  case round =>
    obtain ⟨k, hk, rfl, rfl, rfl⟩ := hrel
    by_cases hlt : k < n
    · obtain ⟨ad, x, rfl, hx, hc⟩ := h.at_ (k := k) (by rw [Hn.out]; exact hlt)
      have HS := Lib.hid (sumL_at hx.out)
      have HN := Lib.hid (bandsN_at hx.out)
      have hb1 := HL.out k
      have hx2 := HZ.out x (mem_at hx.out)
      obtain ⟨sm, hsm⟩ : ∃ s, sumL (zs.take k) = s := ⟨_, rfl⟩
      obtain ⟨bn, hbn⟩ : ∃ b, bandsN (zs.take k) = b := ⟨_, rfl⟩
      rw [hsm] at HS hb1 ⊢
      rw [hbn] at HN hb1 ⊢
      clear hsm hbn
      by_cases h0 : x = 0
      · subst h0
        go_wp2
        go_round
        case rel => exact ⟨k + 1, by omega, by go_num, by rw [HS.out, Int.add_zero], by rw [HN.out, if_pos rfl]; go_num⟩
        case measure => simp [intOf]; omega
      · have h0' : (x == 0) = false := by simpa using h0
        have HN2 : Hid (bandsN (zs.take (k + 1)) = bn) := by show _ = _; rw [HN.out, if_neg h0]; rfl
        clear h0
        go_wp2
        go_round
        case rel => exact ⟨k + 1, by omega, by go_num, by rw [HS.out], by rw [HN2.out]⟩
        case measure => simp [intOf]; omega
    · have hkn : k = n := by omega
      subst hkn
      rw [take_all Hn.out]
      go_wp2
      go_ret2
      exact ⟨rfl, rfl⟩

set_option maxHeartbeats 800000 in
theorem l3Sum_no (A : Option Addr) (n c : Nat) (zs : List Int) (w : World) (hn : zs.length = n) (hm : n ≤ maxLen) (h : Ints w A zs) :
    Calls Tryz.prog 124 #[.slice A n c] w fun e w' => ∃ s b : Int, e = .returned (.tuple #[.int .i64 s, .int .i64 b]) ∧ w = w' := by
  unfold maxLen at hm
  have Hn := Lib.hid hn
  clear hn
  go_enter Tryz.func124, Tryz.ntmps124
  go_wp2
  go_loop [4, 5, 10] (fun s b i => ∃ k : Nat, ∃ p q : Int, k ≤ n ∧ i = .int .i64 k ∧ s = .int .i64 p ∧ b = .int .i64 q) (fun _ _ i => n - (intOf i).toNat)
  case atStart => exact ⟨0, 0, 0, Nat.zero_le _, rfl, rfl, rfl⟩
  case round =>
    obtain ⟨k, p, q, hk, rfl, rfl, rfl⟩ := hrel
    by_cases hlt : k < n
    · obtain ⟨ad, x, rfl, hx, hc⟩ := h.at_ (k := k) (by rw [Hn.out]; exact hlt)
      by_cases h0 : x = 0
      · subst h0
        go_wp2
        go_round
        case rel => exact ⟨k + 1, _, _, by omega, by go_num, rfl, rfl⟩
        case measure => simp [intOf]; omega
      · have h0' : (x == 0) = false := by simpa using h0
        clear h0
        go_wp2
        go_round
        case rel => exact ⟨k + 1, _, _, by omega, by go_num, rfl, rfl⟩
        case measure => simp [intOf]; omega
    · have hkn : k = n := by omega
      subst hkn
      go_wp2
      go_ret2
      exact ⟨⟨p, q, rfl⟩, rfl⟩

theorem l3Sum_any (A : Option Addr) (n c : Nat) (zs : List Int) (w : World) (hn : zs.length = n) (hm : n ≤ maxLen) (h : Ints w A zs) :
    Calls Tryz.prog 124 #[.slice A n c] w fun e w' => ∃ s b : Int, e = .returned (.tuple #[.int .i64 s, .int .i64 b]) ∧ (lineB zs = true → s = sumL zs ∧ b = bandsN zs) ∧ w = w' := by
  cases hl : lineB zs
  · refine (l3Sum_no A n c zs w hn hm h).mono ?_
    rintro e w' ⟨s, b, rfl, rfl⟩
    exact ⟨s, b, rfl, (fun h => by cases h), rfl⟩
  · refine (l3Sum_yes A n c zs w hn h hl).mono ?_
    rintro e w' ⟨rfl, rfl⟩
    exact ⟨sumL zs, bandsN zs, rfl, fun _ => ⟨rfl, rfl⟩, rfl⟩

set_option maxHeartbeats 800000 in
theorem l3Fits_any (W t k : Int) (A : Option Addr) (n c : Nat) (zs : List Int) (w : World) (hms : msrB ⟨W, t, k⟩ = true) (hn : zs.length = n) (hm : n ≤ maxLen) (h : Ints w A zs) :
    Calls Tryz.prog 90 #[.agg #[.int .i64 W, .int .i64 t, .int .i64 k], .slice A n c] w fun e w' => e = .returned (.bool (fitsB ⟨W, t, k⟩ zs)) ∧ Below w.heap.size w w' := by
  have Hn := Lib.hid hn
  obtain ⟨w0, hw0, hb0, hz0, P⟩ := msWorld w W t k
  have T0 := Lib.hid hb0; have Z0 := Lib.hid hz0
  have I0 := Lib.hid (h.below hb0)
  obtain ⟨p0, p1, p2⟩ := P
  clear hb0 hz0 hn h
  have hM := msrB_iff.1 hms
  simp only at hM
  cases hl : lineB zs
  · have HR : Hid (fitsB ⟨W, t, k⟩ zs = false) := by show _ = _; unfold fitsB; rw [hl]; rfl
    go_enter Tryz.func90, Tryz.ntmps90
    go_wp2_with fail
    clear hw0
    refine (l3Sum_any A n c zs _ Hn.out hm I0.out).mono ?_
    rintro e w1 ⟨s, b, rfl, -, rfl⟩
    go_wp2_with fail
    refine (specLineOk_any A n c zs _ Hn.out hm I0.out).mono ?_
    rintro e w1 ⟨he, rfl⟩
    rw [hl] at he; subst he
    go_wp2
    go_ret
    exact ⟨ret_bool HR.out.symm, T0.out⟩
  · have HR : Hid (fitsB ⟨W, t, k⟩ zs = decide (sumL zs + bandsN zs * t ≤ W)) := by show _ = _; unfold fitsB fitL widL widF; rw [hl]; rfl
    obtain ⟨s0, s1, s2⟩ := lineB_sum hl
    have hmu := mul_small (B := bandsN zs) (e := t) (by omega) (by omega) (by omega) (by omega)
    have HL := Lib.hid hl
    clear hl
    go_enter Tryz.func90, Tryz.ntmps90
    go_wp2_with fail
    clear hw0
    refine (l3Sum_yes A n c zs _ Hn.out I0.out HL.out).mono ?_
    rintro e w1 ⟨rfl, rfl⟩
    go_wp2_with fail
    refine (specLineOk_any A n c zs _ Hn.out hm I0.out).mono ?_
    rintro e w1 ⟨he, rfl⟩
    rw [HL.out] at he; subst he
    go_wp2
    go_ret
    exact ⟨ret_bool HR.out.symm, T0.out⟩

end Go.Proofs.YtobakeahbgodbaaGreat

namespace Go.Proofs.YtobakeahbgodbaaGreat
open Go.RowKit
set_option linter.unusedVariables false

/-- every item of the line has a width -/
def hasWid (f : Fnt) (x : Mat) : Prop := x.1 < 0 ∨ x.1.toNat < f.ws.length
theorem itemsM_len (f : Fnt) (xs : List Mat) : (itemsM f xs).length = xs.length := by simp [itemsM]
theorem itemsM_succ {f : Fnt} {xs : List Mat} {k : Nat} {x : Mat} (h : xs[k]? = some x) : itemsM f (xs.take (k + 1)) = itemsM f (xs.take k) ++ [itemM f x] := by
  rw [mtake_at h]; simp [itemsM]
theorem own_grown {w w' : World} {B b : Nat} {v : Value} {zs : List Int} (h : Own w B v zs) (hb : Below b w w') (hk : ∀ k, v.ownBlock = some k → k < b) : Own w' B v zs := by
  refine ⟨h.1, ?_⟩
  have hl := World.ownsRow.lt h
  rcases h.2 with hn | ⟨g, cap, cur, rfl, hg, hh, rest⟩
  · exact .inl hn
  · exact .inr ⟨g, cap, cur, rfl, hg, (hb.block g (hk g rfl)).trans hh, rest⟩

set_option maxRecDepth 100000 in
set_option maxHeartbeats 1600000 in
theorem l5Items_any (lo hi lo2 hi2 : Nat) (v : Value) (f : Fnt) (A : Option Addr) (n c : Nat) (xs : List Mat) (w : World) (h : FontV w lo hi v f) (hhi : hi ≤ w.heap.size) (hn : xs.length = n) (hm : n ≤ 1048576) (hM : MatsI w lo2 hi2 A xs) (hhi2 : hi2 ≤ w.heap.size) (hset : ∀ x ∈ xs, hasWid f x) :
    Calls Tryz.prog 91 #[v, .slice A n c] w fun e w' => ∃ u, e = .returned u ∧ Own w' w.heap.size u (itemsM f xs) ∧ Below w.heap.size w w' := by
  obtain ⟨B, d, B2, d2, rfl, hI1, hI2, hc1, hc2, hd1, hd2, hss⟩ := h
  obtain ⟨p, hp⟩ : ∃ p, f.ws.length = p := ⟨_, rfl⟩
  obtain ⟨q, hq⟩ : ∃ p, f.cs.length = p := ⟨_, rfl⟩
  obtain ⟨s, hs⟩ : ∃ s, f.s = s := ⟨_, rfl⟩
  rw [hp, hq, hs]
  have Hp := Lib.hid hp; have Hn := Lib.hid hn; have HSet := Lib.hid hset
  obtain ⟨w0, hw0, hb0, hz0, K0⟩ := mxWorld w #[.string s, .slice B p d, .slice B2 q d2] 25
  have I0 := Lib.hid (hI1.below hhi hb0); have M0 := Lib.hid (hM.below hhi2 hb0); have T0 := Lib.hid hb0; have K0 := Lib.hid K0; have Z0 := Lib.hid hz0
  clear hI1 hI2 hc1 hc2 hd1 hd2 hss hp hq hs hn hM hset hb0 hz0
  go_enter Tryz.func91, Tryz.ntmps91
  go_wp2
  obtain ⟨w1, hw1⟩ : ∃ x, w0.alloc (.cells #[] 3) = x := ⟨_, rfl⟩
  have E1 : Own w1 w0.heap.size (.slice (some ⟨w0.heap.size, 0, none⟩) 0 0) [] := by rw [← hw1]; exact World.ownsRow_lit w0 #[] 0 (Nat.le_refl _) (Nat.zero_le _) rfl
  have b1 : Below w0.heap.size w0 w1 := by rw [← hw1]; exact (Below.refl _ _).alloc (Nat.le_refl _) _
  have E1 := Lib.hid E1; have B1 := Lib.hid b1
  have z0 : w.heap.size < w0.heap.size := by have := Z0.out; omega
  rw [hw1]
  clear b1 hw1 hw0 Z0
  go_loopw [5, 11] (fun u i wr => ∃ j : Nat, j ≤ n ∧ i = .int .i64 j ∧ Own wr w0.heap.size u (itemsM f (xs.take j)) ∧ Below w0.heap.size w0 wr) (fun _ i _ => n - (intOf i).toNat)
  case atStart => exact ⟨0, Nat.zero_le _, rfl, E1.out, B1.out⟩
  case round =>
    obtain ⟨j, hj, rfl, hown, hb⟩ := hrel
    have HO := Lib.hid hown; have HB := Lib.hid hb
    have zr := hb.size
    clear hown hb
    by_cases hlt : j < n
    · obtain ⟨ad, x, rfl, hx, c1, c2⟩ := (M0.out.below (by omega) HB.out).at_ (k := j) (by rw [Hn.out]; exact hlt)
      have HX := Lib.hid (HSet.out x (List.mem_of_getElem? hx.out))
      have HS := Lib.hid (itemsM_succ (f := f) hx.out)
      obtain ⟨wm, hwm⟩ : ∃ y, wr.alloc (.cells #[.int .i64 x.1, .int .i64 x.2] 121) = y := ⟨_, rfl⟩
      have bm : Below wr.heap.size wr wm := by rw [← hwm]; exact (Below.refl _ _).alloc (Nat.le_refl _) _
      have HOm := Lib.hid (Own.below HO.out bm); have HBm := Lib.hid (HB.out.trans (bm.mono zr)); have zm := bm.size
      have Hlen : Hid ((itemsM f (xs.take j)).length ≤ 1048576) := by show _ ≤ _; rw [itemsM_len, List.length_take]; omega
      obtain ⟨a, b⟩ := x
      simp only at *
      have bk : Blk wm wr.heap.size #[.int .i64 a, .int .i64 b] 121 := by rw [← hwm]; exact Blk.new _ _ _
      have m0 : wm.cell? ⟨wr.heap.size, 0, none⟩ = some (.int .i64 a) := cellOfBlk bk 0
      have m1 : wm.cell? ⟨wr.heap.size, 1, none⟩ = some (.int .i64 b) := cellOfBlk bk 1
      clear bk
      by_cases hneg : a < 0
      · have g1 : decide (a < 0) = true := decide_eq_true hneg
        have HI : Hid (itemM f (a, b) = 0) := by show _ = _; unfold itemM; rw [if_pos hneg]
        rw [HI.out] at HS
        clear bm HX
        go_wp2_with (at_builtin; refine wpl_push2 wm rfl (.tmp 18) (.tmp 19) rfl w0.heap.size _ _ 0 rfl rfl HOm.out (by omega) Hlen.out ?_; intro v' w5 hO5 hg5 hl5; rw [← HS.out] at hO5; have HO5 := Lib.hid hO5; have HB5 := Lib.hid (HBm.out.trans ((Below.refl w0.heap.size wm).grown hg5 (by omega) (fun q hq => (World.ownsRow.lt HOm.out q hq).1))); clear hO5 hg5 hl5)
        go_roundw
        case rel => exact ⟨j + 1, by omega, by go_num, HO5.out, HB5.out⟩
        case measure => simp [intOf]; omega
      · have g1 : decide (a < 0) = false := decide_eq_false hneg
        obtain ⟨kk, rfl⟩ : ∃ kk : Nat, a = (kk : Int) := ⟨a.toNat, by omega⟩
        have hkp : kk < p := by
          rcases HX.out with h | h
          · exact absurd h hneg
          · have := Hp.out; simp only [Int.toNat_natCast] at h; omega
        obtain ⟨bd, y, rfl, hy, hd⟩ := (I0.out.below (by omega) HBm.out).ints.at_ (k := kk) (by rw [Hp.out]; exact hkp)
        have HI : Hid (itemM f ((kk : Int), b) = y) := by show _ = _; unfold itemM; rw [if_neg hneg, Int.toNat_natCast, getD_at hy.out]
        rw [HI.out] at HS
        have Km := Lib.hid (K0.out.below HBm.out (by omega))
        have q1 : wm.cell? ⟨w.heap.size, 1, none⟩ = some (.slice (some bd) p d) := cellOfBlk Km.out 1
        clear bm HX
        go_wp2_with (first
          | (at_builtin; refine wpl_push2 wm rfl (.tmp 21) (.tmp 28) rfl w0.heap.size _ _ y rfl rfl HOm.out (by omega) Hlen.out ?_; intro v' w5 hO5 hg5 hl5; rw [← HS.out] at hO5; have HO5 := Lib.hid hO5; have HB5 := Lib.hid (HBm.out.trans ((Below.refl w0.heap.size wm).grown hg5 (by omega) (fun q hq => (World.ownsRow.lt HOm.out q hq).1))); clear hO5 hg5 hl5))
        go_roundw
        case rel => exact ⟨j + 1, by omega, by go_num, HO5.out, HB5.out⟩
        case measure => simp [intOf]; omega
    · have hjn : j = n := by omega
      subst hjn
      have HA : Hid (xs.take j = xs) := mtake_all Hn.out
      go_wp2
      go_ret
      exact ⟨_, rfl, by have := HO.out; rw [HA.out] at this; exact own_baseB this (by omega), T0.out.trans (HB.out.mono (by omega))⟩
end Go.Proofs.YtobakeahbgodbaaGreat

namespace Go.Proofs.YtobakeahbgodbaaGreat
open Go.RowKit
set_option linter.unusedVariables false

theorem isBand_any (a b : Int) (w : World) :
    Calls Tryz.prog 97 #[.agg #[.int .i64 a, .int .i64 b]] w fun e w' => e = .returned (.bool (bandM (a, b))) ∧ Below w.heap.size w w' := by
  go_enter Tryz.func97, Tryz.ntmps97
  go_wp2
  all_goals
    go_ret
    refine ⟨ret_bool ?_, below_new _ _⟩
    simp [bandM, *]
set_option maxRecDepth 100000 in
set_option maxHeartbeats 1600000 in
theorem itemsOf_any (lo hi lo2 hi2 : Nat) (v : Value) (f : Fnt) (A : Option Addr) (n c : Nat) (xs : List Mat) (w : World) (h : FontV w lo hi v f) (hhi : hi ≤ w.heap.size) (hn : xs.length = n) (hm : n ≤ 1048576) (hM : MatsI w lo2 hi2 A xs) (hhi2 : hi2 ≤ w.heap.size) (hset : ∀ x ∈ xs, bandM x = true ∨ (0 ≤ x.1 ∧ x.1.toNat < f.ws.length)) :
    Calls Tryz.prog 101 #[v, .slice A n c] w fun e w' => ∃ u, e = .returned u ∧ Own w' w.heap.size u (itemsM f xs) ∧ Below w.heap.size w w' := by
  obtain ⟨B, d, B2, d2, rfl, hI1, hI2, hc1, hc2, hd1, hd2, hss⟩ := h
  obtain ⟨p, hp⟩ : ∃ p, f.ws.length = p := ⟨_, rfl⟩
  obtain ⟨q, hq⟩ : ∃ p, f.cs.length = p := ⟨_, rfl⟩
  obtain ⟨s, hs⟩ : ∃ s, f.s = s := ⟨_, rfl⟩
  rw [hp, hq, hs]
  have Hp := Lib.hid hp; have Hn := Lib.hid hn; have HSet := Lib.hid hset
  have HZ : Hid ((itemsM f xs).length = n) := by show _ = _; rw [itemsM_len, hn]
  obtain ⟨w0, hw0, hb0, hz0, K0⟩ := mxWorld w #[.string s, .slice B p d, .slice B2 q d2] 25
  have I0 := Lib.hid (hI1.below hhi hb0); have M0 := Lib.hid (hM.below hhi2 hb0); have T0 := Lib.hid hb0; have K0 := Lib.hid K0
  have z0 : w.heap.size < w0.heap.size := by omega
  clear hI1 hI2 hc1 hc2 hd1 hd2 hss hp hq hs hn hM hset hb0 hz0
  go_enter Tryz.func101, Tryz.ntmps101
  go_wp2_with (at_make; refine wpl_make_int w0 rfl (.tmp 9) rfl n _ rfl rfl (by omega) ?_; intro w1 hO1 hb1; have O1 := Lib.hid hO1; have B1 := Lib.hid hb1; clear hO1 hb1 hw0)
  go_loopw [13] (fun i wr => ∃ j : Nat, j ≤ n ∧ i = .int .i64 j ∧ wr.ownsRow w0.heap.size 3 1 (.slice (some ⟨w0.heap.size, 0, none⟩) n n) n (half (itemsM f xs) n j) ∧ Below w0.heap.size w0 wr) (fun i _ => n - (intOf i).toNat)
  case atStart => exact ⟨0, Nat.zero_le _, rfl, by have := O1.out; rwa [show half (itemsM f xs) n 0 = List.replicate n (.int .i64 0) by simp [half]], B1.out⟩
  case round =>
    obtain ⟨j, hj, rfl, hown, hb⟩ := hrel
    have HO := Lib.hid hown; have HB := Lib.hid hb
    have zr := hb.size
    clear hown hb
    by_cases hlt : j < n
    · obtain ⟨ad, x, rfl, hx, c1, c2⟩ := (M0.out.below (by omega) HB.out).at_ (k := j) (by rw [Hn.out]; exact hlt)
      have HX := Lib.hid (HSet.out x (List.mem_of_getElem? hx.out))
      have HI : Hid ((itemsM f xs)[j]? = some (itemM f x)) := by show _ = _; unfold itemsM; rw [List.getElem?_map, hx.out]; rfl
      obtain ⟨a, b⟩ := x
      simp only at c1 c2
      obtain ⟨wm, hwm⟩ : ∃ y, wr.alloc (.cells #[.int .i64 a, .int .i64 b] 121) = y := ⟨_, rfl⟩
      have bm : Below wr.heap.size wr wm := by rw [← hwm]; exact (Below.refl _ _).alloc (Nat.le_refl _) _
      have bk : Blk wm wr.heap.size #[.int .i64 a, .int .i64 b] 121 := by rw [← hwm]; exact Blk.new _ _ _
      have m0 : wm.cell? ⟨wr.heap.size, 0, none⟩ = some (.int .i64 a) := cellOfBlk bk 0
      have m1 : wm.cell? ⟨wr.heap.size, 1, none⟩ = some (.int .i64 b) := cellOfBlk bk 1
      have zm : wr.heap.size < wm.heap.size := bk.lt
      have HBm := Lib.hid (HB.out.trans (bm.mono zr)); have HOm := Lib.hid (row_keep HO.out bm); have BK := Lib.hid bk
      clear bm bk
      cases hbd : bandM (a, b)
      · obtain ⟨k0, k1⟩ : 0 ≤ a ∧ a.toNat < f.ws.length := by
          rcases HX.out with h | h
          · rw [hbd] at h; cases h
          · exact h
        obtain ⟨kk, rfl⟩ : ∃ kk : Nat, a = (kk : Int) := ⟨a.toNat, by omega⟩
        have hkp : kk < p := by have := Hp.out; simp only [Int.toNat_natCast] at k1; omega
        have Hbd := Lib.hid hbd
        clear hbd k0 k1 HX
        go_wp2_with fail
        refine (isBand_any _ _ _).mono ?_
        rintro e w2 ⟨he, hb2⟩
        rw [Hbd.out] at he
        subst he
        have HB2 := Lib.hid (HBm.out.trans (hb2.mono (by omega)))
        have HO2 := Lib.hid (row_keep HOm.out hb2)
        have bk2 := BK.out.below hb2 zm
        have m0' : w2.cell? ⟨wr.heap.size, 0, none⟩ = some (.int .i64 kk) := cellOfBlk bk2 0
        clear hwm m0 m1 bk2 hb2
        obtain ⟨bd, y, rfl, hy, hd⟩ := (I0.out.below (by omega) HB2.out).ints.at_ (k := kk) (by rw [Hp.out]; exact hkp)
        have HIy : Hid ((itemsM f xs)[j]? = some y) := by
          show _ = _
          rw [HI.out]
          unfold itemM
          rw [if_neg (by omega), Int.toNat_natCast, getD_at hy.out]
        have Km := Lib.hid (K0.out.below HB2.out (by omega))
        have q1 : w2.cell? ⟨w.heap.size, 1, none⟩ = some (.slice (some bd) p d) := cellOfBlk Km.out 1
        obtain ⟨v0, hv0⟩ := half_cell (itemsM f xs) n j HZ.out hlt
        have hdd := (HO2.out.cellAt j (by omega)).trans hv0
        have hff := HO2.out.frozenAt j
        have hst := HO2.out.stored j (.int .i64 y)
        rw [half_set HZ.out HIy.out] at hst
        have HS := Lib.hid hst.1
        have HB3 := Lib.hid (HB2.out.setCell (p := ⟨w0.heap.size, j, none⟩) (Nat.le_refl _) (.int .i64 y))
        clear hst hv0
        go_wp2
        go_roundw
        case rel => exact ⟨j + 1, by omega, by go_num, HS.out, HB3.out⟩
        case measure => simp [intOf]; omega
      · have Hbd := Lib.hid hbd
        clear hbd HX
        go_wp2_with fail
        refine (isBand_any _ _ _).mono ?_
        rintro e w2 ⟨he, hb2⟩
        rw [Hbd.out] at he
        subst he
        have HB2 := Lib.hid (HBm.out.trans (hb2.mono (by omega)))
        have HO2 := Lib.hid (row_keep HOm.out hb2)
        clear hwm m0 m1 hb2
        have HIy : Hid ((itemsM f xs)[j]? = some 0) := by
          show _ = _
          rw [HI.out]
          have h1 := Hbd.out
          unfold bandM at h1
          rw [Bool.and_eq_true, beq_iff_eq] at h1
          unfold itemM
          rw [if_pos (by show a < 0; have := h1.1; omega)]
        obtain ⟨v0, hv0⟩ := half_cell (itemsM f xs) n j HZ.out hlt
        have hdd := (HO2.out.cellAt j (by omega)).trans hv0
        have hff := HO2.out.frozenAt j
        have hst := HO2.out.stored j (.int .i64 0)
        rw [half_set HZ.out HIy.out] at hst
        have HS := Lib.hid hst.1
        have HB3 := Lib.hid (HB2.out.setCell (p := ⟨w0.heap.size, j, none⟩) (Nat.le_refl _) (.int .i64 0))
        clear hst hv0
        go_wp2
        go_roundw
        case rel => exact ⟨j + 1, by omega, by go_num, HS.out, HB3.out⟩
        case measure => simp [intOf]; omega
    · have hjn : j = n := by omega
      subst hjn
      go_wp2
      go_ret
      refine ⟨_, rfl, ?_, T0.out.trans (HB.out.mono (by omega))⟩
      have hown := HO.out
      rw [half_full HZ.out] at hown
      have : Own wr w0.heap.size (.slice (some ⟨w0.heap.size, 0, none⟩) j j) (itemsM f xs) := by unfold Own; rw [HZ.out]; exact hown
      exact own_baseB this (by omega)
end Go.Proofs.YtobakeahbgodbaaGreat

namespace Go.Proofs.YtobakeahbgodbaaGreat
open Go.RowKit
set_option linter.unusedVariables false

set_option maxHeartbeats 400000 in
theorem toMeasure_any (W t k : Int) (w : World) :
    Calls Tryz.prog 16 #[.agg #[.int .i64 W, .int .i64 t, .int .i64 k]] w fun e w' => e = .returned (.agg #[.int .i64 W, .int .i64 t, .int .i64 k]) ∧ Below w.heap.size w w' := by
  go_enter Tryz.func16, Tryz.ntmps16
  go_wp2
  refine bodyPost_ret (v := .agg #[.int .i64 W, .int .i64 t, .int .i64 k]) (by simp [results, Tryz.results16, go_sem]) rfl ⟨rfl, ?_⟩
  exact (((Below.refl _ _).alloc (Nat.le_refl _) _).alloc (by simp) _).alloc (by simp <;> omega) _
theorem lmWorld (w : World) (W t k : Int) : ∃ w0, w.alloc (.cells #[.int .i64 W, .int .i64 t, .int .i64 k] 40) = w0 ∧ Below w.heap.size w w0 ∧ w0.heap.size = w.heap.size + 1 ∧
    (w0.cell? ⟨w.heap.size, 0, none⟩ = some (.int .i64 W) ∧ w0.cell? ⟨w.heap.size, 1, none⟩ = some (.int .i64 t) ∧ w0.cell? ⟨w.heap.size, 2, none⟩ = some (.int .i64 k)) :=
  ⟨_, rfl, below_new _ _, by simp, lay3 w (.int .i64 W) (.int .i64 t) (.int .i64 k) 40⟩
end Go.Proofs.YtobakeahbgodbaaGreat

namespace Go.Proofs.YtobakeahbgodbaaGreat
open Go.RowKit
set_option linter.unusedVariables false

set_option maxRecDepth 100000 in
set_option maxHeartbeats 3200000 in
theorem szMachine_any (lo hi : Nat) (v : Value) (X : Mch) (left : Int) (w : World) (h : MchV w lo hi v X) (hhi : hi ≤ w.heap.size) (h0 : 0 ≤ left) (h1 : left ≤ 1048576) :
    Calls Tryz.prog 56 #[v, .int .i64 left] w fun e w' => e = .returned (.int .i64 (takeOff left X.big)) ∧ Below w.heap.size w w' := by
  obtain ⟨s, A, n, c, A2, m, d, M, q, e0, L, l, lc, T, r, tc, rfl, hf, hq, hM, hqe, hem, hl, hL, hllc, hlm, hr, hT, hrt, htm⟩ := h.parts
  have hqm : q ≤ maxLen := by omega
  have hlm2 : l ≤ maxLen := by omega
  have hrm : r ≤ maxLen := by omega
  have hbig : X.big = X.f.big + magBig X.ms + l + r := by unfold Mch.big; rw [hl, hr]
  rw [hbig]
  obtain ⟨a, ha⟩ : ∃ a, X.f.big = a := ⟨_, rfl⟩
  obtain ⟨b, hb⟩ : ∃ b, magBig X.ms = b := ⟨_, rfl⟩
  rw [ha, hb]
  have Ha := Lib.hid ha; have Hb := Lib.hid hb; have Hq := Lib.hid hq
  have tok1 : True := trivial
  obtain ⟨w0, hw0, hb0, hz0, K0⟩ := mxWorld w #[.string s, .slice A n c, .slice A2 m d, .slice M q e0, .int .i64 X.sp, .int .i64 X.w, .int .i64 X.t, .int .i64 X.k, .slice L l lc, .slice T r tc] 53
  have V0 := Lib.hid (hf.below hhi hb0); have M0 := Lib.hid (hM.below hhi hb0); have T0 := Lib.hid hb0; have K0 := Lib.hid K0; have Z0 := Lib.hid hz0
  obtain ⟨c0, c1, c2, c3, c4, c5, c6, c7, c8, c9⟩ := K0.out.ten
  clear h hf hq hM hqe hem hl hL hllc hlm hr hT hrt htm hbig ha hb hb0 hz0
  by_cases l1 : left < (a : Int)
  · have Q1 : Hid (takeOff left a = -1) := by show _ = _; unfold takeOff; rw [if_pos l1]
    have HK : Hid (takeOff left ((a + b + l + r : Nat) : Int) = -1) := by show _ = _; unfold takeOff; rw [if_pos (by omega)]
    clear l1
    go_enter Tryz.func56, Tryz.ntmps56
    go_wp2_with (first
        | (go_at_call 13; clear hw0; refine (szFont_any lo hi _ X.f _ w0 V0.out (by omega) (by omega)).mono ?_; rintro e w1 ⟨he, hb1⟩; rw [Ha.out, Q1.out] at he; subst he; have K1 := Lib.hid (K0.out.below hb1 (by have := Z0.out; omega)); have M1 := Lib.hid (M0.out.below (by have := Z0.out; omega) hb1); have T1 := Lib.hid (T0.out.trans (hb1.mono (by have := Z0.out; omega))); clear hb1 c0 c1 c2 c3 c4 c5 c6 c7 c8 c9; obtain ⟨c0, c1, c2, c3, c4, c5, c6, c7, c8, c9⟩ := K1.out.ten))
    go_ret
    exact ⟨ret_int HK.out.symm, T1.out⟩
  have Q1 : Hid (takeOff left a = left - a) := by show _ = _; unfold takeOff; rw [if_neg l1]
  obtain ⟨x1, hx1⟩ : ∃ x, left - (a : Int) = x := ⟨_, rfl⟩
  have p1 : 0 ≤ x1 := by omega
  have p1' : x1 ≤ 1048576 := by omega
  rw [hx1] at Q1
  by_cases l2 : x1 < (b : Int)
  · have Q2 : Hid (takeOff x1 b = -1) := by show _ = _; unfold takeOff; rw [if_pos l2]
    have HK : Hid (takeOff left ((a + b + l + r : Nat) : Int) = -1) := by show _ = _; unfold takeOff; rw [if_pos (by omega)]
    clear l1 l2 hx1
    go_enter Tryz.func56, Tryz.ntmps56
    go_wp2_with (first
        | (go_at_call 13; clear hw0; refine (szFont_any lo hi _ X.f _ w0 V0.out (by omega) (by omega)).mono ?_; rintro e w1 ⟨he, hb1⟩; rw [Ha.out, Q1.out] at he; subst he; have K1 := Lib.hid (K0.out.below hb1 (by have := Z0.out; omega)); have M1 := Lib.hid (M0.out.below (by have := Z0.out; omega) hb1); have T1 := Lib.hid (T0.out.trans (hb1.mono (by have := Z0.out; omega))); clear hb1 c0 c1 c2 c3 c4 c5 c6 c7 c8 c9; obtain ⟨c0, c1, c2, c3, c4, c5, c6, c7, c8, c9⟩ := K1.out.ten)
        | (go_at_call 84; refine (szMatrixSS_any lo hi _ _ _ X.ms _ w1 Hq.out hqm M1.out (by omega) (by omega)).mono ?_; rintro e w1' ⟨he, rfl⟩; rw [Hb.out, Q2.out] at he; subst he))
    go_ret
    exact ⟨ret_int HK.out.symm, T1.out⟩
  have Q2 : Hid (takeOff x1 b = x1 - b) := by show _ = _; unfold takeOff; rw [if_neg l2]
  obtain ⟨x2, hx2⟩ : ∃ x, x1 - (b : Int) = x := ⟨_, rfl⟩
  have p2 : 0 ≤ x2 := by omega
  have p2' : x2 ≤ 1048576 := by omega
  rw [hx2] at Q2
  by_cases l3 : x2 < (l : Int)
  · have Q3 : Hid (takeOff x2 l = -1) := by show _ = _; unfold takeOff; rw [if_pos l3]
    have HK : Hid (takeOff left ((a + b + l + r : Nat) : Int) = -1) := by show _ = _; unfold takeOff; rw [if_pos (by omega)]
    clear l1 l2 l3 hx1 hx2
    go_enter Tryz.func56, Tryz.ntmps56
    go_wp2_with (first
        | (go_at_call 13; clear hw0; refine (szFont_any lo hi _ X.f _ w0 V0.out (by omega) (by omega)).mono ?_; rintro e w1 ⟨he, hb1⟩; rw [Ha.out, Q1.out] at he; subst he; have K1 := Lib.hid (K0.out.below hb1 (by have := Z0.out; omega)); have M1 := Lib.hid (M0.out.below (by have := Z0.out; omega) hb1); have T1 := Lib.hid (T0.out.trans (hb1.mono (by have := Z0.out; omega))); clear hb1 c0 c1 c2 c3 c4 c5 c6 c7 c8 c9; obtain ⟨c0, c1, c2, c3, c4, c5, c6, c7, c8, c9⟩ := K1.out.ten)
        | (go_at_call 84; refine (szMatrixSS_any lo hi _ _ _ X.ms _ w1 Hq.out hqm M1.out (by omega) (by omega)).mono ?_; rintro e w1' ⟨he, rfl⟩; rw [Hb.out, Q2.out] at he; subst he)
        | (go_at_call 85; clear tok1; refine (szMatrixS_any _ _ _ x2 w1 hlm2 (by omega) (by omega)).mono ?_; rintro e w1' ⟨he, rfl⟩; rw [Q3.out] at he; subst he))
    go_ret
    exact ⟨ret_int HK.out.symm, T1.out⟩
  have Q3 : Hid (takeOff x2 l = x2 - l) := by show _ = _; unfold takeOff; rw [if_neg l3]
  obtain ⟨x3, hx3⟩ : ∃ x, x2 - (l : Int) = x := ⟨_, rfl⟩
  have p3 : 0 ≤ x3 := by omega
  have p3' : x3 ≤ 1048576 := by omega
  rw [hx3] at Q3
  by_cases l4 : x3 < (r : Int)
  · have Q4 : Hid (takeOff x3 r = -1) := by show _ = _; unfold takeOff; rw [if_pos l4]
    have HK : Hid (takeOff left ((a + b + l + r : Nat) : Int) = -1) := by show _ = _; unfold takeOff; rw [if_pos (by omega)]
    clear l1 l2 l3 l4 hx1 hx2 hx3
    go_enter Tryz.func56, Tryz.ntmps56
    go_wp2_with (first
        | (go_at_call 13; clear hw0; refine (szFont_any lo hi _ X.f _ w0 V0.out (by omega) (by omega)).mono ?_; rintro e w1 ⟨he, hb1⟩; rw [Ha.out, Q1.out] at he; subst he; have K1 := Lib.hid (K0.out.below hb1 (by have := Z0.out; omega)); have M1 := Lib.hid (M0.out.below (by have := Z0.out; omega) hb1); have T1 := Lib.hid (T0.out.trans (hb1.mono (by have := Z0.out; omega))); clear hb1 c0 c1 c2 c3 c4 c5 c6 c7 c8 c9; obtain ⟨c0, c1, c2, c3, c4, c5, c6, c7, c8, c9⟩ := K1.out.ten)
        | (go_at_call 84; refine (szMatrixSS_any lo hi _ _ _ X.ms _ w1 Hq.out hqm M1.out (by omega) (by omega)).mono ?_; rintro e w1' ⟨he, rfl⟩; rw [Hb.out, Q2.out] at he; subst he)
        | (go_at_call 85; clear tok1; refine (szMatrixS_any _ _ _ x2 w1 hlm2 (by omega) (by omega)).mono ?_; rintro e w1' ⟨he, rfl⟩; rw [Q3.out] at he; subst he)
        | (go_at_call 85; refine (szMatrixS_any _ _ _ x3 w1 hrm (by omega) (by omega)).mono ?_; rintro e w1' ⟨he, rfl⟩; rw [Q4.out] at he; subst he))
    go_ret
    exact ⟨ret_int HK.out.symm, T1.out⟩
  have Q4 : Hid (takeOff x3 r = x3 - r) := by show _ = _; unfold takeOff; rw [if_neg l4]
  obtain ⟨x4, hx4⟩ : ∃ x, x3 - (r : Int) = x := ⟨_, rfl⟩
  have p4 : 0 ≤ x4 := by omega
  rw [hx4] at Q4
  have HK : Hid (takeOff left ((a + b + l + r : Nat) : Int) = x4) := by show _ = _; unfold takeOff; rw [if_neg (by omega)]; omega
  clear l1 l2 l3 l4 hx1 hx2 hx3 hx4
  go_enter Tryz.func56, Tryz.ntmps56
  go_wp2_with (first
      | (go_at_call 13; clear hw0; refine (szFont_any lo hi _ X.f _ w0 V0.out (by omega) (by omega)).mono ?_; rintro e w1 ⟨he, hb1⟩; rw [Ha.out, Q1.out] at he; subst he; have K1 := Lib.hid (K0.out.below hb1 (by have := Z0.out; omega)); have M1 := Lib.hid (M0.out.below (by have := Z0.out; omega) hb1); have T1 := Lib.hid (T0.out.trans (hb1.mono (by have := Z0.out; omega))); clear hb1 c0 c1 c2 c3 c4 c5 c6 c7 c8 c9; obtain ⟨c0, c1, c2, c3, c4, c5, c6, c7, c8, c9⟩ := K1.out.ten)
      | (go_at_call 84; refine (szMatrixSS_any lo hi _ _ _ X.ms _ w1 Hq.out hqm M1.out (by omega) (by omega)).mono ?_; rintro e w1' ⟨he, rfl⟩; rw [Hb.out, Q2.out] at he; subst he)
      | (go_at_call 85; clear tok1; refine (szMatrixS_any _ _ _ x2 w1 hlm2 (by omega) (by omega)).mono ?_; rintro e w1' ⟨he, rfl⟩; rw [Q3.out] at he; subst he)
      | (go_at_call 85; refine (szMatrixS_any _ _ _ x3 w1 hrm (by omega) (by omega)).mono ?_; rintro e w1' ⟨he, rfl⟩; rw [Q4.out] at he; subst he))
  go_ret
  exact ⟨ret_int HK.out.symm, T1.out⟩

theorem eqMeasure_any (W t k : Int) (w : World) : Calls Tryz.prog 103 #[.agg #[.int .i64 W, .int .i64 t, .int .i64 k], .agg #[.int .i64 W, .int .i64 t, .int .i64 k]] w fun e w' => e = .returned (.bool true) ∧ Below w.heap.size w w' := by
  have b1 : (W != W) = false := by simp
  have b2 : (t != t) = false := by simp
  have b3 : (k != k) = false := by simp
  have HW := Lib.hid (((Below.refl w.heap.size w).alloc (Nat.le_refl _) (.cells #[.int .i64 W, .int .i64 t, .int .i64 k] 27)).alloc (by simp) (.cells #[.int .i64 W, .int .i64 t, .int .i64 k] 27))
  go_enter Tryz.func103, Tryz.ntmps103
  go_wp2
  go_ret
  exact ⟨rfl, HW.out⟩
theorem eqMatrixS_same (lo hi lo2 hi2 : Nat) (A B : Option Addr) (n c d : Nat) (xs : List Mat) (w : World) (hn : xs.length = n) (hl : n ≤ 1048576) (hhi : hi ≤ w.heap.size) (hhi2 : hi2 ≤ w.heap.size) (h : MatsI w lo hi A xs) (h2 : MatsI w lo2 hi2 B xs) :
    Calls Tryz.prog 104 #[.slice A n c, .slice B n d] w fun e w' => e = .returned (.bool true) ∧ Below w.heap.size w w' := by
  refine (eqMatrixS_any lo hi lo2 hi2 A B n n c d xs xs w hn hn hl (by unfold maxLen; omega) hhi hhi2 h h2).mono ?_
  rintro e w' ⟨rfl, hb⟩
  exact ⟨by simp, hb⟩
/-- the words of a second machine that reads alike -/
theorem MchV.again {w : World} {lo hi lo2 hi2 : Nat} {X : Mch} {v u : Value} (h : MchV w lo hi v X) (h2 : MchV w lo2 hi2 u X) : ∃ s A n c A2 m d M q e L l lc T r tc B b B2 b2 N e' L' lc' T' tc',
    v = .agg #[.string s, .slice A n c, .slice A2 m d, .slice M q e, .int .i64 X.sp, .int .i64 X.w, .int .i64 X.t, .int .i64 X.k, .slice L l lc, .slice T r tc]
    ∧ u = .agg #[.string s, .slice B n b, .slice B2 m b2, .slice N q e', .int .i64 X.sp, .int .i64 X.w, .int .i64 X.t, .int .i64 X.k, .slice L' l lc', .slice T' r tc']
    ∧ FontV w lo hi (.agg #[.string s, .slice A n c, .slice A2 m d]) X.f ∧ FontV w lo2 hi2 (.agg #[.string s, .slice B n b, .slice B2 m b2]) X.f
    ∧ X.ms.length = q ∧ MagI w lo hi M X.ms ∧ MagI w lo2 hi2 N X.ms ∧ X.ln.length = l ∧ MatsI w lo hi L X.ln ∧ MatsI w lo2 hi2 L' X.ln ∧ X.wt.length = r ∧ MatsI w lo hi T X.wt ∧ MatsI w lo2 hi2 T' X.wt := by
  obtain ⟨A, c, A2, d, M, e, L, lc, T, tc, hv, hp⟩ := h
  obtain ⟨B, b, B2, b2, N, e', L', lc', T', tc', hu, hp2⟩ := h2
  exact ⟨_, A, _, c, A2, _, d, M, _, e, L, _, lc, T, _, tc, B, b, B2, b2, N, e', L', lc', T', tc', hv, hu, hp.font, hp2.font, rfl, hp.mag, hp2.mag, rfl, hp.line, hp2.line, rfl, hp.wait, hp2.wait⟩
set_option maxRecDepth 100000 in
set_option maxHeartbeats 3200000 in
theorem eqMachine_same (lo hi lo2 hi2 : Nat) (v u : Value) (X : Mch) (w : World) (h : MchV w lo hi v X) (h2 : MchV w lo2 hi2 u X) (hhi : hi ≤ w.heap.size) (hhi2 : hi2 ≤ w.heap.size) (hs : SmallX X) :
    Calls Tryz.prog 60 #[v, u] w fun e w' => e = .returned (.bool true) ∧ Below w.heap.size w w' := by
  obtain ⟨s, A, n, c, A2, m, d, M, q, e0, L, l, lc, T, r, tc, B, b, B2, b2, N, e', L', lc', T', tc', rfl, rfl, hf, hf2, hq, hM, hM2, hl, hL, hL2, hr, hT, hT2⟩ := h.again h2
  have Hq := Lib.hid hq; have Hl := Lib.hid hl; have Hr := Lib.hid hr; have HS := Lib.hid hs
  have hq1 : q ≤ 1048576 := by rw [← hq]; exact hs.ms
  have hl1 : l ≤ 1048576 := by rw [← hl]; exact hs.ln
  have hr1 : r ≤ 1048576 := by rw [← hr]; exact hs.wt
  obtain ⟨sp, hsp⟩ : ∃ x, X.sp = x := ⟨_, rfl⟩
  obtain ⟨W, hW⟩ : ∃ x, X.w = x := ⟨_, rfl⟩
  obtain ⟨t, ht⟩ : ∃ x, X.t = x := ⟨_, rfl⟩
  obtain ⟨k, hk⟩ : ∃ x, X.k = x := ⟨_, rfl⟩
  rw [hsp, hW, ht, hk] at h h2 ⊢
  have b1 : (sp != sp) = false := by simp
  obtain ⟨w0, hw0, hb0, hz0, K0⟩ := mxWorld w #[.string s, .slice A n c, .slice A2 m d, .slice M q e0, .int .i64 sp, .int .i64 W, .int .i64 t, .int .i64 k, .slice L l lc, .slice T r tc] 61
  obtain ⟨w1, hw1, hb1, hz1, J1⟩ := mxWorld w0 #[.string s, .slice B n b, .slice B2 m b2, .slice N q e', .int .i64 sp, .int .i64 W, .int .i64 t, .int .i64 k, .slice L' l lc', .slice T' r tc'] 61
  have K1 := Lib.hid (K0.below hb1 (by omega))
  have hb01 := hb0.trans (hb1.mono (by omega))
  have J1 := Lib.hid J1; have T1 := Lib.hid hb01
  have F1 := Lib.hid (hf.below hhi hb01); have G1 := Lib.hid (hf2.below hhi2 hb01)
  have M1 := Lib.hid (hM.below hhi hb01); have N1 := Lib.hid (hM2.below hhi2 hb01)
  have L1 := Lib.hid (hL.below hhi hb01); have L1' := Lib.hid (hL2.below hhi2 hb01)
  have W1 := Lib.hid (hT.below hhi hb01); have W1' := Lib.hid (hT2.below hhi2 hb01)
  have Z1 : Hid (w1.heap.size = w.heap.size + 2) := by show _ = _; omega
  have Z0 := Lib.hid hz0
  clear h h2 hf hf2 hM hM2 hL hL2 hT hT2 hq hl hr hs hsp hW ht hk hb0 hb1 hb01 K0 hz0 hz1
  have z0 : w0.heap.size ≤ w.heap.size + 1 := by have := Z0.out; omega
  obtain ⟨c0, c1, c2, c3, c4, c5, c6, c7, c8, c9⟩ := K1.out.ten
  obtain ⟨dc0, dc1, dc2, dc3, dc4, dc5, dc6, dc7, dc8, dc9⟩ := J1.out.ten
  have z1 := Z1.out
  have tok1 : True := trivial
  clear Z0 Z1
  go_enter Tryz.func60, Tryz.ntmps60
  go_wp2_with (first
      | (go_at_call 19; clear hw0 hw1; refine (eqFont_same lo hi lo2 hi2 _ _ X.f w1 F1.out G1.out (by omega) (by omega) HS.out.f).mono ?_; rintro e w2 ⟨rfl, hb⟩; have K2 := Lib.hid (K1.out.below hb (by omega)); have J2 := Lib.hid (J1.out.below hb (by omega)); have T2 := Lib.hid (T1.out.trans (hb.mono (by omega))); have z2 : w.heap.size + 2 ≤ w2.heap.size := (by have := hb.size; omega); have M2 := Lib.hid (M1.out.below (by omega) hb); have N2 := Lib.hid (N1.out.below (by omega) hb); have L2 := Lib.hid (L1.out.below (by omega) hb); have L2' := Lib.hid (L1'.out.below (by omega) hb); have W2 := Lib.hid (W1.out.below (by omega) hb); have W2' := Lib.hid (W1'.out.below (by omega) hb); clear hb c0 c1 c2 c3 c4 c5 c6 c7 c8 c9 dc0 dc1 dc2 dc3 dc4 dc5 dc6 dc7 dc8 dc9; obtain ⟨c0, c1, c2, c3, c4, c5, c6, c7, c8, c9⟩ := K2.out.ten; obtain ⟨dc0, dc1, dc2, dc3, dc4, dc5, dc6, dc7, dc8, dc9⟩ := J2.out.ten)
      | (go_at_call 102; refine (eqMatrixSS_same lo hi lo2 hi2 _ _ _ _ _ X.ms w2 Hq.out hq1 HS.out.row (by omega) (by omega) M2.out N2.out).mono ?_; rintro e w3 ⟨rfl, hb⟩; have K3 := Lib.hid (K2.out.below hb (by omega)); have J3 := Lib.hid (J2.out.below hb (by omega)); have T3 := Lib.hid (T2.out.trans (hb.mono (by omega))); have z3 : w.heap.size + 2 ≤ w3.heap.size := (by have := hb.size; omega); have L3 := Lib.hid (L2.out.below (by omega) hb); have L3' := Lib.hid (L2'.out.below (by omega) hb); have W3 := Lib.hid (W2.out.below (by omega) hb); have W3' := Lib.hid (W2'.out.below (by omega) hb); clear hb c0 c1 c2 c3 c4 c5 c6 c7 c8 c9 dc0 dc1 dc2 dc3 dc4 dc5 dc6 dc7 dc8 dc9; obtain ⟨c0, c1, c2, c3, c4, c5, c6, c7, c8, c9⟩ := K3.out.ten; obtain ⟨dc0, dc1, dc2, dc3, dc4, dc5, dc6, dc7, dc8, dc9⟩ := J3.out.ten)
      | (go_at_call 103; refine (eqMeasure_any W t k w3).mono ?_; rintro e w4 ⟨rfl, hb⟩; have K4 := Lib.hid (K3.out.below hb (by omega)); have J4 := Lib.hid (J3.out.below hb (by omega)); have T4 := Lib.hid (T3.out.trans (hb.mono (by omega))); have z4 : w.heap.size + 2 ≤ w4.heap.size := (by have := hb.size; omega); have L4 := Lib.hid (L3.out.below (by omega) hb); have L4' := Lib.hid (L3'.out.below (by omega) hb); have W4 := Lib.hid (W3.out.below (by omega) hb); have W4' := Lib.hid (W3'.out.below (by omega) hb); clear hb c0 c1 c2 c3 c4 c5 c6 c7 c8 c9 dc0 dc1 dc2 dc3 dc4 dc5 dc6 dc7 dc8 dc9; obtain ⟨c0, c1, c2, c3, c4, c5, c6, c7, c8, c9⟩ := K4.out.ten; obtain ⟨dc0, dc1, dc2, dc3, dc4, dc5, dc6, dc7, dc8, dc9⟩ := J4.out.ten)
      | (go_at_call 104; clear tok1; refine (eqMatrixS_same lo hi lo2 hi2 _ _ _ _ _ X.ln w4 Hl.out hl1 (by omega) (by omega) L4.out L4'.out).mono ?_; rintro e w5 ⟨rfl, hb⟩; have K5 := Lib.hid (K4.out.below hb (by omega)); have J5 := Lib.hid (J4.out.below hb (by omega)); have T5 := Lib.hid (T4.out.trans (hb.mono (by omega))); have z5 : w.heap.size + 2 ≤ w5.heap.size := (by have := hb.size; omega); have W5 := Lib.hid (W4.out.below (by omega) hb); have W5' := Lib.hid (W4'.out.below (by omega) hb); clear hb c0 c1 c2 c3 c4 c5 c6 c7 c8 c9 dc0 dc1 dc2 dc3 dc4 dc5 dc6 dc7 dc8 dc9; obtain ⟨c0, c1, c2, c3, c4, c5, c6, c7, c8, c9⟩ := K5.out.ten; obtain ⟨dc0, dc1, dc2, dc3, dc4, dc5, dc6, dc7, dc8, dc9⟩ := J5.out.ten)
      | (go_at_call 104; refine (eqMatrixS_same lo hi lo2 hi2 _ _ _ _ _ X.wt w5 Hr.out hr1 (by omega) (by omega) W5.out W5'.out).mono ?_; rintro e w6 ⟨rfl, hb⟩; have K6 := Lib.hid (K5.out.below hb (by omega)); have J6 := Lib.hid (J5.out.below hb (by omega)); have T6 := Lib.hid (T5.out.trans (hb.mono (by omega))); have z6 : w.heap.size + 2 ≤ w6.heap.size := (by have := hb.size; omega); clear hb c0 c1 c2 c3 c4 c5 c6 c7 c8 c9 dc0 dc1 dc2 dc3 dc4 dc5 dc6 dc7 dc8 dc9; obtain ⟨c0, c1, c2, c3, c4, c5, c6, c7, c8, c9⟩ := K6.out.ten; obtain ⟨dc0, dc1, dc2, dc3, dc4, dc5, dc6, dc7, dc8, dc9⟩ := J6.out.ten))
  go_ret
  exact ⟨rfl, T6.out⟩

end Go.Proofs.YtobakeahbgodbaaGreat

namespace Go.Proofs.YtobakeahbgodbaaGreat
open Go.RowKit
set_option linter.unusedVariables false

theorem machB_mag {X : Mch} (h : magB X.f X.ms = false) : machB X = false := by unfold machB; rw [h]; rfl
theorem machB_sp {X : Mch} (h : inB X.sp 0 60 = false) : machB X = false := by unfold machB; rw [h]; simp
theorem machB_ms {X : Mch} (h : msrB X.m = false) : machB X = false := by unfold machB; rw [good_no h]; simp
theorem machB_wl {X : Mch} (h : ¬ X.wt.length ≤ 240) : machB X = false := by unfold machB; rw [decide_eq_false h]; simp
theorem machB_wt {X : Mch} {j : Nat} {x : Mat} (hx : X.wt[j]? = some x) (h : matB X.f x = false) : machB X = false := by
  unfold machB; rw [mats_bad hx h]; simp
theorem machB_ln {X : Mch} {j : Nat} {x : Mat} (hx : X.ln[j]? = some x) (h : setM X.f x = false) : machB X = false := by
  unfold machB; rw [mats_bad hx h]; simp
theorem machB_fit {X : Mch} (h1 : magB X.f X.ms = true) (h2 : inB X.sp 0 60 = true) (h3 : msrB X.m = true) (h4 : X.wt.length ≤ 240) (h5 : X.wt.all (matB X.f) = true) (h6 : X.ln.all (setM X.f) = true) :
    machB X = fitsB X.m (itemsM X.f X.ln) := by
  unfold machB goodB
  rw [h1, h2, h3, h5, h6, decide_eq_true h4]
  cases hf : fitsB X.m (itemsM X.f X.ln)
  · simp
  · have : lineB (itemsM X.f X.ln) = true := by unfold fitsB at hf; rw [Bool.and_eq_true] at hf; exact hf.1
    have hl := (lineB_parts this).2
    rw [itemsM_len] at hl
    rw [decide_eq_true hl]; rfl
theorem set_hasWid {f : Fnt} {x : Mat} (hf : fontB f = true) (h : setM f x = true) : hasWid f x := by
  obtain ⟨e1, e2, _⟩ := fontB_codes hf
  unfold setM at h
  rw [Bool.or_eq_true] at h
  rcases h with h | h
  · unfold bandM at h
    rw [Bool.and_eq_true, beq_iff_eq] at h
    left; omega
  · unfold matB at h
    rw [Bool.and_eq_true] at h
    have := (inB_iff _ _ _).1 h.1
    right; omega
theorem magB_font {f : Fnt} {ms : List (List Mat)} (h : magB f ms = true) : fontB f = true := by unfold magB at h; rw [Bool.and_eq_true] at h; exact h.1

set_option maxRecDepth 100000 in
set_option maxHeartbeats 6400000 in
theorem specMachine_any (lo hi : Nat) (v : Value) (X : Mch) (w : World) (h : MchV w lo hi v X) (hhi : hi ≤ w.heap.size) (hs : SmallX X) :
    Calls Tryz.prog 57 #[v] w fun e w' => e = .returned (.bool (machB X)) ∧ Below w.heap.size w w' := by
  obtain ⟨s, A, n, c, A2, m, d, M, q, e0, L, l, lc, T, r, tc, rfl, hf, hq, hM, hqe, hem, hl, hL, hllc, hlm, hr, hT, hrt, htm⟩ := h.parts
  have Hq := Lib.hid hq; have Hl := Lib.hid hl; have Hr := Lib.hid hr; have HS := Lib.hid hs
  have hq1 : q ≤ 1048576 := by rw [← hq]; exact hs.ms
  have hl1 : l ≤ 1048576 := by rw [← hl]; exact hs.ln
  have hr1 : r ≤ 1048576 := by rw [← hr]; exact hs.wt
  obtain ⟨sp, hsp⟩ : ∃ x, X.sp = x := ⟨_, rfl⟩
  obtain ⟨W, hW⟩ : ∃ x, X.w = x := ⟨_, rfl⟩
  obtain ⟨t, ht⟩ : ∃ x, X.t = x := ⟨_, rfl⟩
  obtain ⟨k, hk⟩ : ∃ x, X.k = x := ⟨_, rfl⟩
  rw [hsp, hW, ht, hk] at h ⊢
  have HE : Hid (X.sp = sp ∧ X.m = ⟨W, t, k⟩) := ⟨hsp, by unfold Mch.m; rw [hW, ht, hk]⟩
  obtain ⟨w0, hw0, hb0, hz0, K0⟩ := mxWorld w #[.string s, .slice A n c, .slice A2 m d, .slice M q e0, .int .i64 sp, .int .i64 W, .int .i64 t, .int .i64 k, .slice L l lc, .slice T r tc] 61
  have T0 := Lib.hid hb0; have K0 := Lib.hid K0; have Z0 := Lib.hid hz0
  have F0 := Lib.hid (hf.below hhi hb0); have M0 := Lib.hid (hM.below hhi hb0); have L0 := Lib.hid (hL.below hhi hb0); have W0 := Lib.hid (hT.below hhi hb0)
  have z0 : w.heap.size < w0.heap.size := by omega
  clear h hf hq hM hqe hem hl hL hllc hlm hr hT hrt htm hsp hW ht hk hb0 hz0 hs
  obtain ⟨kc0, kc1, kc2, kc3, kc4, kc5, kc6, kc7, kc8, kc9⟩ := K0.out.ten
  cases hmg : magB X.f X.ms
  · have HR : Hid (machB X = false) := machB_mag hmg
    have HMg := Lib.hid hmg
    clear hmg
    go_enter Tryz.func57, Tryz.ntmps57
    go_wp2_with (first
        | (go_at_call 86; refine (specMagOk_any lo hi lo hi _ X.f _ _ _ X.ms w0 F0.out (by omega) HS.out.f Hq.out hq1 M0.out (by omega)).mono ?_; rintro e w1 ⟨he, hb⟩; rw [HMg.out] at he; subst he; have K1 := Lib.hid (K0.out.below hb (by omega)); have T1 := Lib.hid (T0.out.trans (hb.mono (by omega))); have z1 : w.heap.size < w1.heap.size := Nat.lt_of_lt_of_le z0 hb.size; have F1 := Lib.hid (F0.out.below (by omega) hb); have M1 := Lib.hid (M0.out.below (by omega) hb); have L1 := Lib.hid (L0.out.below (by omega) hb); have W1 := Lib.hid (W0.out.below (by omega) hb); clear hb kc0 kc1 kc2 kc3 kc4 kc5 kc6 kc7 kc8 kc9; clear hw0; obtain ⟨kc0, kc1, kc2, kc3, kc4, kc5, kc6, kc7, kc8, kc9⟩ := K1.out.ten))
    go_ret
    exact ⟨ret_bool HR.out.symm, T1.out⟩
  have HMg := Lib.hid hmg
  cases hsp : inB sp 0 60
  · have HR : Hid (machB X = false) := machB_sp (by rw [HE.out.1]; exact hsp)
    have HSp := Lib.hid hsp
    clear hsp hmg
    go_enter Tryz.func57, Tryz.ntmps57
    go_wp2_with (first
        | (go_at_call 86; refine (specMagOk_any lo hi lo hi _ X.f _ _ _ X.ms w0 F0.out (by omega) HS.out.f Hq.out hq1 M0.out (by omega)).mono ?_; rintro e w1 ⟨he, hb⟩; rw [HMg.out] at he; subst he; have K1 := Lib.hid (K0.out.below hb (by omega)); have T1 := Lib.hid (T0.out.trans (hb.mono (by omega))); have z1 : w.heap.size < w1.heap.size := Nat.lt_of_lt_of_le z0 hb.size; have F1 := Lib.hid (F0.out.below (by omega) hb); have M1 := Lib.hid (M0.out.below (by omega) hb); have L1 := Lib.hid (L0.out.below (by omega) hb); have W1 := Lib.hid (W0.out.below (by omega) hb); clear hb kc0 kc1 kc2 kc3 kc4 kc5 kc6 kc7 kc8 kc9; clear hw0; obtain ⟨kc0, kc1, kc2, kc3, kc4, kc5, kc6, kc7, kc8, kc9⟩ := K1.out.ten)
        | (go_at_call 87; refine (l1In_any _ _ _ _).mono ?_; rintro e w1' ⟨he, rfl⟩; rw [HSp.out] at he; subst he))
    go_ret
    exact ⟨ret_bool HR.out.symm, T1.out⟩
  have HSp := Lib.hid hsp
  cases hms : msrB ⟨W, t, k⟩
  · have HR : Hid (machB X = false) := machB_ms (by rw [HE.out.2]; exact hms)
    have HMs := Lib.hid hms
    clear hsp hmg hms
    go_enter Tryz.func57, Tryz.ntmps57
    go_wp2_with (first
        | (go_at_call 86; refine (specMagOk_any lo hi lo hi _ X.f _ _ _ X.ms w0 F0.out (by omega) HS.out.f Hq.out hq1 M0.out (by omega)).mono ?_; rintro e w1 ⟨he, hb⟩; rw [HMg.out] at he; subst he; have K1 := Lib.hid (K0.out.below hb (by omega)); have T1 := Lib.hid (T0.out.trans (hb.mono (by omega))); have z1 : w.heap.size < w1.heap.size := Nat.lt_of_lt_of_le z0 hb.size; have F1 := Lib.hid (F0.out.below (by omega) hb); have M1 := Lib.hid (M0.out.below (by omega) hb); have L1 := Lib.hid (L0.out.below (by omega) hb); have W1 := Lib.hid (W0.out.below (by omega) hb); clear hb kc0 kc1 kc2 kc3 kc4 kc5 kc6 kc7 kc8 kc9; clear hw0; obtain ⟨kc0, kc1, kc2, kc3, kc4, kc5, kc6, kc7, kc8, kc9⟩ := K1.out.ten)
        | (go_at_call 87; refine (l1In_any _ _ _ _).mono ?_; rintro e w1' ⟨he, rfl⟩; rw [HSp.out] at he; subst he)
        | (go_at_call 88; refine (specMeasureOk_any W t k w1).mono ?_; rintro e w2 ⟨he, hb⟩; rw [HMs.out] at he; subst he; have K2 := Lib.hid (K1.out.below hb (by omega)); have T2 := Lib.hid (T1.out.trans (hb.mono (by omega))); have z2 : w.heap.size < w2.heap.size := Nat.lt_of_lt_of_le z1 hb.size; have F2 := Lib.hid (F1.out.below (by omega) hb); have M2 := Lib.hid (M1.out.below (by omega) hb); have L2 := Lib.hid (L1.out.below (by omega) hb); have W2 := Lib.hid (W1.out.below (by omega) hb); clear hb kc0 kc1 kc2 kc3 kc4 kc5 kc6 kc7 kc8 kc9; obtain ⟨kc0, kc1, kc2, kc3, kc4, kc5, kc6, kc7, kc8, kc9⟩ := K2.out.ten))
    go_ret
    exact ⟨ret_bool HR.out.symm, T2.out⟩
  have HMs := Lib.hid hms
  by_cases hwl : 240 < r
  · have HR : Hid (machB X = false) := machB_wl (by rw [Hr.out]; omega)
    have g1 : decide (240 < (r : Int)) = true := decide_eq_true (by omega)
    clear hsp hmg hms hwl
    go_enter Tryz.func57, Tryz.ntmps57
    go_wp2_with (first
        | (go_at_call 86; refine (specMagOk_any lo hi lo hi _ X.f _ _ _ X.ms w0 F0.out (by omega) HS.out.f Hq.out hq1 M0.out (by omega)).mono ?_; rintro e w1 ⟨he, hb⟩; rw [HMg.out] at he; subst he; have K1 := Lib.hid (K0.out.below hb (by omega)); have T1 := Lib.hid (T0.out.trans (hb.mono (by omega))); have z1 : w.heap.size < w1.heap.size := Nat.lt_of_lt_of_le z0 hb.size; have F1 := Lib.hid (F0.out.below (by omega) hb); have M1 := Lib.hid (M0.out.below (by omega) hb); have L1 := Lib.hid (L0.out.below (by omega) hb); have W1 := Lib.hid (W0.out.below (by omega) hb); clear hb kc0 kc1 kc2 kc3 kc4 kc5 kc6 kc7 kc8 kc9; clear hw0; obtain ⟨kc0, kc1, kc2, kc3, kc4, kc5, kc6, kc7, kc8, kc9⟩ := K1.out.ten)
        | (go_at_call 87; refine (l1In_any _ _ _ _).mono ?_; rintro e w1' ⟨he, rfl⟩; rw [HSp.out] at he; subst he)
        | (go_at_call 88; refine (specMeasureOk_any W t k w1).mono ?_; rintro e w2 ⟨he, hb⟩; rw [HMs.out] at he; subst he; have K2 := Lib.hid (K1.out.below hb (by omega)); have T2 := Lib.hid (T1.out.trans (hb.mono (by omega))); have z2 : w.heap.size < w2.heap.size := Nat.lt_of_lt_of_le z1 hb.size; have F2 := Lib.hid (F1.out.below (by omega) hb); have M2 := Lib.hid (M1.out.below (by omega) hb); have L2 := Lib.hid (L1.out.below (by omega) hb); have W2 := Lib.hid (W1.out.below (by omega) hb); clear hb kc0 kc1 kc2 kc3 kc4 kc5 kc6 kc7 kc8 kc9; obtain ⟨kc0, kc1, kc2, kc3, kc4, kc5, kc6, kc7, kc8, kc9⟩ := K2.out.ten))
    go_ret
    exact ⟨ret_bool HR.out.symm, T2.out⟩
  have g1 : decide (240 < (r : Int)) = false := decide_eq_false (by omega)
  have HF := Lib.hid (magB_font hmg)
  have HWl : Hid (X.wt.length ≤ 240) := by show _ ≤ _; rw [Hr.out]; omega
  clear hsp hmg hms
  go_enter Tryz.func57, Tryz.ntmps57
  go_wp2_with (first
      | (go_at_call 86; refine (specMagOk_any lo hi lo hi _ X.f _ _ _ X.ms w0 F0.out (by omega) HS.out.f Hq.out hq1 M0.out (by omega)).mono ?_; rintro e w1 ⟨he, hb⟩; rw [HMg.out] at he; subst he; have K1 := Lib.hid (K0.out.below hb (by omega)); have T1 := Lib.hid (T0.out.trans (hb.mono (by omega))); have z1 : w.heap.size < w1.heap.size := Nat.lt_of_lt_of_le z0 hb.size; have F1 := Lib.hid (F0.out.below (by omega) hb); have M1 := Lib.hid (M0.out.below (by omega) hb); have L1 := Lib.hid (L0.out.below (by omega) hb); have W1 := Lib.hid (W0.out.below (by omega) hb); clear hb kc0 kc1 kc2 kc3 kc4 kc5 kc6 kc7 kc8 kc9; clear hw0; obtain ⟨kc0, kc1, kc2, kc3, kc4, kc5, kc6, kc7, kc8, kc9⟩ := K1.out.ten)
      | (go_at_call 87; refine (l1In_any _ _ _ _).mono ?_; rintro e w1' ⟨he, rfl⟩; rw [HSp.out] at he; subst he)
      | (go_at_call 88; refine (specMeasureOk_any W t k w1).mono ?_; rintro e w2 ⟨he, hb⟩; rw [HMs.out] at he; subst he; have K2 := Lib.hid (K1.out.below hb (by omega)); have T2 := Lib.hid (T1.out.trans (hb.mono (by omega))); have z2 : w.heap.size < w2.heap.size := Nat.lt_of_lt_of_le z1 hb.size; have F2 := Lib.hid (F1.out.below (by omega) hb); have M2 := Lib.hid (M1.out.below (by omega) hb); have L2 := Lib.hid (L1.out.below (by omega) hb); have W2 := Lib.hid (W1.out.below (by omega) hb); clear hb kc0 kc1 kc2 kc3 kc4 kc5 kc6 kc7 kc8 kc9; obtain ⟨kc0, kc1, kc2, kc3, kc4, kc5, kc6, kc7, kc8, kc9⟩ := K2.out.ten))
  have s2 := z2
  clear kc0 kc1 kc2 kc3 kc4 kc5 kc6 kc7 kc8 kc9 g1
  go_loopw [34] (fun i wr => ∃ j : Nat, j ≤ l ∧ i = .int .i64 j ∧ Below w2.heap.size w2 wr ∧ (X.ln.take j).all (setM X.f) = true) (fun i _ => l - (intOf i).toNat)
  case atStart => exact ⟨0, Nat.zero_le _, rfl, Below.refl _ _, rfl⟩
  case round =>
    obtain ⟨j, hj, rfl, hb, hall⟩ := hrel
    have HB := Lib.hid hb; have Hall := Lib.hid hall
    have zr := hb.size
    clear hb hall
    by_cases hlt : j < l
    · obtain ⟨ad, x, rfl, hx, d1, e1⟩ := (L2.out.below (by omega) HB.out).at_ (k := j) (by rw [Hl.out]; exact hlt)
      obtain ⟨a, b⟩ := x
      simp only at d1 e1
      obtain ⟨wm, hwm⟩ : ∃ y, wr.alloc (.cells #[.int .i64 a, .int .i64 b] 121) = y := ⟨_, rfl⟩
      have bk : Blk wm wr.heap.size #[.int .i64 a, .int .i64 b] 121 := by rw [← hwm]; exact Blk.new _ _ _
      have bm : Below wr.heap.size wr wm := by rw [← hwm]; exact (Below.refl _ _).alloc (Nat.le_refl _) _
      have HBm := Lib.hid (HB.out.trans (bm.mono zr)); have zm : wr.heap.size < wm.heap.size := bk.lt
      have m0 : wm.cell? ⟨wr.heap.size, 0, none⟩ = some (.int .i64 a) := cellOfBlk bk 0
      have m1 : wm.cell? ⟨wr.heap.size, 1, none⟩ = some (.int .i64 b) := cellOfBlk bk 1
      have BK := Lib.hid bk
      have Fm := Lib.hid (F2.out.below (by omega) HBm.out); have Km := Lib.hid (K2.out.below HBm.out (by omega))
      obtain ⟨kc0, kc1, kc2, kc3, kc4, kc5, kc6, kc7, kc8, kc9⟩ := Km.out.ten
      clear bk bm
      cases hmb : matB X.f (a, b)
      · by_cases ha : a = -1
        · have g2 : (a != -1) = false := by rw [bne_eq_false_iff_eq]; exact ha
          by_cases hb0 : b = 0
          · have g3 : (b != 0) = false := by rw [bne_eq_false_iff_eq]; exact hb0
            have HA := Lib.hid (show (X.ln.take (j + 1)).all (setM X.f) = true by rw [mats_all hx.out, Hall.out]; unfold setM bandM; rw [ha, hb0]; rfl)
            have HMb := Lib.hid hmb
            clear hmb ha hb0
            go_wp2_with (go_at_call 89; refine (l2Matrix_any lo hi _ X.f (a, b) wm Fm.out (by omega) HS.out.f HF.out).mono ?_; rintro e w3 ⟨he, hbb⟩; rw [HMb.out] at he; subst he; have HB3 := Lib.hid (HBm.out.trans (hbb.mono (by omega))); have bk3 := BK.out.below hbb zm; have m0' : w3.cell? ⟨wr.heap.size, 0, none⟩ = some (.int .i64 a) := cellOfBlk bk3 0; have m1' : w3.cell? ⟨wr.heap.size, 1, none⟩ = some (.int .i64 b) := cellOfBlk bk3 1; clear hbb bk3 m0 m1 hwm kc0 kc1 kc2 kc3 kc4 kc5 kc6 kc7 kc8 kc9)
            go_roundw
            case rel => exact ⟨j + 1, by omega, by go_num, HB3.out, HA.out⟩
            case measure => simp [intOf]; omega
          · have HR : Hid (machB X = false) := machB_ln hx.out (by unfold setM bandM; rw [hmb]; simp; intro _; exact hb0)
            have g3 : (b != 0) = true := by rw [bne_iff_ne]; exact hb0
            have HMb := Lib.hid hmb
            clear hmb ha hb0
            go_wp2_with (go_at_call 89; refine (l2Matrix_any lo hi _ X.f (a, b) wm Fm.out (by omega) HS.out.f HF.out).mono ?_; rintro e w3 ⟨he, hbb⟩; rw [HMb.out] at he; subst he; have HB3 := Lib.hid (HBm.out.trans (hbb.mono (by omega))); have bk3 := BK.out.below hbb zm; have m0' : w3.cell? ⟨wr.heap.size, 0, none⟩ = some (.int .i64 a) := cellOfBlk bk3 0; have m1' : w3.cell? ⟨wr.heap.size, 1, none⟩ = some (.int .i64 b) := cellOfBlk bk3 1; clear hbb bk3 m0 m1 hwm kc0 kc1 kc2 kc3 kc4 kc5 kc6 kc7 kc8 kc9)
            go_ret
            exact ⟨ret_bool HR.out.symm, T2.out.trans (HB3.out.mono (by omega))⟩
        · have HR : Hid (machB X = false) := machB_ln hx.out (by unfold setM bandM; rw [hmb]; simp; intro h; exact absurd h ha)
          have g2 : (a != -1) = true := by rw [bne_iff_ne]; exact ha
          have HMb := Lib.hid hmb
          clear hmb ha
          go_wp2_with (go_at_call 89; refine (l2Matrix_any lo hi _ X.f (a, b) wm Fm.out (by omega) HS.out.f HF.out).mono ?_; rintro e w3 ⟨he, hbb⟩; rw [HMb.out] at he; subst he; have HB3 := Lib.hid (HBm.out.trans (hbb.mono (by omega))); have bk3 := BK.out.below hbb zm; have m0' : w3.cell? ⟨wr.heap.size, 0, none⟩ = some (.int .i64 a) := cellOfBlk bk3 0; have m1' : w3.cell? ⟨wr.heap.size, 1, none⟩ = some (.int .i64 b) := cellOfBlk bk3 1; clear hbb bk3 m0 m1 hwm kc0 kc1 kc2 kc3 kc4 kc5 kc6 kc7 kc8 kc9)
          go_ret
          exact ⟨ret_bool HR.out.symm, T2.out.trans (HB3.out.mono (by omega))⟩
      · have HA := Lib.hid (show (X.ln.take (j + 1)).all (setM X.f) = true by rw [mats_all hx.out, Hall.out]; unfold setM; rw [hmb]; simp)
        have HMb := Lib.hid hmb
        clear hmb
        go_wp2_with (go_at_call 89; refine (l2Matrix_any lo hi _ X.f (a, b) wm Fm.out (by omega) HS.out.f HF.out).mono ?_; rintro e w3 ⟨he, hbb⟩; rw [HMb.out] at he; subst he; have HB3 := Lib.hid (HBm.out.trans (hbb.mono (by omega))); have bk3 := BK.out.below hbb zm; have m0' : w3.cell? ⟨wr.heap.size, 0, none⟩ = some (.int .i64 a) := cellOfBlk bk3 0; have m1' : w3.cell? ⟨wr.heap.size, 1, none⟩ = some (.int .i64 b) := cellOfBlk bk3 1; clear hbb bk3 m0 m1 hwm kc0 kc1 kc2 kc3 kc4 kc5 kc6 kc7 kc8 kc9)
        go_roundw
        case rel => exact ⟨j + 1, by omega, by go_num, HB3.out, HA.out⟩
        case measure => simp [intOf]; omega
    · obtain ⟨l2, hl2⟩ : ∃ x, x = j := ⟨_, rfl⟩
      subst hl2
      obtain rfl : l2 = l := by omega
      obtain ⟨wq, hwq⟩ : ∃ x, x = wr := ⟨_, rfl⟩
      subst hwq
      have HLn : Hid (X.ln.all (setM X.f) = true) := by have := Hall.out; rwa [mtake_all Hl.out] at this
      have K3 := Lib.hid (K2.out.below HB.out (by omega)); have T3 := Lib.hid (T2.out.trans (HB.out.mono (by omega)))
      have F3 := Lib.hid (F2.out.below (by omega) HB.out); have L3 := Lib.hid (L2.out.below (by omega) HB.out); have W3 := Lib.hid (W2.out.below (by omega) HB.out)
      have z3 : w.heap.size < wq.heap.size := by omega
      clear Hall HB K2 T2 F2 L2 W2 M2
      obtain ⟨kc0, kc1, kc2, kc3, kc4, kc5, kc6, kc7, kc8, kc9⟩ := K3.out.ten
      go_wp2
      clear kc0 kc1 kc2 kc3 kc4 kc5 kc6 kc7 kc8 kc9
      go_loopw [57] (fun i wr => ∃ j : Nat, j ≤ r ∧ i = .int .i64 j ∧ Below wq.heap.size wq wr ∧ (X.wt.take j).all (matB X.f) = true) (fun i _ => r - (intOf i).toNat)
      case atStart => exact ⟨0, Nat.zero_le _, rfl, Below.refl _ _, rfl⟩
      case round =>
        obtain ⟨j, hj, rfl, hb, hall⟩ := hrel
        have HB := Lib.hid hb; have Hall := Lib.hid hall
        have zs := hb.size
        clear hb hall
        by_cases hlt : j < r
        · obtain ⟨ad, x, rfl, hx, d1, e1⟩ := (W3.out.below (by omega) HB.out).at_ (k := j) (by rw [Hr.out]; exact hlt)
          obtain ⟨a, b⟩ := x
          simp only at d1 e1
          obtain ⟨wm, hwm⟩ : ∃ y, wr.alloc (.cells #[.int .i64 a, .int .i64 b] 121) = y := ⟨_, rfl⟩
          have bk : Blk wm wr.heap.size #[.int .i64 a, .int .i64 b] 121 := by rw [← hwm]; exact Blk.new _ _ _
          have bm : Below wr.heap.size wr wm := by rw [← hwm]; exact (Below.refl _ _).alloc (Nat.le_refl _) _
          have HBm := Lib.hid (HB.out.trans (bm.mono zs)); have zm : wr.heap.size < wm.heap.size := bk.lt
          have m0 : wm.cell? ⟨wr.heap.size, 0, none⟩ = some (.int .i64 a) := cellOfBlk bk 0
          have m1 : wm.cell? ⟨wr.heap.size, 1, none⟩ = some (.int .i64 b) := cellOfBlk bk 1
          have BK := Lib.hid bk
          have Fm := Lib.hid (F3.out.below (by omega) HBm.out); have Km := Lib.hid (K3.out.below HBm.out (by omega))
          obtain ⟨kc0, kc1, kc2, kc3, kc4, kc5, kc6, kc7, kc8, kc9⟩ := Km.out.ten
          clear bk bm
          cases hmb : matB X.f (a, b)
          · have HR : Hid (machB X = false) := machB_wt hx.out hmb
            have HMb := Lib.hid hmb
            clear hmb
            go_wp2_with (go_at_call 89; refine (l2Matrix_any lo hi _ X.f (a, b) wm Fm.out (by omega) HS.out.f HF.out).mono ?_; rintro e w3 ⟨he, hbb⟩; rw [HMb.out] at he; subst he; have HB3 := Lib.hid (HBm.out.trans (hbb.mono (by omega))); have bk3 := BK.out.below hbb zm; have m0' : w3.cell? ⟨wr.heap.size, 0, none⟩ = some (.int .i64 a) := cellOfBlk bk3 0; have m1' : w3.cell? ⟨wr.heap.size, 1, none⟩ = some (.int .i64 b) := cellOfBlk bk3 1; clear hbb bk3 m0 m1 hwm kc0 kc1 kc2 kc3 kc4 kc5 kc6 kc7 kc8 kc9)
            go_ret
            exact ⟨ret_bool HR.out.symm, T3.out.trans (HB3.out.mono (by omega))⟩
          · have HA := Lib.hid (show (X.wt.take (j + 1)).all (matB X.f) = true by rw [mats_all hx.out, Hall.out, hmb]; rfl)
            have HMb := Lib.hid hmb
            clear hmb
            go_wp2_with (go_at_call 89; refine (l2Matrix_any lo hi _ X.f (a, b) wm Fm.out (by omega) HS.out.f HF.out).mono ?_; rintro e w3 ⟨he, hbb⟩; rw [HMb.out] at he; subst he; have HB3 := Lib.hid (HBm.out.trans (hbb.mono (by omega))); have bk3 := BK.out.below hbb zm; have m0' : w3.cell? ⟨wr.heap.size, 0, none⟩ = some (.int .i64 a) := cellOfBlk bk3 0; have m1' : w3.cell? ⟨wr.heap.size, 1, none⟩ = some (.int .i64 b) := cellOfBlk bk3 1; clear hbb bk3 m0 m1 hwm kc0 kc1 kc2 kc3 kc4 kc5 kc6 kc7 kc8 kc9)
            go_roundw
            case rel => exact ⟨j + 1, by omega, by go_num, HB3.out, HA.out⟩
            case measure => simp [intOf]; omega
        · obtain rfl : j = r := by omega
          have HWt : Hid (X.wt.all (matB X.f) = true) := by have := Hall.out; rwa [mtake_all Hr.out] at this
          have HRes := Lib.hid (machB_fit HMg.out (by rw [HE.out.1]; exact HSp.out) (by rw [HE.out.2]; exact HMs.out) HWl.out HWt.out HLn.out)
          rw [HE.out.2] at HRes
          have K4 := Lib.hid (K3.out.below HB.out (by omega)); have T4 := Lib.hid (T3.out.trans (HB.out.mono (by omega)))
          have F4 := Lib.hid (F3.out.below (by omega) HB.out); have L4 := Lib.hid (L3.out.below (by omega) HB.out)
          have z4 : w.heap.size < wr.heap.size := by omega
          have HW2 : Hid (∀ x ∈ X.ln, hasWid X.f x) := fun x hx => set_hasWid HF.out (List.all_eq_true.1 HLn.out x hx)
          clear Hall HB K3 T3 F3 L3 W3
          obtain ⟨kc0, kc1, kc2, kc3, kc4, kc5, kc6, kc7, kc8, kc9⟩ := K4.out.ten
          go_wp2
          refine wp_region_plan (.take 0 (.take 1 (.take 2 (.take 3 (.take 4 (.take 5 (.one 6 (.one 7 (.one 8 .done))))))))) (fun w' => w'.cell? ⟨w.heap.size, 0, none⟩ = some (.string s) ∧ w'.cell? ⟨w.heap.size, 1, none⟩ = some (.slice A n c) ∧ w'.cell? ⟨w.heap.size, 2, none⟩ = some (.slice A2 m d) ∧ w'.cell? ⟨w.heap.size, 5, none⟩ = some (.int .i64 W) ∧ w'.cell? ⟨w.heap.size, 6, none⟩ = some (.int .i64 t) ∧ w'.cell? ⟨w.heap.size, 7, none⟩ = some (.int .i64 k) ∧ w'.cell? ⟨w.heap.size, 8, none⟩ = some (.slice L l2 lc)) (by kernel_rfl) (by kernel_rfl) (by kernel_rfl) (by intro c a d v w h; cases d <;> exact h) ⟨kc0, kc1, kc2, kc5, kc6, kc7, kc8⟩ ?_
          iterate 6 (refine plan_quiet rfl (by rfl) (v := ?_) ?_ ?_; rotate_left; (intro w1 hSw; (try dsimp only at hSw); go_simp; try (with_reducible rfl)); (try simp only [Act.put, List.setIfInBounds_toArray, List.set_cons_zero, List.set_cons_succ]))
          clear kc0 kc1 kc2 kc3 kc4 kc5 kc6 kc7 kc8 kc9
          refine plan_step rfl (fun K hK => ?_)
          rw [if_pos (by rfl)]
          go_simp
          refine (l5Items_any lo hi lo hi _ X.f _ _ _ X.ln _ (FontV.keep (w' := wr.drew) F4.out (fun p _ _ => rfl)) (by show hi ≤ wr.heap.size; omega) Hl.out hl1 (MatsI.keep (w' := wr.drew) L4.out (fun p _ _ => rfl)) (by show hi ≤ wr.heap.size; omega) HW2.out).mono ?_
          rintro e w5 ⟨u, rfl, hO, hb⟩
          have hb5 : Below wr.heap.size wr w5 := undrew hb
          have O5 : Own w5 wr.heap.size u (itemsM X.f X.ln) := hO
          obtain ⟨U, uc, rfl, hI5, -, huc, hum⟩ := O5.form
          have K5 := Lib.hid (K4.out.below hb5 z4); have T5 := Lib.hid (T4.out.trans (hb5.mono (by omega))); have I5 := Lib.hid hI5
          have hul : (itemsM X.f X.ln).length ≤ maxLen := by rw [itemsM_len, Hl.out]; unfold maxLen; omega
          have z5 : w.heap.size < w5.heap.size := Nat.lt_of_lt_of_le z4 hb5.size
          clear hb hb5 hO O5 hI5
          obtain ⟨kc0, kc1, kc2, kc3, kc4, kc5, kc6, kc7, kc8, kc9⟩ := K5.out.ten
          refine hK.out _ _ ⟨kc0, kc1, kc2, kc5, kc6, kc7, kc8⟩ ?_
          clear hK K kc0 kc1 kc2 kc3 kc4 kc5 kc6 kc7 kc8 kc9
          refine plan_step rfl (fun K hK => ?_)
          rw [if_pos (by rfl)]
          go_simp
          refine (l3Fits_any W t k _ _ _ (itemsM X.f X.ln) w5 HMs.out rfl hul I5.out).mono ?_
          rintro e w6 ⟨rfl, hb⟩
          have K6 := Lib.hid (K5.out.below hb z5); have T6 := Lib.hid (T5.out.trans (hb.mono (by omega)))
          clear hb
          obtain ⟨kc0, kc1, kc2, kc3, kc4, kc5, kc6, kc7, kc8, kc9⟩ := K6.out.ten
          refine hK.out _ _ ⟨kc0, kc1, kc2, kc5, kc6, kc7, kc8⟩ ?_
          clear hK K
          refine plan_step rfl (fun K hK => ?_)
          rw [if_pos (by rfl)]
          go_simp
          refine hK.out _ _ ⟨kc0, kc1, kc2, kc5, kc6, kc7, kc8⟩ ?_
          clear hK K
          refine plan_end ?_
          go_wp2
          go_ret
          exact ⟨ret_bool HRes.out.symm, T6.out⟩
end Go.Proofs.YtobakeahbgodbaaGreat

namespace Go.Proofs.YtobakeahbgodbaaGreat
open Go.RowKit
set_option linter.unusedVariables false

theorem may1_enter (args : Array Value) (w : World) : Sem.run Tryz.prog (callFunc 94 args) w = .ok (.enter 94 args) w := by kernel_rfl
theorem may2_enter (args : Array Value) (w : World) : Sem.run Tryz.prog (callFunc 96 args) w = .ok (.enter 96 args) w := by kernel_rfl
set_option maxRecDepth 100000 in
set_option maxHeartbeats 800000 in
theorem may1_any (lo hi g : Nat) (s : ByteArray) (A : Option Addr) (n c : Nat) (A2 : Option Addr) (m d : Nat) (v3 v4 v5 v6 v7 v8 v9 : Value) (T : TypeId) (f : Fnt) (x : Mat) (w : World) (h : FontV w lo hi (.agg #[.string s, .slice A n c, .slice A2 m d]) f) (hhi : hi ≤ w.heap.size) (hs : Small f) (hf : fontB f = true) (wf : (Lit.int .i64 x.2).wf = true)
    (hb : Blk w g #[.string s, .slice A n c, .slice A2 m d, v3, v4, v5, v6, v7, v8, v9] T) :
    Calls Tryz.prog 94 #[.agg #[.int .i64 x.1, .int .i64 x.2], .pointer (some ⟨g, 0, none⟩)] w fun e w' => e = .returned (.bool (matB f x)) ∧ Below w.heap.size w w' := by
  have hW : Below w.heap.size w (w.alloc (.cells #[.int .i64 x.1, .int .i64 x.2] 121)) := below_new _ _
  have V1 := Lib.hid (h.below hhi hW)
  have HW := Lib.hid hW
  have Hwf := Lib.hid wf; have HF := Lib.hid hf
  have q0 : w.cell? ⟨g, 0, none⟩ = some (.string s) := cellOfBlk hb 0
  have q1 : w.cell? ⟨g, 1, none⟩ = some (.slice A n c) := cellOfBlk hb 1
  have q2 : w.cell? ⟨g, 2, none⟩ = some (.slice A2 m d) := cellOfBlk hb 2
  have hg := hb.lt
  clear h hW wf hf hb
  go_enter Tryz.func94, Tryz.ntmps94
  go_wp2_with fail
  refine (isMatrix_any lo hi _ f x _ V1.out (by simp; omega) hs HF.out Hwf.out).mono ?_
  rintro e w1 ⟨rfl, hb1⟩
  have T1 := Lib.hid (HW.out.trans (hb1.mono (by simp)))
  clear hb1
  go_wp2
  go_ret
  exact ⟨rfl, T1.out⟩
set_option maxRecDepth 100000 in
set_option maxHeartbeats 800000 in
theorem may2_any (lo hi g : Nat) (s : ByteArray) (A : Option Addr) (n c : Nat) (A2 : Option Addr) (m d : Nat) (v3 v4 v5 v6 v7 v8 v9 : Value) (T : TypeId) (f : Fnt) (x : Mat) (w : World) (h : FontV w lo hi (.agg #[.string s, .slice A n c, .slice A2 m d]) f) (hhi : hi ≤ w.heap.size) (hs : Small f) (hf : fontB f = true) (wf : (Lit.int .i64 x.2).wf = true)
    (hb : Blk w g #[.string s, .slice A n c, .slice A2 m d, v3, v4, v5, v6, v7, v8, v9] T) :
    Calls Tryz.prog 96 #[.agg #[.int .i64 x.1, .int .i64 x.2], .pointer (some ⟨g, 0, none⟩)] w fun e w' => e = .returned (.bool (setM f x)) ∧ Below w.heap.size w w' := by
  obtain ⟨a, b⟩ := x
  simp only at wf
  obtain ⟨wm, hwm⟩ : ∃ y, w.alloc (.cells #[.int .i64 a, .int .i64 b] 121) = y := ⟨_, rfl⟩
  have bm : Below w.heap.size w wm := by rw [← hwm]; exact below_new _ _
  have bk : Blk wm w.heap.size #[.int .i64 a, .int .i64 b] 121 := by rw [← hwm]; exact Blk.new _ _ _
  have m0 : wm.cell? ⟨w.heap.size, 0, none⟩ = some (.int .i64 a) := cellOfBlk bk 0
  have m1 : wm.cell? ⟨w.heap.size, 1, none⟩ = some (.int .i64 b) := cellOfBlk bk 1
  have zm : w.heap.size < wm.heap.size := bk.lt
  have hg := hb.lt
  have V1 := Lib.hid (h.below hhi bm); have BM := Lib.hid bm; have BK := Lib.hid bk; have GK := Lib.hid (hb.below bm hg)
  have Hwf := Lib.hid wf; have HF := Lib.hid hf
  clear h wf hf hb bm bk
  cases hbd : bandM (a, b)
  · have Hbd := Lib.hid hbd
    have HR : Hid (setM f (a, b) = matB f (a, b)) := by show _ = _; unfold setM; rw [hbd]; rfl
    clear hbd
    go_enter Tryz.func96, Tryz.ntmps96
    go_wp2_with fail
    refine (isBand_any _ _ _).mono ?_
    rintro e w1 ⟨he, hb1⟩
    rw [Hbd.out] at he; subst he
    have gk := GK.out.below hb1 (by omega)
    have bk1 := BK.out.below hb1 zm
    have m0' : w1.cell? ⟨w.heap.size, 0, none⟩ = some (.int .i64 a) := cellOfBlk bk1 0
    have m1' : w1.cell? ⟨w.heap.size, 1, none⟩ = some (.int .i64 b) := cellOfBlk bk1 1
    have q0 : w1.cell? ⟨g, 0, none⟩ = some (.string s) := cellOfBlk gk 0
    have q1 : w1.cell? ⟨g, 1, none⟩ = some (.slice A n c) := cellOfBlk gk 1
    have q2 : w1.cell? ⟨g, 2, none⟩ = some (.slice A2 m d) := cellOfBlk gk 2
    have V2 := Lib.hid (V1.out.below (by omega) hb1); have T1 := Lib.hid (BM.out.trans (hb1.mono (by omega))); have z1 : wm.heap.size ≤ w1.heap.size := hb1.size
    clear hb1 gk bk1 hwm m0 m1
    go_wp2_with fail
    refine (isMatrix_any lo hi _ f (a, b) w1 V2.out (by omega) hs HF.out Hwf.out).mono ?_
    rintro e w2 ⟨he, hb2⟩
    rw [← HR.out] at he; subst he
    have T2 := Lib.hid (T1.out.trans (hb2.mono (by omega)))
    clear hb2
    go_wp2
    go_ret
    exact ⟨rfl, T2.out⟩
  · have Hbd := Lib.hid hbd
    have HR : Hid (setM f (a, b) = true) := by show _ = _; unfold setM; rw [hbd]; rfl
    clear hbd
    go_enter Tryz.func96, Tryz.ntmps96
    go_wp2_with fail
    refine (isBand_any _ _ _).mono ?_
    rintro e w1 ⟨he, hb1⟩
    rw [Hbd.out] at he; subst he
    have T1 := Lib.hid (BM.out.trans (hb1.mono (by omega)))
    clear hb1 hwm m0 m1
    go_wp2
    go_ret
    exact ⟨ret_bool HR.out.symm, T1.out⟩

theorem inB_nat (r b : Nat) : inB (r : Int) 0 b = decide (r ≤ b) := by
  unfold inB
  by_cases h : r ≤ b
  · rw [decide_eq_true (show 0 ≤ (r : Int) ∧ (r : Int) ≤ b by omega), decide_eq_true h]
  · rw [decide_eq_false (show ¬ (0 ≤ (r : Int) ∧ (r : Int) ≤ b) by omega), decide_eq_false h]
theorem set_item {f : Fnt} {x : Mat} (hf : fontB f = true) (h : setM f x = true) : bandM x = true ∨ (0 ≤ x.1 ∧ x.1.toNat < f.ws.length) := by
  obtain ⟨e1, e2, _⟩ := fontB_codes hf
  unfold setM at h
  rw [Bool.or_eq_true] at h
  rcases h with h | h
  · exact .inl h
  · unfold matB at h
    rw [Bool.and_eq_true] at h
    have := (inB_iff _ _ _).1 h.1
    right; omega
theorem machB_wait {X : Mch} {r : Nat} (hr : X.wt.length = r) (h : (inB (r : Int) 0 240 && X.wt.all (matB X.f)) = false) : machB X = false := by
  rw [show (240 : Int) = ((240 : Nat) : Int) from rfl, inB_nat] at h
  unfold machB; rw [hr, h]; simp
theorem machB_line {X : Mch} {l : Nat} (hl : X.ln.length = l) (h : (inB (l : Int) 0 120 && X.ln.all (setM X.f)) = false) : machB X = false := by
  rw [show (120 : Int) = ((120 : Nat) : Int) from rfl, inB_nat] at h
  unfold machB; rw [hl, h]; simp
theorem machB_good {X : Mch} {l r : Nat} (hl : X.ln.length = l) (hr : X.wt.length = r) (h1 : magB X.f X.ms = true) (h2 : inB X.sp 0 60 = true) (h3 : (inB (r : Int) 0 240 && X.wt.all (matB X.f)) = true) (h4 : (inB (l : Int) 0 120 && X.ln.all (setM X.f)) = true) : machB X = goodB X.m (itemsM X.f X.ln) := by
  rw [show (240 : Int) = ((240 : Nat) : Int) from rfl, inB_nat] at h3
  rw [show (120 : Int) = ((120 : Nat) : Int) from rfl, inB_nat] at h4
  unfold machB; rw [hl, hr, h1, h2, h3, h4]; simp

set_option maxRecDepth 100000 in
set_option maxHeartbeats 6400000 in
theorem implMachine_any (lo hi : Nat) (v : Value) (X : Mch) (w : World) (h : MchV w lo hi v X) (hhi : hi ≤ w.heap.size) (hs : SmallX X) (wf : WfX X) :
    Calls Tryz.prog 59 #[v] w fun e w' => e = .returned (.bool (machB X)) ∧ Below w.heap.size w w' := by
  have HWf := Lib.hid wf
  clear wf
  obtain ⟨s, A, n, c, A2, m, d, M, q, e0, L, l, lc, T, r, tc, rfl, hf, hq, hM, hqe, hem, hl, hL, hllc, hlm, hr, hT, hrt, htm⟩ := h.parts
  have Hq := Lib.hid hq; have Hl := Lib.hid hl; have Hr := Lib.hid hr; have HS := Lib.hid hs
  have hq1 : q ≤ 1048576 := by rw [← hq]; exact hs.ms
  have hl1 : l ≤ 1048576 := by rw [← hl]; exact hs.ln
  have hr1 : r ≤ 1048576 := by rw [← hr]; exact hs.wt
  obtain ⟨sp, hsp⟩ : ∃ x, X.sp = x := ⟨_, rfl⟩
  obtain ⟨W, hW⟩ : ∃ x, X.w = x := ⟨_, rfl⟩
  obtain ⟨t, ht⟩ : ∃ x, X.t = x := ⟨_, rfl⟩
  obtain ⟨k, hk⟩ : ∃ x, X.k = x := ⟨_, rfl⟩
  rw [hsp, hW, ht, hk] at h ⊢
  have HE : Hid (X.sp = sp ∧ X.m = ⟨W, t, k⟩) := ⟨hsp, by unfold Mch.m; rw [hW, ht, hk]⟩
  obtain ⟨w0, hw0, hb0, hz0, K0⟩ := mxWorld w #[.string s, .slice A n c, .slice A2 m d, .slice M q e0, .int .i64 sp, .int .i64 W, .int .i64 t, .int .i64 k, .slice L l lc, .slice T r tc] 61
  have T0 := Lib.hid hb0; have K0 := Lib.hid K0; have Z0 := Lib.hid hz0
  have F0 := Lib.hid (hf.below hhi hb0); have M0 := Lib.hid (hM.below hhi hb0); have L0 := Lib.hid (hL.below hhi hb0); have W0 := Lib.hid (hT.below hhi hb0)
  have z0 : w.heap.size < w0.heap.size := by omega
  clear h hf hq hM hqe hem hl hL hllc hlm hr hT hrt htm hsp hW ht hk hb0 hz0 hs
  obtain ⟨kc0, kc1, kc2, kc3, kc4, kc5, kc6, kc7, kc8, kc9⟩ := K0.out.ten
  cases hmg : magB X.f X.ms
  · have HR : Hid (machB X = false) := machB_mag hmg
    have HMg := Lib.hid hmg
    clear hmg
    go_enter Tryz.func59, Tryz.ntmps59
    go_wp2
    clear hw0
    refine wp_region_plan (.take 0 (.take 1 (.take 2 (.take 3 (.one 4 (.take 5 (.take 6 (.take 7 (.one 8 (.take 9 (.take 10 (.take 11 (.take 12 (.take 13 (.one 14 (.take 15 (.take 16 (.take 17 (.take 18 (.take 19 (.one 20 (.take 21 (.take 22 (.take 23 (.take 24 (.take 25 (.take 26 (.take 27 (.take 28 (.one 29 (.one 30 (.take 31 (.one 32 .done))))))))))))))))))))))))))))))))) (fun w' => w'.cell? ⟨w.heap.size, 0, none⟩ = some (.string s) ∧ w'.cell? ⟨w.heap.size, 1, none⟩ = some (.slice A n c) ∧ w'.cell? ⟨w.heap.size, 2, none⟩ = some (.slice A2 m d) ∧ w'.cell? ⟨w.heap.size, 3, none⟩ = some (.slice M q e0) ∧ w'.cell? ⟨w.heap.size, 4, none⟩ = some (.int .i64 sp) ∧ w'.cell? ⟨w.heap.size, 5, none⟩ = some (.int .i64 W) ∧ w'.cell? ⟨w.heap.size, 6, none⟩ = some (.int .i64 t) ∧ w'.cell? ⟨w.heap.size, 7, none⟩ = some (.int .i64 k) ∧ w'.cell? ⟨w.heap.size, 8, none⟩ = some (.slice L l lc) ∧ w'.cell? ⟨w.heap.size, 9, none⟩ = some (.slice T r tc)) (by kernel_rfl) (by kernel_rfl) (by kernel_rfl) (by intro c a d v w h; cases d <;> exact h) K0.out.ten ?_
    clear kc0 kc1 kc2 kc3 kc4 kc5 kc6 kc7 kc8 kc9
    refine plan_quiet rfl (by rfl) (v := ?_) ?_ ?_; rotate_left; (intro w1 hSw; (try dsimp only at hSw); go_simp; try (with_reducible rfl)); (try simp only [Act.put, List.setIfInBounds_toArray, List.set_cons_zero, List.set_cons_succ])
    refine plan_quiet rfl (by rfl) (v := ?_) ?_ ?_; rotate_left; (intro w1 hSw; (try dsimp only at hSw); go_simp; try (with_reducible rfl)); (try simp only [Act.put, List.setIfInBounds_toArray, List.set_cons_zero, List.set_cons_succ])
    refine plan_quiet rfl (by rfl) (v := ?_) ?_ ?_; rotate_left; (intro w1 hSw; (try dsimp only at hSw); go_simp; try (with_reducible rfl)); (try simp only [Act.put, List.setIfInBounds_toArray, List.set_cons_zero, List.set_cons_succ])
    refine plan_quiet rfl (by rfl) (v := ?_) ?_ ?_; rotate_left; (intro w1 hSw; (try dsimp only at hSw); go_simp; try (with_reducible rfl)); (try simp only [Act.put, List.setIfInBounds_toArray, List.set_cons_zero, List.set_cons_succ])
    refine plan_step rfl (fun K hK => ?_)
    rw [if_pos (by rfl)]
    go_simp
    refine (implMagOk_any lo hi lo hi _ X.f _ _ _ X.ms w0.drew (FontV.keep (w' := w0.drew) F0.out (fun p _ _ => rfl)) (by show hi ≤ w0.heap.size; omega) HS.out.f Hq.out hq1 (MagI.keep (w' := w0.drew) M0.out (fun p _ _ => rfl)) (by show hi ≤ w0.heap.size; omega) HWf.out.ms).mono ?_
    rintro e w1 ⟨he, hb'⟩
    have hb := undrew hb'
    rw [HMg.out] at he; subst he
    have K1 := Lib.hid (K0.out.below hb z0); have T1 := Lib.hid (T0.out.trans (hb.mono (by omega))); have F1 := Lib.hid (F0.out.below (by omega) hb); have L1 := Lib.hid (L0.out.below (by omega) hb); have W1 := Lib.hid (W0.out.below (by omega) hb)
    have z1 : w.heap.size < w1.heap.size := Nat.lt_of_lt_of_le z0 hb.size
    clear hb hb'
    refine hK.out _ _ K1.out.ten ?_
    clear hK K
    refine plan_quiet rfl (by rfl) (v := ?_) ?_ ?_; rotate_left; (intro w1 hSw; (try dsimp only at hSw); go_simp; try (with_reducible rfl)); (try simp only [Act.put, List.setIfInBounds_toArray, List.set_cons_zero, List.set_cons_succ])
    refine plan_skip rfl (by rfl) ?_; (try simp only [Act.put, List.setIfInBounds_toArray, List.set_cons_zero, List.set_cons_succ])
    refine plan_skip rfl (by rfl) ?_; (try simp only [Act.put, List.setIfInBounds_toArray, List.set_cons_zero, List.set_cons_succ])
    refine plan_step rfl (fun K hK => ?_)
    rw [if_neg (by intro h; cases h)]
    refine hK.out _ _ K1.out.ten ?_
    clear hK K
    refine plan_quiet rfl (by rfl) (v := ?_) ?_ ?_; rotate_left; (intro w1 hSw; (try dsimp only at hSw); go_simp; try (with_reducible rfl)); (try simp only [Act.put, List.setIfInBounds_toArray, List.set_cons_zero, List.set_cons_succ])
    refine plan_quiet rfl (by rfl) (v := ?_) ?_ ?_; rotate_left; (intro w1 hSw; (try dsimp only at hSw); go_simp; try (with_reducible rfl)); (try simp only [Act.put, List.setIfInBounds_toArray, List.set_cons_zero, List.set_cons_succ])
    refine plan_skip rfl (by rfl) ?_; (try simp only [Act.put, List.setIfInBounds_toArray, List.set_cons_zero, List.set_cons_succ])
    refine plan_skip rfl (by rfl) ?_; (try simp only [Act.put, List.setIfInBounds_toArray, List.set_cons_zero, List.set_cons_succ])
    refine plan_skip rfl (by rfl) ?_; (try simp only [Act.put, List.setIfInBounds_toArray, List.set_cons_zero, List.set_cons_succ])
    refine plan_step rfl (fun K hK => ?_)
    rw [if_neg (by intro h; cases h)]
    refine hK.out _ _ K1.out.ten ?_
    clear hK K
    refine plan_quiet rfl (by rfl) (v := ?_) ?_ ?_; rotate_left; (intro w1 hSw; (try dsimp only at hSw); go_simp; try (with_reducible rfl)); (try simp only [Act.put, List.setIfInBounds_toArray, List.set_cons_zero, List.set_cons_succ])
    refine plan_quiet rfl (by rfl) (v := ?_) ?_ ?_; rotate_left; (intro w1 hSw; (try dsimp only at hSw); go_simp; try (with_reducible rfl)); (try simp only [Act.put, List.setIfInBounds_toArray, List.set_cons_zero, List.set_cons_succ])
    refine plan_skip rfl (by rfl) ?_; (try simp only [Act.put, List.setIfInBounds_toArray, List.set_cons_zero, List.set_cons_succ])
    refine plan_skip rfl (by rfl) ?_; (try simp only [Act.put, List.setIfInBounds_toArray, List.set_cons_zero, List.set_cons_succ])
    refine plan_skip rfl (by rfl) ?_; (try simp only [Act.put, List.setIfInBounds_toArray, List.set_cons_zero, List.set_cons_succ])
    refine plan_step rfl (fun K hK => ?_)
    rw [if_neg (by intro h; cases h)]
    refine hK.out _ _ K1.out.ten ?_
    clear hK K
    refine plan_quiet rfl (by rfl) (v := ?_) ?_ ?_; rotate_left; (intro w1 hSw; (try dsimp only at hSw); go_simp; try (with_reducible rfl)); (try simp only [Act.put, List.setIfInBounds_toArray, List.set_cons_zero, List.set_cons_succ])
    refine plan_quiet rfl (by rfl) (v := ?_) ?_ ?_; rotate_left; (intro w1 hSw; (try dsimp only at hSw); go_simp; try (with_reducible rfl)); (try simp only [Act.put, List.setIfInBounds_toArray, List.set_cons_zero, List.set_cons_succ])
    refine plan_skip rfl (by rfl) ?_; (try simp only [Act.put, List.setIfInBounds_toArray, List.set_cons_zero, List.set_cons_succ])
    refine plan_skip rfl (by rfl) ?_; (try simp only [Act.put, List.setIfInBounds_toArray, List.set_cons_zero, List.set_cons_succ])
    refine plan_skip rfl (by rfl) ?_; (try simp only [Act.put, List.setIfInBounds_toArray, List.set_cons_zero, List.set_cons_succ])
    refine plan_skip rfl (by rfl) ?_; (try simp only [Act.put, List.setIfInBounds_toArray, List.set_cons_zero, List.set_cons_succ])
    refine plan_skip rfl (by rfl) ?_; (try simp only [Act.put, List.setIfInBounds_toArray, List.set_cons_zero, List.set_cons_succ])
    refine plan_skip rfl (by rfl) ?_; (try simp only [Act.put, List.setIfInBounds_toArray, List.set_cons_zero, List.set_cons_succ])
    refine plan_step rfl (fun K hK => ?_)
    rw [if_neg (by intro h; cases h)]
    refine hK.out _ _ K1.out.ten ?_
    clear hK K
    refine plan_step rfl (fun K hK => ?_)
    rw [if_neg (by intro h; cases h)]
    refine hK.out _ _ K1.out.ten ?_
    clear hK K
    refine plan_quiet rfl (by rfl) (v := ?_) ?_ ?_; rotate_left; (intro w1 hSw; (try dsimp only at hSw); go_simp; try (with_reducible rfl)); (try simp only [Act.put, List.setIfInBounds_toArray, List.set_cons_zero, List.set_cons_succ])
    refine plan_step rfl (fun K hK => ?_)
    rw [if_pos (by rfl)]
    go_simp
    refine hK.out _ _ K1.out.ten ?_
    clear hK K
    refine plan_end ?_
    go_wp2
    go_ret
    exact ⟨ret_bool HR.out.symm, T1.out⟩
  have HMg := Lib.hid hmg
  have HF := Lib.hid (magB_font hmg)
  cases hsp : inB sp 0 60
  · have HR : Hid (machB X = false) := machB_sp (by rw [HE.out.1]; exact hsp)
    have HSp := Lib.hid hsp
    clear hsp hmg
    go_enter Tryz.func59, Tryz.ntmps59
    go_wp2
    clear hw0
    refine wp_region_plan (.take 0 (.take 1 (.take 2 (.take 3 (.one 4 (.take 5 (.take 6 (.take 7 (.one 8 (.take 9 (.take 10 (.take 11 (.take 12 (.take 13 (.one 14 (.take 15 (.take 16 (.take 17 (.take 18 (.take 19 (.one 20 (.take 21 (.take 22 (.take 23 (.take 24 (.take 25 (.take 26 (.take 27 (.take 28 (.one 29 (.one 30 (.take 31 (.one 32 .done))))))))))))))))))))))))))))))))) (fun w' => w'.cell? ⟨w.heap.size, 0, none⟩ = some (.string s) ∧ w'.cell? ⟨w.heap.size, 1, none⟩ = some (.slice A n c) ∧ w'.cell? ⟨w.heap.size, 2, none⟩ = some (.slice A2 m d) ∧ w'.cell? ⟨w.heap.size, 3, none⟩ = some (.slice M q e0) ∧ w'.cell? ⟨w.heap.size, 4, none⟩ = some (.int .i64 sp) ∧ w'.cell? ⟨w.heap.size, 5, none⟩ = some (.int .i64 W) ∧ w'.cell? ⟨w.heap.size, 6, none⟩ = some (.int .i64 t) ∧ w'.cell? ⟨w.heap.size, 7, none⟩ = some (.int .i64 k) ∧ w'.cell? ⟨w.heap.size, 8, none⟩ = some (.slice L l lc) ∧ w'.cell? ⟨w.heap.size, 9, none⟩ = some (.slice T r tc)) (by kernel_rfl) (by kernel_rfl) (by kernel_rfl) (by intro c a d v w h; cases d <;> exact h) K0.out.ten ?_
    clear kc0 kc1 kc2 kc3 kc4 kc5 kc6 kc7 kc8 kc9
    refine plan_quiet rfl (by rfl) (v := ?_) ?_ ?_; rotate_left; (intro w1 hSw; (try dsimp only at hSw); go_simp; try (with_reducible rfl)); (try simp only [Act.put, List.setIfInBounds_toArray, List.set_cons_zero, List.set_cons_succ])
    refine plan_quiet rfl (by rfl) (v := ?_) ?_ ?_; rotate_left; (intro w1 hSw; (try dsimp only at hSw); go_simp; try (with_reducible rfl)); (try simp only [Act.put, List.setIfInBounds_toArray, List.set_cons_zero, List.set_cons_succ])
    refine plan_quiet rfl (by rfl) (v := ?_) ?_ ?_; rotate_left; (intro w1 hSw; (try dsimp only at hSw); go_simp; try (with_reducible rfl)); (try simp only [Act.put, List.setIfInBounds_toArray, List.set_cons_zero, List.set_cons_succ])
    refine plan_quiet rfl (by rfl) (v := ?_) ?_ ?_; rotate_left; (intro w1 hSw; (try dsimp only at hSw); go_simp; try (with_reducible rfl)); (try simp only [Act.put, List.setIfInBounds_toArray, List.set_cons_zero, List.set_cons_succ])
    refine plan_step rfl (fun K hK => ?_)
    rw [if_pos (by rfl)]
    go_simp
    refine (implMagOk_any lo hi lo hi _ X.f _ _ _ X.ms w0.drew (FontV.keep (w' := w0.drew) F0.out (fun p _ _ => rfl)) (by show hi ≤ w0.heap.size; omega) HS.out.f Hq.out hq1 (MagI.keep (w' := w0.drew) M0.out (fun p _ _ => rfl)) (by show hi ≤ w0.heap.size; omega) HWf.out.ms).mono ?_
    rintro e w1 ⟨he, hb'⟩
    have hb := undrew hb'
    rw [HMg.out] at he; subst he
    have K1 := Lib.hid (K0.out.below hb z0); have T1 := Lib.hid (T0.out.trans (hb.mono (by omega))); have F1 := Lib.hid (F0.out.below (by omega) hb); have L1 := Lib.hid (L0.out.below (by omega) hb); have W1 := Lib.hid (W0.out.below (by omega) hb)
    have z1 : w.heap.size < w1.heap.size := Nat.lt_of_lt_of_le z0 hb.size
    clear hb hb'
    refine hK.out _ _ K1.out.ten ?_
    clear hK K
    refine plan_quiet rfl (by rfl) (v := ?_) ?_ ?_; rotate_left; (intro w1 hSw; (try dsimp only at hSw); go_simp; try (with_reducible rfl)); (try simp only [Act.put, List.setIfInBounds_toArray, List.set_cons_zero, List.set_cons_succ])
    refine plan_quiet rfl (by rfl) (v := ?_) ?_ ?_; rotate_left; (intro w1 hSw; (try dsimp only at hSw); go_simp; try (with_reducible rfl)); (try simp only [Act.put, List.setIfInBounds_toArray, List.set_cons_zero, List.set_cons_succ])
    refine plan_quiet rfl (by rfl) (v := ?_) ?_ ?_; rotate_left; (intro w1 hSw; (try dsimp only at hSw); go_simp; try (with_reducible rfl)); (try simp only [Act.put, List.setIfInBounds_toArray, List.set_cons_zero, List.set_cons_succ])
    refine plan_step rfl (fun K hK => ?_)
    rw [if_pos (by rfl)]
    go_simp
    refine (isFrom_any _ _ _ _).mono ?_
    rintro e w1' ⟨he, rfl⟩
    rw [HSp.out] at he; subst he
    refine hK.out _ _ K1.out.ten ?_
    clear hK K
    refine plan_quiet rfl (by rfl) (v := ?_) ?_ ?_; rotate_left; (intro w1 hSw; (try dsimp only at hSw); go_simp; try (with_reducible rfl)); (try simp only [Act.put, List.setIfInBounds_toArray, List.set_cons_zero, List.set_cons_succ])
    refine plan_quiet rfl (by rfl) (v := ?_) ?_ ?_; rotate_left; (intro w1 hSw; (try dsimp only at hSw); go_simp; try (with_reducible rfl)); (try simp only [Act.put, List.setIfInBounds_toArray, List.set_cons_zero, List.set_cons_succ])
    refine plan_skip rfl (by rfl) ?_; (try simp only [Act.put, List.setIfInBounds_toArray, List.set_cons_zero, List.set_cons_succ])
    refine plan_skip rfl (by rfl) ?_; (try simp only [Act.put, List.setIfInBounds_toArray, List.set_cons_zero, List.set_cons_succ])
    refine plan_skip rfl (by rfl) ?_; (try simp only [Act.put, List.setIfInBounds_toArray, List.set_cons_zero, List.set_cons_succ])
    refine plan_step rfl (fun K hK => ?_)
    rw [if_neg (by intro h; cases h)]
    refine hK.out _ _ K1.out.ten ?_
    clear hK K
    refine plan_quiet rfl (by rfl) (v := ?_) ?_ ?_; rotate_left; (intro w1 hSw; (try dsimp only at hSw); go_simp; try (with_reducible rfl)); (try simp only [Act.put, List.setIfInBounds_toArray, List.set_cons_zero, List.set_cons_succ])
    refine plan_quiet rfl (by rfl) (v := ?_) ?_ ?_; rotate_left; (intro w1 hSw; (try dsimp only at hSw); go_simp; try (with_reducible rfl)); (try simp only [Act.put, List.setIfInBounds_toArray, List.set_cons_zero, List.set_cons_succ])
    refine plan_skip rfl (by rfl) ?_; (try simp only [Act.put, List.setIfInBounds_toArray, List.set_cons_zero, List.set_cons_succ])
    refine plan_skip rfl (by rfl) ?_; (try simp only [Act.put, List.setIfInBounds_toArray, List.set_cons_zero, List.set_cons_succ])
    refine plan_skip rfl (by rfl) ?_; (try simp only [Act.put, List.setIfInBounds_toArray, List.set_cons_zero, List.set_cons_succ])
    refine plan_step rfl (fun K hK => ?_)
    rw [if_neg (by intro h; cases h)]
    refine hK.out _ _ K1.out.ten ?_
    clear hK K
    refine plan_quiet rfl (by rfl) (v := ?_) ?_ ?_; rotate_left; (intro w1 hSw; (try dsimp only at hSw); go_simp; try (with_reducible rfl)); (try simp only [Act.put, List.setIfInBounds_toArray, List.set_cons_zero, List.set_cons_succ])
    refine plan_quiet rfl (by rfl) (v := ?_) ?_ ?_; rotate_left; (intro w1 hSw; (try dsimp only at hSw); go_simp; try (with_reducible rfl)); (try simp only [Act.put, List.setIfInBounds_toArray, List.set_cons_zero, List.set_cons_succ])
    refine plan_skip rfl (by rfl) ?_; (try simp only [Act.put, List.setIfInBounds_toArray, List.set_cons_zero, List.set_cons_succ])
    refine plan_skip rfl (by rfl) ?_; (try simp only [Act.put, List.setIfInBounds_toArray, List.set_cons_zero, List.set_cons_succ])
    refine plan_skip rfl (by rfl) ?_; (try simp only [Act.put, List.setIfInBounds_toArray, List.set_cons_zero, List.set_cons_succ])
    refine plan_skip rfl (by rfl) ?_; (try simp only [Act.put, List.setIfInBounds_toArray, List.set_cons_zero, List.set_cons_succ])
    refine plan_skip rfl (by rfl) ?_; (try simp only [Act.put, List.setIfInBounds_toArray, List.set_cons_zero, List.set_cons_succ])
    refine plan_skip rfl (by rfl) ?_; (try simp only [Act.put, List.setIfInBounds_toArray, List.set_cons_zero, List.set_cons_succ])
    refine plan_step rfl (fun K hK => ?_)
    rw [if_neg (by intro h; cases h)]
    refine hK.out _ _ K1.out.ten ?_
    clear hK K
    refine plan_step rfl (fun K hK => ?_)
    rw [if_neg (by intro h; cases h)]
    refine hK.out _ _ K1.out.ten ?_
    clear hK K
    refine plan_quiet rfl (by rfl) (v := ?_) ?_ ?_; rotate_left; (intro w1 hSw; (try dsimp only at hSw); go_simp; try (with_reducible rfl)); (try simp only [Act.put, List.setIfInBounds_toArray, List.set_cons_zero, List.set_cons_succ])
    refine plan_step rfl (fun K hK => ?_)
    rw [if_pos (by rfl)]
    go_simp
    refine hK.out _ _ K1.out.ten ?_
    clear hK K
    refine plan_end ?_
    go_wp2
    go_ret
    exact ⟨ret_bool HR.out.symm, T1.out⟩
  have HSp := Lib.hid hsp
  cases hwt : (inB (r : Int) 0 240 && X.wt.all (matB X.f))
  · have HR : Hid (machB X = false) := machB_wait Hr.out hwt
    have HWt := Lib.hid hwt
    clear hsp hmg hwt
    go_enter Tryz.func59, Tryz.ntmps59
    go_wp2
    clear hw0
    refine wp_region_plan (.take 0 (.take 1 (.take 2 (.take 3 (.one 4 (.take 5 (.take 6 (.take 7 (.one 8 (.take 9 (.take 10 (.take 11 (.take 12 (.take 13 (.one 14 (.take 15 (.take 16 (.take 17 (.take 18 (.take 19 (.one 20 (.take 21 (.take 22 (.take 23 (.take 24 (.take 25 (.take 26 (.take 27 (.take 28 (.one 29 (.one 30 (.take 31 (.one 32 .done))))))))))))))))))))))))))))))))) (fun w' => w'.cell? ⟨w.heap.size, 0, none⟩ = some (.string s) ∧ w'.cell? ⟨w.heap.size, 1, none⟩ = some (.slice A n c) ∧ w'.cell? ⟨w.heap.size, 2, none⟩ = some (.slice A2 m d) ∧ w'.cell? ⟨w.heap.size, 3, none⟩ = some (.slice M q e0) ∧ w'.cell? ⟨w.heap.size, 4, none⟩ = some (.int .i64 sp) ∧ w'.cell? ⟨w.heap.size, 5, none⟩ = some (.int .i64 W) ∧ w'.cell? ⟨w.heap.size, 6, none⟩ = some (.int .i64 t) ∧ w'.cell? ⟨w.heap.size, 7, none⟩ = some (.int .i64 k) ∧ w'.cell? ⟨w.heap.size, 8, none⟩ = some (.slice L l lc) ∧ w'.cell? ⟨w.heap.size, 9, none⟩ = some (.slice T r tc)) (by kernel_rfl) (by kernel_rfl) (by kernel_rfl) (by intro c a d v w h; cases d <;> exact h) K0.out.ten ?_
    clear kc0 kc1 kc2 kc3 kc4 kc5 kc6 kc7 kc8 kc9
    refine plan_quiet rfl (by rfl) (v := ?_) ?_ ?_; rotate_left; (intro w1 hSw; (try dsimp only at hSw); go_simp; try (with_reducible rfl)); (try simp only [Act.put, List.setIfInBounds_toArray, List.set_cons_zero, List.set_cons_succ])
    refine plan_quiet rfl (by rfl) (v := ?_) ?_ ?_; rotate_left; (intro w1 hSw; (try dsimp only at hSw); go_simp; try (with_reducible rfl)); (try simp only [Act.put, List.setIfInBounds_toArray, List.set_cons_zero, List.set_cons_succ])
    refine plan_quiet rfl (by rfl) (v := ?_) ?_ ?_; rotate_left; (intro w1 hSw; (try dsimp only at hSw); go_simp; try (with_reducible rfl)); (try simp only [Act.put, List.setIfInBounds_toArray, List.set_cons_zero, List.set_cons_succ])
    refine plan_quiet rfl (by rfl) (v := ?_) ?_ ?_; rotate_left; (intro w1 hSw; (try dsimp only at hSw); go_simp; try (with_reducible rfl)); (try simp only [Act.put, List.setIfInBounds_toArray, List.set_cons_zero, List.set_cons_succ])
    refine plan_step rfl (fun K hK => ?_)
    rw [if_pos (by rfl)]
    go_simp
    refine (implMagOk_any lo hi lo hi _ X.f _ _ _ X.ms w0.drew (FontV.keep (w' := w0.drew) F0.out (fun p _ _ => rfl)) (by show hi ≤ w0.heap.size; omega) HS.out.f Hq.out hq1 (MagI.keep (w' := w0.drew) M0.out (fun p _ _ => rfl)) (by show hi ≤ w0.heap.size; omega) HWf.out.ms).mono ?_
    rintro e w1 ⟨he, hb'⟩
    have hb := undrew hb'
    rw [HMg.out] at he; subst he
    have K1 := Lib.hid (K0.out.below hb z0); have T1 := Lib.hid (T0.out.trans (hb.mono (by omega))); have F1 := Lib.hid (F0.out.below (by omega) hb); have L1 := Lib.hid (L0.out.below (by omega) hb); have W1 := Lib.hid (W0.out.below (by omega) hb)
    have z1 : w.heap.size < w1.heap.size := Nat.lt_of_lt_of_le z0 hb.size
    clear hb hb'
    refine hK.out _ _ K1.out.ten ?_
    clear hK K
    refine plan_quiet rfl (by rfl) (v := ?_) ?_ ?_; rotate_left; (intro w1 hSw; (try dsimp only at hSw); go_simp; try (with_reducible rfl)); (try simp only [Act.put, List.setIfInBounds_toArray, List.set_cons_zero, List.set_cons_succ])
    refine plan_quiet rfl (by rfl) (v := ?_) ?_ ?_; rotate_left; (intro w1 hSw; (try dsimp only at hSw); go_simp; try (with_reducible rfl)); (try simp only [Act.put, List.setIfInBounds_toArray, List.set_cons_zero, List.set_cons_succ])
    refine plan_quiet rfl (by rfl) (v := ?_) ?_ ?_; rotate_left; (intro w1 hSw; (try dsimp only at hSw); go_simp; try (with_reducible rfl)); (try simp only [Act.put, List.setIfInBounds_toArray, List.set_cons_zero, List.set_cons_succ])
    refine plan_step rfl (fun K hK => ?_)
    rw [if_pos (by rfl)]
    go_simp
    refine (isFrom_any _ _ _ _).mono ?_
    rintro e w1' ⟨he, rfl⟩
    rw [HSp.out] at he; subst he
    refine hK.out _ _ K1.out.ten ?_
    clear hK K
    refine plan_quiet rfl (by rfl) (v := ?_) ?_ ?_; rotate_left; (intro w1 hSw; (try dsimp only at hSw); go_simp; try (with_reducible rfl)); (try simp only [Act.put, List.setIfInBounds_toArray, List.set_cons_zero, List.set_cons_succ])
    refine plan_quiet rfl (by rfl) (v := ?_) ?_ ?_; rotate_left; (intro w1 hSw; (try dsimp only at hSw); go_simp; try (with_reducible rfl)); (try simp only [Act.put, List.setIfInBounds_toArray, List.set_cons_zero, List.set_cons_succ])
    refine plan_quiet rfl (by rfl) (v := ?_) ?_ ?_; rotate_left; (intro w1 hSw; (try dsimp only at hSw); go_simp; try (with_reducible rfl)); (try simp only [Act.put, List.setIfInBounds_toArray, List.set_cons_zero, List.set_cons_succ])
    refine plan_quiet rfl (by rfl) (v := ?_) ?_ ?_; rotate_left; (intro w1 hSw; (try dsimp only at hSw); go_simp; try (with_reducible rfl)); (try simp only [Act.put, List.setIfInBounds_toArray, List.set_cons_zero, List.set_cons_succ])
    refine plan_quiet rfl (by rfl) (v := ?_) ?_ ?_; rotate_left; (intro w1 hSw; (try dsimp only at hSw); go_simp; try (with_reducible rfl)); (try simp only [Act.put, List.setIfInBounds_toArray, List.set_cons_zero, List.set_cons_succ])
    refine plan_step rfl (fun K hK => ?_)
    rw [if_pos (by rfl)]
    go_simp
    refine (listMats_any 94 may1_enter w.heap.size (matB X.f) lo hi _ _ _ X.wt _ _ w1 Hr.out (by unfold maxLen; omega) W1.out (by omega) (fun x wr hx hbr => may1_any lo hi w.heap.size _ _ _ _ _ _ _ _ _ _ _ _ _ _ _ X.f x wr (F1.out.below (by omega) hbr) (by have := hbr.size; omega) HS.out.f HF.out (HWf.out.wt x hx) (K1.out.below hbr z1))).mono ?_
    rintro e w2 ⟨he, hb⟩
    rw [HWt.out] at he; subst he
    have K2 := Lib.hid (K1.out.below hb z1); have T2 := Lib.hid (T1.out.trans (hb.mono (by omega))); have F2 := Lib.hid (F1.out.below (by omega) hb); have L2 := Lib.hid (L1.out.below (by omega) hb)
    have z2 : w.heap.size < w2.heap.size := Nat.lt_of_lt_of_le z1 hb.size
    clear hb
    refine hK.out _ _ K2.out.ten ?_
    clear hK K
    refine plan_quiet rfl (by rfl) (v := ?_) ?_ ?_; rotate_left; (intro w1 hSw; (try dsimp only at hSw); go_simp; try (with_reducible rfl)); (try simp only [Act.put, List.setIfInBounds_toArray, List.set_cons_zero, List.set_cons_succ])
    refine plan_quiet rfl (by rfl) (v := ?_) ?_ ?_; rotate_left; (intro w1 hSw; (try dsimp only at hSw); go_simp; try (with_reducible rfl)); (try simp only [Act.put, List.setIfInBounds_toArray, List.set_cons_zero, List.set_cons_succ])
    refine plan_skip rfl (by rfl) ?_; (try simp only [Act.put, List.setIfInBounds_toArray, List.set_cons_zero, List.set_cons_succ])
    refine plan_skip rfl (by rfl) ?_; (try simp only [Act.put, List.setIfInBounds_toArray, List.set_cons_zero, List.set_cons_succ])
    refine plan_skip rfl (by rfl) ?_; (try simp only [Act.put, List.setIfInBounds_toArray, List.set_cons_zero, List.set_cons_succ])
    refine plan_step rfl (fun K hK => ?_)
    rw [if_neg (by intro h; cases h)]
    refine hK.out _ _ K2.out.ten ?_
    clear hK K
    refine plan_quiet rfl (by rfl) (v := ?_) ?_ ?_; rotate_left; (intro w1 hSw; (try dsimp only at hSw); go_simp; try (with_reducible rfl)); (try simp only [Act.put, List.setIfInBounds_toArray, List.set_cons_zero, List.set_cons_succ])
    refine plan_quiet rfl (by rfl) (v := ?_) ?_ ?_; rotate_left; (intro w1 hSw; (try dsimp only at hSw); go_simp; try (with_reducible rfl)); (try simp only [Act.put, List.setIfInBounds_toArray, List.set_cons_zero, List.set_cons_succ])
    refine plan_skip rfl (by rfl) ?_; (try simp only [Act.put, List.setIfInBounds_toArray, List.set_cons_zero, List.set_cons_succ])
    refine plan_skip rfl (by rfl) ?_; (try simp only [Act.put, List.setIfInBounds_toArray, List.set_cons_zero, List.set_cons_succ])
    refine plan_skip rfl (by rfl) ?_; (try simp only [Act.put, List.setIfInBounds_toArray, List.set_cons_zero, List.set_cons_succ])
    refine plan_skip rfl (by rfl) ?_; (try simp only [Act.put, List.setIfInBounds_toArray, List.set_cons_zero, List.set_cons_succ])
    refine plan_skip rfl (by rfl) ?_; (try simp only [Act.put, List.setIfInBounds_toArray, List.set_cons_zero, List.set_cons_succ])
    refine plan_skip rfl (by rfl) ?_; (try simp only [Act.put, List.setIfInBounds_toArray, List.set_cons_zero, List.set_cons_succ])
    refine plan_step rfl (fun K hK => ?_)
    rw [if_neg (by intro h; cases h)]
    refine hK.out _ _ K2.out.ten ?_
    clear hK K
    refine plan_step rfl (fun K hK => ?_)
    rw [if_neg (by intro h; cases h)]
    refine hK.out _ _ K2.out.ten ?_
    clear hK K
    refine plan_quiet rfl (by rfl) (v := ?_) ?_ ?_; rotate_left; (intro w1 hSw; (try dsimp only at hSw); go_simp; try (with_reducible rfl)); (try simp only [Act.put, List.setIfInBounds_toArray, List.set_cons_zero, List.set_cons_succ])
    refine plan_step rfl (fun K hK => ?_)
    rw [if_pos (by rfl)]
    go_simp
    refine hK.out _ _ K2.out.ten ?_
    clear hK K
    refine plan_end ?_
    go_wp2
    go_ret
    exact ⟨ret_bool HR.out.symm, T2.out⟩
  have HWt := Lib.hid hwt
  cases hln : (inB (l : Int) 0 120 && X.ln.all (setM X.f))
  · have HR : Hid (machB X = false) := machB_line Hl.out hln
    have HLn := Lib.hid hln
    clear hsp hmg hwt hln
    go_enter Tryz.func59, Tryz.ntmps59
    go_wp2
    clear hw0
    refine wp_region_plan (.take 0 (.take 1 (.take 2 (.take 3 (.one 4 (.take 5 (.take 6 (.take 7 (.one 8 (.take 9 (.take 10 (.take 11 (.take 12 (.take 13 (.one 14 (.take 15 (.take 16 (.take 17 (.take 18 (.take 19 (.one 20 (.take 21 (.take 22 (.take 23 (.take 24 (.take 25 (.take 26 (.take 27 (.take 28 (.one 29 (.one 30 (.take 31 (.one 32 .done))))))))))))))))))))))))))))))))) (fun w' => w'.cell? ⟨w.heap.size, 0, none⟩ = some (.string s) ∧ w'.cell? ⟨w.heap.size, 1, none⟩ = some (.slice A n c) ∧ w'.cell? ⟨w.heap.size, 2, none⟩ = some (.slice A2 m d) ∧ w'.cell? ⟨w.heap.size, 3, none⟩ = some (.slice M q e0) ∧ w'.cell? ⟨w.heap.size, 4, none⟩ = some (.int .i64 sp) ∧ w'.cell? ⟨w.heap.size, 5, none⟩ = some (.int .i64 W) ∧ w'.cell? ⟨w.heap.size, 6, none⟩ = some (.int .i64 t) ∧ w'.cell? ⟨w.heap.size, 7, none⟩ = some (.int .i64 k) ∧ w'.cell? ⟨w.heap.size, 8, none⟩ = some (.slice L l lc) ∧ w'.cell? ⟨w.heap.size, 9, none⟩ = some (.slice T r tc)) (by kernel_rfl) (by kernel_rfl) (by kernel_rfl) (by intro c a d v w h; cases d <;> exact h) K0.out.ten ?_
    clear kc0 kc1 kc2 kc3 kc4 kc5 kc6 kc7 kc8 kc9
    refine plan_quiet rfl (by rfl) (v := ?_) ?_ ?_; rotate_left; (intro w1 hSw; (try dsimp only at hSw); go_simp; try (with_reducible rfl)); (try simp only [Act.put, List.setIfInBounds_toArray, List.set_cons_zero, List.set_cons_succ])
    refine plan_quiet rfl (by rfl) (v := ?_) ?_ ?_; rotate_left; (intro w1 hSw; (try dsimp only at hSw); go_simp; try (with_reducible rfl)); (try simp only [Act.put, List.setIfInBounds_toArray, List.set_cons_zero, List.set_cons_succ])
    refine plan_quiet rfl (by rfl) (v := ?_) ?_ ?_; rotate_left; (intro w1 hSw; (try dsimp only at hSw); go_simp; try (with_reducible rfl)); (try simp only [Act.put, List.setIfInBounds_toArray, List.set_cons_zero, List.set_cons_succ])
    refine plan_quiet rfl (by rfl) (v := ?_) ?_ ?_; rotate_left; (intro w1 hSw; (try dsimp only at hSw); go_simp; try (with_reducible rfl)); (try simp only [Act.put, List.setIfInBounds_toArray, List.set_cons_zero, List.set_cons_succ])
    refine plan_step rfl (fun K hK => ?_)
    rw [if_pos (by rfl)]
    go_simp
    refine (implMagOk_any lo hi lo hi _ X.f _ _ _ X.ms w0.drew (FontV.keep (w' := w0.drew) F0.out (fun p _ _ => rfl)) (by show hi ≤ w0.heap.size; omega) HS.out.f Hq.out hq1 (MagI.keep (w' := w0.drew) M0.out (fun p _ _ => rfl)) (by show hi ≤ w0.heap.size; omega) HWf.out.ms).mono ?_
    rintro e w1 ⟨he, hb'⟩
    have hb := undrew hb'
    rw [HMg.out] at he; subst he
    have K1 := Lib.hid (K0.out.below hb z0); have T1 := Lib.hid (T0.out.trans (hb.mono (by omega))); have F1 := Lib.hid (F0.out.below (by omega) hb); have L1 := Lib.hid (L0.out.below (by omega) hb); have W1 := Lib.hid (W0.out.below (by omega) hb)
    have z1 : w.heap.size < w1.heap.size := Nat.lt_of_lt_of_le z0 hb.size
    clear hb hb'
    refine hK.out _ _ K1.out.ten ?_
    clear hK K
    refine plan_quiet rfl (by rfl) (v := ?_) ?_ ?_; rotate_left; (intro w1 hSw; (try dsimp only at hSw); go_simp; try (with_reducible rfl)); (try simp only [Act.put, List.setIfInBounds_toArray, List.set_cons_zero, List.set_cons_succ])
    refine plan_quiet rfl (by rfl) (v := ?_) ?_ ?_; rotate_left; (intro w1 hSw; (try dsimp only at hSw); go_simp; try (with_reducible rfl)); (try simp only [Act.put, List.setIfInBounds_toArray, List.set_cons_zero, List.set_cons_succ])
    refine plan_quiet rfl (by rfl) (v := ?_) ?_ ?_; rotate_left; (intro w1 hSw; (try dsimp only at hSw); go_simp; try (with_reducible rfl)); (try simp only [Act.put, List.setIfInBounds_toArray, List.set_cons_zero, List.set_cons_succ])
    refine plan_step rfl (fun K hK => ?_)
    rw [if_pos (by rfl)]
    go_simp
    refine (isFrom_any _ _ _ _).mono ?_
    rintro e w1' ⟨he, rfl⟩
    rw [HSp.out] at he; subst he
    refine hK.out _ _ K1.out.ten ?_
    clear hK K
    refine plan_quiet rfl (by rfl) (v := ?_) ?_ ?_; rotate_left; (intro w1 hSw; (try dsimp only at hSw); go_simp; try (with_reducible rfl)); (try simp only [Act.put, List.setIfInBounds_toArray, List.set_cons_zero, List.set_cons_succ])
    refine plan_quiet rfl (by rfl) (v := ?_) ?_ ?_; rotate_left; (intro w1 hSw; (try dsimp only at hSw); go_simp; try (with_reducible rfl)); (try simp only [Act.put, List.setIfInBounds_toArray, List.set_cons_zero, List.set_cons_succ])
    refine plan_quiet rfl (by rfl) (v := ?_) ?_ ?_; rotate_left; (intro w1 hSw; (try dsimp only at hSw); go_simp; try (with_reducible rfl)); (try simp only [Act.put, List.setIfInBounds_toArray, List.set_cons_zero, List.set_cons_succ])
    refine plan_quiet rfl (by rfl) (v := ?_) ?_ ?_; rotate_left; (intro w1 hSw; (try dsimp only at hSw); go_simp; try (with_reducible rfl)); (try simp only [Act.put, List.setIfInBounds_toArray, List.set_cons_zero, List.set_cons_succ])
    refine plan_quiet rfl (by rfl) (v := ?_) ?_ ?_; rotate_left; (intro w1 hSw; (try dsimp only at hSw); go_simp; try (with_reducible rfl)); (try simp only [Act.put, List.setIfInBounds_toArray, List.set_cons_zero, List.set_cons_succ])
    refine plan_step rfl (fun K hK => ?_)
    rw [if_pos (by rfl)]
    go_simp
    refine (listMats_any 94 may1_enter w.heap.size (matB X.f) lo hi _ _ _ X.wt _ _ w1 Hr.out (by unfold maxLen; omega) W1.out (by omega) (fun x wr hx hbr => may1_any lo hi w.heap.size _ _ _ _ _ _ _ _ _ _ _ _ _ _ _ X.f x wr (F1.out.below (by omega) hbr) (by have := hbr.size; omega) HS.out.f HF.out (HWf.out.wt x hx) (K1.out.below hbr z1))).mono ?_
    rintro e w2 ⟨he, hb⟩
    rw [HWt.out] at he; subst he
    have K2 := Lib.hid (K1.out.below hb z1); have T2 := Lib.hid (T1.out.trans (hb.mono (by omega))); have F2 := Lib.hid (F1.out.below (by omega) hb); have L2 := Lib.hid (L1.out.below (by omega) hb)
    have z2 : w.heap.size < w2.heap.size := Nat.lt_of_lt_of_le z1 hb.size
    clear hb
    refine hK.out _ _ K2.out.ten ?_
    clear hK K
    refine plan_quiet rfl (by rfl) (v := ?_) ?_ ?_; rotate_left; (intro w1 hSw; (try dsimp only at hSw); go_simp; try (with_reducible rfl)); (try simp only [Act.put, List.setIfInBounds_toArray, List.set_cons_zero, List.set_cons_succ])
    refine plan_quiet rfl (by rfl) (v := ?_) ?_ ?_; rotate_left; (intro w1 hSw; (try dsimp only at hSw); go_simp; try (with_reducible rfl)); (try simp only [Act.put, List.setIfInBounds_toArray, List.set_cons_zero, List.set_cons_succ])
    refine plan_quiet rfl (by rfl) (v := ?_) ?_ ?_; rotate_left; (intro w1 hSw; (try dsimp only at hSw); go_simp; try (with_reducible rfl)); (try simp only [Act.put, List.setIfInBounds_toArray, List.set_cons_zero, List.set_cons_succ])
    refine plan_quiet rfl (by rfl) (v := ?_) ?_ ?_; rotate_left; (intro w1 hSw; (try dsimp only at hSw); go_simp; try (with_reducible rfl)); (try simp only [Act.put, List.setIfInBounds_toArray, List.set_cons_zero, List.set_cons_succ])
    refine plan_quiet rfl (by rfl) (v := ?_) ?_ ?_; rotate_left; (intro w1 hSw; (try dsimp only at hSw); go_simp; try (with_reducible rfl)); (try simp only [Act.put, List.setIfInBounds_toArray, List.set_cons_zero, List.set_cons_succ])
    refine plan_step rfl (fun K hK => ?_)
    rw [if_pos (by rfl)]
    go_simp
    refine (listMats_any 96 may2_enter w.heap.size (setM X.f) lo hi _ _ _ X.ln _ _ w2 Hl.out (by unfold maxLen; omega) L2.out (by omega) (fun x wr hx hbr => may2_any lo hi w.heap.size _ _ _ _ _ _ _ _ _ _ _ _ _ _ _ X.f x wr (F2.out.below (by omega) hbr) (by have := hbr.size; omega) HS.out.f HF.out (HWf.out.ln x hx) (K2.out.below hbr z2))).mono ?_
    rintro e w3 ⟨he, hb⟩
    rw [HLn.out] at he; subst he
    have K3 := Lib.hid (K2.out.below hb z2); have T3 := Lib.hid (T2.out.trans (hb.mono (by omega))); have F3 := Lib.hid (F2.out.below (by omega) hb); have L3 := Lib.hid (L2.out.below (by omega) hb)
    have z3 : w.heap.size < w3.heap.size := Nat.lt_of_lt_of_le z2 hb.size
    clear hb
    refine hK.out _ _ K3.out.ten ?_
    clear hK K
    refine plan_quiet rfl (by rfl) (v := ?_) ?_ ?_; rotate_left; (intro w1 hSw; (try dsimp only at hSw); go_simp; try (with_reducible rfl)); (try simp only [Act.put, List.setIfInBounds_toArray, List.set_cons_zero, List.set_cons_succ])
    refine plan_quiet rfl (by rfl) (v := ?_) ?_ ?_; rotate_left; (intro w1 hSw; (try dsimp only at hSw); go_simp; try (with_reducible rfl)); (try simp only [Act.put, List.setIfInBounds_toArray, List.set_cons_zero, List.set_cons_succ])
    refine plan_skip rfl (by rfl) ?_; (try simp only [Act.put, List.setIfInBounds_toArray, List.set_cons_zero, List.set_cons_succ])
    refine plan_skip rfl (by rfl) ?_; (try simp only [Act.put, List.setIfInBounds_toArray, List.set_cons_zero, List.set_cons_succ])
    refine plan_skip rfl (by rfl) ?_; (try simp only [Act.put, List.setIfInBounds_toArray, List.set_cons_zero, List.set_cons_succ])
    refine plan_skip rfl (by rfl) ?_; (try simp only [Act.put, List.setIfInBounds_toArray, List.set_cons_zero, List.set_cons_succ])
    refine plan_skip rfl (by rfl) ?_; (try simp only [Act.put, List.setIfInBounds_toArray, List.set_cons_zero, List.set_cons_succ])
    refine plan_skip rfl (by rfl) ?_; (try simp only [Act.put, List.setIfInBounds_toArray, List.set_cons_zero, List.set_cons_succ])
    refine plan_step rfl (fun K hK => ?_)
    rw [if_neg (by intro h; cases h)]
    refine hK.out _ _ K3.out.ten ?_
    clear hK K
    refine plan_step rfl (fun K hK => ?_)
    rw [if_neg (by intro h; cases h)]
    refine hK.out _ _ K3.out.ten ?_
    clear hK K
    refine plan_quiet rfl (by rfl) (v := ?_) ?_ ?_; rotate_left; (intro w1 hSw; (try dsimp only at hSw); go_simp; try (with_reducible rfl)); (try simp only [Act.put, List.setIfInBounds_toArray, List.set_cons_zero, List.set_cons_succ])
    refine plan_step rfl (fun K hK => ?_)
    rw [if_pos (by rfl)]
    go_simp
    refine hK.out _ _ K3.out.ten ?_
    clear hK K
    refine plan_end ?_
    go_wp2
    go_ret
    exact ⟨ret_bool HR.out.symm, T3.out⟩
  have HLn := Lib.hid hln
  have HR := Lib.hid (machB_good Hl.out Hr.out hmg (by rw [HE.out.1]; exact hsp) hwt hln)
  have HW2 : Hid (∀ x ∈ X.ln, bandM x = true ∨ (0 ≤ x.1 ∧ x.1.toNat < X.f.ws.length)) := fun x hx => by
    rw [Bool.and_eq_true] at hln
    exact set_item HF.out (List.all_eq_true.1 hln.2 x hx)
  rw [HE.out.2] at HR
  obtain ⟨gd, hgd⟩ : ∃ y, goodB ⟨W, t, k⟩ (itemsM X.f X.ln) = y := ⟨_, rfl⟩
  have HGd := Lib.hid hgd
  rw [hgd] at HR
  clear hsp hmg hwt hln hgd
  go_enter Tryz.func59, Tryz.ntmps59
  go_wp2
  clear hw0
  refine wp_region_plan (.take 0 (.take 1 (.take 2 (.take 3 (.one 4 (.take 5 (.take 6 (.take 7 (.one 8 (.take 9 (.take 10 (.take 11 (.take 12 (.take 13 (.one 14 (.take 15 (.take 16 (.take 17 (.take 18 (.take 19 (.one 20 (.take 21 (.take 22 (.take 23 (.take 24 (.take 25 (.take 26 (.take 27 (.take 28 (.one 29 (.one 30 (.take 31 (.one 32 .done))))))))))))))))))))))))))))))))) (fun w' => w'.cell? ⟨w.heap.size, 0, none⟩ = some (.string s) ∧ w'.cell? ⟨w.heap.size, 1, none⟩ = some (.slice A n c) ∧ w'.cell? ⟨w.heap.size, 2, none⟩ = some (.slice A2 m d) ∧ w'.cell? ⟨w.heap.size, 3, none⟩ = some (.slice M q e0) ∧ w'.cell? ⟨w.heap.size, 4, none⟩ = some (.int .i64 sp) ∧ w'.cell? ⟨w.heap.size, 5, none⟩ = some (.int .i64 W) ∧ w'.cell? ⟨w.heap.size, 6, none⟩ = some (.int .i64 t) ∧ w'.cell? ⟨w.heap.size, 7, none⟩ = some (.int .i64 k) ∧ w'.cell? ⟨w.heap.size, 8, none⟩ = some (.slice L l lc) ∧ w'.cell? ⟨w.heap.size, 9, none⟩ = some (.slice T r tc)) (by kernel_rfl) (by kernel_rfl) (by kernel_rfl) (by intro c a d v w h; cases d <;> exact h) K0.out.ten ?_
  clear kc0 kc1 kc2 kc3 kc4 kc5 kc6 kc7 kc8 kc9
  refine plan_quiet rfl (by rfl) (v := ?_) ?_ ?_; rotate_left; (intro w1 hSw; (try dsimp only at hSw); go_simp; try (with_reducible rfl)); (try simp only [Act.put, List.setIfInBounds_toArray, List.set_cons_zero, List.set_cons_succ])
  refine plan_quiet rfl (by rfl) (v := ?_) ?_ ?_; rotate_left; (intro w1 hSw; (try dsimp only at hSw); go_simp; try (with_reducible rfl)); (try simp only [Act.put, List.setIfInBounds_toArray, List.set_cons_zero, List.set_cons_succ])
  refine plan_quiet rfl (by rfl) (v := ?_) ?_ ?_; rotate_left; (intro w1 hSw; (try dsimp only at hSw); go_simp; try (with_reducible rfl)); (try simp only [Act.put, List.setIfInBounds_toArray, List.set_cons_zero, List.set_cons_succ])
  refine plan_quiet rfl (by rfl) (v := ?_) ?_ ?_; rotate_left; (intro w1 hSw; (try dsimp only at hSw); go_simp; try (with_reducible rfl)); (try simp only [Act.put, List.setIfInBounds_toArray, List.set_cons_zero, List.set_cons_succ])
  refine plan_step rfl (fun K hK => ?_)
  rw [if_pos (by rfl)]
  go_simp
  refine (implMagOk_any lo hi lo hi _ X.f _ _ _ X.ms w0.drew (FontV.keep (w' := w0.drew) F0.out (fun p _ _ => rfl)) (by show hi ≤ w0.heap.size; omega) HS.out.f Hq.out hq1 (MagI.keep (w' := w0.drew) M0.out (fun p _ _ => rfl)) (by show hi ≤ w0.heap.size; omega) HWf.out.ms).mono ?_
  rintro e w1 ⟨he, hb'⟩
  have hb := undrew hb'
  rw [HMg.out] at he; subst he
  have K1 := Lib.hid (K0.out.below hb z0); have T1 := Lib.hid (T0.out.trans (hb.mono (by omega))); have F1 := Lib.hid (F0.out.below (by omega) hb); have L1 := Lib.hid (L0.out.below (by omega) hb); have W1 := Lib.hid (W0.out.below (by omega) hb)
  have z1 : w.heap.size < w1.heap.size := Nat.lt_of_lt_of_le z0 hb.size
  clear hb hb'
  refine hK.out _ _ K1.out.ten ?_
  clear hK K
  refine plan_quiet rfl (by rfl) (v := ?_) ?_ ?_; rotate_left; (intro w1 hSw; (try dsimp only at hSw); go_simp; try (with_reducible rfl)); (try simp only [Act.put, List.setIfInBounds_toArray, List.set_cons_zero, List.set_cons_succ])
  refine plan_quiet rfl (by rfl) (v := ?_) ?_ ?_; rotate_left; (intro w1 hSw; (try dsimp only at hSw); go_simp; try (with_reducible rfl)); (try simp only [Act.put, List.setIfInBounds_toArray, List.set_cons_zero, List.set_cons_succ])
  refine plan_quiet rfl (by rfl) (v := ?_) ?_ ?_; rotate_left; (intro w1 hSw; (try dsimp only at hSw); go_simp; try (with_reducible rfl)); (try simp only [Act.put, List.setIfInBounds_toArray, List.set_cons_zero, List.set_cons_succ])
  refine plan_step rfl (fun K hK => ?_)
  rw [if_pos (by rfl)]
  go_simp
  refine (isFrom_any _ _ _ _).mono ?_
  rintro e w1' ⟨he, rfl⟩
  rw [HSp.out] at he; subst he
  refine hK.out _ _ K1.out.ten ?_
  clear hK K
  refine plan_quiet rfl (by rfl) (v := ?_) ?_ ?_; rotate_left; (intro w1 hSw; (try dsimp only at hSw); go_simp; try (with_reducible rfl)); (try simp only [Act.put, List.setIfInBounds_toArray, List.set_cons_zero, List.set_cons_succ])
  refine plan_quiet rfl (by rfl) (v := ?_) ?_ ?_; rotate_left; (intro w1 hSw; (try dsimp only at hSw); go_simp; try (with_reducible rfl)); (try simp only [Act.put, List.setIfInBounds_toArray, List.set_cons_zero, List.set_cons_succ])
  refine plan_quiet rfl (by rfl) (v := ?_) ?_ ?_; rotate_left; (intro w1 hSw; (try dsimp only at hSw); go_simp; try (with_reducible rfl)); (try simp only [Act.put, List.setIfInBounds_toArray, List.set_cons_zero, List.set_cons_succ])
  refine plan_quiet rfl (by rfl) (v := ?_) ?_ ?_; rotate_left; (intro w1 hSw; (try dsimp only at hSw); go_simp; try (with_reducible rfl)); (try simp only [Act.put, List.setIfInBounds_toArray, List.set_cons_zero, List.set_cons_succ])
  refine plan_quiet rfl (by rfl) (v := ?_) ?_ ?_; rotate_left; (intro w1 hSw; (try dsimp only at hSw); go_simp; try (with_reducible rfl)); (try simp only [Act.put, List.setIfInBounds_toArray, List.set_cons_zero, List.set_cons_succ])
  refine plan_step rfl (fun K hK => ?_)
  rw [if_pos (by rfl)]
  go_simp
  refine (listMats_any 94 may1_enter w.heap.size (matB X.f) lo hi _ _ _ X.wt _ _ w1 Hr.out (by unfold maxLen; omega) W1.out (by omega) (fun x wr hx hbr => may1_any lo hi w.heap.size _ _ _ _ _ _ _ _ _ _ _ _ _ _ _ X.f x wr (F1.out.below (by omega) hbr) (by have := hbr.size; omega) HS.out.f HF.out (HWf.out.wt x hx) (K1.out.below hbr z1))).mono ?_
  rintro e w2 ⟨he, hb⟩
  rw [HWt.out] at he; subst he
  have K2 := Lib.hid (K1.out.below hb z1); have T2 := Lib.hid (T1.out.trans (hb.mono (by omega))); have F2 := Lib.hid (F1.out.below (by omega) hb); have L2 := Lib.hid (L1.out.below (by omega) hb)
  have z2 : w.heap.size < w2.heap.size := Nat.lt_of_lt_of_le z1 hb.size
  clear hb
  refine hK.out _ _ K2.out.ten ?_
  clear hK K
  refine plan_quiet rfl (by rfl) (v := ?_) ?_ ?_; rotate_left; (intro w1 hSw; (try dsimp only at hSw); go_simp; try (with_reducible rfl)); (try simp only [Act.put, List.setIfInBounds_toArray, List.set_cons_zero, List.set_cons_succ])
  refine plan_quiet rfl (by rfl) (v := ?_) ?_ ?_; rotate_left; (intro w1 hSw; (try dsimp only at hSw); go_simp; try (with_reducible rfl)); (try simp only [Act.put, List.setIfInBounds_toArray, List.set_cons_zero, List.set_cons_succ])
  refine plan_quiet rfl (by rfl) (v := ?_) ?_ ?_; rotate_left; (intro w1 hSw; (try dsimp only at hSw); go_simp; try (with_reducible rfl)); (try simp only [Act.put, List.setIfInBounds_toArray, List.set_cons_zero, List.set_cons_succ])
  refine plan_quiet rfl (by rfl) (v := ?_) ?_ ?_; rotate_left; (intro w1 hSw; (try dsimp only at hSw); go_simp; try (with_reducible rfl)); (try simp only [Act.put, List.setIfInBounds_toArray, List.set_cons_zero, List.set_cons_succ])
  refine plan_quiet rfl (by rfl) (v := ?_) ?_ ?_; rotate_left; (intro w1 hSw; (try dsimp only at hSw); go_simp; try (with_reducible rfl)); (try simp only [Act.put, List.setIfInBounds_toArray, List.set_cons_zero, List.set_cons_succ])
  refine plan_step rfl (fun K hK => ?_)
  rw [if_pos (by rfl)]
  go_simp
  refine (listMats_any 96 may2_enter w.heap.size (setM X.f) lo hi _ _ _ X.ln _ _ w2 Hl.out (by unfold maxLen; omega) L2.out (by omega) (fun x wr hx hbr => may2_any lo hi w.heap.size _ _ _ _ _ _ _ _ _ _ _ _ _ _ _ X.f x wr (F2.out.below (by omega) hbr) (by have := hbr.size; omega) HS.out.f HF.out (HWf.out.ln x hx) (K2.out.below hbr z2))).mono ?_
  rintro e w3 ⟨he, hb⟩
  rw [HLn.out] at he; subst he
  have K3 := Lib.hid (K2.out.below hb z2); have T3 := Lib.hid (T2.out.trans (hb.mono (by omega))); have F3 := Lib.hid (F2.out.below (by omega) hb); have L3 := Lib.hid (L2.out.below (by omega) hb)
  have z3 : w.heap.size < w3.heap.size := Nat.lt_of_lt_of_le z2 hb.size
  clear hb
  refine hK.out _ _ K3.out.ten ?_
  clear hK K
  refine plan_quiet rfl (by rfl) (v := ?_) ?_ ?_; rotate_left; (intro w1 hSw; (try dsimp only at hSw); go_simp; try (with_reducible rfl)); (try simp only [Act.put, List.setIfInBounds_toArray, List.set_cons_zero, List.set_cons_succ])
  refine plan_quiet rfl (by rfl) (v := ?_) ?_ ?_; rotate_left; (intro w1 hSw; (try dsimp only at hSw); go_simp; try (with_reducible rfl)); (try simp only [Act.put, List.setIfInBounds_toArray, List.set_cons_zero, List.set_cons_succ])
  refine plan_quiet rfl (by rfl) (v := ?_) ?_ ?_; rotate_left; (intro w1 hSw; (try dsimp only at hSw); go_simp; try (with_reducible rfl)); (try simp only [Act.put, List.setIfInBounds_toArray, List.set_cons_zero, List.set_cons_succ])
  refine plan_quiet rfl (by rfl) (v := ?_) ?_ ?_; rotate_left; (intro w1 hSw; (try dsimp only at hSw); go_simp; try (with_reducible rfl)); (try simp only [Act.put, List.setIfInBounds_toArray, List.set_cons_zero, List.set_cons_succ])
  refine plan_quiet rfl (by rfl) (v := ?_) ?_ ?_; rotate_left; (intro w1 hSw; (try dsimp only at hSw); go_simp; try (with_reducible rfl)); (try simp only [Act.put, List.setIfInBounds_toArray, List.set_cons_zero, List.set_cons_succ])
  refine plan_quiet rfl (by rfl) (v := ?_) ?_ ?_; rotate_left; (intro w1 hSw; (try dsimp only at hSw); go_simp; try (with_reducible rfl)); (try simp only [Act.put, List.setIfInBounds_toArray, List.set_cons_zero, List.set_cons_succ])
  refine plan_quiet rfl (by rfl) (v := ?_) ?_ ?_; rotate_left; (intro w1 hSw; (try dsimp only at hSw); go_simp; try (with_reducible rfl)); (try simp only [Act.put, List.setIfInBounds_toArray, List.set_cons_zero, List.set_cons_succ])
  refine plan_quiet rfl (by rfl) (v := ?_) ?_ ?_; rotate_left; (intro w1 hSw; (try dsimp only at hSw); go_simp; try (with_reducible rfl)); (try simp only [Act.put, List.setIfInBounds_toArray, List.set_cons_zero, List.set_cons_succ])
  refine plan_step rfl (fun K hK => ?_)
  rw [if_pos (by rfl)]
  go_simp
  refine (itemsOf_any lo hi lo hi _ X.f _ _ _ X.ln w3 F3.out (by omega) Hl.out hl1 L3.out (by omega) HW2.out).mono ?_
  rintro e w4 ⟨u, rfl, hO, hb⟩
  obtain ⟨U, uc, rfl, hI4, -, huc, hum⟩ := hO.form
  have hul : (itemsM X.f X.ln).length ≤ maxLen := by rw [itemsM_len, Hl.out]; unfold maxLen; omega
  have K4 := Lib.hid (K3.out.below hb z3); have T4 := Lib.hid (T3.out.trans (hb.mono (by omega))); have I4 := Lib.hid hI4
  have z4 : w.heap.size < w4.heap.size := Nat.lt_of_lt_of_le z3 hb.size
  clear hb hO hI4
  refine hK.out _ _ K4.out.ten ?_
  clear hK K
  refine plan_step rfl (fun K hK => ?_)
  rw [if_pos (by rfl)]
  go_simp
  refine (isFitting_any W t k _ _ _ (itemsM X.f X.ln) w4 rfl hul I4.out).mono ?_
  rintro e w5 ⟨he, hb⟩
  rw [HGd.out] at he; subst he
  have K5 := Lib.hid (K4.out.below hb z4); have T5 := Lib.hid (T4.out.trans (hb.mono (by omega)))
  clear hb
  refine hK.out _ _ K5.out.ten ?_
  clear hK K
  refine plan_quiet rfl (by rfl) (v := ?_) ?_ ?_; rotate_left; (intro w1 hSw; (try dsimp only at hSw); go_simp; try (with_reducible rfl)); (try simp only [Act.put, List.setIfInBounds_toArray, List.set_cons_zero, List.set_cons_succ])
  refine plan_step rfl (fun K hK => ?_)
  rw [if_pos (by rfl)]
  go_simp
  refine hK.out _ _ K5.out.ten ?_
  clear hK K
  refine plan_end ?_
  go_wp2
  go_ret
  exact ⟨ret_bool HR.out.symm, T5.out⟩
end Go.Proofs.YtobakeahbgodbaaGreat

namespace Go.Proofs.YtobakeahbgodbaaGreat
open Go.RowKit
set_option linter.unusedVariables false

theorem machB_parts {X : Mch} (h : machB X = true) : magB X.f X.ms = true ∧ inB X.sp 0 60 = true ∧ X.wt.length ≤ 240 ∧ X.wt.all (matB X.f) = true ∧ X.ln.length ≤ 120 ∧ X.ln.all (setM X.f) = true ∧ goodB X.m (itemsM X.f X.ln) = true := by
  unfold machB at h
  simp only [Bool.and_eq_true, decide_eq_true_eq] at h
  exact ⟨h.1, h.2.1, h.2.2.1.1, h.2.2.1.2, h.2.2.2.1.1, h.2.2.2.1.2, h.2.2.2.2⟩
def itsA (X : Mch) : List Int := if machB X then itemsM X.f X.ln else []
theorem itsA_len (X : Mch) : (itsA X).length ≤ 1048576 := by
  unfold itsA
  split
  · rename_i h
    have := (machB_parts h).2.2.2.2.1
    rw [itemsM_len]; omega
  · simp
theorem items_set {X : Mch} (h : machB X = true) : ∀ x ∈ X.ln, bandM x = true ∨ (0 ≤ x.1 ∧ x.1.toNat < X.f.ws.length) := fun x hx =>
  set_item (magB_font (machB_parts h).1) (List.all_eq_true.1 (machB_parts h).2.2.2.2.2.1 x hx)
theorem items_wid {X : Mch} (h : machB X = true) : ∀ x ∈ X.ln, hasWid X.f x := fun x hx =>
  set_hasWid (magB_font (machB_parts h).1) (List.all_eq_true.1 (machB_parts h).2.2.2.2.2.1 x hx)
theorem own_intsQ {w : World} {B n c : Nat} {A : Option Addr} {zs : List Int} (h : Own w B (.slice A n c) zs) : Ints w A zs := (IntsI.of_own h).ints
theorem own_none (w : World) (B : Nat) : Own w B (.slice none 0 0) [] := ⟨rfl, .inl ⟨rfl, rfl⟩⟩
end Go.Proofs.YtobakeahbgodbaaGreat

namespace Go.Proofs.YtobakeahbgodbaaGreat
open Go.RowKit
set_option linter.unusedVariables false

theorem heapSet {w : World} {B i : Nat} {cs : Array Value} {T : TypeId} (h : Blk w B cs T) (u : Value) : Blk (w.setCell ⟨B, i, none⟩ u) B (cs.setIfInBounds i u) T := by
  unfold Blk; exact heap_setCell_same w B i _ _ _ h
theorem Blk.fill {w : World} {B : Nat} {a0 a1 a2 a3 a4 a5 a6 a7 a8 a9 : Value} {T : TypeId} (h : Blk w B #[a0, a1, a2, a3, a4, a5, a6, a7, a8, a9] T) (u0 u1 u2 u3 u4 u5 u6 u7 u8 u9 : Value) :
    Blk (((((((((((w.setCell ⟨B, 0, none⟩ u0).setCell ⟨B, 1, none⟩ u1).setCell ⟨B, 2, none⟩ u2).setCell ⟨B, 3, none⟩ u3).setCell ⟨B, 4, none⟩ u4).setCell ⟨B, 5, none⟩ u5).setCell ⟨B, 6, none⟩ u6).setCell ⟨B, 7, none⟩ u7).setCell ⟨B, 8, none⟩ u8).setCell ⟨B, 9, none⟩ u9)) B #[u0, u1, u2, u3, u4, u5, u6, u7, u8, u9] T := by
  have h0 : Blk (w.setCell ⟨B, 0, none⟩ u0) B #[u0, a1, a2, a3, a4, a5, a6, a7, a8, a9] T := heapSet (i := 0) h u0
  have h1 : Blk ((w.setCell ⟨B, 0, none⟩ u0).setCell ⟨B, 1, none⟩ u1) B #[u0, u1, a2, a3, a4, a5, a6, a7, a8, a9] T := heapSet (i := 1) h0 u1
  have h2 : Blk (((w.setCell ⟨B, 0, none⟩ u0).setCell ⟨B, 1, none⟩ u1).setCell ⟨B, 2, none⟩ u2) B #[u0, u1, u2, a3, a4, a5, a6, a7, a8, a9] T := heapSet (i := 2) h1 u2
  have h3 : Blk ((((w.setCell ⟨B, 0, none⟩ u0).setCell ⟨B, 1, none⟩ u1).setCell ⟨B, 2, none⟩ u2).setCell ⟨B, 3, none⟩ u3) B #[u0, u1, u2, u3, a4, a5, a6, a7, a8, a9] T := heapSet (i := 3) h2 u3
  have h4 : Blk (((((w.setCell ⟨B, 0, none⟩ u0).setCell ⟨B, 1, none⟩ u1).setCell ⟨B, 2, none⟩ u2).setCell ⟨B, 3, none⟩ u3).setCell ⟨B, 4, none⟩ u4) B #[u0, u1, u2, u3, u4, a5, a6, a7, a8, a9] T := heapSet (i := 4) h3 u4
  have h5 : Blk ((((((w.setCell ⟨B, 0, none⟩ u0).setCell ⟨B, 1, none⟩ u1).setCell ⟨B, 2, none⟩ u2).setCell ⟨B, 3, none⟩ u3).setCell ⟨B, 4, none⟩ u4).setCell ⟨B, 5, none⟩ u5) B #[u0, u1, u2, u3, u4, u5, a6, a7, a8, a9] T := heapSet (i := 5) h4 u5
  have h6 : Blk (((((((w.setCell ⟨B, 0, none⟩ u0).setCell ⟨B, 1, none⟩ u1).setCell ⟨B, 2, none⟩ u2).setCell ⟨B, 3, none⟩ u3).setCell ⟨B, 4, none⟩ u4).setCell ⟨B, 5, none⟩ u5).setCell ⟨B, 6, none⟩ u6) B #[u0, u1, u2, u3, u4, u5, u6, a7, a8, a9] T := heapSet (i := 6) h5 u6
  have h7 : Blk ((((((((w.setCell ⟨B, 0, none⟩ u0).setCell ⟨B, 1, none⟩ u1).setCell ⟨B, 2, none⟩ u2).setCell ⟨B, 3, none⟩ u3).setCell ⟨B, 4, none⟩ u4).setCell ⟨B, 5, none⟩ u5).setCell ⟨B, 6, none⟩ u6).setCell ⟨B, 7, none⟩ u7) B #[u0, u1, u2, u3, u4, u5, u6, u7, a8, a9] T := heapSet (i := 7) h6 u7
  have h8 : Blk (((((((((w.setCell ⟨B, 0, none⟩ u0).setCell ⟨B, 1, none⟩ u1).setCell ⟨B, 2, none⟩ u2).setCell ⟨B, 3, none⟩ u3).setCell ⟨B, 4, none⟩ u4).setCell ⟨B, 5, none⟩ u5).setCell ⟨B, 6, none⟩ u6).setCell ⟨B, 7, none⟩ u7).setCell ⟨B, 8, none⟩ u8) B #[u0, u1, u2, u3, u4, u5, u6, u7, u8, a9] T := heapSet (i := 8) h7 u8
  have h9 : Blk ((((((((((w.setCell ⟨B, 0, none⟩ u0).setCell ⟨B, 1, none⟩ u1).setCell ⟨B, 2, none⟩ u2).setCell ⟨B, 3, none⟩ u3).setCell ⟨B, 4, none⟩ u4).setCell ⟨B, 5, none⟩ u5).setCell ⟨B, 6, none⟩ u6).setCell ⟨B, 7, none⟩ u7).setCell ⟨B, 8, none⟩ u8).setCell ⟨B, 9, none⟩ u9) B #[u0, u1, u2, u3, u4, u5, u6, u7, u8, u9] T := heapSet (i := 9) h8 u9
  exact h9
theorem Blk.warm {w : World} {B : Nat} {cs : Array Value} {T : TypeId} (h : Blk w B cs T) (i : Nat) : w.frozen? ⟨B, i, none⟩ = false := by
  unfold Blk at h
  simp [World.frozen?, h]
theorem ownM_set {w : World} {B : Nat} {v : Value} {xs : List Mat} (h : OwnM w B v xs) {a : Addr} (ha : a.block < B) (u : Value) : OwnM (w.setCell a u) B v xs := ownsRow_setCell_below h ha u
theorem FontO.names {w : World} {B hi : Nat} {v : Value} {f : Fnt} (h : FontO w B hi v f) : ∃ s A n c A2 m d, v = .agg #[.string s, .slice A n c, .slice A2 m d] := by
  obtain ⟨A, c, A2, d, mid, hv, -⟩ := h
  exact ⟨_, A, _, c, A2, _, d, hv⟩
/-- one value stored in a block below all that a font holds -/
theorem FontO.setB {w : World} {B hi b o : Nat} {v : Value} {f : Fnt} (h : FontO w B hi v f) (hb : b < B) (u : Value) : FontO (w.setCell ⟨b, o, none⟩ u) B hi v f := by
  obtain ⟨A, c, A2, d, mid, hv, h1, hm, h2, hm2, h3, h4, hs⟩ := h
  exact ⟨A, c, A2, d, mid, hv, own_set h1 hb u, hm, own_set h2 (by show b < mid; omega) u, hm2, h3, h4, hs⟩
theorem OwnMag.setB {w : World} {B hi b o : Nat} {v : Value} {hs : List Value} {ms : List (List Mat)} (h : OwnMag w B hi v hs ms) (hb : b < B) (u : Value) : OwnMag (w.setCell ⟨b, o, none⟩ u) B hi v hs ms where
  outer := ownsRow_setCell_below h.outer (by show b < B; exact hb) u
  rows := fun j xs hx => by obtain ⟨hj, e, ho⟩ := h.rows j xs hx; exact ⟨hj, e, ownM_set ho (by show b < B; exact hb) u⟩
  apart := h.apart
  other := h.other
  top := h.top
theorem MchX.build {w : World} {B hi : Nat} {X : Mch} {s : ByteArray} {A A2 M L T : Option Addr} {n c m d q e l lc r tc : Nat} {hs : List Value} {f0 f1 g0 g1 l0 l1 t0 t1 : Nat}
    (h1 : FontO w f0 f1 (.agg #[.string s, .slice A n c, .slice A2 m d]) X.f) (h2 : OwnMag w g0 g1 (.slice M q e) hs X.ms)
    (h3 : OwnM w l0 (.slice L l lc) X.ln) (h3t : ∀ k, (Value.slice L l lc).ownBlock = some k → k < l1) (h4 : OwnM w t0 (.slice T r tc) X.wt) (h4t : ∀ k, (Value.slice T r tc).ownBlock = some k → k < t1)
    (o1 : Off f0 f1 g0 g1) (o2 : Off f0 f1 l0 l1) (o3 : Off f0 f1 t0 t1) (o4 : Off g0 g1 l0 l1) (o5 : Off g0 g1 t0 t1) (o6 : Off l0 l1 t0 t1)
    (i1 : B ≤ f0 ∧ f1 ≤ hi) (i2 : B ≤ g0 ∧ g1 ≤ hi) (i3 : B ≤ l0 ∧ l1 ≤ hi) (i4 : B ≤ t0 ∧ t1 ≤ hi) :
    MchX w B hi (.agg #[.string s, .slice A n c, .slice A2 m d, .slice M q e, .int .i64 X.sp, .int .i64 X.w, .int .i64 X.t, .int .i64 X.k, .slice L l lc, .slice T r tc]) X := by
  have h1' := h1
  obtain ⟨A', c', A2', d', mid, hv, -⟩ := h1'
  injection hv with hv
  injection hv with hv
  simp only [List.cons.injEq, Value.string.injEq, Value.slice.injEq] at hv
  obtain ⟨rfl, ⟨rfl, rfl, rfl⟩, ⟨rfl, rfl, rfl⟩, -⟩ := hv
  obtain ⟨M', e', hv2, -⟩ := h2.form
  simp only [Value.slice.injEq] at hv2
  obtain ⟨rfl, rfl, rfl⟩ := hv2
  obtain ⟨L', e2', hv3, -⟩ := h3.form
  simp only [Value.slice.injEq] at hv3
  obtain ⟨rfl, rfl, rfl⟩ := hv3
  obtain ⟨T', e3', hv4, -⟩ := h4.form
  simp only [Value.slice.injEq] at hv4
  obtain ⟨rfl, rfl, rfl⟩ := hv4
  exact ⟨A, c, A2, d, M, e, L, lc, T, tc, hs, f0, f1, g0, g1, l0, l1, t0, t1, ⟨rfl, h1, h2, h3, h3t, h4, h4t, o1, o2, o3, o4, o5, o6, i1, i2, i3, i4⟩⟩

set_option maxRecDepth 100000 in
set_option maxHeartbeats 3200000 in
theorem toMachine_any (lo hi : Nat) (v : Value) (X : Mch) (w : World) (h : MchV w lo hi v X) (hhi : hi ≤ w.heap.size) (hs : SmallX X) :
    Calls Tryz.prog 58 #[v] w fun e w' => ∃ v', e = .returned v' ∧ MchX w' w.heap.size w'.heap.size v' X ∧ Below w.heap.size w w' := by
  obtain ⟨s, A, n, c, A2, m, d, M, q, e0, L, l, lc, T, r, tc, rfl, hf, hq, hM, hqe, hem, hl, hL, hllc, hlm, hr, hT, hrt, htm⟩ := h.parts
  have Hq := Lib.hid hq; have Hl := Lib.hid hl; have Hr := Lib.hid hr; have HS := Lib.hid hs
  have hq1 : q ≤ 1048576 := by rw [← hq]; exact hs.ms
  have hl1 : l ≤ 1048576 := by rw [← hl]; exact hs.ln
  have hr1 : r ≤ 1048576 := by rw [← hr]; exact hs.wt
  obtain ⟨sp, hsp⟩ : ∃ x, X.sp = x := ⟨_, rfl⟩
  obtain ⟨W, hW⟩ : ∃ x, X.w = x := ⟨_, rfl⟩
  obtain ⟨t, ht⟩ : ∃ x, X.t = x := ⟨_, rfl⟩
  obtain ⟨k, hk⟩ : ∃ x, X.k = x := ⟨_, rfl⟩
  rw [hsp, hW, ht, hk] at h ⊢
  have HE : Hid (X.sp = sp ∧ X.w = W ∧ X.t = t ∧ X.k = k) := ⟨hsp, hW, ht, hk⟩
  obtain ⟨wA, hA, hbA, hzA, KA⟩ := mxWorld w #[.string s, .slice A n c, .slice A2 m d, .slice M q e0, .int .i64 sp, .int .i64 W, .int .i64 t, .int .i64 k, .slice L l lc, .slice T r tc] 53
  obtain ⟨wB, hB, hbB, hzB, RB⟩ := mxWorld wA #[.string ⟨#[]⟩, .slice none 0 0, .slice none 0 0, .slice none 0 0, .int .i64 0, .int .i64 0, .int .i64 0, .int .i64 0, .slice none 0 0, .slice none 0 0] 61
  obtain ⟨wC, hC, hbC, hzC, OC⟩ := mxWorld wB #[.string ⟨#[]⟩, .slice none 0 0, .slice none 0 0, .slice none 0 0, .int .i64 0, .int .i64 0, .int .i64 0, .int .i64 0, .slice none 0 0, .slice none 0 0] 61
  rw [hzA] at RB
  rw [hzB, hzA] at OC
  have K0 := Lib.hid ((KA.below hbB (by omega)).below hbC (by omega))
  have R0 := Lib.hid (RB.below hbC (by omega))
  have O0 := Lib.hid OC
  have hb0 : Below w.heap.size w wC := (hbA.trans (hbB.mono (by omega))).trans (hbC.mono (by omega))
  have T0 := Lib.hid hb0
  have F0 := Lib.hid (hf.below hhi hb0); have M0 := Lib.hid (hM.below hhi hb0); have L0 := Lib.hid (hL.below hhi hb0); have W0 := Lib.hid (hT.below hhi hb0)
  have Z0 : Hid (wC.heap.size = w.heap.size + 3) := by show _ = _; omega
  subst hA hB hC
  clear h hf hq hM hqe hem hl hL hllc hlm hr hT hrt htm hsp hW ht hk hbA hbB hbC hb0 hzA hzB hzC KA RB OC hs
  go_enter Tryz.func58, Tryz.ntmps58
  go_wp2_with fail
  have zz := Z0.out
  refine (toFont_any lo hi _ X.f _ F0.out (by omega) HS.out.f).mono ?_
  rintro e w1 ⟨v1, rfl, hO1, hb⟩
  obtain ⟨s1, A1, n1, c1, B1, m1, d1, rfl⟩ := hO1.names
  have K1 := Lib.hid (K0.out.below hb (by omega)); have R1 := Lib.hid (R0.out.below hb (by omega)); have O1 := Lib.hid (O0.out.below hb (by omega)); have T1 := Lib.hid (T0.out.trans (hb.mono (by omega)))
  have M1 := Lib.hid (M0.out.below (by omega) hb); have L1 := Lib.hid (L0.out.below (by omega) hb); have W1 := Lib.hid (W0.out.below (by omega) hb)
  have z1 : w.heap.size + 3 ≤ w1.heap.size := by have := hb.size; omega
  rw [zz] at hO1
  have P1 := Lib.hid hO1
  clear hO1 hb zz Z0 K0 R0 O0 T0 M0 L0 W0 F0
  obtain ⟨kc0, kc1, kc2, kc3, kc4, kc5, kc6, kc7, kc8, kc9⟩ := K1.out.ten
  obtain ⟨oc0, oc1, oc2, oc3, oc4, oc5, oc6, oc7, oc8, oc9⟩ := O1.out.ten
  have fz := O1.out.warm
  go_wp2_with fail
  obtain ⟨x1, hx⟩ : ∃ x, (((w1.setCell ⟨w.heap.size + 1 + 1, 0, none⟩ (.string s1)).setCell ⟨w.heap.size + 1 + 1, 1, none⟩ (.slice A1 n1 c1)).setCell ⟨w.heap.size + 1 + 1, 2, none⟩ (.slice B1 m1 d1)) = x := ⟨_, rfl⟩
  have ox : Blk x1 (w.heap.size + 1 + 1) #[.string s1, .slice A1 n1 c1, .slice B1 m1 d1, .slice none 0 0, .int .i64 0, .int .i64 0, .int .i64 0, .int .i64 0, .slice none 0 0, .slice none 0 0] 61 := by rw [← hx]; exact (heapSet (i := 2) (heapSet (i := 1) (heapSet (i := 0) O1.out _) _) _)
  have kx := (((K1.out.other ⟨w.heap.size + 1 + 1, 0, none⟩ (.string s1) (by show w.heap.size ≠ w.heap.size + 1 + 1; omega)).other ⟨w.heap.size + 1 + 1, 1, none⟩ (.slice A1 n1 c1) (by show w.heap.size ≠ w.heap.size + 1 + 1; omega)).other ⟨w.heap.size + 1 + 1, 2, none⟩ (.slice B1 m1 d1) (by show w.heap.size ≠ w.heap.size + 1 + 1; omega))
  have rx := (((R1.out.other ⟨w.heap.size + 1 + 1, 0, none⟩ (.string s1) (by show w.heap.size + 1 ≠ w.heap.size + 1 + 1; omega)).other ⟨w.heap.size + 1 + 1, 1, none⟩ (.slice A1 n1 c1) (by show w.heap.size + 1 ≠ w.heap.size + 1 + 1; omega)).other ⟨w.heap.size + 1 + 1, 2, none⟩ (.slice B1 m1 d1) (by show w.heap.size + 1 ≠ w.heap.size + 1 + 1; omega))
  have bx : Below w.heap.size w1 x1 := by rw [← hx]; exact ((((Below.refl _ _).setCell (show w.heap.size ≤ (⟨w.heap.size + 1 + 1, 0, none⟩ : Addr).block by show w.heap.size ≤ w.heap.size + 1 + 1; omega) _).setCell (show w.heap.size ≤ (⟨w.heap.size + 1 + 1, 1, none⟩ : Addr).block by show w.heap.size ≤ w.heap.size + 1 + 1; omega) _).setCell (show w.heap.size ≤ (⟨w.heap.size + 1 + 1, 2, none⟩ : Addr).block by show w.heap.size ≤ w.heap.size + 1 + 1; omega) _)
  have zx : x1.heap.size = w1.heap.size := by rw [← hx]; simp
  rw [hx] at kx rx ⊢
  have Mx := M1.out.below hhi bx
  have Lx := L1.out.below hhi bx
  have Wx := W1.out.below hhi bx
  have Px := (((P1.out.setB (b := w.heap.size + 1 + 1) (o := 0) (by omega) (.string s1)).setB (b := w.heap.size + 1 + 1) (o := 1) (by omega) (.slice A1 n1 c1)).setB (b := w.heap.size + 1 + 1) (o := 2) (by omega) (.slice B1 m1 d1))
  rw [hx] at Px
  refine (toMatrixSS_any lo hi _ _ _ X.ms x1 Hq.out hq1 HS.out.row (by omega) Mx).mono ?_
  rintro e w2 ⟨v2, hs2, rfl, hO2, hb⟩
  obtain ⟨M2, e2, hv2, -⟩ := hO2.form
  rw [Hq.out] at hv2
  subst hv2
  rw [zx] at hO2
  have zq : x1.heap.size ≤ w2.heap.size := hb.size
  have K2 := Lib.hid (kx.below hb (by omega)); have R2 := Lib.hid (rx.below hb (by omega)); have O2 := Lib.hid (ox.below hb (by omega)); have T2 := Lib.hid ((T1.out.trans bx).trans (hb.mono (by omega)))
  have L2 := Lib.hid (Lx.below (by omega) hb)
  have W2 := Lib.hid (Wx.below (by omega) hb)
  have P2 := Lib.hid (Px.below hb)
  have z2 : w1.heap.size ≤ w2.heap.size := by omega
  have G2 := Lib.hid (hO2)
  clear hO2 Mx M1 zx hb hx ox kx rx bx zq Lx Wx Px K1 R1 O1 T1 L1 W1 P1 kc0 kc1 kc2 kc3 kc4 kc5 kc6 kc7 kc8 kc9 oc0 oc1 oc2 oc3 oc4 oc5 oc6 oc7 oc8 oc9 fz
  obtain ⟨kc0, kc1, kc2, kc3, kc4, kc5, kc6, kc7, kc8, kc9⟩ := K2.out.ten
  obtain ⟨oc0, oc1, oc2, oc3, oc4, oc5, oc6, oc7, oc8, oc9⟩ := O2.out.ten
  have fz := O2.out.warm
  go_wp2_with fail
  obtain ⟨x2, hx⟩ : ∃ x, ((w2.setCell ⟨w.heap.size + 1 + 1, 3, none⟩ (.slice M2 q e2)).setCell ⟨w.heap.size + 1 + 1, 4, none⟩ (.int .i64 sp)) = x := ⟨_, rfl⟩
  have ox : Blk x2 (w.heap.size + 1 + 1) #[.string s1, .slice A1 n1 c1, .slice B1 m1 d1, .slice M2 q e2, .int .i64 sp, .int .i64 0, .int .i64 0, .int .i64 0, .slice none 0 0, .slice none 0 0] 61 := by rw [← hx]; exact (heapSet (i := 4) (heapSet (i := 3) O2.out _) _)
  have kx := ((K2.out.other ⟨w.heap.size + 1 + 1, 3, none⟩ (.slice M2 q e2) (by show w.heap.size ≠ w.heap.size + 1 + 1; omega)).other ⟨w.heap.size + 1 + 1, 4, none⟩ (.int .i64 sp) (by show w.heap.size ≠ w.heap.size + 1 + 1; omega))
  have rx := ((R2.out.other ⟨w.heap.size + 1 + 1, 3, none⟩ (.slice M2 q e2) (by show w.heap.size + 1 ≠ w.heap.size + 1 + 1; omega)).other ⟨w.heap.size + 1 + 1, 4, none⟩ (.int .i64 sp) (by show w.heap.size + 1 ≠ w.heap.size + 1 + 1; omega))
  have bx : Below w.heap.size w2 x2 := by rw [← hx]; exact (((Below.refl _ _).setCell (show w.heap.size ≤ (⟨w.heap.size + 1 + 1, 3, none⟩ : Addr).block by show w.heap.size ≤ w.heap.size + 1 + 1; omega) _).setCell (show w.heap.size ≤ (⟨w.heap.size + 1 + 1, 4, none⟩ : Addr).block by show w.heap.size ≤ w.heap.size + 1 + 1; omega) _)
  have zx : x2.heap.size = w2.heap.size := by rw [← hx]; simp
  rw [hx] at kx rx ⊢
  have Lx := L2.out.below hhi bx
  have Wx := W2.out.below hhi bx
  have Px := ((P2.out.setB (b := w.heap.size + 1 + 1) (o := 3) (by omega) (.slice M2 q e2)).setB (b := w.heap.size + 1 + 1) (o := 4) (by omega) (.int .i64 sp))
  rw [hx] at Px
  have Gx := ((G2.out.setB (b := w.heap.size + 1 + 1) (o := 3) (by omega) (.slice M2 q e2)).setB (b := w.heap.size + 1 + 1) (o := 4) (by omega) (.int .i64 sp))
  rw [hx] at Gx
  refine (toMeasure_any W t k x2).mono ?_
  rintro e w3 ⟨rfl, hb⟩
  have zq : x2.heap.size ≤ w3.heap.size := hb.size
  have K3 := Lib.hid (kx.below hb (by omega)); have R3 := Lib.hid (rx.below hb (by omega)); have O3 := Lib.hid (ox.below hb (by omega)); have T3 := Lib.hid ((T2.out.trans bx).trans (hb.mono (by omega)))
  have L3 := Lib.hid (Lx.below (by omega) hb)
  have W3 := Lib.hid (Wx.below (by omega) hb)
  have P3 := Lib.hid (Px.below hb)
  have G3 := Lib.hid (Gx.below hb)
  have z3 : w2.heap.size ≤ w3.heap.size := by omega
  clear zx hb hx ox kx rx bx zq Lx Wx Px Gx K2 R2 O2 T2 L2 W2 P2 G2 kc0 kc1 kc2 kc3 kc4 kc5 kc6 kc7 kc8 kc9 oc0 oc1 oc2 oc3 oc4 oc5 oc6 oc7 oc8 oc9 fz
  obtain ⟨kc0, kc1, kc2, kc3, kc4, kc5, kc6, kc7, kc8, kc9⟩ := K3.out.ten
  obtain ⟨oc0, oc1, oc2, oc3, oc4, oc5, oc6, oc7, oc8, oc9⟩ := O3.out.ten
  have fz := O3.out.warm
  go_wp2_with fail
  obtain ⟨x3, hx⟩ : ∃ x, (((w3.setCell ⟨w.heap.size + 1 + 1, 5, none⟩ (.int .i64 W)).setCell ⟨w.heap.size + 1 + 1, 6, none⟩ (.int .i64 t)).setCell ⟨w.heap.size + 1 + 1, 7, none⟩ (.int .i64 k)) = x := ⟨_, rfl⟩
  have ox : Blk x3 (w.heap.size + 1 + 1) #[.string s1, .slice A1 n1 c1, .slice B1 m1 d1, .slice M2 q e2, .int .i64 sp, .int .i64 W, .int .i64 t, .int .i64 k, .slice none 0 0, .slice none 0 0] 61 := by rw [← hx]; exact (heapSet (i := 7) (heapSet (i := 6) (heapSet (i := 5) O3.out _) _) _)
  have kx := (((K3.out.other ⟨w.heap.size + 1 + 1, 5, none⟩ (.int .i64 W) (by show w.heap.size ≠ w.heap.size + 1 + 1; omega)).other ⟨w.heap.size + 1 + 1, 6, none⟩ (.int .i64 t) (by show w.heap.size ≠ w.heap.size + 1 + 1; omega)).other ⟨w.heap.size + 1 + 1, 7, none⟩ (.int .i64 k) (by show w.heap.size ≠ w.heap.size + 1 + 1; omega))
  have rx := (((R3.out.other ⟨w.heap.size + 1 + 1, 5, none⟩ (.int .i64 W) (by show w.heap.size + 1 ≠ w.heap.size + 1 + 1; omega)).other ⟨w.heap.size + 1 + 1, 6, none⟩ (.int .i64 t) (by show w.heap.size + 1 ≠ w.heap.size + 1 + 1; omega)).other ⟨w.heap.size + 1 + 1, 7, none⟩ (.int .i64 k) (by show w.heap.size + 1 ≠ w.heap.size + 1 + 1; omega))
  have bx : Below w.heap.size w3 x3 := by rw [← hx]; exact ((((Below.refl _ _).setCell (show w.heap.size ≤ (⟨w.heap.size + 1 + 1, 5, none⟩ : Addr).block by show w.heap.size ≤ w.heap.size + 1 + 1; omega) _).setCell (show w.heap.size ≤ (⟨w.heap.size + 1 + 1, 6, none⟩ : Addr).block by show w.heap.size ≤ w.heap.size + 1 + 1; omega) _).setCell (show w.heap.size ≤ (⟨w.heap.size + 1 + 1, 7, none⟩ : Addr).block by show w.heap.size ≤ w.heap.size + 1 + 1; omega) _)
  have zx : x3.heap.size = w3.heap.size := by rw [← hx]; simp
  rw [hx] at kx rx ⊢
  have Lx := L3.out.below hhi bx
  have Wx := W3.out.below hhi bx
  have Px := (((P3.out.setB (b := w.heap.size + 1 + 1) (o := 5) (by omega) (.int .i64 W)).setB (b := w.heap.size + 1 + 1) (o := 6) (by omega) (.int .i64 t)).setB (b := w.heap.size + 1 + 1) (o := 7) (by omega) (.int .i64 k))
  rw [hx] at Px
  have Gx := (((G3.out.setB (b := w.heap.size + 1 + 1) (o := 5) (by omega) (.int .i64 W)).setB (b := w.heap.size + 1 + 1) (o := 6) (by omega) (.int .i64 t)).setB (b := w.heap.size + 1 + 1) (o := 7) (by omega) (.int .i64 k))
  rw [hx] at Gx
  refine (toMatrixS_any lo hi _ _ _ X.ln x3 Hl.out hl1 (by omega) Lx).mono ?_
  rintro e w4 ⟨v4, rfl, hO4, hb⟩
  obtain ⟨L2, f2, hv4, -⟩ := hO4.form
  rw [Hl.out] at hv4
  subst hv4
  have Qt := Lib.hid (fun k hk => (hO4.lt k hk).2)
  rw [zx] at hO4
  have zq : x3.heap.size ≤ w4.heap.size := hb.size
  have K4 := Lib.hid (kx.below hb (by omega)); have R4 := Lib.hid (rx.below hb (by omega)); have O4 := Lib.hid (ox.below hb (by omega)); have T4 := Lib.hid ((T3.out.trans bx).trans (hb.mono (by omega)))
  have W4 := Lib.hid (Wx.below (by omega) hb)
  have P4 := Lib.hid (Px.below hb)
  have G4 := Lib.hid (Gx.below hb)
  have z4 : w3.heap.size ≤ w4.heap.size := by omega
  have Q4 := Lib.hid (hO4)
  clear hO4 Lx L3 zx hb hx ox kx rx bx zq Wx Px Gx K3 R3 O3 T3 W3 P3 G3 kc0 kc1 kc2 kc3 kc4 kc5 kc6 kc7 kc8 kc9 oc0 oc1 oc2 oc3 oc4 oc5 oc6 oc7 oc8 oc9 fz
  obtain ⟨kc0, kc1, kc2, kc3, kc4, kc5, kc6, kc7, kc8, kc9⟩ := K4.out.ten
  obtain ⟨oc0, oc1, oc2, oc3, oc4, oc5, oc6, oc7, oc8, oc9⟩ := O4.out.ten
  have fz := O4.out.warm
  go_wp2_with fail
  obtain ⟨x4, hx⟩ : ∃ x, (w4.setCell ⟨w.heap.size + 1 + 1, 8, none⟩ (.slice L2 l f2)) = x := ⟨_, rfl⟩
  have ox : Blk x4 (w.heap.size + 1 + 1) #[.string s1, .slice A1 n1 c1, .slice B1 m1 d1, .slice M2 q e2, .int .i64 sp, .int .i64 W, .int .i64 t, .int .i64 k, .slice L2 l f2, .slice none 0 0] 61 := by rw [← hx]; exact (heapSet (i := 8) O4.out _)
  have kx := (K4.out.other ⟨w.heap.size + 1 + 1, 8, none⟩ (.slice L2 l f2) (by show w.heap.size ≠ w.heap.size + 1 + 1; omega))
  have rx := (R4.out.other ⟨w.heap.size + 1 + 1, 8, none⟩ (.slice L2 l f2) (by show w.heap.size + 1 ≠ w.heap.size + 1 + 1; omega))
  have bx : Below w.heap.size w4 x4 := by rw [← hx]; exact ((Below.refl _ _).setCell (show w.heap.size ≤ (⟨w.heap.size + 1 + 1, 8, none⟩ : Addr).block by show w.heap.size ≤ w.heap.size + 1 + 1; omega) _)
  have zx : x4.heap.size = w4.heap.size := by rw [← hx]; simp
  rw [hx] at kx rx ⊢
  have Wx := W4.out.below hhi bx
  have Px := (P4.out.setB (b := w.heap.size + 1 + 1) (o := 8) (by omega) (.slice L2 l f2))
  rw [hx] at Px
  have Gx := (G4.out.setB (b := w.heap.size + 1 + 1) (o := 8) (by omega) (.slice L2 l f2))
  rw [hx] at Gx
  have Qx := (ownM_set (a := ⟨w.heap.size + 1 + 1, 8, none⟩) Q4.out (by show w.heap.size + 1 + 1 < _; omega) (.slice L2 l f2))
  rw [hx] at Qx
  refine (toMatrixS_any lo hi _ _ _ X.wt x4 Hr.out hr1 (by omega) Wx).mono ?_
  rintro e w5 ⟨v5, rfl, hO5, hb⟩
  obtain ⟨T2, h2, hv5, -⟩ := hO5.form
  rw [Hr.out] at hv5
  subst hv5
  have Ut := Lib.hid (fun k hk => (hO5.lt k hk).2)
  rw [zx] at hO5
  have zq : x4.heap.size ≤ w5.heap.size := hb.size
  have K5 := Lib.hid (kx.below hb (by omega)); have R5 := Lib.hid (rx.below hb (by omega)); have O5 := Lib.hid (ox.below hb (by omega)); have T5 := Lib.hid ((T4.out.trans bx).trans (hb.mono (by omega)))
  have P5 := Lib.hid (Px.below hb)
  have G5 := Lib.hid (Gx.below hb)
  have Q5 := Lib.hid (Qx.below hb)
  have z5 : w4.heap.size ≤ w5.heap.size := by omega
  have U5 := Lib.hid (hO5)
  clear hO5 Wx W4 zx hb hx ox kx rx bx zq Px Gx Qx K4 R4 O4 T4 P4 G4 Q4 kc0 kc1 kc2 kc3 kc4 kc5 kc6 kc7 kc8 kc9 oc0 oc1 oc2 oc3 oc4 oc5 oc6 oc7 oc8 oc9 fz
  obtain ⟨kc0, kc1, kc2, kc3, kc4, kc5, kc6, kc7, kc8, kc9⟩ := K5.out.ten
  obtain ⟨oc0, oc1, oc2, oc3, oc4, oc5, oc6, oc7, oc8, oc9⟩ := O5.out.ten
  have fz := O5.out.warm
  obtain ⟨rc0, rc1, rc2, rc3, rc4, rc5, rc6, rc7, rc8, rc9⟩ := R5.out.ten
  have fr := R5.out.warm
  go_wp2_with fail
  obtain ⟨x5, hx⟩ : ∃ x, (((((((((((w5.setCell ⟨w.heap.size + 1 + 1, 9, none⟩ (.slice T2 r h2)).setCell ⟨w.heap.size + 1, 0, none⟩ (.string s1)).setCell ⟨w.heap.size + 1, 1, none⟩ (.slice A1 n1 c1)).setCell ⟨w.heap.size + 1, 2, none⟩ (.slice B1 m1 d1)).setCell ⟨w.heap.size + 1, 3, none⟩ (.slice M2 q e2)).setCell ⟨w.heap.size + 1, 4, none⟩ (.int .i64 sp)).setCell ⟨w.heap.size + 1, 5, none⟩ (.int .i64 W)).setCell ⟨w.heap.size + 1, 6, none⟩ (.int .i64 t)).setCell ⟨w.heap.size + 1, 7, none⟩ (.int .i64 k)).setCell ⟨w.heap.size + 1, 8, none⟩ (.slice L2 l f2)).setCell ⟨w.heap.size + 1, 9, none⟩ (.slice T2 r h2)) = x := ⟨_, rfl⟩
  have rx : Blk x5 (w.heap.size + 1) #[.string s1, .slice A1 n1 c1, .slice B1 m1 d1, .slice M2 q e2, .int .i64 sp, .int .i64 W, .int .i64 t, .int .i64 k, .slice L2 l f2, .slice T2 r h2] 61 := by rw [← hx]; exact Blk.fill (R5.out.other ⟨w.heap.size + 1 + 1, 9, none⟩ (.slice T2 r h2) (by show w.heap.size + 1 ≠ w.heap.size + 1 + 1; omega)) (.string s1) (.slice A1 n1 c1) (.slice B1 m1 d1) (.slice M2 q e2) (.int .i64 sp) (.int .i64 W) (.int .i64 t) (.int .i64 k) (.slice L2 l f2) (.slice T2 r h2)
  have bx : Below w.heap.size w5 x5 := by rw [← hx]; exact ((((((((((((Below.refl _ _).setCell (show w.heap.size ≤ (⟨w.heap.size + 1 + 1, 9, none⟩ : Addr).block by show w.heap.size ≤ w.heap.size + 1 + 1; omega) (.slice T2 r h2)).setCell (show w.heap.size ≤ (⟨w.heap.size + 1, 0, none⟩ : Addr).block by show w.heap.size ≤ w.heap.size + 1; omega) (.string s1)).setCell (show w.heap.size ≤ (⟨w.heap.size + 1, 1, none⟩ : Addr).block by show w.heap.size ≤ w.heap.size + 1; omega) (.slice A1 n1 c1)).setCell (show w.heap.size ≤ (⟨w.heap.size + 1, 2, none⟩ : Addr).block by show w.heap.size ≤ w.heap.size + 1; omega) (.slice B1 m1 d1)).setCell (show w.heap.size ≤ (⟨w.heap.size + 1, 3, none⟩ : Addr).block by show w.heap.size ≤ w.heap.size + 1; omega) (.slice M2 q e2)).setCell (show w.heap.size ≤ (⟨w.heap.size + 1, 4, none⟩ : Addr).block by show w.heap.size ≤ w.heap.size + 1; omega) (.int .i64 sp)).setCell (show w.heap.size ≤ (⟨w.heap.size + 1, 5, none⟩ : Addr).block by show w.heap.size ≤ w.heap.size + 1; omega) (.int .i64 W)).setCell (show w.heap.size ≤ (⟨w.heap.size + 1, 6, none⟩ : Addr).block by show w.heap.size ≤ w.heap.size + 1; omega) (.int .i64 t)).setCell (show w.heap.size ≤ (⟨w.heap.size + 1, 7, none⟩ : Addr).block by show w.heap.size ≤ w.heap.size + 1; omega) (.int .i64 k)).setCell (show w.heap.size ≤ (⟨w.heap.size + 1, 8, none⟩ : Addr).block by show w.heap.size ≤ w.heap.size + 1; omega) (.slice L2 l f2)).setCell (show w.heap.size ≤ (⟨w.heap.size + 1, 9, none⟩ : Addr).block by show w.heap.size ≤ w.heap.size + 1; omega) (.slice T2 r h2))
  have zx : x5.heap.size = w5.heap.size := by rw [← hx]; simp
  have Px := (((((((((((P5.out.setB (b := w.heap.size + 1 + 1) (o := 9) (by omega) (.slice T2 r h2)).setB (b := w.heap.size + 1) (o := 0) (by omega) (.string s1)).setB (b := w.heap.size + 1) (o := 1) (by omega) (.slice A1 n1 c1)).setB (b := w.heap.size + 1) (o := 2) (by omega) (.slice B1 m1 d1)).setB (b := w.heap.size + 1) (o := 3) (by omega) (.slice M2 q e2)).setB (b := w.heap.size + 1) (o := 4) (by omega) (.int .i64 sp)).setB (b := w.heap.size + 1) (o := 5) (by omega) (.int .i64 W)).setB (b := w.heap.size + 1) (o := 6) (by omega) (.int .i64 t)).setB (b := w.heap.size + 1) (o := 7) (by omega) (.int .i64 k)).setB (b := w.heap.size + 1) (o := 8) (by omega) (.slice L2 l f2)).setB (b := w.heap.size + 1) (o := 9) (by omega) (.slice T2 r h2))
  have Gx := (((((((((((G5.out.setB (b := w.heap.size + 1 + 1) (o := 9) (by omega) (.slice T2 r h2)).setB (b := w.heap.size + 1) (o := 0) (by omega) (.string s1)).setB (b := w.heap.size + 1) (o := 1) (by omega) (.slice A1 n1 c1)).setB (b := w.heap.size + 1) (o := 2) (by omega) (.slice B1 m1 d1)).setB (b := w.heap.size + 1) (o := 3) (by omega) (.slice M2 q e2)).setB (b := w.heap.size + 1) (o := 4) (by omega) (.int .i64 sp)).setB (b := w.heap.size + 1) (o := 5) (by omega) (.int .i64 W)).setB (b := w.heap.size + 1) (o := 6) (by omega) (.int .i64 t)).setB (b := w.heap.size + 1) (o := 7) (by omega) (.int .i64 k)).setB (b := w.heap.size + 1) (o := 8) (by omega) (.slice L2 l f2)).setB (b := w.heap.size + 1) (o := 9) (by omega) (.slice T2 r h2))
  have Qx := (ownM_set (a := ⟨w.heap.size + 1, 9, none⟩) (ownM_set (a := ⟨w.heap.size + 1, 8, none⟩) (ownM_set (a := ⟨w.heap.size + 1, 7, none⟩) (ownM_set (a := ⟨w.heap.size + 1, 6, none⟩) (ownM_set (a := ⟨w.heap.size + 1, 5, none⟩) (ownM_set (a := ⟨w.heap.size + 1, 4, none⟩) (ownM_set (a := ⟨w.heap.size + 1, 3, none⟩) (ownM_set (a := ⟨w.heap.size + 1, 2, none⟩) (ownM_set (a := ⟨w.heap.size + 1, 1, none⟩) (ownM_set (a := ⟨w.heap.size + 1, 0, none⟩) (ownM_set (a := ⟨w.heap.size + 1 + 1, 9, none⟩) Q5.out (by show w.heap.size + 1 + 1 < _; omega) (.slice T2 r h2)) (by show w.heap.size + 1 < _; omega) (.string s1)) (by show w.heap.size + 1 < _; omega) (.slice A1 n1 c1)) (by show w.heap.size + 1 < _; omega) (.slice B1 m1 d1)) (by show w.heap.size + 1 < _; omega) (.slice M2 q e2)) (by show w.heap.size + 1 < _; omega) (.int .i64 sp)) (by show w.heap.size + 1 < _; omega) (.int .i64 W)) (by show w.heap.size + 1 < _; omega) (.int .i64 t)) (by show w.heap.size + 1 < _; omega) (.int .i64 k)) (by show w.heap.size + 1 < _; omega) (.slice L2 l f2)) (by show w.heap.size + 1 < _; omega) (.slice T2 r h2))
  have Ux := (ownM_set (a := ⟨w.heap.size + 1, 9, none⟩) (ownM_set (a := ⟨w.heap.size + 1, 8, none⟩) (ownM_set (a := ⟨w.heap.size + 1, 7, none⟩) (ownM_set (a := ⟨w.heap.size + 1, 6, none⟩) (ownM_set (a := ⟨w.heap.size + 1, 5, none⟩) (ownM_set (a := ⟨w.heap.size + 1, 4, none⟩) (ownM_set (a := ⟨w.heap.size + 1, 3, none⟩) (ownM_set (a := ⟨w.heap.size + 1, 2, none⟩) (ownM_set (a := ⟨w.heap.size + 1, 1, none⟩) (ownM_set (a := ⟨w.heap.size + 1, 0, none⟩) (ownM_set (a := ⟨w.heap.size + 1 + 1, 9, none⟩) U5.out (by show w.heap.size + 1 + 1 < _; omega) (.slice T2 r h2)) (by show w.heap.size + 1 < _; omega) (.string s1)) (by show w.heap.size + 1 < _; omega) (.slice A1 n1 c1)) (by show w.heap.size + 1 < _; omega) (.slice B1 m1 d1)) (by show w.heap.size + 1 < _; omega) (.slice M2 q e2)) (by show w.heap.size + 1 < _; omega) (.int .i64 sp)) (by show w.heap.size + 1 < _; omega) (.int .i64 W)) (by show w.heap.size + 1 < _; omega) (.int .i64 t)) (by show w.heap.size + 1 < _; omega) (.int .i64 k)) (by show w.heap.size + 1 < _; omega) (.slice L2 l f2)) (by show w.heap.size + 1 < _; omega) (.slice T2 r h2))
  rw [hx] at Px Gx Qx Ux ⊢
  obtain ⟨r0, r1, r2, r3, r4, r5, r6, r7, r8, r9⟩ := rx.ten
  have hX := MchX.build (B := w.heap.size) (hi := x5.heap.size) (l1 := w4.heap.size) (t1 := w5.heap.size) Px Gx Qx Qt.out Ux Ut.out (by unfold Off; omega) (by unfold Off; omega) (by unfold Off; omega) (by unfold Off; omega) (by unfold Off; omega) (by unfold Off; omega) ⟨by omega, by omega⟩ ⟨by omega, by omega⟩ ⟨by omega, by omega⟩ ⟨by omega, by omega⟩
  rw [HE.out.1, HE.out.2.1, HE.out.2.2.1, HE.out.2.2.2] at hX
  refine bodyPost_ret (v := .agg #[.string s1, .slice A1 n1 c1, .slice B1 m1 d1, .slice M2 q e2, .int .i64 sp, .int .i64 W, .int .i64 t, .int .i64 k, .slice L2 l f2, .slice T2 r h2]) (by simp [results, Tryz.results58, go_sem, r0, r1, r2, r3, r4, r5, r6, r7, r8, r9]) rfl ⟨_, rfl, hX, T5.out.trans bx⟩
end Go.Proofs.YtobakeahbgodbaaGreat

namespace Go.Proofs.YtobakeahbgodbaaGreat
open Go.RowKit
set_option linter.unusedVariables false

theorem Blk.chg {w w' : World} {lo hi B : Nat} {cs : Array Value} {T : TypeId} (h : Blk w B cs T) (hc : Chg lo hi w w') (hn : ¬ (lo ≤ B ∧ B < hi)) : Blk w' B cs T := (hc.block B h.lt hn).trans h
def mkF (k : Int) (f : Fnt) : Fnt := ⟨f.s, upFrom k f.ws.length, upFrom (k + f.ws.length) f.cs.length⟩
theorem upFrom_length (k : Int) (n : Nat) : (upFrom k n).length = n := by simp [upFrom]
set_option maxRecDepth 100000 in
set_option maxHeartbeats 800000 in
theorem markFontO_any (lo hi : Nat) (v : Value) (f : Fnt) (k : Int) (w : World) (h : FontO w lo hi v f) (hlo : lo ≤ w.heap.size) (hhi : hi ≤ w.heap.size) (hs : Small f) (hk0 : 0 ≤ k) (hk1 : k ≤ 1048576) (hk2 : k + f.ws.length ≤ 1048577) :
    Calls Tryz.prog 20 #[v, .int .i64 k] w fun e w' => e = .returned (.int .i64 (k + f.ws.length + f.cs.length)) ∧ FontO w' lo hi v (mkF k f) ∧ Chg lo hi w w' := by
  obtain ⟨A, c, A2, d, mid, rfl, hO1, hm1, hO2, hm2, h3, h4, hss⟩ := h
  obtain ⟨s, ws, cs⟩ := f
  obtain ⟨hs1, hs2, hs3⟩ := hs
  simp only at *
  obtain ⟨n, hn⟩ : ∃ n, ws.length = n := ⟨_, rfl⟩
  obtain ⟨m, hm⟩ : ∃ m, cs.length = m := ⟨_, rfl⟩
  have Hn := Lib.hid hn; have Hm := Lib.hid hm
  have HF : Hid (mkF k ⟨s, ws, cs⟩ = ⟨s, upFrom k n, upFrom (k + n) m⟩) := by show _ = _; unfold mkF; simp only; rw [hn, hm]
  rw [hn] at hO1 hm1 hs2 hk2
  rw [hm] at hO2 hm2 hs3
  rw [hn, hm, HF.out]
  have hL1 := Lib.hid (fun g hg => World.ownsRow.lt hO1 g hg)
  have hL2 := Lib.hid (fun g hg => World.ownsRow.lt hO2 g hg)
  have hW : Below w.heap.size w (w.alloc (.cells #[.string s, .slice A n c, .slice A2 m d] 25)) := (Below.refl _ _).alloc (Nat.le_refl _) _
  have G1 := Lib.hid (hO1.below hW); have G2 := Lib.hid (hO2.below hW)
  have HW := Lib.hid hW; have M1 := Lib.hid hm1; have M2 := Lib.hid hm2; have HSS := Lib.hid hss
  clear hn hm hO1 hO2 hW hm1 hm2 HF hss
  go_enter Tryz.func20, Tryz.ntmps20
  go_wp2_with fail
  refine (markIntS_any lo _ _ ws _ hk0 (by omega) (by rw [Hn.out]; exact hs2) G1.out).mono ?_
  rintro e w1 ⟨rfl, hP1, hg1⟩
  rw [Hn.out] at hP1
  rw [Hn.out]
  have c1 : Chg lo hi (w.alloc (.cells #[.string s, .slice A n c, .slice A2 m d] 25)) w1 := Chg.of_grown hg1 (fun g hg => ⟨(hL1.out g hg).1, by have := M1.out g hg; omega⟩)
  have O2 : Own w1 mid (.slice A2 m d) cs := by
    refine (Chg.of_grown (lo := lo) (hi := mid) hg1 (fun g hg => ⟨(hL1.out g hg).1, M1.out g hg⟩)).own G2.out fun g hg => ?_
    have := (hL2.out g hg).1; omega
  have k2 : w1.cell? ⟨w.heap.size, 2, none⟩ = some (.slice A2 m d) := by
    rw [c1.cell (by simp) (by simp <;> omega)]
    rw [World.cell?_alloc_at _ _ _ _ rfl]; rfl
  have C1 := Lib.hid c1
  have P1 := Lib.hid hP1
  have P2 := Lib.hid O2
  clear hP1 hg1 c1 O2
  go_wp2_with fail
  refine (markIntS_any mid _ _ cs _ (by omega) (by omega) (by rw [Hm.out]; exact hs3) P2.out).mono ?_
  rintro e w2 ⟨rfl, hP2, hg2⟩
  rw [Hm.out] at hP2
  rw [Hm.out]
  have C2 := Lib.hid (Chg.of_grown (lo := lo) (hi := hi) hg2 (fun g hg => ⟨by have := (hL2.out g hg).1; omega, M2.out g hg⟩))
  have R1 := Lib.hid ((Chg.of_grown (lo := mid) (hi := hi) hg2 (fun g hg => ⟨(hL2.out g hg).1, M2.out g hg⟩)).own P1.out (fun g hg => by have := M1.out g hg; omega))
  have R2 := Lib.hid hP2
  clear hP2 hg2
  go_wp2
  go_ret
  exact ⟨rfl, ⟨A, c, A2, d, mid, by simp only; rw [upFrom_length, upFrom_length], by simp only; rw [upFrom_length]; exact R1.out, by simp only; rw [upFrom_length]; exact M1.out, by simp only; rw [upFrom_length]; exact R2.out, by simp only; rw [upFrom_length]; exact M2.out, h3, h4, HSS.out⟩, ((Chg.of_below HW.out).trans C1.out).trans C2.out⟩
/-- how far the marks of a machine go -/
def Mch.marks (X : Mch) : Nat := X.f.ws.length + X.f.cs.length + 2 * tot X.ms + 2 * X.ln.length + 2 * X.wt.length
def markX (k : Int) (X : Mch) : Mch :=
  ⟨mkF k X.f, upMM (k + X.f.ws.length + X.f.cs.length) X.ms, X.sp, X.w, X.t, X.k, upM (k + X.f.ws.length + X.f.cs.length + 2 * tot X.ms) X.ln.length, upM (k + X.f.ws.length + X.f.cs.length + 2 * tot X.ms + 2 * X.ln.length) X.wt.length⟩
end Go.Proofs.YtobakeahbgodbaaGreat

namespace Go.Proofs.YtobakeahbgodbaaGreat
open Go.RowKit
set_option linter.unusedVariables false

theorem Blk.threeF {w : World} {B : Nat} {x y z : Value} {T : TypeId} (h : Blk w B #[x, y, z] T) : w.cell? ⟨B, 0, none⟩ = some x ∧ w.cell? ⟨B, 1, none⟩ = some y ∧ w.cell? ⟨B, 2, none⟩ = some z :=
  ⟨cellOfBlk h 0, cellOfBlk h 1, cellOfBlk h 2⟩
theorem fontFormF {w : World} {lo hi n m : Nat} {v : Value} {f : Fnt} {s : ByteArray} (h : FontV w lo hi v f) (hs : Hid (f.s = s)) (hn : Hid (f.ws.length = n)) (hm : Hid (f.cs.length = m)) : ∃ A c A2 d, v = .agg #[.string s, .slice A n c, .slice A2 m d] := by
  obtain ⟨A, c, A2, d, hv, -⟩ := h
  rw [hs.out, hn.out, hm.out] at hv
  exact ⟨A, c, A2, d, hv⟩
end Go.Proofs.YtobakeahbgodbaaGreat
