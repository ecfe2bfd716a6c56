/-
  The exact law of ApplyReset: its walk. No condition.
-/
import Derived.Test.YtgngekolnlbddaaApl
import Derived.Test.YtgngekolnlbddaaMarkT
import Derived.Test.YtgngekolnlbddaaLawsRst
namespace Go.Proofs.Ytgngekolnlbddaa
open Go.RowKit
set_option linter.unusedVariables false

theorem markS1 (A : Option Addr) (n c B : Nat) (zs : List ByteArray) (w : World) (hn : zs.length = n) (hl : n ≤ 1048576) (hB : B ≤ w.heap.size) (h : OwnS w B (.slice A n c) zs) :
    Calls Try.prog 29 #[.slice A n c, .int .i64 1] w fun e w' => e = .returned (.int .i64 ((1 + n : Nat) : Int)) ∧ OwnS w' B (.slice A n c) (upT 1 n) ∧ w.grownBy w' (Value.slice A n c).ownBlock :=
  markStringS_any A n c B 1 zs w hn hl hB (Nat.le_refl _) (by omega) h
theorem heldS1 (A : Option Addr) (n c : Nat) (w : World) (hl : n ≤ 1048576) (h : Strs w A (upT 1 n)) :
    Calls Try.prog 30 #[.slice A n c, .int .i64 1] w fun e w' => e = .returned (.int .i64 ((1 + n : Nat) : Int)) ∧ Below w.heap.size w w' :=
  heldStringS_any A n c 1 w (Nat.le_refl _) (by omega) hl h
theorem toStringS_o (A : Option Addr) (n c : Nat) (zs : List ByteArray) (w : World) (hn : zs.length = n) (hm : n ≤ 1048576) (h : Strs w A zs) :
    Calls Try.prog 26 #[.slice A n c] w fun e w' => ∃ A' c', e = .returned (.slice A' n c') ∧ OwnS w' w.heap.size (.slice A' n c') zs ∧ n ≤ c' ∧ c' ≤ maxLen ∧ Below w.heap.size w w' :=
  (toStringS_call A n c zs w hn hm h).mono fun e w' ⟨A', c', he, hI, hO, hb, h1, h2⟩ => ⟨A', c', he, hO, h1, h2, hb⟩
theorem owns_read {w : World} {B n c : Nat} {A : Option Addr} {zs : List ByteArray} (h : OwnS w B (.slice A n c) zs) : Strs w A zs := by
  obtain ⟨A', c', hv, hI, _⟩ := h.form
  injection hv with h1 h2 h3
  subst h1
  exact hI
theorem owns_top {w : World} {B : Nat} {v : Value} {zs : List ByteArray} (h : OwnS w B v zs) : ∀ k, v.ownBlock = some k → B ≤ k ∧ k < w.heap.size := fun k hk => World.ownsRow.lt h k hk

set_option maxRecDepth 100000 in
set_option maxHeartbeats 3200000 in
theorem fnExactApplyReset_walk (A0 : Option Addr) (n0 c0 : Nat) (ss0 : List ByteArray) (f o : Int) (A1 : Option Addr) (n1 c1 : Nat) (ss1 : List ByteArray) (w : World) (hn0 : ss0.length = n0) (hm0 : n0 ≤ maxLen) (h0 : Strs w A0 ss0) (wf0 : ∀ s ∈ ss0, s.size ≤ maxLen) (wff : (Lit.int .i64 f).wf = true) (wfo : (Lit.int .i64 o).wf = true) (hn1 : ss1.length = n1) (hm1 : n1 ≤ maxLen) (h1 : Strs w A1 ss1) (wf1 : ∀ s ∈ ss1, s.size ≤ maxLen) :
    Calls Try.prog 8 #[.slice A0 n0 c0, .int .i64 f, .int .i64 o, .slice A1 n1 c1] w fun e w' => e = .returned (.bool true) ∧ Below w.heap.size w w' := by
  have N0 := Lib.hid hn0; have H0 := Lib.hid h0; have Wf0 := Lib.hid wf0
  have N1 := Lib.hid hn1; have H1 := Lib.hid h1; have Wf1 := Lib.hid wf1
  have WFf := Lib.hid wff; have WFo := Lib.hid wfo
  clear hn0 h0 wf0 hn1 h1 wf1 wff wfo
  obtain ⟨q0, hq0⟩ : ∃ q, szI 1048576 ss0 = q := ⟨_, rfl⟩
  have Q0 := Lib.hid hq0; clear hq0
  by_cases hb0 : q0 < 0
  · go_enter Try.func8, Try.ntmps8
    go_wp2_with fail
    refine (szStringS_any _ _ _ ss0 1048576 _ N0.out hm0 H0.out Wf0.out (by omega) (by omega)).mono ?_
    rintro e w' ⟨rfl, rfl⟩
    rw [Q0.out]
    go_wp2
    go_ret
    exact ⟨rfl, Below.refl _ _⟩
  have G0 := Lib.hid (szI_good (left := 1048576) (ss := ss0) (by rw [Q0.out]; omega))
  have g0 : q0 + n0 ≤ 1048576 := by have h := G0.out; have e := Q0.out; have hN := N0.out; unfold szL at h; rw [hN] at h; omega
  obtain ⟨q1, hq1⟩ : ∃ q, szI q0 ss1 = q := ⟨_, rfl⟩
  have Q1 := Lib.hid hq1; clear hq1
  by_cases hb1 : q1 < 0
  · go_enter Try.func8, Try.ntmps8
    go_wp2_with fail
    refine (szStringS_any _ _ _ ss0 1048576 _ N0.out hm0 H0.out Wf0.out (by omega) (by omega)).mono ?_
    rintro e w' ⟨rfl, rfl⟩
    rw [Q0.out]
    go_wp2_with fail
    refine (szStringS_any _ _ _ ss1 q0 _ N1.out hm1 H1.out Wf1.out (by omega) (by omega)).mono ?_
    rintro e w' ⟨rfl, rfl⟩
    rw [Q1.out]
    go_wp2
    go_ret
    exact ⟨rfl, Below.refl _ _⟩
  have G1 := Lib.hid (szI_good (left := q0) (ss := ss1) (by rw [Q1.out]; omega))
  have g1 : q1 + n1 ≤ q0 := by have h := G1.out; have e := Q1.out; have hN := N1.out; unfold szL at h; rw [hN] at h; omega
  have hnm : n0 + n1 ≤ 1048576 := by omega
  have hn0b : n0 ≤ 1048576 := by omega
  have hn1b : n1 ≤ 1048576 := by omega
  obtain ⟨R, hR⟩ : ∃ R, aplL ss0 ss1 f o = R := ⟨_, rfl⟩
  obtain ⟨F, hF⟩ : ∃ F, aplB n0 f o = F := ⟨_, rfl⟩
  obtain ⟨r, hr⟩ : ∃ r, R.length = r := ⟨_, rfl⟩
  have hrb : r ≤ 1048576 := by have := aplL_len (zs := ss0) (ls := ss1) (f := f) (o := o); rw [hR, hr, N0.out, N1.out] at this; omega
  have HR := Lib.hid hR; have HF := Lib.hid hF; have Hr := Lib.hid hr
  have hFF : (F != F) = false := by cases F <;> rfl
  obtain ⟨k1, hk1⟩ : ∃ k1, 1 + n0 = k1 := ⟨_, rfl⟩
  obtain ⟨k2, hk2⟩ : ∃ k2, k1 + n1 = k2 := ⟨_, rfl⟩
  obtain ⟨k3, hk3⟩ : ∃ k3, 1 + r = k3 := ⟨_, rfl⟩
  have hk1a : 1 ≤ k1 := by omega
  have hk1b : k1 ≤ 2097152 := by omega
  have HK1 := Lib.hid hk1; have HK2 := Lib.hid hk2; have HK3 := Lib.hid hk3
  clear hR hF hr hk1 hk2 hk3
  have T0 := Lib.hid (Below.refl w.heap.size w)
  have A0x0 := Lib.hid (StrsB.of H0.out)
  have A1x0 := Lib.hid (StrsB.of H1.out)
  go_enter Try.func8, Try.ntmps8
  go_wp2_with fail
  refine (szStringS_any _ _ _ ss0 1048576 _ N0.out hm0 H0.out Wf0.out (by omega) (by omega)).mono ?_
  rintro e w' ⟨rfl, rfl⟩
  rw [Q0.out]
  go_wp2_with fail
  refine (szStringS_any _ _ _ ss1 q0 _ N1.out hm1 H1.out Wf1.out (by omega) (by omega)).mono ?_
  rintro e w' ⟨rfl, rfl⟩
  rw [Q1.out]
  go_wp2_with fail
  refine (toStringS_o _ _ _ ss0 _ N0.out hn0b A0x0.out.ints).mono ?_
  rintro e w1 ⟨YA, Yc, rfl, hO, Yd, Ye, hb1⟩
  have T1 := Lib.hid (T0.out.trans (hb1.mono (by omega)))
  have A0x1 := Lib.hid (A0x0.out.keep (by omega) hb1)
  have A1x1 := Lib.hid (A1x0.out.keep (by omega) hb1)
  have z1 := hb1.size
  clear hb1 T0 A0x0 A1x0
  have Yx1 := Lib.hid (StrsB.of (owns_read hO))
  clear hO
  go_wp2_with fail
  refine (toStringS_o _ _ _ ss1 _ N1.out hn1b A1x1.out.ints).mono ?_
  rintro e w2 ⟨ZA, Zc, rfl, hO, Zd, Ze, hb2⟩
  have T2 := Lib.hid (T1.out.trans (hb2.mono (by omega)))
  have A0x2 := Lib.hid (A0x1.out.keep (by omega) hb2)
  have A1x2 := Lib.hid (A1x1.out.keep (by omega) hb2)
  have Yx2 := Lib.hid (Yx1.out.keep (by omega) hb2)
  have z2 := hb2.size
  clear hb2 T1 A0x1 A1x1 Yx1
  have Zx2 := Lib.hid (StrsB.of (owns_read hO))
  clear hO
  go_wp2_with fail
  refine (specApl_any _ _ _ _ _ _ ss0 ss1 f o _ N0.out N1.out hnm Yd Ye Yx2.out.ints Zx2.out.ints WFf.out WFo.out).mono ?_
  rintro e w3 ⟨v, rfl, hO, hb3⟩
  rw [HR.out] at hO
  rw [HF.out]
  obtain ⟨SA, Sn, Sc, rfl, hn, hO, _, _, _⟩ := owns_form hO
  obtain rfl : r = Sn := by rw [← hn]; exact Hr.out.symm
  clear hn
  have T3 := Lib.hid (T2.out.trans (hb3.mono (by omega)))
  have A0x3 := Lib.hid (A0x2.out.keep (by omega) hb3)
  have A1x3 := Lib.hid (A1x2.out.keep (by omega) hb3)
  have Yx3 := Lib.hid (Yx2.out.keep (by omega) hb3)
  have Zx3 := Lib.hid (Zx2.out.keep (by omega) hb3)
  have z3 := hb3.size
  clear hb3 T2 A0x2 A1x2 Yx2 Zx2
  have Sx3 := Lib.hid (StrsB.of (owns_read hO))
  clear hO
  clear Yx3
  clear Zx3
  go_wp2_with fail
  refine (toStringS_o _ _ _ ss0 _ N0.out hn0b A0x3.out.ints).mono ?_
  rintro e w4 ⟨XA, Xc, rfl, hO, Xd, Xe, hb4⟩
  have T4 := Lib.hid (T3.out.trans (hb4.mono (by omega)))
  have A0x4 := Lib.hid (A0x3.out.keep (by omega) hb4)
  have A1x4 := Lib.hid (A1x3.out.keep (by omega) hb4)
  have Sx4 := Lib.hid (Sx3.out.keep (by omega) hb4)
  have z4 := hb4.size
  clear hb4 T3 A0x3 A1x3 Sx3
  have X4 := Lib.hid (hO)
  have XL := Lib.hid (owns_top hO)
  clear hO
  go_wp2_with fail
  refine (toStringS_o _ _ _ ss1 _ N1.out hn1b A1x4.out.ints).mono ?_
  rintro e w5 ⟨VA, Vc, rfl, hO, Vd, Ve, hb5⟩
  have T5 := Lib.hid (T4.out.trans (hb5.mono (by omega)))
  have A0x5 := Lib.hid (A0x4.out.keep (by omega) hb5)
  have A1x5 := Lib.hid (A1x4.out.keep (by omega) hb5)
  have Sx5 := Lib.hid (Sx4.out.keep (by omega) hb5)
  have X5 := Lib.hid (X4.out.below hb5)
  have z5 := hb5.size
  clear hb5 T4 A0x4 A1x4 Sx4 X4
  have V5 := Lib.hid (hO)
  have VL := Lib.hid (owns_top hO)
  clear hO
  go_wp2_with fail
  refine (implApl_any _ _ _ _ _ _ ss0 ss1 f o _ N0.out N1.out hnm Xd Xe (owns_read X5.out) (owns_read V5.out) WFf.out WFo.out).mono ?_
  rintro e w6 ⟨v, rfl, hO, hb6⟩
  rw [HR.out] at hO
  rw [HF.out]
  obtain ⟨GA, Gn, Gc, rfl, hn, hO, _, _, _⟩ := owns_form hO
  obtain rfl : r = Gn := by rw [← hn]; exact Hr.out.symm
  clear hn
  have T6 := Lib.hid (T5.out.trans (hb6.mono (by omega)))
  have A0x6 := Lib.hid (A0x5.out.keep (by omega) hb6)
  have A1x6 := Lib.hid (A1x5.out.keep (by omega) hb6)
  have Sx6 := Lib.hid (Sx5.out.keep (by omega) hb6)
  have X6 := Lib.hid (X5.out.below hb6)
  have V6 := Lib.hid (V5.out.below hb6)
  have z6 := hb6.size
  clear hb6 T5 A0x5 A1x5 Sx5 X5 V5
  have G6 := Lib.hid (hO)
  have GL := Lib.hid (owns_top hO)
  clear hO
  go_wp2_with fail
  refine (eqStringS_t _ _ _ _ _ R _ Hr.out hrb (owns_read G6.out) Sx6.out.ints).mono ?_
  rintro e w7 ⟨rfl, hb7⟩
  have T7 := Lib.hid (T6.out.trans (hb7.mono (by omega)))
  have A0x7 := Lib.hid (A0x6.out.keep (by omega) hb7)
  have A1x7 := Lib.hid (A1x6.out.keep (by omega) hb7)
  have Sx7 := Lib.hid (Sx6.out.keep (by omega) hb7)
  have X7 := Lib.hid (X6.out.below hb7)
  have V7 := Lib.hid (V6.out.below hb7)
  have G7 := Lib.hid (G6.out.below hb7)
  have z7 := hb7.size
  clear hb7 T6 A0x6 A1x6 Sx6 X6 V6 G6
  go_wp2_with fail
  refine (toStringS_o _ _ _ ss0 _ N0.out hn0b A0x7.out.ints).mono ?_
  rintro e w8 ⟨EA, Ec, rfl, hO, Ed, Ee, hb8⟩
  have T8 := Lib.hid (T7.out.trans (hb8.mono (by omega)))
  have A0x8 := Lib.hid (A0x7.out.keep (by omega) hb8)
  have A1x8 := Lib.hid (A1x7.out.keep (by omega) hb8)
  have Sx8 := Lib.hid (Sx7.out.keep (by omega) hb8)
  have X8 := Lib.hid (X7.out.below hb8)
  have V8 := Lib.hid (V7.out.below hb8)
  have G8 := Lib.hid (G7.out.below hb8)
  have z8 := hb8.size
  clear hb8 T7 A0x7 A1x7 Sx7 X7 V7 G7
  have Ex8 := Lib.hid (StrsB.of (owns_read hO))
  clear hO
  go_wp2_with fail
  refine (eqStringS_t _ _ _ _ _ ss0 _ N0.out hn0b (owns_read X8.out) Ex8.out.ints).mono ?_
  rintro e w9 ⟨rfl, hb9⟩
  have T9 := Lib.hid (T8.out.trans (hb9.mono (by omega)))
  have A0x9 := Lib.hid (A0x8.out.keep (by omega) hb9)
  have A1x9 := Lib.hid (A1x8.out.keep (by omega) hb9)
  have Sx9 := Lib.hid (Sx8.out.keep (by omega) hb9)
  have X9 := Lib.hid (X8.out.below hb9)
  have V9 := Lib.hid (V8.out.below hb9)
  have G9 := Lib.hid (G8.out.below hb9)
  have Ex9 := Lib.hid (Ex8.out.keep (by omega) hb9)
  have z9 := hb9.size
  clear hb9 T8 A0x8 A1x8 Sx8 X8 V8 G8 Ex8
  clear Ex9
  go_wp2_with fail
  refine (toStringS_o _ _ _ ss1 _ N1.out hn1b A1x9.out.ints).mono ?_
  rintro e w10 ⟨DA, Dc, rfl, hO, Dd, De, hb10⟩
  have T10 := Lib.hid (T9.out.trans (hb10.mono (by omega)))
  have A0x10 := Lib.hid (A0x9.out.keep (by omega) hb10)
  have A1x10 := Lib.hid (A1x9.out.keep (by omega) hb10)
  have Sx10 := Lib.hid (Sx9.out.keep (by omega) hb10)
  have X10 := Lib.hid (X9.out.below hb10)
  have V10 := Lib.hid (V9.out.below hb10)
  have G10 := Lib.hid (G9.out.below hb10)
  have z10 := hb10.size
  clear hb10 T9 A0x9 A1x9 Sx9 X9 V9 G9
  have Dx10 := Lib.hid (StrsB.of (owns_read hO))
  clear hO
  go_wp2_with fail
  refine (eqStringS_t _ _ _ _ _ ss1 _ N1.out hn1b (owns_read V10.out) Dx10.out.ints).mono ?_
  rintro e w11 ⟨rfl, hb11⟩
  have T11 := Lib.hid (T10.out.trans (hb11.mono (by omega)))
  have A0x11 := Lib.hid (A0x10.out.keep (by omega) hb11)
  have A1x11 := Lib.hid (A1x10.out.keep (by omega) hb11)
  have Sx11 := Lib.hid (Sx10.out.keep (by omega) hb11)
  have X11 := Lib.hid (X10.out.below hb11)
  have V11 := Lib.hid (V10.out.below hb11)
  have G11 := Lib.hid (G10.out.below hb11)
  have Dx11 := Lib.hid (Dx10.out.keep (by omega) hb11)
  have z11 := hb11.size
  clear hb11 T10 A0x10 A1x10 Sx10 X10 V10 G10 Dx10
  clear Dx11
  go_wp2_with fail
  refine (markS1 _ _ _ w3.heap.size ss0 _ N0.out hn0b (by omega) X11.out).mono ?_
  rintro e w12 ⟨rfl, hO, hg⟩
  rw [HK1.out]
  have hbB : Below w3.heap.size w11 w12 := (Below.refl _ _).grown hg (by omega) (fun k hk => (XL.out k hk).1)
  have T12 := Lib.hid (T11.out.trans (hbB.mono (by omega)))
  have A0x12 := Lib.hid (A0x11.out.keep (by omega) hbB)
  have A1x12 := Lib.hid (A1x11.out.keep (by omega) hbB)
  have Sx12 := Lib.hid (Sx11.out.keep (by omega) hbB)
  have V12 := Lib.hid (V11.out.grown_lt hg (fun k hk => by have := (XL.out k hk).2; omega))
  have G12 := Lib.hid (G11.out.grown_lt hg (fun k hk => by have := (XL.out k hk).2; omega))
  have z12 := hg.size
  clear hbB hg T11 A0x11 A1x11 Sx11 X11 V11 G11
  clear hO
  go_wp2_with fail
  refine (markStringS_any _ _ _ w4.heap.size k1 ss1 _ N1.out hn1b (by omega) hk1a hk1b V12.out).mono ?_
  rintro e w13 ⟨rfl, hO, hg⟩
  rw [HK2.out]
  have hbB : Below w4.heap.size w12 w13 := (Below.refl _ _).grown hg (by omega) (fun k hk => (VL.out k hk).1)
  have T13 := Lib.hid (T12.out.trans (hbB.mono (by omega)))
  have A0x13 := Lib.hid (A0x12.out.keep (by omega) hbB)
  have A1x13 := Lib.hid (A1x12.out.keep (by omega) hbB)
  have Sx13 := Lib.hid (Sx12.out.keep (by omega) hbB)
  have G13 := Lib.hid (G12.out.grown_lt hg (fun k hk => by have := (VL.out k hk).2; omega))
  have z13 := hg.size
  clear hbB hg T12 A0x12 A1x12 Sx12 V12 G12
  clear hO
  go_wp2_with fail
  refine (eqStringS_t _ _ _ _ _ R _ Hr.out hrb (owns_read G13.out) Sx13.out.ints).mono ?_
  rintro e w14 ⟨rfl, hb14⟩
  have T14 := Lib.hid (T13.out.trans (hb14.mono (by omega)))
  have A0x14 := Lib.hid (A0x13.out.keep (by omega) hb14)
  have A1x14 := Lib.hid (A1x13.out.keep (by omega) hb14)
  have Sx14 := Lib.hid (Sx13.out.keep (by omega) hb14)
  have G14 := Lib.hid (G13.out.below hb14)
  have z14 := hb14.size
  clear hb14 T13 A0x13 A1x13 Sx13 G13
  go_wp2_with fail
  refine (markS1 _ _ _ w5.heap.size R _ Hr.out hrb (by omega) G14.out).mono ?_
  rintro e w15 ⟨rfl, hO, hg⟩
  rw [HK3.out]
  have hbB : Below w5.heap.size w14 w15 := (Below.refl _ _).grown hg (by omega) (fun k hk => (GL.out k hk).1)
  have T15 := Lib.hid (T14.out.trans (hbB.mono (by omega)))
  have A0x15 := Lib.hid (A0x14.out.keep (by omega) hbB)
  have A1x15 := Lib.hid (A1x14.out.keep (by omega) hbB)
  have Sx15 := Lib.hid (Sx14.out.keep (by omega) hbB)
  have z15 := hg.size
  clear hbB hg T14 A0x14 A1x14 Sx14 G14
  have Gm15 := Lib.hid (StrsB.of (owns_read hO))
  clear hO
  go_wp2_with fail
  refine (heldS1 _ _ _ _ hrb Gm15.out.ints).mono ?_
  rintro e w16 ⟨rfl, hb16⟩
  rw [HK3.out]
  have T16 := Lib.hid (T15.out.trans (hb16.mono (by omega)))
  have A0x16 := Lib.hid (A0x15.out.keep (by omega) hb16)
  have A1x16 := Lib.hid (A1x15.out.keep (by omega) hb16)
  have Sx16 := Lib.hid (Sx15.out.keep (by omega) hb16)
  have Gm16 := Lib.hid (Gm15.out.keep (by omega) hb16)
  have z16 := hb16.size
  clear hb16 T15 A0x15 A1x15 Sx15 Gm15
  go_wp2_with fail
  refine (toStringS_o _ _ _ ss0 _ N0.out hn0b A0x16.out.ints).mono ?_
  rintro e w17 ⟨BA, Bc, rfl, hO, Bd, Be, hb17⟩
  have T17 := Lib.hid (T16.out.trans (hb17.mono (by omega)))
  have A0x17 := Lib.hid (A0x16.out.keep (by omega) hb17)
  have A1x17 := Lib.hid (A1x16.out.keep (by omega) hb17)
  have Sx17 := Lib.hid (Sx16.out.keep (by omega) hb17)
  have Gm17 := Lib.hid (Gm16.out.keep (by omega) hb17)
  have z17 := hb17.size
  clear hb17 T16 A0x16 A1x16 Sx16 Gm16
  have Bx17 := Lib.hid (StrsB.of (owns_read hO))
  clear hO
  go_wp2_with fail
  refine (toStringS_o _ _ _ ss1 _ N1.out hn1b A1x17.out.ints).mono ?_
  rintro e w18 ⟨CA, Cc, rfl, hO, Cd, Ce, hb18⟩
  have T18 := Lib.hid (T17.out.trans (hb18.mono (by omega)))
  have A0x18 := Lib.hid (A0x17.out.keep (by omega) hb18)
  have A1x18 := Lib.hid (A1x17.out.keep (by omega) hb18)
  have Sx18 := Lib.hid (Sx17.out.keep (by omega) hb18)
  have Gm18 := Lib.hid (Gm17.out.keep (by omega) hb18)
  have Bx18 := Lib.hid (Bx17.out.keep (by omega) hb18)
  have z18 := hb18.size
  clear hb18 T17 A0x17 A1x17 Sx17 Gm17 Bx17
  have Cx18 := Lib.hid (StrsB.of (owns_read hO))
  clear hO
  go_wp2_with fail
  refine (implApl_any _ _ _ _ _ _ ss0 ss1 f o _ N0.out N1.out hnm Bd Be Bx18.out.ints Cx18.out.ints WFf.out WFo.out).mono ?_
  rintro e w19 ⟨v, rfl, hO, hb19⟩
  rw [HR.out] at hO
  rw [HF.out]
  obtain ⟨IA, In, Ic, rfl, hn, hO, _, _, _⟩ := owns_form hO
  obtain rfl : r = In := by rw [← hn]; exact Hr.out.symm
  clear hn
  have T19 := Lib.hid (T18.out.trans (hb19.mono (by omega)))
  have A0x19 := Lib.hid (A0x18.out.keep (by omega) hb19)
  have A1x19 := Lib.hid (A1x18.out.keep (by omega) hb19)
  have Sx19 := Lib.hid (Sx18.out.keep (by omega) hb19)
  have Gm19 := Lib.hid (Gm18.out.keep (by omega) hb19)
  have Bx19 := Lib.hid (Bx18.out.keep (by omega) hb19)
  have Cx19 := Lib.hid (Cx18.out.keep (by omega) hb19)
  have z19 := hb19.size
  clear hb19 T18 A0x18 A1x18 Sx18 Gm18 Bx18 Cx18
  have Ix19 := Lib.hid (StrsB.of (owns_read hO))
  clear hO
  go_wp2_with fail
  refine (eqStringS_t _ _ _ _ _ R _ Hr.out hrb Ix19.out.ints Sx19.out.ints).mono ?_
  rintro e w20 ⟨rfl, hb20⟩
  have T20 := Lib.hid (T19.out.trans (hb20.mono (by omega)))
  have A0x20 := Lib.hid (A0x19.out.keep (by omega) hb20)
  have A1x20 := Lib.hid (A1x19.out.keep (by omega) hb20)
  have Sx20 := Lib.hid (Sx19.out.keep (by omega) hb20)
  have Gm20 := Lib.hid (Gm19.out.keep (by omega) hb20)
  have Bx20 := Lib.hid (Bx19.out.keep (by omega) hb20)
  have Cx20 := Lib.hid (Cx19.out.keep (by omega) hb20)
  have Ix20 := Lib.hid (Ix19.out.keep (by omega) hb20)
  have z20 := hb20.size
  clear hb20 T19 A0x19 A1x19 Sx19 Gm19 Bx19 Cx19 Ix19
  go_wp2_with fail
  refine (heldS1 _ _ _ _ hrb Gm20.out.ints).mono ?_
  rintro e w21 ⟨rfl, hb21⟩
  rw [HK3.out]
  have T21 := Lib.hid (T20.out.trans (hb21.mono (by omega)))
  have A0x21 := Lib.hid (A0x20.out.keep (by omega) hb21)
  have A1x21 := Lib.hid (A1x20.out.keep (by omega) hb21)
  have Sx21 := Lib.hid (Sx20.out.keep (by omega) hb21)
  have Gm21 := Lib.hid (Gm20.out.keep (by omega) hb21)
  have Bx21 := Lib.hid (Bx20.out.keep (by omega) hb21)
  have Cx21 := Lib.hid (Cx20.out.keep (by omega) hb21)
  have Ix21 := Lib.hid (Ix20.out.keep (by omega) hb21)
  have z21 := hb21.size
  clear hb21 T20 A0x20 A1x20 Sx20 Gm20 Bx20 Cx20 Ix20
  go_wp2
  go_ret
  exact ⟨rfl, T21.out⟩
end Go.Proofs.Ytgngekolnlbddaa
