/-
  The laws' helpers markFont, heldFont, markMachine, heldMachine by contract. Conditions: sizes of at most 2^20.
-/
import Derived.Test.YthoepelgmplcmaaMchU
namespace Go.Proofs.Ythoepelgmplcmaa
open Go.RowKit
set_option linter.unusedVariables false

theorem Blk.chg {w w' : World} {lo hi B : Nat} {cs : Array Value} {T : TypeId} (h : Blk w B cs T) (hc : Chg lo hi w w') (hn : ¬ (lo ≤ B ∧ B < hi)) : Blk w' B cs T := (hc.block B h.lt hn).trans h
def mkF (k : Int) (f : Fnt) : Fnt := ⟨f.s, upFrom k f.ws.length, upFrom (k + f.ws.length) f.cs.length⟩
theorem upFrom_length (k : Int) (n : Nat) : (upFrom k n).length = n := by simp [upFrom]
set_option maxRecDepth 100000 in
set_option maxHeartbeats 800000 in
theorem markFontO_any (lo hi : Nat) (v : Value) (f : Fnt) (k : Int) (w : World) (h : FontO w lo hi v f) (hlo : lo ≤ w.heap.size) (hhi : hi ≤ w.heap.size) (hs : Small f) (hk0 : 0 ≤ k) (hk1 : k ≤ 1048576) (hk2 : k + f.ws.length ≤ 1048577) :
    Calls Try.prog 43 #[v, .int .i64 k] w fun e w' => e = .returned (.int .i64 (k + f.ws.length + f.cs.length)) ∧ FontO w' lo hi v (mkF k f) ∧ Chg lo hi w w' := by
  obtain ⟨A, c, A2, d, mid, rfl, hO1, hm1, hO2, hm2, h3, h4, hss⟩ := h
  obtain ⟨s, ws, cs⟩ := f
  obtain ⟨hs1, hs2, hs3⟩ := hs
  simp only at *
  obtain ⟨n, hn⟩ : ∃ n, ws.length = n := ⟨_, rfl⟩
  obtain ⟨m, hm⟩ : ∃ m, cs.length = m := ⟨_, rfl⟩
  have Hn := Lib.hid hn; have Hm := Lib.hid hm
  have HF : Hid (mkF k ⟨s, ws, cs⟩ = ⟨s, upFrom k n, upFrom (k + n) m⟩) := by show _ = _; unfold mkF; simp only; rw [hn, hm]
  rw [hn] at hO1 hm1 hs2 hk2
  rw [hm] at hO2 hm2 hs3
  rw [hn, hm, HF.out]
  have hL1 := Lib.hid (fun g hg => World.ownsRow.lt hO1 g hg)
  have hL2 := Lib.hid (fun g hg => World.ownsRow.lt hO2 g hg)
  have hW : Below w.heap.size w (w.alloc (.cells #[.string s, .slice A n c, .slice A2 m d] 25)) := (Below.refl _ _).alloc (Nat.le_refl _) _
  have G1 := Lib.hid (hO1.below hW); have G2 := Lib.hid (hO2.below hW)
  have HW := Lib.hid hW; have M1 := Lib.hid hm1; have M2 := Lib.hid hm2; have HSS := Lib.hid hss
  clear hn hm hO1 hO2 hW hm1 hm2 HF hss
  go_enter Try.func43, Try.ntmps43
  go_wp2_with fail
  refine (markIntS_any lo _ _ ws _ hk0 (by omega) (by rw [Hn.out]; exact hs2) G1.out).mono ?_
  rintro e w1 ⟨rfl, hP1, hg1⟩
  rw [Hn.out] at hP1
  rw [Hn.out]
  have c1 : Chg lo hi (w.alloc (.cells #[.string s, .slice A n c, .slice A2 m d] 25)) w1 := Chg.of_grown hg1 (fun g hg => ⟨(hL1.out g hg).1, by have := M1.out g hg; omega⟩)
  have O2 : Own w1 mid (.slice A2 m d) cs := by
    refine (Chg.of_grown (lo := lo) (hi := mid) hg1 (fun g hg => ⟨(hL1.out g hg).1, M1.out g hg⟩)).own G2.out fun g hg => ?_
    have := (hL2.out g hg).1; omega
  have k2 : w1.cell? ⟨w.heap.size, 2, none⟩ = some (.slice A2 m d) := by
    rw [c1.cell (by simp) (by simp <;> omega)]
    rw [World.cell?_alloc_at _ _ _ _ rfl]; rfl
  have C1 := Lib.hid c1
  have P1 := Lib.hid hP1
  have P2 := Lib.hid O2
  clear hP1 hg1 c1 O2
  go_wp2_with fail
  refine (markIntS_any mid _ _ cs _ (by omega) (by omega) (by rw [Hm.out]; exact hs3) P2.out).mono ?_
  rintro e w2 ⟨rfl, hP2, hg2⟩
  rw [Hm.out] at hP2
  rw [Hm.out]
  have C2 := Lib.hid (Chg.of_grown (lo := lo) (hi := hi) hg2 (fun g hg => ⟨by have := (hL2.out g hg).1; omega, M2.out g hg⟩))
  have R1 := Lib.hid ((Chg.of_grown (lo := mid) (hi := hi) hg2 (fun g hg => ⟨(hL2.out g hg).1, M2.out g hg⟩)).own P1.out (fun g hg => by have := M1.out g hg; omega))
  have R2 := Lib.hid hP2
  clear hP2 hg2
  go_wp2
  go_ret
  exact ⟨rfl, ⟨A, c, A2, d, mid, by simp only; rw [upFrom_length, upFrom_length], by simp only; rw [upFrom_length]; exact R1.out, by simp only; rw [upFrom_length]; exact M1.out, by simp only; rw [upFrom_length]; exact R2.out, by simp only; rw [upFrom_length]; exact M2.out, h3, h4, HSS.out⟩, ((Chg.of_below HW.out).trans C1.out).trans C2.out⟩
set_option maxRecDepth 100000 in
set_option maxHeartbeats 800000 in
theorem heldFont_any (lo hi : Nat) (v : Value) (f : Fnt) (k : Int) (w : World) (h : FontV w lo hi v (mkF k f)) (hhi : hi ≤ w.heap.size) (hs : Small f) (hk0 : 0 ≤ k) (hk1 : k ≤ 1048576) (hk2 : k + f.ws.length ≤ 1048576) :
    Calls Try.prog 127 #[v, .int .i64 k] w fun e w' => e = .returned (.int .i64 (k + f.ws.length + f.cs.length)) ∧ Below w.heap.size w w' := by
  obtain ⟨A, c, A2, d, rfl, hI1, hI2, hc1, hc2, hd1, hd2, hss⟩ := h
  obtain ⟨s, ws, cs⟩ := f
  obtain ⟨hs1, hs2, hs3⟩ := hs
  unfold mkF at *
  simp only [upFrom_length] at *
  obtain ⟨n, hn⟩ : ∃ n, ws.length = n := ⟨_, rfl⟩
  obtain ⟨m, hm⟩ : ∃ m, cs.length = m := ⟨_, rfl⟩
  rw [hn] at hI1 hI2 hs2 hk2 ⊢
  rw [hm] at hI2 hs3 ⊢
  have hW : Below w.heap.size w (w.alloc (.cells #[.string s, .slice A n c, .slice A2 m d] 25)) := (Below.refl _ _).alloc (Nat.le_refl _) _
  have G1 := Lib.hid (hI1.below hhi hW); have G2 := Lib.hid (hI2.below hhi hW)
  have HW := Lib.hid hW
  clear hn hm hI1 hI2 hc1 hc2 hd1 hd2 hss hW
  go_enter Try.func127, Try.ntmps127
  go_wp2_with fail
  refine (heldIntS_any _ _ _ k _ hk0 hk1 hs2 G1.out.ints).mono ?_
  rintro e w' ⟨rfl, rfl⟩
  have e1 : decide (k + (n : Int) < 0) = false := decide_eq_false (by omega)
  go_wp2_with fail
  refine (heldIntS_any _ _ _ (k + n) _ (by omega) (by omega) hs3 G2.out.ints).mono ?_
  rintro e w' ⟨rfl, rfl⟩
  have e2 : decide (k + (n : Int) + (m : Int) < 0) = false := decide_eq_false (by omega)
  go_wp2
  go_ret
  exact ⟨rfl, HW.out⟩
/-- how far the marks of a machine go -/
def Mch.marks (X : Mch) : Nat := X.f.ws.length + X.f.cs.length + 2 * tot X.ms + 2 * X.ln.length + 2 * X.wt.length
def markX (k : Int) (X : Mch) : Mch :=
  ⟨mkF k X.f, upMM (k + X.f.ws.length + X.f.cs.length) X.ms, X.sp, X.w, X.t, X.k, upM (k + X.f.ws.length + X.f.cs.length + 2 * tot X.ms) X.ln.length, upM (k + X.f.ws.length + X.f.cs.length + 2 * tot X.ms + 2 * X.ln.length) X.wt.length⟩
set_option maxRecDepth 100000 in
set_option maxHeartbeats 3200000 in
theorem markMachine_any (B hi : Nat) (v : Value) (X : Mch) (k : Int) (w : World) (h : MchX w B hi v X) (hhi : hi ≤ w.heap.size) (hs : X.big ≤ 1048576) (hk0 : 0 ≤ k) (hk1 : k ≤ 1) :
    Calls Try.prog 44 #[v, .int .i64 k] w fun e w' => e = .returned (.int .i64 (k + X.marks)) ∧ MchX w' B hi v (markX k X) ∧ Chg B hi w w' := by
  obtain ⟨A, c, A2, d, M, e0, L, lc, T, tc, hs0, f0, f1, g0, g1, l0, l1, t0, t1, h⟩ := h
  have hS := big_smallX hs
  have hb : X.f.ws.length + X.f.cs.length + X.ms.length + tot X.ms + X.ln.length + X.wt.length ≤ 1048576 := by unfold Mch.big Fnt.big magBig at hs; omega
  obtain ⟨hv, hF, hG, hL, hLt, hT, hTt, o1, o2, o3, o4, o5, o6, i1, i2, i3, i4⟩ := h
  unfold mwords at hv
  subst hv
  obtain ⟨s, hs1⟩ : ∃ x, X.f.s = x := ⟨_, rfl⟩
  obtain ⟨n, hn⟩ : ∃ x, X.f.ws.length = x := ⟨_, rfl⟩
  obtain ⟨m, hm⟩ : ∃ x, X.f.cs.length = x := ⟨_, rfl⟩
  obtain ⟨q, hq⟩ : ∃ x, X.ms.length = x := ⟨_, rfl⟩
  obtain ⟨l, hl⟩ : ∃ x, X.ln.length = x := ⟨_, rfl⟩
  obtain ⟨r, hr⟩ : ∃ x, X.wt.length = x := ⟨_, rfl⟩
  obtain ⟨tt, htt⟩ : ∃ x, tot X.ms = x := ⟨_, rfl⟩
  have HMk : Hid (X.marks = n + m + 2 * tt + 2 * l + 2 * r) := by show _ = _; unfold Mch.marks; rw [hn, hm, htt, hl, hr]
  have HX : Hid (markX k X = ⟨mkF k X.f, upMM (k + n + m) X.ms, X.sp, X.w, X.t, X.k, upM (k + n + m + 2 * tt) l, upM (k + n + m + 2 * tt + 2 * l) r⟩) := by show _ = _; unfold markX; rw [hn, hm, htt, hl, hr]
  rw [hs1, hn, hm] at hF
  rw [hq] at hG
  rw [hl] at hL hLt
  rw [hr] at hT hTt
  rw [hs1, hn, hm, hq, hl, hr, HMk.out, HX.out]
  rw [hn, hm, hq, htt, hl, hr] at hb
  have Hn := Lib.hid hn; have Hm := Lib.hid hm; have Hl := Lib.hid hl; have Hr := Lib.hid hr; have Htt := Lib.hid htt
  unfold Off at o1 o2 o3 o4 o5 o6
  have hff : f0 ≤ f1 := by obtain ⟨_, _, _, _, mid, _, _, _, _, _, h3, h4, _⟩ := hF; omega
  have lF := hF; have lG := hG; have lL := fun k hk => OwnM.lt hL k hk; have lT := fun k hk => OwnM.lt hT k hk
  obtain ⟨w0, hw0, hb0, hz0, K0⟩ := mxWorld w #[.string s, .slice A n c, .slice A2 m d, .slice M q e0, .int .i64 X.sp, .int .i64 X.w, .int .i64 X.t, .int .i64 X.k, .slice L l lc, .slice T r tc] 61
  have K0 := Lib.hid K0
  have F0 := Lib.hid (hF.below hb0); have G0 := Lib.hid (hG.below hb0); have L0 := Lib.hid (hL.below hb0); have T0 := Lib.hid (hT.below hb0)
  have C0 := Lib.hid (Chg.of_below (lo := B) (hi := hi) hb0)
  have LT := Lib.hid hLt; have TT := Lib.hid hTt; have LL := Lib.hid lL; have TL := Lib.hid lT
  have z0 : w.heap.size < w0.heap.size := by omega
  clear hs hF hG hL hT hLt hTt hn hm hq hl hr htt hs1 lF lG lL lT hb0 hz0 HMk HX
  obtain ⟨kc0, kc1, kc2, kc3, kc4, kc5, kc6, kc7, kc8, kc9⟩ := K0.out.ten
  go_enter Try.func44, Try.ntmps44
  go_wp2_with fail
  clear hw0
  refine (markFontO_any f0 f1 _ X.f k w0 F0.out (by omega) (by omega) hS.f hk0 (by omega) (by rw [Hn.out]; omega)).mono ?_
  rintro e w1 ⟨rfl, hF1, hc⟩
  rw [Hn.out, Hm.out]
  have F1 := Lib.hid hF1
  have K1 := Lib.hid (K0.out.chg hc (by omega)); have C1 := Lib.hid (C0.out.trans (hc.wide (by omega) (by omega)))
  have G1 := Lib.hid (G0.out.chg hc (by omega))
  have L1 := Lib.hid (L0.out.chg hc (fun x hx => by have := LL.out x hx; have := LT.out x hx; omega))
  have T1 := Lib.hid (T0.out.chg hc (fun x hx => by have := TL.out x hx; have := TT.out x hx; omega))
  have z1 : w0.heap.size ≤ w1.heap.size := hc.size
  clear hF1 hc F0 K0 C0 G0 L0 T0 kc0 kc1 kc2 kc3 kc4 kc5 kc6 kc7 kc8 kc9
  obtain ⟨kc0, kc1, kc2, kc3, kc4, kc5, kc6, kc7, kc8, kc9⟩ := K1.out.ten
  go_wp2_with fail
  refine (markMatrixSS_any g0 g1 _ hs0 (k + n + m) X.ms w1 (by omega) (by omega) hS.ms hS.tot G1.out).mono ?_
  rintro e w2 ⟨rfl, hG2, hc⟩
  rw [Htt.out]
  have G2 := Lib.hid hG2
  have F2 := Lib.hid (F1.out.chg hc (by unfold Off; omega))
  have K2 := Lib.hid (K1.out.chg hc (by omega)); have C2 := Lib.hid (C1.out.trans (hc.wide (by omega) (by omega)))
  have L2 := Lib.hid (L1.out.chg hc (fun x hx => by have := LL.out x hx; have := LT.out x hx; omega))
  have T2 := Lib.hid (T1.out.chg hc (fun x hx => by have := TL.out x hx; have := TT.out x hx; omega))
  have z2 : w1.heap.size ≤ w2.heap.size := hc.size
  clear hG2 hc F1 K1 C1 G1 L1 T1 kc0 kc1 kc2 kc3 kc4 kc5 kc6 kc7 kc8 kc9
  obtain ⟨kc0, kc1, kc2, kc3, kc4, kc5, kc6, kc7, kc8, kc9⟩ := K2.out.ten
  go_wp2_with fail
  refine (markMatrixS_any l0 _ (k + n + m + 2 * tt) X.ln w2 (by omega) (by omega) hS.ln L2.out).mono ?_
  rintro e w3 ⟨rfl, hL3, hg⟩
  rw [Hl.out] at hL3
  rw [Hl.out]
  have hc : Chg l0 l1 w2 w3 := Chg.of_grown hg (fun x hx => ⟨(LL.out x hx).1, LT.out x hx⟩)
  have L3 := Lib.hid hL3
  have F3 := Lib.hid (F2.out.chg hc (by unfold Off; omega)); have G3 := Lib.hid (G2.out.chg hc (by omega))
  have K3 := Lib.hid (K2.out.chg hc (by omega)); have C3 := Lib.hid (C2.out.trans (hc.wide (by omega) (by omega)))
  have T3 := Lib.hid (T2.out.chg hc (fun x hx => by have := TL.out x hx; have := TT.out x hx; omega))
  have z3 : w2.heap.size ≤ w3.heap.size := hc.size
  clear hL3 hg hc F2 K2 C2 G2 L2 T2 kc0 kc1 kc2 kc3 kc4 kc5 kc6 kc7 kc8 kc9
  obtain ⟨kc0, kc1, kc2, kc3, kc4, kc5, kc6, kc7, kc8, kc9⟩ := K3.out.ten
  go_wp2_with fail
  refine (markMatrixS_any t0 _ (k + n + m + 2 * tt + 2 * l) X.wt w3 (by omega) (by omega) hS.wt T3.out).mono ?_
  rintro e w4 ⟨rfl, hT4, hg⟩
  rw [Hr.out] at hT4
  rw [Hr.out]
  have hc : Chg t0 t1 w3 w4 := Chg.of_grown hg (fun x hx => ⟨(TL.out x hx).1, TT.out x hx⟩)
  have T4 := Lib.hid hT4
  have F4 := Lib.hid (F3.out.chg hc (by unfold Off; omega)); have G4 := Lib.hid (G3.out.chg hc (by omega))
  have L4 := Lib.hid (L3.out.chg hc (fun x hx => by have := LL.out x hx; have := LT.out x hx; omega))
  have C4 := Lib.hid (C3.out.trans (hc.wide (by omega) (by omega)))
  clear hT4 hg hc F3 K3 C3 G3 L3 T3 kc0 kc1 kc2 kc3 kc4 kc5 kc6 kc7 kc8 kc9
  go_wp2
  go_ret
  refine ⟨ret_int (by push_cast; omega), ?_, C4.out⟩
  have := MchX.build (X := ⟨mkF k X.f, upMM (k + n + m) X.ms, X.sp, X.w, X.t, X.k, upM (k + n + m + 2 * tt) l, upM (k + n + m + 2 * tt + 2 * l) r⟩) F4.out G4.out L4.out LT.out T4.out TT.out (by unfold Off; omega) (by unfold Off; omega) (by unfold Off; omega) (by unfold Off; omega) (by unfold Off; omega) (by unfold Off; omega) i1 i2 i3 i4
  exact this
set_option maxRecDepth 100000 in
set_option maxHeartbeats 3200000 in
theorem heldMachine_any (lo hi : Nat) (v : Value) (X : Mch) (k : Int) (w : World) (h : MchV w lo hi v (markX k X)) (hhi : hi ≤ w.heap.size) (hs : X.big ≤ 1048575) (hk0 : 0 ≤ k) (hk1 : k ≤ 1) :
    Calls Try.prog 45 #[v, .int .i64 k] w fun e w' => e = .returned (.int .i64 (k + X.marks)) ∧ Below w.heap.size w w' := by
  have hS := big_smallX (X := X) (by omega)
  have hb : X.f.ws.length + X.f.cs.length + X.ms.length + tot X.ms + X.ln.length + X.wt.length ≤ 1048575 := by unfold Mch.big Fnt.big magBig at hs; omega
  obtain ⟨s, A, n, c, A2, m, d, M, q, e0, L, l, lc, T, r, tc, rfl, hf, hq, hM, hqe, hem, hl, hL, hllc, hlm, hr, hT, hrt, htm⟩ := h.parts
  unfold markX at hf hq hM hl hL hr hT
  simp only at hf hq hM hl hL hr hT
  rw [upMM_len] at hq
  rw [upM_len] at hl hr
  obtain ⟨a, ha⟩ : ∃ x, X.f.ws.length = x := ⟨_, rfl⟩
  obtain ⟨b, hbb⟩ : ∃ x, X.f.cs.length = x := ⟨_, rfl⟩
  obtain ⟨tt, htt⟩ : ∃ x, tot X.ms = x := ⟨_, rfl⟩
  have HMk : Hid (X.marks = a + b + 2 * tt + 2 * l + 2 * r) := by show _ = _; unfold Mch.marks; rw [ha, hbb, htt, hl, hr]
  rw [ha, hbb] at hM
  rw [ha, hbb, htt, hl] at hL
  rw [ha, hbb, htt, hl, hr] at hT
  rw [ha, hbb, hq, htt, hl, hr] at hb
  rw [HMk.out]
  have hsp : (markX k X).sp = X.sp := rfl
  obtain ⟨sp, hsp⟩ : ∃ x, (markX k X).sp = x := ⟨_, rfl⟩
  obtain ⟨W, hW⟩ : ∃ x, (markX k X).w = x := ⟨_, rfl⟩
  obtain ⟨t, ht⟩ : ∃ x, (markX k X).t = x := ⟨_, rfl⟩
  obtain ⟨k2, hk⟩ : ∃ x, (markX k X).k = x := ⟨_, rfl⟩
  rw [hsp, hW, ht, hk] at h ⊢
  have Ha := Lib.hid ha; have Hb := Lib.hid hbb; have Htt := Lib.hid htt; have Hq := Lib.hid hq
  have hl1 : l ≤ 1048576 := by omega
  have hr1 : r ≤ 1048576 := by omega
  obtain ⟨w0, hw0, hb0, hz0, K0⟩ := mxWorld w #[.string s, .slice A n c, .slice A2 m d, .slice M q e0, .int .i64 sp, .int .i64 W, .int .i64 t, .int .i64 k2, .slice L l lc, .slice T r tc] 61
  have K0 := Lib.hid K0; have B0 := Lib.hid hb0
  have F0 := Lib.hid (hf.below hhi hb0); have M0 := Lib.hid (hM.below hhi hb0); have L0 := Lib.hid (hL.below hhi hb0); have W0 := Lib.hid (hT.below hhi hb0)
  have z0 : w.heap.size < w0.heap.size := by omega
  clear h hf hq hM hqe hem hl hL hllc hlm hr hT hrt htm hsp hW ht hk ha hbb htt hb0 hz0 HMk hs
  obtain ⟨kc0, kc1, kc2, kc3, kc4, kc5, kc6, kc7, kc8, kc9⟩ := K0.out.ten
  have v1 : decide (k + (a : Int) + (b : Int) < 0) = false := decide_eq_false (by omega)
  have v2 : decide (k + (a : Int) + (b : Int) + 2 * (tt : Int) < 0) = false := decide_eq_false (by omega)
  have v3 : decide (k + (a : Int) + (b : Int) + 2 * (tt : Int) + 2 * (l : Int) < 0) = false := decide_eq_false (by omega)
  have v4 : decide (k + (a : Int) + (b : Int) + 2 * (tt : Int) + 2 * (l : Int) + 2 * (r : Int) < 0) = false := decide_eq_false (by omega)
  go_enter Try.func45, Try.ntmps45
  go_wp2_with fail
  clear hw0
  refine (heldFont_any lo hi _ X.f k w0 F0.out (by omega) hS.f hk0 (by omega) (by rw [Ha.out]; omega)).mono ?_
  rintro e w1 ⟨rfl, hb1⟩
  rw [Ha.out, Hb.out]
  have K1 := Lib.hid (K0.out.below hb1 z0); have B1 := Lib.hid (B0.out.trans (hb1.mono (by omega)))
  have M1 := Lib.hid (M0.out.below (by omega) hb1); have L1 := Lib.hid (L0.out.below (by omega) hb1); have W1 := Lib.hid (W0.out.below (by omega) hb1)
  clear hb1 kc0 kc1 kc2 kc3 kc4 kc5 kc6 kc7 kc8 kc9 K0 B0 M0 L0 W0 F0
  obtain ⟨kc0, kc1, kc2, kc3, kc4, kc5, kc6, kc7, kc8, kc9⟩ := K1.out.ten
  go_wp2_with fail
  refine (heldMatrixSS_any lo hi _ _ _ (k + a + b) X.ms w1 Hq.out (by omega) (by omega) (by omega) (by rw [Htt.out]; omega) M1.out).mono ?_
  rintro e w1' ⟨rfl, rfl⟩
  rw [Htt.out]
  go_wp2_with fail
  refine (heldMatrixS_any lo hi _ _ _ (k + a + b + 2 * tt) w1 (by omega) (by omega) hl1 L1.out).mono ?_
  rintro e w1' ⟨rfl, rfl⟩
  go_wp2_with fail
  refine (heldMatrixS_any lo hi _ _ _ (k + a + b + 2 * tt + 2 * l) w1 (by omega) (by omega) hr1 W1.out).mono ?_
  rintro e w1' ⟨rfl, rfl⟩
  go_wp2
  go_ret
  exact ⟨ret_int (by push_cast; omega), B1.out⟩
end Go.Proofs.Ythoepelgmplcmaa
