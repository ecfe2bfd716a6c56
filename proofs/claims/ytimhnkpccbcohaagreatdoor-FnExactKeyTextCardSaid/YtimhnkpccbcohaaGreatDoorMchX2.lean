/-
  Machines of the call's own whose waiting row begins inside its block, and their marks. Conditions: sizes of at most 2^20.
-/
import Derived.Test.YtimhnkpccbcohaaGreatDoorTailM
import Derived.Test.YtimhnkpccbcohaaGreatDoorPkE
namespace Go.Proofs.YtimhnkpccbcohaaGreatDoor
open Go.RowKit
set_option linter.unusedVariables false
set_option linter.unusedSimpArgs false

/-- .. and each of its parts is the call's own, in ranges of blocks that do not meet -/
structure MchYO (w : World) (B hi : Nat) (v : Value) (X : Mch) (A : Option Addr) (c : Nat) (A2 : Option Addr) (d : Nat) (M : Option Addr) (e : Nat) (L : Option Addr) (lc : Nat) (T : Option Addr) (tc : Nat) (hs : List Value) (f0 f1 g0 g1 l0 l1 t0 t1 : Nat) : Prop where
  v : v = .agg (mwords X A c A2 d M e L lc T tc)
  font : FontO w f0 f1 (.agg #[.string X.f.s, .slice A X.f.ws.length c, .slice A2 X.f.cs.length d]) X.f
  mag : OwnMag w g0 g1 (.slice M X.ms.length e) hs X.ms
  line : OwnM w l0 (.slice L X.ln.length lc) X.ln
  lineT : ∀ k, (Value.slice L X.ln.length lc).ownBlock = some k → k < l1
  wait : OwnT w t0 (.slice T X.wt.length tc) X.wt
  waitT : ∀ k, (Value.slice T X.wt.length tc).ownBlock = some k → k < t1
  fg : Off f0 f1 g0 g1
  fl : Off f0 f1 l0 l1
  ft : Off f0 f1 t0 t1
  gl : Off g0 g1 l0 l1
  gt : Off g0 g1 t0 t1
  lt : Off l0 l1 t0 t1
  fi : B ≤ f0 ∧ f1 ≤ hi
  gi : B ≤ g0 ∧ g1 ≤ hi
  li : B ≤ l0 ∧ l1 ≤ hi
  ti : B ≤ t0 ∧ t1 ≤ hi
def MchY (w : World) (B hi : Nat) (v : Value) (X : Mch) : Prop := ∃ A c A2 d M e L lc T tc hs f0 f1 g0 g1 l0 l1 t0 t1, MchYO w B hi v X A c A2 d M e L lc T tc hs f0 f1 g0 g1 l0 l1 t0 t1
section
variable {w w' : World} {B hi : Nat} {X : Mch} {v : Value}
theorem MchY.reads (h : MchY w B hi v X) : MchV w B hi v X := by
  obtain ⟨A, c, A2, d, M, e, L, lc, T, tc, hs, f0, f1, g0, g1, l0, l1, t0, t1, h⟩ := h
  have fv := h.font.font
  refine ⟨A, c, A2, d, M, e, L, lc, T, tc, h.v, ?_, h.mag.reads.wide h.gi.1 h.gi.2, (MatsI.cutM h.line h.lineT).wide h.li.1 h.li.2, (OwnT.cutM h.wait h.waitT).wide h.ti.1 h.ti.2, (ownMag_caps h.mag).1, (ownMag_caps h.mag).2, (ownM_caps h.line).1, (ownM_caps h.line).2, (OwnT.caps h.wait).1, (OwnT.caps h.wait).2⟩
  obtain ⟨A', c', A2', d', hv, h1, h2, rest⟩ := fv
  exact ⟨A', c', A2', d', hv, h1.wide h.fi.1 h.fi.2, h2.wide h.fi.1 h.fi.2, rest⟩
theorem MchY.below (h : MchY w B hi v X) (hb : Below w.heap.size w w') : MchY w' B hi v X := by
  obtain ⟨A, c, A2, d, M, e, L, lc, T, tc, hs, f0, f1, g0, g1, l0, l1, t0, t1, h⟩ := h
  exact ⟨A, c, A2, d, M, e, L, lc, T, tc, hs, f0, f1, g0, g1, l0, l1, t0, t1, ⟨h.v, h.font.below hb, h.mag.below hb, h.line.below hb, h.lineT, h.wait.below hb, h.waitT, h.fg, h.fl, h.ft, h.gl, h.gt, h.lt, h.fi, h.gi, h.li, h.ti⟩⟩
theorem MchY.wide {B' hi' : Nat} (h : MchY w B hi v X) (h1 : B' ≤ B) (h2 : hi ≤ hi') : MchY w B' hi' v X := by
  obtain ⟨A, c, A2, d, M, e, L, lc, T, tc, hs, f0, f1, g0, g1, l0, l1, t0, t1, h⟩ := h
  exact ⟨A, c, A2, d, M, e, L, lc, T, tc, hs, f0, f1, g0, g1, l0, l1, t0, t1, ⟨h.v, h.font, h.mag, h.line, h.lineT, h.wait, h.waitT, h.fg, h.fl, h.ft, h.gl, h.gt, h.lt, ⟨by have := h.fi.1; omega, by have := h.fi.2; omega⟩, ⟨by have := h.gi.1; omega, by have := h.gi.2; omega⟩, ⟨by have := h.li.1; omega, by have := h.li.2; omega⟩, ⟨by have := h.ti.1; omega, by have := h.ti.2; omega⟩⟩⟩
theorem MchY.chg {lo' hi' : Nat} (h : MchY w B hi v X) (hc : Chg lo' hi' w w') (hn : Off B hi lo' hi') : MchY w' B hi v X := by
  obtain ⟨A, c, A2, d, M, e, L, lc, T, tc, hs, f0, f1, g0, g1, l0, l1, t0, t1, h⟩ := h
  have q1 := h.fi; have q2 := h.gi; have q3 := h.li; have q4 := h.ti
  unfold Off at hn
  refine ⟨A, c, A2, d, M, e, L, lc, T, tc, hs, f0, f1, g0, g1, l0, l1, t0, t1, ⟨h.v, h.font.chg hc (by unfold Off; omega), h.mag.chg hc (by omega), h.line.chg hc (fun k hk => ?_), h.lineT, h.wait.chg hc (fun k hk => ?_), h.waitT, h.fg, h.fl, h.ft, h.gl, h.gt, h.lt, h.fi, h.gi, h.li, h.ti⟩⟩
  · have := h.line.lt k hk; have := h.lineT k hk; omega
  · have := h.wait.lt k hk; have := h.waitT k hk; omega
end

theorem MchX.tailed {w : World} {B hi : Nat} {v : Value} {X : Mch} (h : MchX w B hi v X) : MchY w B hi v X := by
  obtain ⟨A, c, A2, d, M, e, L, lc, T, tc, hs, f0, f1, g0, g1, l0, l1, t0, t1, h⟩ := h
  exact ⟨A, c, A2, d, M, e, L, lc, T, tc, hs, f0, f1, g0, g1, l0, l1, t0, t1, ⟨h.v, h.font, h.mag, h.line, h.lineT, h.wait.tailed, h.waitT, h.fg, h.fl, h.ft, h.gl, h.gt, h.lt, h.fi, h.gi, h.li, h.ti⟩⟩
theorem MchY.build {w : World} {B hi : Nat} {X : Mch} {s : ByteArray} {A A2 M L T : Option Addr} {n c m d q e l lc r tc : Nat} {hs : List Value} {f0 f1 g0 g1 l0 l1 t0 t1 : Nat}
    (h1 : FontO w f0 f1 (.agg #[.string s, .slice A n c, .slice A2 m d]) X.f) (h2 : OwnMag w g0 g1 (.slice M q e) hs X.ms)
    (h3 : OwnM w l0 (.slice L l lc) X.ln) (h3t : ∀ k, (Value.slice L l lc).ownBlock = some k → k < l1) (h4 : OwnT w t0 (.slice T r tc) X.wt) (h4t : ∀ k, (Value.slice T r tc).ownBlock = some k → k < t1)
    (o1 : Off f0 f1 g0 g1) (o2 : Off f0 f1 l0 l1) (o3 : Off f0 f1 t0 t1) (o4 : Off g0 g1 l0 l1) (o5 : Off g0 g1 t0 t1) (o6 : Off l0 l1 t0 t1)
    (i1 : B ≤ f0 ∧ f1 ≤ hi) (i2 : B ≤ g0 ∧ g1 ≤ hi) (i3 : B ≤ l0 ∧ l1 ≤ hi) (i4 : B ≤ t0 ∧ t1 ≤ hi) :
    MchY w B hi (.agg #[.string s, .slice A n c, .slice A2 m d, .slice M q e, .int .i64 X.sp, .int .i64 X.w, .int .i64 X.t, .int .i64 X.k, .slice L l lc, .slice T r tc]) X := by
  have h1' := h1
  obtain ⟨A', c', A2', d', mid, hv, -⟩ := h1'
  injection hv with hv
  injection hv with hv
  simp only [List.cons.injEq, Value.string.injEq, Value.slice.injEq] at hv
  obtain ⟨rfl, ⟨rfl, rfl, rfl⟩, ⟨rfl, rfl, rfl⟩, -⟩ := hv
  obtain ⟨M', e', hv2, -⟩ := h2.form
  simp only [Value.slice.injEq] at hv2
  obtain ⟨rfl, rfl, rfl⟩ := hv2
  obtain ⟨L', e2', hv3, -⟩ := h3.form
  simp only [Value.slice.injEq] at hv3
  obtain ⟨rfl, rfl, rfl⟩ := hv3
  obtain ⟨T', e3', hv4, -⟩ := h4.form
  simp only [Value.slice.injEq] at hv4
  obtain ⟨rfl, rfl, rfl⟩ := hv4
  exact ⟨A, c, A2, d, M, e, L, lc, T, tc, hs, f0, f1, g0, g1, l0, l1, t0, t1, ⟨rfl, h1, h2, h3, h3t, h4, h4t, o1, o2, o3, o4, o5, o6, i1, i2, i3, i4⟩⟩
set_option maxRecDepth 100000 in
set_option maxHeartbeats 3200000 in
theorem markMachineT_any (B hi : Nat) (v : Value) (X : Mch) (k : Int) (w : World) (h : MchY w B hi v X) (hhi : hi ≤ w.heap.size) (hs : X.big ≤ 1048576) (hk0 : 0 ≤ k) (hk1 : k ≤ 1) :
    Calls Tryz.prog 12 #[v, .int .i64 k] w fun e w' => e = .returned (.int .i64 (k + X.marks)) ∧ MchY w' B hi v (markX k X) ∧ Chg B hi w w' := by
  obtain ⟨A, c, A2, d, M, e0, L, lc, T, tc, hs0, f0, f1, g0, g1, l0, l1, t0, t1, h⟩ := h
  have hS := big_smallX hs
  have hb : X.f.ws.length + X.f.cs.length + X.ms.length + tot X.ms + X.ln.length + X.wt.length ≤ 1048576 := by unfold Mch.big Fnt.big magBig at hs; omega
  obtain ⟨hv, hF, hG, hL, hLt, hT, hTt, o1, o2, o3, o4, o5, o6, i1, i2, i3, i4⟩ := h
  unfold mwords at hv
  subst hv
  obtain ⟨s, hs1⟩ : ∃ x, X.f.s = x := ⟨_, rfl⟩
  obtain ⟨n, hn⟩ : ∃ x, X.f.ws.length = x := ⟨_, rfl⟩
  obtain ⟨m, hm⟩ : ∃ x, X.f.cs.length = x := ⟨_, rfl⟩
  obtain ⟨q, hq⟩ : ∃ x, X.ms.length = x := ⟨_, rfl⟩
  obtain ⟨l, hl⟩ : ∃ x, X.ln.length = x := ⟨_, rfl⟩
  obtain ⟨r, hr⟩ : ∃ x, X.wt.length = x := ⟨_, rfl⟩
  obtain ⟨tt, htt⟩ : ∃ x, tot X.ms = x := ⟨_, rfl⟩
  have HMk : Hid (X.marks = n + m + 2 * tt + 2 * l + 2 * r) := by show _ = _; unfold Mch.marks; rw [hn, hm, htt, hl, hr]
  have HX : Hid (markX k X = ⟨mkF k X.f, upMM (k + n + m) X.ms, X.sp, X.w, X.t, X.k, upM (k + n + m + 2 * tt) l, upM (k + n + m + 2 * tt + 2 * l) r⟩) := by show _ = _; unfold markX; rw [hn, hm, htt, hl, hr]
  rw [hs1, hn, hm] at hF
  rw [hq] at hG
  rw [hl] at hL hLt
  rw [hr] at hT hTt
  rw [hs1, hn, hm, hq, hl, hr, HMk.out, HX.out]
  rw [hn, hm, hq, htt, hl, hr] at hb
  have Hn := Lib.hid hn; have Hm := Lib.hid hm; have Hl := Lib.hid hl; have Hr := Lib.hid hr; have Htt := Lib.hid htt
  unfold Off at o1 o2 o3 o4 o5 o6
  have hff : f0 ≤ f1 := by obtain ⟨_, _, _, _, mid, _, _, _, _, _, h3, h4, _⟩ := hF; omega
  have lF := hF; have lG := hG; have lL := fun k hk => OwnM.lt hL k hk; have lT := fun k hk => OwnT.lt hT k hk
  obtain ⟨w0, hw0, hb0, hz0, K0⟩ := mxWorld w #[.string s, .slice A n c, .slice A2 m d, .slice M q e0, .int .i64 X.sp, .int .i64 X.w, .int .i64 X.t, .int .i64 X.k, .slice L l lc, .slice T r tc] 37
  have K0 := Lib.hid K0
  have F0 := Lib.hid (hF.below hb0); have G0 := Lib.hid (hG.below hb0); have L0 := Lib.hid (hL.below hb0); have T0 := Lib.hid (hT.below hb0)
  have C0 := Lib.hid (Chg.of_below (lo := B) (hi := hi) hb0)
  have LT := Lib.hid hLt; have TT := Lib.hid hTt; have LL := Lib.hid lL; have TL := Lib.hid lT
  have z0 : w.heap.size < w0.heap.size := by omega
  clear hs hF hG hL hT hLt hTt hn hm hq hl hr htt hs1 lF lG lL lT hb0 hz0 HMk HX
  obtain ⟨kc0, kc1, kc2, kc3, kc4, kc5, kc6, kc7, kc8, kc9⟩ := K0.out.ten
  go_enter Tryz.func12, Tryz.ntmps12
  go_wp2_with fail
  clear hw0
  refine (markFontO_any f0 f1 _ X.f k w0 F0.out (by omega) (by omega) hS.f hk0 (by omega) (by rw [Hn.out]; omega)).mono ?_
  rintro e w1 ⟨rfl, hF1, hc⟩
  rw [Hn.out, Hm.out]
  have F1 := Lib.hid hF1
  have K1 := Lib.hid (K0.out.chg hc (by omega)); have C1 := Lib.hid (C0.out.trans (hc.wide (by omega) (by omega)))
  have G1 := Lib.hid (G0.out.chg hc (by omega))
  have L1 := Lib.hid (L0.out.chg hc (fun x hx => by have := LL.out x hx; have := LT.out x hx; omega))
  have T1 := Lib.hid (T0.out.chg hc (fun x hx => by have := TL.out x hx; have := TT.out x hx; omega))
  have z1 : w0.heap.size ≤ w1.heap.size := hc.size
  clear hF1 hc F0 K0 C0 G0 L0 T0 kc0 kc1 kc2 kc3 kc4 kc5 kc6 kc7 kc8 kc9
  obtain ⟨kc0, kc1, kc2, kc3, kc4, kc5, kc6, kc7, kc8, kc9⟩ := K1.out.ten
  go_wp2_with fail
  refine (markMatrixSS_any g0 g1 _ hs0 (k + n + m) X.ms w1 (by omega) (by omega) hS.ms hS.tot G1.out).mono ?_
  rintro e w2 ⟨rfl, hG2, hc⟩
  rw [Htt.out]
  have G2 := Lib.hid hG2
  have F2 := Lib.hid (F1.out.chg hc (by unfold Off; omega))
  have K2 := Lib.hid (K1.out.chg hc (by omega)); have C2 := Lib.hid (C1.out.trans (hc.wide (by omega) (by omega)))
  have L2 := Lib.hid (L1.out.chg hc (fun x hx => by have := LL.out x hx; have := LT.out x hx; omega))
  have T2 := Lib.hid (T1.out.chg hc (fun x hx => by have := TL.out x hx; have := TT.out x hx; omega))
  have z2 : w1.heap.size ≤ w2.heap.size := hc.size
  clear hG2 hc F1 K1 C1 G1 L1 T1 kc0 kc1 kc2 kc3 kc4 kc5 kc6 kc7 kc8 kc9
  obtain ⟨kc0, kc1, kc2, kc3, kc4, kc5, kc6, kc7, kc8, kc9⟩ := K2.out.ten
  go_wp2_with fail
  refine (markMatrixS_any l0 _ (k + n + m + 2 * tt) X.ln w2 (by omega) (by omega) hS.ln L2.out).mono ?_
  rintro e w3 ⟨rfl, hL3, hg⟩
  rw [Hl.out] at hL3
  rw [Hl.out]
  have hc : Chg l0 l1 w2 w3 := Chg.of_grown hg (fun x hx => ⟨(LL.out x hx).1, LT.out x hx⟩)
  have L3 := Lib.hid hL3
  have F3 := Lib.hid (F2.out.chg hc (by unfold Off; omega)); have G3 := Lib.hid (G2.out.chg hc (by omega))
  have K3 := Lib.hid (K2.out.chg hc (by omega)); have C3 := Lib.hid (C2.out.trans (hc.wide (by omega) (by omega)))
  have T3 := Lib.hid (T2.out.chg hc (fun x hx => by have := TL.out x hx; have := TT.out x hx; omega))
  have z3 : w2.heap.size ≤ w3.heap.size := hc.size
  clear hL3 hg hc F2 K2 C2 G2 L2 T2 kc0 kc1 kc2 kc3 kc4 kc5 kc6 kc7 kc8 kc9
  obtain ⟨kc0, kc1, kc2, kc3, kc4, kc5, kc6, kc7, kc8, kc9⟩ := K3.out.ten
  go_wp2_with fail
  refine (markMatrixT_any t0 _ (k + n + m + 2 * tt + 2 * l) X.wt w3 (by omega) (by omega) hS.wt T3.out).mono ?_
  rintro e w4 ⟨rfl, hT4, hg⟩
  rw [Hr.out] at hT4
  rw [Hr.out]
  have hc : Chg t0 t1 w3 w4 := Chg.of_grown hg (fun x hx => ⟨(TL.out x hx).1, TT.out x hx⟩)
  have T4 := Lib.hid hT4
  have F4 := Lib.hid (F3.out.chg hc (by unfold Off; omega)); have G4 := Lib.hid (G3.out.chg hc (by omega))
  have L4 := Lib.hid (L3.out.chg hc (fun x hx => by have := LL.out x hx; have := LT.out x hx; omega))
  have C4 := Lib.hid (C3.out.trans (hc.wide (by omega) (by omega)))
  clear hT4 hg hc F3 K3 C3 G3 L3 T3 kc0 kc1 kc2 kc3 kc4 kc5 kc6 kc7 kc8 kc9
  go_wp2
  go_ret
  refine ⟨ret_int (by push_cast; omega), ?_, C4.out⟩
  have := MchY.build (X := ⟨mkF k X.f, upMM (k + n + m) X.ms, X.sp, X.w, X.t, X.k, upM (k + n + m + 2 * tt) l, upM (k + n + m + 2 * tt + 2 * l) r⟩) F4.out G4.out L4.out LT.out T4.out TT.out (by unfold Off; omega) (by unfold Off; omega) (by unfold Off; omega) (by unfold Off; omega) (by unfold Off; omega) (by unfold Off; omega) i1 i2 i3 i4
  exact this
end Go.Proofs.YtimhnkpccbcohaaGreatDoor
