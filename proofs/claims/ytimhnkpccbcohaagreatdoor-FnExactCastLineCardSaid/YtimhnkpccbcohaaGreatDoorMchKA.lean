/-
  markMachine of a machine whose parts lie apart from a row, by contract: the row stays. Conditions: sizes of at most 2^20.
-/
import Derived.Test.YtimhnkpccbcohaaGreatDoorPkE
import Derived.Test.YtimhnkpccbcohaaGreatDoorEngA
namespace Go.Proofs.YtimhnkpccbcohaaGreatDoor
open Go.RowKit Go.Conc
set_option linter.unusedVariables false
set_option linter.unusedSimpArgs false
set_option maxRecDepth 100000 in
set_option maxHeartbeats 3200000 in
theorem markMachineA_any (B hi : Nat) (v : Value) (u : Value) (X : Mch) (k : Int) (w : World) (h : MchA w B hi v X u) (hu : ∀ g, u.ownBlock = some g → g < w.heap.size) (hhi : hi ≤ w.heap.size) (hs : X.big ≤ 1048576) (hk0 : 0 ≤ k) (hk1 : k ≤ 1) :
    Calls Tryz.prog 12 #[v, .int .i64 k] w fun e w' => e = .returned (.int .i64 (k + X.marks)) ∧ MchA w' B hi v (markX k X) u ∧ Chg B hi w w' ∧ ∀ g, u.ownBlock = some g → w'.heap[g]? = w.heap[g]? := by
  obtain ⟨A, c, A2, d, M, e0, L, lc, T, tc, hs0, f0, f1, g0, g1, l0, l1, t0, t1, h, ha⟩ := h
  have hS := big_smallX hs
  have hb : X.f.ws.length + X.f.cs.length + X.ms.length + tot X.ms + X.ln.length + X.wt.length ≤ 1048576 := by unfold Mch.big Fnt.big magBig at hs; omega
  obtain ⟨hv, hF, hG, hL, hLt, hT, hTt, o1, o2, o3, o4, o5, o6, i1, i2, i3, i4⟩ := h
  unfold mwords at hv
  subst hv
  obtain ⟨s, hs1⟩ : ∃ x, X.f.s = x := ⟨_, rfl⟩
  obtain ⟨n, hn⟩ : ∃ x, X.f.ws.length = x := ⟨_, rfl⟩
  obtain ⟨m, hm⟩ : ∃ x, X.f.cs.length = x := ⟨_, rfl⟩
  obtain ⟨q, hq⟩ : ∃ x, X.ms.length = x := ⟨_, rfl⟩
  obtain ⟨l, hl⟩ : ∃ x, X.ln.length = x := ⟨_, rfl⟩
  obtain ⟨r, hr⟩ : ∃ x, X.wt.length = x := ⟨_, rfl⟩
  obtain ⟨tt, htt⟩ : ∃ x, tot X.ms = x := ⟨_, rfl⟩
  have HMk : Hid (X.marks = n + m + 2 * tt + 2 * l + 2 * r) := by show _ = _; unfold Mch.marks; rw [hn, hm, htt, hl, hr]
  have HX : Hid (markX k X = ⟨mkF k X.f, upMM (k + n + m) X.ms, X.sp, X.w, X.t, X.k, upM (k + n + m + 2 * tt) l, upM (k + n + m + 2 * tt + 2 * l) r⟩) := by show _ = _; unfold markX; rw [hn, hm, htt, hl, hr]
  rw [hs1, hn, hm] at hF
  rw [hq] at hG
  rw [hl] at hL hLt
  rw [hr] at hT hTt
  rw [hs1, hn, hm, hq, hl, hr, HMk.out, HX.out]
  rw [hn, hm, hq, htt, hl, hr] at hb
  have Hn := Lib.hid hn; have Hm := Lib.hid hm; have Hl := Lib.hid hl; have Hr := Lib.hid hr; have Htt := Lib.hid htt
  unfold Off at o1 o2 o3 o4 o5 o6
  have hff : f0 ≤ f1 := by obtain ⟨_, _, _, _, mid, _, _, _, _, _, h3, h4, _⟩ := hF; omega
  have lF := hF; have lG := hG; have lL := fun k hk => OwnM.lt hL k hk; have lT := fun k hk => OwnM.lt hT k hk
  obtain ⟨w0, hw0, hb0, hz0, K0⟩ := mxWorld w #[.string s, .slice A n c, .slice A2 m d, .slice M q e0, .int .i64 X.sp, .int .i64 X.w, .int .i64 X.t, .int .i64 X.k, .slice L l lc, .slice T r tc] 37
  have K0 := Lib.hid K0
  have F0 := Lib.hid (hF.below hb0); have G0 := Lib.hid (hG.below hb0); have L0 := Lib.hid (hL.below hb0); have T0 := Lib.hid (hT.below hb0)
  have C0 := Lib.hid (Chg.of_below (lo := B) (hi := hi) hb0)
  have LT := Lib.hid hLt; have TT := Lib.hid hTt; have LL := Lib.hid lL; have TL := Lib.hid lT
  have z0 : w.heap.size < w0.heap.size := by omega
  have HU := Lib.hid hu; have HA := Lib.hid ha
  have U0 : Hid (∀ g, u.ownBlock = some g → w0.heap[g]? = w.heap[g]?) := fun g hg => hb0.block g (hu g hg)
  clear hu ha
  clear hs hF hG hL hT hLt hTt hn hm hq hl hr htt hs1 lF lG lL lT hb0 hz0 HMk HX
  obtain ⟨kc0, kc1, kc2, kc3, kc4, kc5, kc6, kc7, kc8, kc9⟩ := K0.out.ten
  go_enter Tryz.func12, Tryz.ntmps12
  go_wp2_with fail
  clear hw0
  refine (markFontO_any f0 f1 _ X.f k w0 F0.out (by omega) (by omega) hS.f hk0 (by omega) (by rw [Hn.out]; omega)).mono ?_
  rintro e w1 ⟨rfl, hF1, hc⟩
  rw [Hn.out, Hm.out]
  have F1 := Lib.hid hF1
  have K1 := Lib.hid (K0.out.chg hc (by omega)); have C1 := Lib.hid (C0.out.trans (hc.wide (by omega) (by omega)))
  have G1 := Lib.hid (G0.out.chg hc (by omega))
  have L1 := Lib.hid (L0.out.chg hc (fun x hx => by have := LL.out x hx; have := LT.out x hx; omega))
  have T1 := Lib.hid (T0.out.chg hc (fun x hx => by have := TL.out x hx; have := TT.out x hx; omega))
  have z1 : w0.heap.size ≤ w1.heap.size := hc.size
  have U1 : Hid (∀ g, u.ownBlock = some g → w1.heap[g]? = w.heap[g]?) := fun g hg => (hc.block g (by have := HU.out g hg; omega) (by have h9 := HA.out g hg; unfold Off at h9; omega)).trans (U0.out g hg)
  clear hF1 hc F0 K0 U0 C0 G0 L0 T0 kc0 kc1 kc2 kc3 kc4 kc5 kc6 kc7 kc8 kc9
  obtain ⟨kc0, kc1, kc2, kc3, kc4, kc5, kc6, kc7, kc8, kc9⟩ := K1.out.ten
  go_wp2_with fail
  refine (markMatrixSS_any g0 g1 _ hs0 (k + n + m) X.ms w1 (by omega) (by omega) hS.ms hS.tot G1.out).mono ?_
  rintro e w2 ⟨rfl, hG2, hc⟩
  rw [Htt.out]
  have G2 := Lib.hid hG2
  have F2 := Lib.hid (F1.out.chg hc (by unfold Off; omega))
  have K2 := Lib.hid (K1.out.chg hc (by omega)); have C2 := Lib.hid (C1.out.trans (hc.wide (by omega) (by omega)))
  have L2 := Lib.hid (L1.out.chg hc (fun x hx => by have := LL.out x hx; have := LT.out x hx; omega))
  have T2 := Lib.hid (T1.out.chg hc (fun x hx => by have := TL.out x hx; have := TT.out x hx; omega))
  have z2 : w1.heap.size ≤ w2.heap.size := hc.size
  have U2 : Hid (∀ g, u.ownBlock = some g → w2.heap[g]? = w.heap[g]?) := fun g hg => (hc.block g (by have := HU.out g hg; omega) (by have h9 := HA.out g hg; unfold Off at h9; omega)).trans (U1.out g hg)
  clear hG2 hc F1 K1 U1 C1 G1 L1 T1 kc0 kc1 kc2 kc3 kc4 kc5 kc6 kc7 kc8 kc9
  obtain ⟨kc0, kc1, kc2, kc3, kc4, kc5, kc6, kc7, kc8, kc9⟩ := K2.out.ten
  go_wp2_with fail
  refine (markMatrixS_any l0 _ (k + n + m + 2 * tt) X.ln w2 (by omega) (by omega) hS.ln L2.out).mono ?_
  rintro e w3 ⟨rfl, hL3, hg⟩
  rw [Hl.out] at hL3
  rw [Hl.out]
  have hc : Chg l0 l1 w2 w3 := Chg.of_grown hg (fun x hx => ⟨(LL.out x hx).1, LT.out x hx⟩)
  have L3 := Lib.hid hL3
  have F3 := Lib.hid (F2.out.chg hc (by unfold Off; omega)); have G3 := Lib.hid (G2.out.chg hc (by omega))
  have K3 := Lib.hid (K2.out.chg hc (by omega)); have C3 := Lib.hid (C2.out.trans (hc.wide (by omega) (by omega)))
  have T3 := Lib.hid (T2.out.chg hc (fun x hx => by have := TL.out x hx; have := TT.out x hx; omega))
  have z3 : w2.heap.size ≤ w3.heap.size := hc.size
  have U3 : Hid (∀ g, u.ownBlock = some g → w3.heap[g]? = w.heap[g]?) := fun g hg => (hc.block g (by have := HU.out g hg; omega) (by have h9 := HA.out g hg; unfold Off at h9; omega)).trans (U2.out g hg)
  clear hL3 hg hc F2 K2 U2 C2 G2 L2 T2 kc0 kc1 kc2 kc3 kc4 kc5 kc6 kc7 kc8 kc9
  obtain ⟨kc0, kc1, kc2, kc3, kc4, kc5, kc6, kc7, kc8, kc9⟩ := K3.out.ten
  go_wp2_with fail
  refine (markMatrixS_any t0 _ (k + n + m + 2 * tt + 2 * l) X.wt w3 (by omega) (by omega) hS.wt T3.out).mono ?_
  rintro e w4 ⟨rfl, hT4, hg⟩
  rw [Hr.out] at hT4
  rw [Hr.out]
  have hc : Chg t0 t1 w3 w4 := Chg.of_grown hg (fun x hx => ⟨(TL.out x hx).1, TT.out x hx⟩)
  have T4 := Lib.hid hT4
  have F4 := Lib.hid (F3.out.chg hc (by unfold Off; omega)); have G4 := Lib.hid (G3.out.chg hc (by omega))
  have L4 := Lib.hid (L3.out.chg hc (fun x hx => by have := LL.out x hx; have := LT.out x hx; omega))
  have C4 := Lib.hid (C3.out.trans (hc.wide (by omega) (by omega)))
  have U4 : Hid (∀ g, u.ownBlock = some g → w4.heap[g]? = w.heap[g]?) := fun g hg => (hc.block g (by have := HU.out g hg; omega) (by have h9 := HA.out g hg; unfold Off at h9; omega)).trans (U3.out g hg)
  clear hT4 hg hc F3 K3 U3 C3 G3 L3 T3 kc0 kc1 kc2 kc3 kc4 kc5 kc6 kc7 kc8 kc9
  go_wp2
  go_ret
  refine ⟨ret_int (by push_cast; omega), ?_, C4.out, U4.out⟩
  have := MchA.build (v := u) (X := ⟨mkF k X.f, upMM (k + n + m) X.ms, X.sp, X.w, X.t, X.k, upM (k + n + m + 2 * tt) l, upM (k + n + m + 2 * tt + 2 * l) r⟩) F4.out G4.out L4.out LT.out T4.out TT.out (by unfold Off; omega) (by unfold Off; omega) (by unfold Off; omega) (by unfold Off; omega) (by unfold Off; omega) (by unfold Off; omega) i1 i2 i3 i4 HA.out
  exact this
end Go.Proofs.YtimhnkpccbcohaaGreatDoor
