/-
  The laws' helpers toMachine by contract. Conditions: lengths of at most 2^20.
-/
import Derived.Test.YthoepelgmplcmaaMchM
import Derived.Test.YthoepelgmplcmaaLnKit
namespace Go.Proofs.Ythoepelgmplcmaa
open Go.RowKit
set_option linter.unusedVariables false

theorem heapSet {w : World} {B i : Nat} {cs : Array Value} {T : TypeId} (h : Blk w B cs T) (u : Value) : Blk (w.setCell ⟨B, i, none⟩ u) B (cs.setIfInBounds i u) T := by
  unfold Blk; exact heap_setCell_same w B i _ _ _ h
theorem Blk.fill {w : World} {B : Nat} {a0 a1 a2 a3 a4 a5 a6 a7 a8 a9 : Value} {T : TypeId} (h : Blk w B #[a0, a1, a2, a3, a4, a5, a6, a7, a8, a9] T) (u0 u1 u2 u3 u4 u5 u6 u7 u8 u9 : Value) :
    Blk (((((((((((w.setCell ⟨B, 0, none⟩ u0).setCell ⟨B, 1, none⟩ u1).setCell ⟨B, 2, none⟩ u2).setCell ⟨B, 3, none⟩ u3).setCell ⟨B, 4, none⟩ u4).setCell ⟨B, 5, none⟩ u5).setCell ⟨B, 6, none⟩ u6).setCell ⟨B, 7, none⟩ u7).setCell ⟨B, 8, none⟩ u8).setCell ⟨B, 9, none⟩ u9)) B #[u0, u1, u2, u3, u4, u5, u6, u7, u8, u9] T := by
  have h0 : Blk (w.setCell ⟨B, 0, none⟩ u0) B #[u0, a1, a2, a3, a4, a5, a6, a7, a8, a9] T := heapSet (i := 0) h u0
  have h1 : Blk ((w.setCell ⟨B, 0, none⟩ u0).setCell ⟨B, 1, none⟩ u1) B #[u0, u1, a2, a3, a4, a5, a6, a7, a8, a9] T := heapSet (i := 1) h0 u1
  have h2 : Blk (((w.setCell ⟨B, 0, none⟩ u0).setCell ⟨B, 1, none⟩ u1).setCell ⟨B, 2, none⟩ u2) B #[u0, u1, u2, a3, a4, a5, a6, a7, a8, a9] T := heapSet (i := 2) h1 u2
  have h3 : Blk ((((w.setCell ⟨B, 0, none⟩ u0).setCell ⟨B, 1, none⟩ u1).setCell ⟨B, 2, none⟩ u2).setCell ⟨B, 3, none⟩ u3) B #[u0, u1, u2, u3, a4, a5, a6, a7, a8, a9] T := heapSet (i := 3) h2 u3
  have h4 : Blk (((((w.setCell ⟨B, 0, none⟩ u0).setCell ⟨B, 1, none⟩ u1).setCell ⟨B, 2, none⟩ u2).setCell ⟨B, 3, none⟩ u3).setCell ⟨B, 4, none⟩ u4) B #[u0, u1, u2, u3, u4, a5, a6, a7, a8, a9] T := heapSet (i := 4) h3 u4
  have h5 : Blk ((((((w.setCell ⟨B, 0, none⟩ u0).setCell ⟨B, 1, none⟩ u1).setCell ⟨B, 2, none⟩ u2).setCell ⟨B, 3, none⟩ u3).setCell ⟨B, 4, none⟩ u4).setCell ⟨B, 5, none⟩ u5) B #[u0, u1, u2, u3, u4, u5, a6, a7, a8, a9] T := heapSet (i := 5) h4 u5
  have h6 : Blk (((((((w.setCell ⟨B, 0, none⟩ u0).setCell ⟨B, 1, none⟩ u1).setCell ⟨B, 2, none⟩ u2).setCell ⟨B, 3, none⟩ u3).setCell ⟨B, 4, none⟩ u4).setCell ⟨B, 5, none⟩ u5).setCell ⟨B, 6, none⟩ u6) B #[u0, u1, u2, u3, u4, u5, u6, a7, a8, a9] T := heapSet (i := 6) h5 u6
  have h7 : Blk ((((((((w.setCell ⟨B, 0, none⟩ u0).setCell ⟨B, 1, none⟩ u1).setCell ⟨B, 2, none⟩ u2).setCell ⟨B, 3, none⟩ u3).setCell ⟨B, 4, none⟩ u4).setCell ⟨B, 5, none⟩ u5).setCell ⟨B, 6, none⟩ u6).setCell ⟨B, 7, none⟩ u7) B #[u0, u1, u2, u3, u4, u5, u6, u7, a8, a9] T := heapSet (i := 7) h6 u7
  have h8 : Blk (((((((((w.setCell ⟨B, 0, none⟩ u0).setCell ⟨B, 1, none⟩ u1).setCell ⟨B, 2, none⟩ u2).setCell ⟨B, 3, none⟩ u3).setCell ⟨B, 4, none⟩ u4).setCell ⟨B, 5, none⟩ u5).setCell ⟨B, 6, none⟩ u6).setCell ⟨B, 7, none⟩ u7).setCell ⟨B, 8, none⟩ u8) B #[u0, u1, u2, u3, u4, u5, u6, u7, u8, a9] T := heapSet (i := 8) h7 u8
  have h9 : Blk ((((((((((w.setCell ⟨B, 0, none⟩ u0).setCell ⟨B, 1, none⟩ u1).setCell ⟨B, 2, none⟩ u2).setCell ⟨B, 3, none⟩ u3).setCell ⟨B, 4, none⟩ u4).setCell ⟨B, 5, none⟩ u5).setCell ⟨B, 6, none⟩ u6).setCell ⟨B, 7, none⟩ u7).setCell ⟨B, 8, none⟩ u8).setCell ⟨B, 9, none⟩ u9) B #[u0, u1, u2, u3, u4, u5, u6, u7, u8, u9] T := heapSet (i := 9) h8 u9
  exact h9
theorem Blk.warm {w : World} {B : Nat} {cs : Array Value} {T : TypeId} (h : Blk w B cs T) (i : Nat) : w.frozen? ⟨B, i, none⟩ = false := by
  unfold Blk at h
  simp [World.frozen?, h]
theorem ownM_set {w : World} {B : Nat} {v : Value} {xs : List Mat} (h : OwnM w B v xs) {a : Addr} (ha : a.block < B) (u : Value) : OwnM (w.setCell a u) B v xs := ownsRow_setCell_below h ha u
theorem FontO.names {w : World} {B hi : Nat} {v : Value} {f : Fnt} (h : FontO w B hi v f) : ∃ s A n c A2 m d, v = .agg #[.string s, .slice A n c, .slice A2 m d] := by
  obtain ⟨A, c, A2, d, mid, hv, -⟩ := h
  exact ⟨_, A, _, c, A2, _, d, hv⟩
/-- one value stored in a block below all that a font holds -/
theorem FontO.setB {w : World} {B hi b o : Nat} {v : Value} {f : Fnt} (h : FontO w B hi v f) (hb : b < B) (u : Value) : FontO (w.setCell ⟨b, o, none⟩ u) B hi v f := by
  obtain ⟨A, c, A2, d, mid, hv, h1, hm, h2, hm2, h3, h4, hs⟩ := h
  exact ⟨A, c, A2, d, mid, hv, own_set h1 hb u, hm, own_set h2 (by show b < mid; omega) u, hm2, h3, h4, hs⟩
theorem OwnMag.setB {w : World} {B hi b o : Nat} {v : Value} {hs : List Value} {ms : List (List Mat)} (h : OwnMag w B hi v hs ms) (hb : b < B) (u : Value) : OwnMag (w.setCell ⟨b, o, none⟩ u) B hi v hs ms where
  outer := ownsRow_setCell_below h.outer (by show b < B; exact hb) u
  rows := fun j xs hx => by obtain ⟨hj, e, ho⟩ := h.rows j xs hx; exact ⟨hj, e, ownM_set ho (by show b < B; exact hb) u⟩
  apart := h.apart
  other := h.other
  top := h.top
theorem MchX.build {w : World} {B hi : Nat} {X : Mch} {s : ByteArray} {A A2 M L T : Option Addr} {n c m d q e l lc r tc : Nat} {hs : List Value} {f0 f1 g0 g1 l0 l1 t0 t1 : Nat}
    (h1 : FontO w f0 f1 (.agg #[.string s, .slice A n c, .slice A2 m d]) X.f) (h2 : OwnMag w g0 g1 (.slice M q e) hs X.ms)
    (h3 : OwnM w l0 (.slice L l lc) X.ln) (h3t : ∀ k, (Value.slice L l lc).ownBlock = some k → k < l1) (h4 : OwnM w t0 (.slice T r tc) X.wt) (h4t : ∀ k, (Value.slice T r tc).ownBlock = some k → k < t1)
    (o1 : Off f0 f1 g0 g1) (o2 : Off f0 f1 l0 l1) (o3 : Off f0 f1 t0 t1) (o4 : Off g0 g1 l0 l1) (o5 : Off g0 g1 t0 t1) (o6 : Off l0 l1 t0 t1)
    (i1 : B ≤ f0 ∧ f1 ≤ hi) (i2 : B ≤ g0 ∧ g1 ≤ hi) (i3 : B ≤ l0 ∧ l1 ≤ hi) (i4 : B ≤ t0 ∧ t1 ≤ hi) :
    MchX w B hi (.agg #[.string s, .slice A n c, .slice A2 m d, .slice M q e, .int .i64 X.sp, .int .i64 X.w, .int .i64 X.t, .int .i64 X.k, .slice L l lc, .slice T r tc]) X := by
  have h1' := h1
  obtain ⟨A', c', A2', d', mid, hv, -⟩ := h1'
  injection hv with hv
  injection hv with hv
  simp only [List.cons.injEq, Value.string.injEq, Value.slice.injEq] at hv
  obtain ⟨rfl, ⟨rfl, rfl, rfl⟩, ⟨rfl, rfl, rfl⟩, -⟩ := hv
  obtain ⟨M', e', hv2, -⟩ := h2.form
  simp only [Value.slice.injEq] at hv2
  obtain ⟨rfl, rfl, rfl⟩ := hv2
  obtain ⟨L', e2', hv3, -⟩ := h3.form
  simp only [Value.slice.injEq] at hv3
  obtain ⟨rfl, rfl, rfl⟩ := hv3
  obtain ⟨T', e3', hv4, -⟩ := h4.form
  simp only [Value.slice.injEq] at hv4
  obtain ⟨rfl, rfl, rfl⟩ := hv4
  exact ⟨A, c, A2, d, M, e, L, lc, T, tc, hs, f0, f1, g0, g1, l0, l1, t0, t1, ⟨rfl, h1, h2, h3, h3t, h4, h4t, o1, o2, o3, o4, o5, o6, i1, i2, i3, i4⟩⟩

set_option maxRecDepth 100000 in
set_option maxHeartbeats 3200000 in
theorem toMachine_any (lo hi : Nat) (v : Value) (X : Mch) (w : World) (h : MchV w lo hi v X) (hhi : hi ≤ w.heap.size) (hs : SmallX X) :
    Calls Try.prog 34 #[v] w fun e w' => ∃ v', e = .returned v' ∧ MchX w' w.heap.size w'.heap.size v' X ∧ Below w.heap.size w w' := by
  obtain ⟨s, A, n, c, A2, m, d, M, q, e0, L, l, lc, T, r, tc, rfl, hf, hq, hM, hqe, hem, hl, hL, hllc, hlm, hr, hT, hrt, htm⟩ := h.parts
  have Hq := Lib.hid hq; have Hl := Lib.hid hl; have Hr := Lib.hid hr; have HS := Lib.hid hs
  have hq1 : q ≤ 1048576 := by rw [← hq]; exact hs.ms
  have hl1 : l ≤ 1048576 := by rw [← hl]; exact hs.ln
  have hr1 : r ≤ 1048576 := by rw [← hr]; exact hs.wt
  obtain ⟨sp, hsp⟩ : ∃ x, X.sp = x := ⟨_, rfl⟩
  obtain ⟨W, hW⟩ : ∃ x, X.w = x := ⟨_, rfl⟩
  obtain ⟨t, ht⟩ : ∃ x, X.t = x := ⟨_, rfl⟩
  obtain ⟨k, hk⟩ : ∃ x, X.k = x := ⟨_, rfl⟩
  rw [hsp, hW, ht, hk] at h ⊢
  have HE : Hid (X.sp = sp ∧ X.w = W ∧ X.t = t ∧ X.k = k) := ⟨hsp, hW, ht, hk⟩
  obtain ⟨wA, hA, hbA, hzA, KA⟩ := mxWorld w #[.string s, .slice A n c, .slice A2 m d, .slice M q e0, .int .i64 sp, .int .i64 W, .int .i64 t, .int .i64 k, .slice L l lc, .slice T r tc] 56
  obtain ⟨wB, hB, hbB, hzB, RB⟩ := mxWorld wA #[.string ⟨#[]⟩, .slice none 0 0, .slice none 0 0, .slice none 0 0, .int .i64 0, .int .i64 0, .int .i64 0, .int .i64 0, .slice none 0 0, .slice none 0 0] 61
  obtain ⟨wC, hC, hbC, hzC, OC⟩ := mxWorld wB #[.string ⟨#[]⟩, .slice none 0 0, .slice none 0 0, .slice none 0 0, .int .i64 0, .int .i64 0, .int .i64 0, .int .i64 0, .slice none 0 0, .slice none 0 0] 61
  rw [hzA] at RB
  rw [hzB, hzA] at OC
  have K0 := Lib.hid ((KA.below hbB (by omega)).below hbC (by omega))
  have R0 := Lib.hid (RB.below hbC (by omega))
  have O0 := Lib.hid OC
  have hb0 : Below w.heap.size w wC := (hbA.trans (hbB.mono (by omega))).trans (hbC.mono (by omega))
  have T0 := Lib.hid hb0
  have F0 := Lib.hid (hf.below hhi hb0); have M0 := Lib.hid (hM.below hhi hb0); have L0 := Lib.hid (hL.below hhi hb0); have W0 := Lib.hid (hT.below hhi hb0)
  have Z0 : Hid (wC.heap.size = w.heap.size + 3) := by show _ = _; omega
  subst hA hB hC
  clear h hf hq hM hqe hem hl hL hllc hlm hr hT hrt htm hsp hW ht hk hbA hbB hbC hb0 hzA hzB hzC KA RB OC hs
  go_enter Try.func34, Try.ntmps34
  go_wp2_with fail
  have zz := Z0.out
  refine (toFont_any lo hi _ X.f _ F0.out (by omega) HS.out.f).mono ?_
  rintro e w1 ⟨v1, rfl, hO1, hb⟩
  obtain ⟨s1, A1, n1, c1, B1, m1, d1, rfl⟩ := hO1.names
  have K1 := Lib.hid (K0.out.below hb (by omega)); have R1 := Lib.hid (R0.out.below hb (by omega)); have O1 := Lib.hid (O0.out.below hb (by omega)); have T1 := Lib.hid (T0.out.trans (hb.mono (by omega)))
  have M1 := Lib.hid (M0.out.below (by omega) hb); have L1 := Lib.hid (L0.out.below (by omega) hb); have W1 := Lib.hid (W0.out.below (by omega) hb)
  have z1 : w.heap.size + 3 ≤ w1.heap.size := by have := hb.size; omega
  rw [zz] at hO1
  have P1 := Lib.hid hO1
  clear hO1 hb zz Z0 K0 R0 O0 T0 M0 L0 W0 F0
  obtain ⟨kc0, kc1, kc2, kc3, kc4, kc5, kc6, kc7, kc8, kc9⟩ := K1.out.ten
  obtain ⟨oc0, oc1, oc2, oc3, oc4, oc5, oc6, oc7, oc8, oc9⟩ := O1.out.ten
  have fz := O1.out.warm
  go_wp2_with fail
  obtain ⟨x1, hx⟩ : ∃ x, (((w1.setCell ⟨w.heap.size + 1 + 1, 0, none⟩ (.string s1)).setCell ⟨w.heap.size + 1 + 1, 1, none⟩ (.slice A1 n1 c1)).setCell ⟨w.heap.size + 1 + 1, 2, none⟩ (.slice B1 m1 d1)) = x := ⟨_, rfl⟩
  have ox : Blk x1 (w.heap.size + 1 + 1) #[.string s1, .slice A1 n1 c1, .slice B1 m1 d1, .slice none 0 0, .int .i64 0, .int .i64 0, .int .i64 0, .int .i64 0, .slice none 0 0, .slice none 0 0] 61 := by rw [← hx]; exact (heapSet (i := 2) (heapSet (i := 1) (heapSet (i := 0) O1.out _) _) _)
  have kx := (((K1.out.other ⟨w.heap.size + 1 + 1, 0, none⟩ (.string s1) (by show w.heap.size ≠ w.heap.size + 1 + 1; omega)).other ⟨w.heap.size + 1 + 1, 1, none⟩ (.slice A1 n1 c1) (by show w.heap.size ≠ w.heap.size + 1 + 1; omega)).other ⟨w.heap.size + 1 + 1, 2, none⟩ (.slice B1 m1 d1) (by show w.heap.size ≠ w.heap.size + 1 + 1; omega))
  have rx := (((R1.out.other ⟨w.heap.size + 1 + 1, 0, none⟩ (.string s1) (by show w.heap.size + 1 ≠ w.heap.size + 1 + 1; omega)).other ⟨w.heap.size + 1 + 1, 1, none⟩ (.slice A1 n1 c1) (by show w.heap.size + 1 ≠ w.heap.size + 1 + 1; omega)).other ⟨w.heap.size + 1 + 1, 2, none⟩ (.slice B1 m1 d1) (by show w.heap.size + 1 ≠ w.heap.size + 1 + 1; omega))
  have bx : Below w.heap.size w1 x1 := by rw [← hx]; exact ((((Below.refl _ _).setCell (show w.heap.size ≤ (⟨w.heap.size + 1 + 1, 0, none⟩ : Addr).block by show w.heap.size ≤ w.heap.size + 1 + 1; omega) _).setCell (show w.heap.size ≤ (⟨w.heap.size + 1 + 1, 1, none⟩ : Addr).block by show w.heap.size ≤ w.heap.size + 1 + 1; omega) _).setCell (show w.heap.size ≤ (⟨w.heap.size + 1 + 1, 2, none⟩ : Addr).block by show w.heap.size ≤ w.heap.size + 1 + 1; omega) _)
  have zx : x1.heap.size = w1.heap.size := by rw [← hx]; simp
  rw [hx] at kx rx ⊢
  have Mx := M1.out.below hhi bx
  have Lx := L1.out.below hhi bx
  have Wx := W1.out.below hhi bx
  have Px := (((P1.out.setB (b := w.heap.size + 1 + 1) (o := 0) (by omega) (.string s1)).setB (b := w.heap.size + 1 + 1) (o := 1) (by omega) (.slice A1 n1 c1)).setB (b := w.heap.size + 1 + 1) (o := 2) (by omega) (.slice B1 m1 d1))
  rw [hx] at Px
  refine (toMatrixSS_any lo hi _ _ _ X.ms x1 Hq.out hq1 HS.out.row (by omega) Mx).mono ?_
  rintro e w2 ⟨v2, hs2, rfl, hO2, hb⟩
  obtain ⟨M2, e2, hv2, -⟩ := hO2.form
  rw [Hq.out] at hv2
  subst hv2
  rw [zx] at hO2
  have zq : x1.heap.size ≤ w2.heap.size := hb.size
  have K2 := Lib.hid (kx.below hb (by omega)); have R2 := Lib.hid (rx.below hb (by omega)); have O2 := Lib.hid (ox.below hb (by omega)); have T2 := Lib.hid ((T1.out.trans bx).trans (hb.mono (by omega)))
  have L2 := Lib.hid (Lx.below (by omega) hb)
  have W2 := Lib.hid (Wx.below (by omega) hb)
  have P2 := Lib.hid (Px.below hb)
  have z2 : w1.heap.size ≤ w2.heap.size := by omega
  have G2 := Lib.hid (hO2)
  clear hO2 Mx M1 zx hb hx ox kx rx bx zq Lx Wx Px K1 R1 O1 T1 L1 W1 P1 kc0 kc1 kc2 kc3 kc4 kc5 kc6 kc7 kc8 kc9 oc0 oc1 oc2 oc3 oc4 oc5 oc6 oc7 oc8 oc9 fz
  obtain ⟨kc0, kc1, kc2, kc3, kc4, kc5, kc6, kc7, kc8, kc9⟩ := K2.out.ten
  obtain ⟨oc0, oc1, oc2, oc3, oc4, oc5, oc6, oc7, oc8, oc9⟩ := O2.out.ten
  have fz := O2.out.warm
  go_wp2_with fail
  obtain ⟨x2, hx⟩ : ∃ x, ((w2.setCell ⟨w.heap.size + 1 + 1, 3, none⟩ (.slice M2 q e2)).setCell ⟨w.heap.size + 1 + 1, 4, none⟩ (.int .i64 sp)) = x := ⟨_, rfl⟩
  have ox : Blk x2 (w.heap.size + 1 + 1) #[.string s1, .slice A1 n1 c1, .slice B1 m1 d1, .slice M2 q e2, .int .i64 sp, .int .i64 0, .int .i64 0, .int .i64 0, .slice none 0 0, .slice none 0 0] 61 := by rw [← hx]; exact (heapSet (i := 4) (heapSet (i := 3) O2.out _) _)
  have kx := ((K2.out.other ⟨w.heap.size + 1 + 1, 3, none⟩ (.slice M2 q e2) (by show w.heap.size ≠ w.heap.size + 1 + 1; omega)).other ⟨w.heap.size + 1 + 1, 4, none⟩ (.int .i64 sp) (by show w.heap.size ≠ w.heap.size + 1 + 1; omega))
  have rx := ((R2.out.other ⟨w.heap.size + 1 + 1, 3, none⟩ (.slice M2 q e2) (by show w.heap.size + 1 ≠ w.heap.size + 1 + 1; omega)).other ⟨w.heap.size + 1 + 1, 4, none⟩ (.int .i64 sp) (by show w.heap.size + 1 ≠ w.heap.size + 1 + 1; omega))
  have bx : Below w.heap.size w2 x2 := by rw [← hx]; exact (((Below.refl _ _).setCell (show w.heap.size ≤ (⟨w.heap.size + 1 + 1, 3, none⟩ : Addr).block by show w.heap.size ≤ w.heap.size + 1 + 1; omega) _).setCell (show w.heap.size ≤ (⟨w.heap.size + 1 + 1, 4, none⟩ : Addr).block by show w.heap.size ≤ w.heap.size + 1 + 1; omega) _)
  have zx : x2.heap.size = w2.heap.size := by rw [← hx]; simp
  rw [hx] at kx rx ⊢
  have Lx := L2.out.below hhi bx
  have Wx := W2.out.below hhi bx
  have Px := ((P2.out.setB (b := w.heap.size + 1 + 1) (o := 3) (by omega) (.slice M2 q e2)).setB (b := w.heap.size + 1 + 1) (o := 4) (by omega) (.int .i64 sp))
  rw [hx] at Px
  have Gx := ((G2.out.setB (b := w.heap.size + 1 + 1) (o := 3) (by omega) (.slice M2 q e2)).setB (b := w.heap.size + 1 + 1) (o := 4) (by omega) (.int .i64 sp))
  rw [hx] at Gx
  refine (toMeasure_any W t k x2).mono ?_
  rintro e w3 ⟨rfl, hb⟩
  have zq : x2.heap.size ≤ w3.heap.size := hb.size
  have K3 := Lib.hid (kx.below hb (by omega)); have R3 := Lib.hid (rx.below hb (by omega)); have O3 := Lib.hid (ox.below hb (by omega)); have T3 := Lib.hid ((T2.out.trans bx).trans (hb.mono (by omega)))
  have L3 := Lib.hid (Lx.below (by omega) hb)
  have W3 := Lib.hid (Wx.below (by omega) hb)
  have P3 := Lib.hid (Px.below hb)
  have G3 := Lib.hid (Gx.below hb)
  have z3 : w2.heap.size ≤ w3.heap.size := by omega
  clear zx hb hx ox kx rx bx zq Lx Wx Px Gx K2 R2 O2 T2 L2 W2 P2 G2 kc0 kc1 kc2 kc3 kc4 kc5 kc6 kc7 kc8 kc9 oc0 oc1 oc2 oc3 oc4 oc5 oc6 oc7 oc8 oc9 fz
  obtain ⟨kc0, kc1, kc2, kc3, kc4, kc5, kc6, kc7, kc8, kc9⟩ := K3.out.ten
  obtain ⟨oc0, oc1, oc2, oc3, oc4, oc5, oc6, oc7, oc8, oc9⟩ := O3.out.ten
  have fz := O3.out.warm
  go_wp2_with fail
  obtain ⟨x3, hx⟩ : ∃ x, (((w3.setCell ⟨w.heap.size + 1 + 1, 5, none⟩ (.int .i64 W)).setCell ⟨w.heap.size + 1 + 1, 6, none⟩ (.int .i64 t)).setCell ⟨w.heap.size + 1 + 1, 7, none⟩ (.int .i64 k)) = x := ⟨_, rfl⟩
  have ox : Blk x3 (w.heap.size + 1 + 1) #[.string s1, .slice A1 n1 c1, .slice B1 m1 d1, .slice M2 q e2, .int .i64 sp, .int .i64 W, .int .i64 t, .int .i64 k, .slice none 0 0, .slice none 0 0] 61 := by rw [← hx]; exact (heapSet (i := 7) (heapSet (i := 6) (heapSet (i := 5) O3.out _) _) _)
  have kx := (((K3.out.other ⟨w.heap.size + 1 + 1, 5, none⟩ (.int .i64 W) (by show w.heap.size ≠ w.heap.size + 1 + 1; omega)).other ⟨w.heap.size + 1 + 1, 6, none⟩ (.int .i64 t) (by show w.heap.size ≠ w.heap.size + 1 + 1; omega)).other ⟨w.heap.size + 1 + 1, 7, none⟩ (.int .i64 k) (by show w.heap.size ≠ w.heap.size + 1 + 1; omega))
  have rx := (((R3.out.other ⟨w.heap.size + 1 + 1, 5, none⟩ (.int .i64 W) (by show w.heap.size + 1 ≠ w.heap.size + 1 + 1; omega)).other ⟨w.heap.size + 1 + 1, 6, none⟩ (.int .i64 t) (by show w.heap.size + 1 ≠ w.heap.size + 1 + 1; omega)).other ⟨w.heap.size + 1 + 1, 7, none⟩ (.int .i64 k) (by show w.heap.size + 1 ≠ w.heap.size + 1 + 1; omega))
  have bx : Below w.heap.size w3 x3 := by rw [← hx]; exact ((((Below.refl _ _).setCell (show w.heap.size ≤ (⟨w.heap.size + 1 + 1, 5, none⟩ : Addr).block by show w.heap.size ≤ w.heap.size + 1 + 1; omega) _).setCell (show w.heap.size ≤ (⟨w.heap.size + 1 + 1, 6, none⟩ : Addr).block by show w.heap.size ≤ w.heap.size + 1 + 1; omega) _).setCell (show w.heap.size ≤ (⟨w.heap.size + 1 + 1, 7, none⟩ : Addr).block by show w.heap.size ≤ w.heap.size + 1 + 1; omega) _)
  have zx : x3.heap.size = w3.heap.size := by rw [← hx]; simp
  rw [hx] at kx rx ⊢
  have Lx := L3.out.below hhi bx
  have Wx := W3.out.below hhi bx
  have Px := (((P3.out.setB (b := w.heap.size + 1 + 1) (o := 5) (by omega) (.int .i64 W)).setB (b := w.heap.size + 1 + 1) (o := 6) (by omega) (.int .i64 t)).setB (b := w.heap.size + 1 + 1) (o := 7) (by omega) (.int .i64 k))
  rw [hx] at Px
  have Gx := (((G3.out.setB (b := w.heap.size + 1 + 1) (o := 5) (by omega) (.int .i64 W)).setB (b := w.heap.size + 1 + 1) (o := 6) (by omega) (.int .i64 t)).setB (b := w.heap.size + 1 + 1) (o := 7) (by omega) (.int .i64 k))
  rw [hx] at Gx
  refine (toMatrixS_any lo hi _ _ _ X.ln x3 Hl.out hl1 (by omega) Lx).mono ?_
  rintro e w4 ⟨v4, rfl, hO4, hb⟩
  obtain ⟨L2, f2, hv4, -⟩ := hO4.form
  rw [Hl.out] at hv4
  subst hv4
  have Qt := Lib.hid (fun k hk => (hO4.lt k hk).2)
  rw [zx] at hO4
  have zq : x3.heap.size ≤ w4.heap.size := hb.size
  have K4 := Lib.hid (kx.below hb (by omega)); have R4 := Lib.hid (rx.below hb (by omega)); have O4 := Lib.hid (ox.below hb (by omega)); have T4 := Lib.hid ((T3.out.trans bx).trans (hb.mono (by omega)))
  have W4 := Lib.hid (Wx.below (by omega) hb)
  have P4 := Lib.hid (Px.below hb)
  have G4 := Lib.hid (Gx.below hb)
  have z4 : w3.heap.size ≤ w4.heap.size := by omega
  have Q4 := Lib.hid (hO4)
  clear hO4 Lx L3 zx hb hx ox kx rx bx zq Wx Px Gx K3 R3 O3 T3 W3 P3 G3 kc0 kc1 kc2 kc3 kc4 kc5 kc6 kc7 kc8 kc9 oc0 oc1 oc2 oc3 oc4 oc5 oc6 oc7 oc8 oc9 fz
  obtain ⟨kc0, kc1, kc2, kc3, kc4, kc5, kc6, kc7, kc8, kc9⟩ := K4.out.ten
  obtain ⟨oc0, oc1, oc2, oc3, oc4, oc5, oc6, oc7, oc8, oc9⟩ := O4.out.ten
  have fz := O4.out.warm
  go_wp2_with fail
  obtain ⟨x4, hx⟩ : ∃ x, (w4.setCell ⟨w.heap.size + 1 + 1, 8, none⟩ (.slice L2 l f2)) = x := ⟨_, rfl⟩
  have ox : Blk x4 (w.heap.size + 1 + 1) #[.string s1, .slice A1 n1 c1, .slice B1 m1 d1, .slice M2 q e2, .int .i64 sp, .int .i64 W, .int .i64 t, .int .i64 k, .slice L2 l f2, .slice none 0 0] 61 := by rw [← hx]; exact (heapSet (i := 8) O4.out _)
  have kx := (K4.out.other ⟨w.heap.size + 1 + 1, 8, none⟩ (.slice L2 l f2) (by show w.heap.size ≠ w.heap.size + 1 + 1; omega))
  have rx := (R4.out.other ⟨w.heap.size + 1 + 1, 8, none⟩ (.slice L2 l f2) (by show w.heap.size + 1 ≠ w.heap.size + 1 + 1; omega))
  have bx : Below w.heap.size w4 x4 := by rw [← hx]; exact ((Below.refl _ _).setCell (show w.heap.size ≤ (⟨w.heap.size + 1 + 1, 8, none⟩ : Addr).block by show w.heap.size ≤ w.heap.size + 1 + 1; omega) _)
  have zx : x4.heap.size = w4.heap.size := by rw [← hx]; simp
  rw [hx] at kx rx ⊢
  have Wx := W4.out.below hhi bx
  have Px := (P4.out.setB (b := w.heap.size + 1 + 1) (o := 8) (by omega) (.slice L2 l f2))
  rw [hx] at Px
  have Gx := (G4.out.setB (b := w.heap.size + 1 + 1) (o := 8) (by omega) (.slice L2 l f2))
  rw [hx] at Gx
  have Qx := (ownM_set (a := ⟨w.heap.size + 1 + 1, 8, none⟩) Q4.out (by show w.heap.size + 1 + 1 < _; omega) (.slice L2 l f2))
  rw [hx] at Qx
  refine (toMatrixS_any lo hi _ _ _ X.wt x4 Hr.out hr1 (by omega) Wx).mono ?_
  rintro e w5 ⟨v5, rfl, hO5, hb⟩
  obtain ⟨T2, h2, hv5, -⟩ := hO5.form
  rw [Hr.out] at hv5
  subst hv5
  have Ut := Lib.hid (fun k hk => (hO5.lt k hk).2)
  rw [zx] at hO5
  have zq : x4.heap.size ≤ w5.heap.size := hb.size
  have K5 := Lib.hid (kx.below hb (by omega)); have R5 := Lib.hid (rx.below hb (by omega)); have O5 := Lib.hid (ox.below hb (by omega)); have T5 := Lib.hid ((T4.out.trans bx).trans (hb.mono (by omega)))
  have P5 := Lib.hid (Px.below hb)
  have G5 := Lib.hid (Gx.below hb)
  have Q5 := Lib.hid (Qx.below hb)
  have z5 : w4.heap.size ≤ w5.heap.size := by omega
  have U5 := Lib.hid (hO5)
  clear hO5 Wx W4 zx hb hx ox kx rx bx zq Px Gx Qx K4 R4 O4 T4 P4 G4 Q4 kc0 kc1 kc2 kc3 kc4 kc5 kc6 kc7 kc8 kc9 oc0 oc1 oc2 oc3 oc4 oc5 oc6 oc7 oc8 oc9 fz
  obtain ⟨kc0, kc1, kc2, kc3, kc4, kc5, kc6, kc7, kc8, kc9⟩ := K5.out.ten
  obtain ⟨oc0, oc1, oc2, oc3, oc4, oc5, oc6, oc7, oc8, oc9⟩ := O5.out.ten
  have fz := O5.out.warm
  obtain ⟨rc0, rc1, rc2, rc3, rc4, rc5, rc6, rc7, rc8, rc9⟩ := R5.out.ten
  have fr := R5.out.warm
  go_wp2_with fail
  obtain ⟨x5, hx⟩ : ∃ x, (((((((((((w5.setCell ⟨w.heap.size + 1 + 1, 9, none⟩ (.slice T2 r h2)).setCell ⟨w.heap.size + 1, 0, none⟩ (.string s1)).setCell ⟨w.heap.size + 1, 1, none⟩ (.slice A1 n1 c1)).setCell ⟨w.heap.size + 1, 2, none⟩ (.slice B1 m1 d1)).setCell ⟨w.heap.size + 1, 3, none⟩ (.slice M2 q e2)).setCell ⟨w.heap.size + 1, 4, none⟩ (.int .i64 sp)).setCell ⟨w.heap.size + 1, 5, none⟩ (.int .i64 W)).setCell ⟨w.heap.size + 1, 6, none⟩ (.int .i64 t)).setCell ⟨w.heap.size + 1, 7, none⟩ (.int .i64 k)).setCell ⟨w.heap.size + 1, 8, none⟩ (.slice L2 l f2)).setCell ⟨w.heap.size + 1, 9, none⟩ (.slice T2 r h2)) = x := ⟨_, rfl⟩
  have rx : Blk x5 (w.heap.size + 1) #[.string s1, .slice A1 n1 c1, .slice B1 m1 d1, .slice M2 q e2, .int .i64 sp, .int .i64 W, .int .i64 t, .int .i64 k, .slice L2 l f2, .slice T2 r h2] 61 := by rw [← hx]; exact Blk.fill (R5.out.other ⟨w.heap.size + 1 + 1, 9, none⟩ (.slice T2 r h2) (by show w.heap.size + 1 ≠ w.heap.size + 1 + 1; omega)) (.string s1) (.slice A1 n1 c1) (.slice B1 m1 d1) (.slice M2 q e2) (.int .i64 sp) (.int .i64 W) (.int .i64 t) (.int .i64 k) (.slice L2 l f2) (.slice T2 r h2)
  have bx : Below w.heap.size w5 x5 := by rw [← hx]; exact ((((((((((((Below.refl _ _).setCell (show w.heap.size ≤ (⟨w.heap.size + 1 + 1, 9, none⟩ : Addr).block by show w.heap.size ≤ w.heap.size + 1 + 1; omega) (.slice T2 r h2)).setCell (show w.heap.size ≤ (⟨w.heap.size + 1, 0, none⟩ : Addr).block by show w.heap.size ≤ w.heap.size + 1; omega) (.string s1)).setCell (show w.heap.size ≤ (⟨w.heap.size + 1, 1, none⟩ : Addr).block by show w.heap.size ≤ w.heap.size + 1; omega) (.slice A1 n1 c1)).setCell (show w.heap.size ≤ (⟨w.heap.size + 1, 2, none⟩ : Addr).block by show w.heap.size ≤ w.heap.size + 1; omega) (.slice B1 m1 d1)).setCell (show w.heap.size ≤ (⟨w.heap.size + 1, 3, none⟩ : Addr).block by show w.heap.size ≤ w.heap.size + 1; omega) (.slice M2 q e2)).setCell (show w.heap.size ≤ (⟨w.heap.size + 1, 4, none⟩ : Addr).block by show w.heap.size ≤ w.heap.size + 1; omega) (.int .i64 sp)).setCell (show w.heap.size ≤ (⟨w.heap.size + 1, 5, none⟩ : Addr).block by show w.heap.size ≤ w.heap.size + 1; omega) (.int .i64 W)).setCell (show w.heap.size ≤ (⟨w.heap.size + 1, 6, none⟩ : Addr).block by show w.heap.size ≤ w.heap.size + 1; omega) (.int .i64 t)).setCell (show w.heap.size ≤ (⟨w.heap.size + 1, 7, none⟩ : Addr).block by show w.heap.size ≤ w.heap.size + 1; omega) (.int .i64 k)).setCell (show w.heap.size ≤ (⟨w.heap.size + 1, 8, none⟩ : Addr).block by show w.heap.size ≤ w.heap.size + 1; omega) (.slice L2 l f2)).setCell (show w.heap.size ≤ (⟨w.heap.size + 1, 9, none⟩ : Addr).block by show w.heap.size ≤ w.heap.size + 1; omega) (.slice T2 r h2))
  have zx : x5.heap.size = w5.heap.size := by rw [← hx]; simp
  have Px := (((((((((((P5.out.setB (b := w.heap.size + 1 + 1) (o := 9) (by omega) (.slice T2 r h2)).setB (b := w.heap.size + 1) (o := 0) (by omega) (.string s1)).setB (b := w.heap.size + 1) (o := 1) (by omega) (.slice A1 n1 c1)).setB (b := w.heap.size + 1) (o := 2) (by omega) (.slice B1 m1 d1)).setB (b := w.heap.size + 1) (o := 3) (by omega) (.slice M2 q e2)).setB (b := w.heap.size + 1) (o := 4) (by omega) (.int .i64 sp)).setB (b := w.heap.size + 1) (o := 5) (by omega) (.int .i64 W)).setB (b := w.heap.size + 1) (o := 6) (by omega) (.int .i64 t)).setB (b := w.heap.size + 1) (o := 7) (by omega) (.int .i64 k)).setB (b := w.heap.size + 1) (o := 8) (by omega) (.slice L2 l f2)).setB (b := w.heap.size + 1) (o := 9) (by omega) (.slice T2 r h2))
  have Gx := (((((((((((G5.out.setB (b := w.heap.size + 1 + 1) (o := 9) (by omega) (.slice T2 r h2)).setB (b := w.heap.size + 1) (o := 0) (by omega) (.string s1)).setB (b := w.heap.size + 1) (o := 1) (by omega) (.slice A1 n1 c1)).setB (b := w.heap.size + 1) (o := 2) (by omega) (.slice B1 m1 d1)).setB (b := w.heap.size + 1) (o := 3) (by omega) (.slice M2 q e2)).setB (b := w.heap.size + 1) (o := 4) (by omega) (.int .i64 sp)).setB (b := w.heap.size + 1) (o := 5) (by omega) (.int .i64 W)).setB (b := w.heap.size + 1) (o := 6) (by omega) (.int .i64 t)).setB (b := w.heap.size + 1) (o := 7) (by omega) (.int .i64 k)).setB (b := w.heap.size + 1) (o := 8) (by omega) (.slice L2 l f2)).setB (b := w.heap.size + 1) (o := 9) (by omega) (.slice T2 r h2))
  have Qx := (ownM_set (a := ⟨w.heap.size + 1, 9, none⟩) (ownM_set (a := ⟨w.heap.size + 1, 8, none⟩) (ownM_set (a := ⟨w.heap.size + 1, 7, none⟩) (ownM_set (a := ⟨w.heap.size + 1, 6, none⟩) (ownM_set (a := ⟨w.heap.size + 1, 5, none⟩) (ownM_set (a := ⟨w.heap.size + 1, 4, none⟩) (ownM_set (a := ⟨w.heap.size + 1, 3, none⟩) (ownM_set (a := ⟨w.heap.size + 1, 2, none⟩) (ownM_set (a := ⟨w.heap.size + 1, 1, none⟩) (ownM_set (a := ⟨w.heap.size + 1, 0, none⟩) (ownM_set (a := ⟨w.heap.size + 1 + 1, 9, none⟩) Q5.out (by show w.heap.size + 1 + 1 < _; omega) (.slice T2 r h2)) (by show w.heap.size + 1 < _; omega) (.string s1)) (by show w.heap.size + 1 < _; omega) (.slice A1 n1 c1)) (by show w.heap.size + 1 < _; omega) (.slice B1 m1 d1)) (by show w.heap.size + 1 < _; omega) (.slice M2 q e2)) (by show w.heap.size + 1 < _; omega) (.int .i64 sp)) (by show w.heap.size + 1 < _; omega) (.int .i64 W)) (by show w.heap.size + 1 < _; omega) (.int .i64 t)) (by show w.heap.size + 1 < _; omega) (.int .i64 k)) (by show w.heap.size + 1 < _; omega) (.slice L2 l f2)) (by show w.heap.size + 1 < _; omega) (.slice T2 r h2))
  have Ux := (ownM_set (a := ⟨w.heap.size + 1, 9, none⟩) (ownM_set (a := ⟨w.heap.size + 1, 8, none⟩) (ownM_set (a := ⟨w.heap.size + 1, 7, none⟩) (ownM_set (a := ⟨w.heap.size + 1, 6, none⟩) (ownM_set (a := ⟨w.heap.size + 1, 5, none⟩) (ownM_set (a := ⟨w.heap.size + 1, 4, none⟩) (ownM_set (a := ⟨w.heap.size + 1, 3, none⟩) (ownM_set (a := ⟨w.heap.size + 1, 2, none⟩) (ownM_set (a := ⟨w.heap.size + 1, 1, none⟩) (ownM_set (a := ⟨w.heap.size + 1, 0, none⟩) (ownM_set (a := ⟨w.heap.size + 1 + 1, 9, none⟩) U5.out (by show w.heap.size + 1 + 1 < _; omega) (.slice T2 r h2)) (by show w.heap.size + 1 < _; omega) (.string s1)) (by show w.heap.size + 1 < _; omega) (.slice A1 n1 c1)) (by show w.heap.size + 1 < _; omega) (.slice B1 m1 d1)) (by show w.heap.size + 1 < _; omega) (.slice M2 q e2)) (by show w.heap.size + 1 < _; omega) (.int .i64 sp)) (by show w.heap.size + 1 < _; omega) (.int .i64 W)) (by show w.heap.size + 1 < _; omega) (.int .i64 t)) (by show w.heap.size + 1 < _; omega) (.int .i64 k)) (by show w.heap.size + 1 < _; omega) (.slice L2 l f2)) (by show w.heap.size + 1 < _; omega) (.slice T2 r h2))
  rw [hx] at Px Gx Qx Ux ⊢
  obtain ⟨r0, r1, r2, r3, r4, r5, r6, r7, r8, r9⟩ := rx.ten
  have hX := MchX.build (B := w.heap.size) (hi := x5.heap.size) (l1 := w4.heap.size) (t1 := w5.heap.size) Px Gx Qx Qt.out Ux Ut.out (by unfold Off; omega) (by unfold Off; omega) (by unfold Off; omega) (by unfold Off; omega) (by unfold Off; omega) (by unfold Off; omega) ⟨by omega, by omega⟩ ⟨by omega, by omega⟩ ⟨by omega, by omega⟩ ⟨by omega, by omega⟩
  rw [HE.out.1, HE.out.2.1, HE.out.2.2.1, HE.out.2.2.2] at hX
  refine bodyPost_ret (v := .agg #[.string s1, .slice A1 n1 c1, .slice B1 m1 d1, .slice M2 q e2, .int .i64 sp, .int .i64 W, .int .i64 t, .int .i64 k, .slice L2 l f2, .slice T2 r h2]) (by simp [results, Try.results34, go_sem, r0, r1, r2, r3, r4, r5, r6, r7, r8, r9]) rfl ⟨_, rfl, hX, T5.out.trans bx⟩
end Go.Proofs.Ythoepelgmplcmaa
