/-
  Copies of machines by contract: slices.Clone at matrices, the program's withMagazine, the model's l5Copy. Conditions: lengths of at most 2^20.
-/
import Derived.Test.YthoepelgmplcmaaMchK
import Derived.Test.YthoepelgmplcmaaMchL
import Derived.Test.YthoepelgmplcmaaPkC
import Derived.Test.YthoepelgmplcmaaCopyS
namespace Go.Proofs.Ythoepelgmplcmaa
open Go.RowKit
set_option linter.unusedVariables false

theorem chg_set (w : World) (b o : Nat) (u : Value) : Chg b (b + 1) w (w.setCell ⟨b, o, none⟩ u) :=
  ⟨rfl, rfl, rfl, by simp [World.setCell], fun k hk hn => Below.heap_setCell _ _ _ _ (by show k ≠ b; omega)⟩
set_option maxRecDepth 100000 in
set_option maxHeartbeats 1600000 in
theorem cloneM_any (lo hi : Nat) (A : Option Addr) (n c : Nat) (xs : List Mat) (w : World) (hn : xs.length = n) (hm : n ≤ 1048576) (h : MatsI w lo hi A xs) (hhi : hi ≤ w.heap.size) :
    Calls Try.prog 176 #[.slice A n c] w fun e w' => ∃ v, e = .returned v ∧ OwnM w' w.heap.size v xs ∧ Below w.heap.size w w' := by
  have Hn := Lib.hid hn
  have H := Lib.hid h
  have heq := fun (wx : World) => Lib.run_eql_slice_nil (P := Try.prog) wx 32 34 A n c 0 0 Try.underlying32
  cases A with
  | none =>
    have hz : xs = [] := by
      cases xs with
      | nil => rfl
      | cons z zs => obtain ⟨ad, e, _⟩ := h (by simp); cases e
    subst hz
    have hn0 : n = 0 := by simpa using hn.symm
    subst hn0
    simp only [Option.isNone_none] at heq
    clear hn h
    go_enter Try.func176, Try.ntmps176
    go_wp2
    go_ret
    exact ⟨_, rfl, ⟨rfl, .inl ⟨rfl, rfl⟩⟩, Below.refl _ _⟩
  | some ad =>
    simp only [Option.isNone_some] at heq
    obtain ⟨w1, hw1⟩ : ∃ w1, w.alloc (.cells #[] 34) = w1 := ⟨_, rfl⟩
    have hb1 : Below w.heap.size w w1 := by rw [← hw1]; exact below_new _ _
    have hO1 : OwnM w1 w.heap.size (.slice (some ⟨w.heap.size, 0, none⟩) 0 0) [] := by rw [← hw1]; exact World.ownsRow_lit w #[] 0 (Nat.le_refl _) (Nat.zero_le _) rfl
    have B1 := Lib.hid hb1; have O1 := Lib.hid hO1
    have I1 := Lib.hid (H.out.below hhi hb1)
    have z1 := hb1.size
    clear hn h hb1 hO1
    go_enter Try.func176, Try.ntmps176
    go_wp2_with (at_builtin; refine wpl_copy_mat _ rfl (.tmp 5) (.tmp 6) rfl w.heap.size lo hi _ xs (some ad) n c rfl O1.out z1 rfl Hn.out I1.out (by omega) ?_; intro v' w4 hO4 hg4 _)
    have O4 := Lib.hid hO4; have B4 := Lib.hid (B1.out.trans ((Below.refl w.heap.size w1).grown hg4 z1 (fun g hg => (World.ownsRow.lt O1.out g hg).1)))
    clear hO4 hg4
    go_ret
    exact ⟨_, rfl, O4.out, B4.out⟩
set_option maxRecDepth 100000 in
set_option maxHeartbeats 3200000 in
theorem withMag_any (lo hi g0 g1 B : Nat) (v : Value) (X : Mch) (N : Option Addr) (nq ne : Nat) (hs0 : List Value) (ms : List (List Mat)) (w : World) (h : MchV w lo hi v X) (hhi : hi ≤ w.heap.size) (hs : SmallX X) (hN : OwnMag w g0 g1 (.slice N nq ne) hs0 ms) (hg1 : g1 ≤ w.heap.size) (hB : B ≤ g0) (hBw : B ≤ w.heap.size) :
    Calls Try.prog 124 #[v, .slice N nq ne] w fun e w' => ∃ v', e = .returned v' ∧ MchX w' B w'.heap.size v' ⟨X.f, ms, X.sp, X.w, X.t, X.k, X.ln, X.wt⟩ ∧ Below w.heap.size w w' := by
  obtain ⟨s, A, n, c, A2, m, d, M, q, e0, L, l, lc, T, r, tc, rfl, hf, hq, hM, hqe, hem, hl, hL, hllc, hlm, hr, hT, hrt, htm⟩ := h.parts
  obtain ⟨fA, fc, fA2, fd, hfv, hI1, hI2, hc1, hc2, hd1, hd2, hss⟩ := hf
  simp only [Value.agg.injEq, Array.mk.injEq, List.cons.injEq, and_true, Value.string.injEq, Value.slice.injEq] at hfv
  obtain ⟨rfl, ⟨rfl, rfl, rfl⟩, ⟨rfl, rfl, rfl⟩⟩ := hfv
  obtain ⟨s, hs1⟩ : ∃ x, X.f.s = x := ⟨_, rfl⟩
  obtain ⟨n, hn⟩ : ∃ x, X.f.ws.length = x := ⟨_, rfl⟩
  obtain ⟨m, hm⟩ : ∃ x, X.f.cs.length = x := ⟨_, rfl⟩
  obtain ⟨sp, hsp⟩ : ∃ x, X.sp = x := ⟨_, rfl⟩
  obtain ⟨W, hW⟩ : ∃ x, X.w = x := ⟨_, rfl⟩
  obtain ⟨t, ht⟩ : ∃ x, X.t = x := ⟨_, rfl⟩
  obtain ⟨k, hk⟩ : ∃ x, X.k = x := ⟨_, rfl⟩
  have HFs : Hid (X.f.s = s ∧ X.f.ws.length = n ∧ X.f.cs.length = m) := ⟨hs1, hn, hm⟩
  have HE : Hid (X.sp = sp ∧ X.w = W ∧ X.t = t ∧ X.k = k) := ⟨hsp, hW, ht, hk⟩
  have Hq := Lib.hid hq; have Hl := Lib.hid hl; have Hr := Lib.hid hr; have Hn := Lib.hid hn; have Hm := Lib.hid hm; have HS := Lib.hid hs; have Hss := Lib.hid hss
  have hn1 : n ≤ 1048576 := by rw [← hn]; exact hs.f.2.1
  have hm1 : m ≤ 1048576 := by rw [← hm]; exact hs.f.2.2
  have hq1 : q ≤ 1048576 := by rw [← hq]; exact hs.ms
  have hl1 : l ≤ 1048576 := by rw [← hl]; exact hs.ln
  have hr1 : r ≤ 1048576 := by rw [← hr]; exact hs.wt
  rw [hs1, hn, hm, hsp, hW, ht, hk] at h ⊢
  obtain ⟨wA, hA, hbA, hzA, KA⟩ := mxWorld w #[.string s, .slice A n c, .slice A2 m d, .slice M q e0, .int .i64 sp, .int .i64 W, .int .i64 t, .int .i64 k, .slice L l lc, .slice T r tc] 61
  obtain ⟨w0, hB, hbB, hzB, RB⟩ := mxWorld wA #[.string ⟨#[]⟩, .slice none 0 0, .slice none 0 0, .slice none 0 0, .int .i64 0, .int .i64 0, .int .i64 0, .int .i64 0, .slice none 0 0, .slice none 0 0] 61
  rw [hzA] at RB
  have O0 := Lib.hid (KA.below hbB (by omega))
  have R0 := Lib.hid RB
  have hb0 : Below w.heap.size w w0 := hbA.trans (hbB.mono (by omega))
  have T0 := Lib.hid hb0
  have E0 := Lib.hid (hI1.below hhi hb0); have D0 := Lib.hid (hI2.below hhi hb0); have M0 := Lib.hid (hM.below hhi hb0); have L0 := Lib.hid (hL.below hhi hb0); have W0 := Lib.hid (hT.below hhi hb0)
  have G0 := Lib.hid (hN.below hb0)
  have s0 : w.heap.size + 2 ≤ w0.heap.size := by omega
  have HZ : Hid (w0.heap.size = w.heap.size + 1 + 1) := by show _ = _; omega
  have HA : Hid ((w.alloc (.cells #[.string s, .slice A n c, .slice A2 m d, .slice M q e0, .int .i64 sp, .int .i64 W, .int .i64 t, .int .i64 k, .slice L l lc, .slice T r tc] 61)).alloc (.cells #[.string ⟨#[]⟩, .slice none 0 0, .slice none 0 0, .slice none 0 0, .int .i64 0, .int .i64 0, .int .i64 0, .int .i64 0, .slice none 0 0, .slice none 0 0] 61) = w0) := by show _ = _; rw [hA, hB]
  clear h hM hqe hem hq hl hL hllc hlm hr hT hrt htm hsp hW ht hk hs1 hn hm hI1 hI2 hc1 hc2 hd1 hd2 hss hs hN hb0 hbA hbB hzA hzB KA RB hA hB
  obtain ⟨oc0, oc1, oc2, oc3, oc4, oc5, oc6, oc7, oc8, oc9⟩ := O0.out.ten
  have fz := O0.out.warm
  go_enter Try.func124, Try.ntmps124
  go_wp2_with fail
  rw [HA.out]
  refine (clone_any _ _ _ (X.f.ws) w0 Hn.out hn1 (IntsB.of E0.out.ints)).mono ?_
  rintro e w1 ⟨u, rfl, hO, hb⟩
  obtain ⟨Aa, ca, rfl, -, -, -, -⟩ := hO.form
  rw [Hn.out] at hO ⊢
  have topa := Lib.hid (fun k hk => World.ownsRow.lt hO k hk)
  clear oc0 oc1 oc2 oc3 oc4 oc5 oc6 oc7 oc8 oc9
  clear fz
  have s1 : w0.heap.size ≤ w1.heap.size := hb.size
  have sw1 : w.heap.size < w1.heap.size := by omega
  have O1 := Lib.hid (O0.out.below hb (by omega))
  have R1 := Lib.hid (R0.out.below hb (by omega))
  have T1 := Lib.hid (T0.out.trans (hb.mono (by omega)))
  have E1 := Lib.hid (E0.out.below (by omega) hb)
  have D1 := Lib.hid (D0.out.below (by omega) hb)
  have M1 := Lib.hid (M0.out.below (by omega) hb)
  have L1 := Lib.hid (L0.out.below (by omega) hb)
  have W1 := Lib.hid (W0.out.below (by omega) hb)
  have G1 := Lib.hid (G0.out.below hb)
  clear O0 R0 T0 E0 D0 M0 L0 W0 G0 hb
  have a1 := Lib.hid (hO)
  clear hO
  obtain ⟨oc0, oc1, oc2, oc3, oc4, oc5, oc6, oc7, oc8, oc9⟩ := O1.out.ten
  have fz := O1.out.warm
  go_wp2_with fail
  clear oc0 oc1 oc2 oc3 oc4 oc5 oc6 oc7 oc8 oc9
  clear fz
  obtain ⟨w2, hx⟩ : ∃ x, w1.setCell ⟨w.heap.size, 1, none⟩ (.slice Aa n ca) = x := ⟨_, rfl⟩
  have ox : Blk w2 w.heap.size #[.string s, .slice Aa n ca, .slice A2 m d, .slice M q e0, .int .i64 sp, .int .i64 W, .int .i64 t, .int .i64 k, .slice L l lc, .slice T r tc] 61 := by rw [← hx]; exact heapSet (i := 1) O1.out _
  have hc : Chg w.heap.size (w.heap.size + 1) w1 w2 := by rw [← hx]; exact chg_set w1 w.heap.size 1 _
  have hq2 : Hid (w2.heap.size = w1.heap.size) := by show _ = _; rw [← hx]; simp
  rw [hx]
  clear hx
  have s2 : w1.heap.size ≤ w2.heap.size := hc.size
  have sw2 : w.heap.size < w2.heap.size := by omega
  have R2 := Lib.hid (R1.out.chg hc (by omega))
  have T2 := Lib.hid (T1.out.trans ((hc.below (by omega)).mono (by omega)))
  have E2 := Lib.hid (E1.out.below (by omega) (hc.below (by omega)))
  have D2 := Lib.hid (D1.out.below (by omega) (hc.below (by omega)))
  have M2 := Lib.hid (M1.out.below (by omega) (hc.below (by omega)))
  have L2 := Lib.hid (L1.out.below (by omega) (hc.below (by omega)))
  have W2 := Lib.hid (W1.out.below (by omega) (hc.below (by omega)))
  have G2 := Lib.hid (G1.out.chg hc (by omega))
  have a2 := Lib.hid (hc.own a1.out (fun x hx => by have := topa.out x hx; omega))
  clear R1 T1 E1 D1 M1 L1 W1 G1 a1 hc
  clear O1
  have O2 := Lib.hid ox
  clear ox
  obtain ⟨oc0, oc1, oc2, oc3, oc4, oc5, oc6, oc7, oc8, oc9⟩ := O2.out.ten
  have fz := O2.out.warm
  refine (clone_any _ _ _ (X.f.cs) w2 Hm.out hm1 (IntsB.of D2.out.ints)).mono ?_
  rintro e w3 ⟨u, rfl, hO, hb⟩
  obtain ⟨Ab, cb, rfl, -, -, -, -⟩ := hO.form
  rw [Hm.out] at hO ⊢
  have topb := Lib.hid (fun k hk => World.ownsRow.lt hO k hk)
  clear oc0 oc1 oc2 oc3 oc4 oc5 oc6 oc7 oc8 oc9
  clear fz
  have s3 : w2.heap.size ≤ w3.heap.size := hb.size
  have sw3 : w.heap.size < w3.heap.size := by omega
  have O3 := Lib.hid (O2.out.below hb (by omega))
  have R3 := Lib.hid (R2.out.below hb (by omega))
  have T3 := Lib.hid (T2.out.trans (hb.mono (by omega)))
  have E3 := Lib.hid (E2.out.below (by omega) hb)
  have D3 := Lib.hid (D2.out.below (by omega) hb)
  have M3 := Lib.hid (M2.out.below (by omega) hb)
  have L3 := Lib.hid (L2.out.below (by omega) hb)
  have W3 := Lib.hid (W2.out.below (by omega) hb)
  have G3 := Lib.hid (G2.out.below hb)
  have a3 := Lib.hid (a2.out.below hb)
  clear O2 R2 T2 E2 D2 M2 L2 W2 G2 a2 hb
  have b3 := Lib.hid (hO)
  clear hO
  obtain ⟨oc0, oc1, oc2, oc3, oc4, oc5, oc6, oc7, oc8, oc9⟩ := O3.out.ten
  have fz := O3.out.warm
  go_wp2_with fail
  clear oc0 oc1 oc2 oc3 oc4 oc5 oc6 oc7 oc8 oc9
  clear fz
  obtain ⟨w4, hx⟩ : ∃ x, w3.setCell ⟨w.heap.size, 2, none⟩ (.slice Ab m cb) = x := ⟨_, rfl⟩
  have ox : Blk w4 w.heap.size #[.string s, .slice Aa n ca, .slice Ab m cb, .slice M q e0, .int .i64 sp, .int .i64 W, .int .i64 t, .int .i64 k, .slice L l lc, .slice T r tc] 61 := by rw [← hx]; exact heapSet (i := 2) O3.out _
  have hc : Chg w.heap.size (w.heap.size + 1) w3 w4 := by rw [← hx]; exact chg_set w3 w.heap.size 2 _
  have hq4 : Hid (w4.heap.size = w3.heap.size) := by show _ = _; rw [← hx]; simp
  rw [hx]
  clear hx
  have s4 : w3.heap.size ≤ w4.heap.size := hc.size
  have sw4 : w.heap.size < w4.heap.size := by omega
  have R4 := Lib.hid (R3.out.chg hc (by omega))
  have T4 := Lib.hid (T3.out.trans ((hc.below (by omega)).mono (by omega)))
  have E4 := Lib.hid (E3.out.below (by omega) (hc.below (by omega)))
  have D4 := Lib.hid (D3.out.below (by omega) (hc.below (by omega)))
  have M4 := Lib.hid (M3.out.below (by omega) (hc.below (by omega)))
  have L4 := Lib.hid (L3.out.below (by omega) (hc.below (by omega)))
  have W4 := Lib.hid (W3.out.below (by omega) (hc.below (by omega)))
  have G4 := Lib.hid (G3.out.chg hc (by omega))
  have a4 := Lib.hid (hc.own a3.out (fun x hx => by have := topa.out x hx; omega))
  have b4 := Lib.hid (hc.own b3.out (fun x hx => by have := topb.out x hx; omega))
  clear R3 T3 E3 D3 M3 L3 W3 G3 a3 b3 hc
  clear O3
  have O4 := Lib.hid ox
  clear ox
  obtain ⟨oc0, oc1, oc2, oc3, oc4, oc5, oc6, oc7, oc8, oc9⟩ := O4.out.ten
  have fz := O4.out.warm
  refine (cloneM_any lo hi _ _ _ (X.ln) w4 Hl.out hl1 L4.out (by omega)).mono ?_
  rintro e w5 ⟨u, rfl, hO, hb⟩
  obtain ⟨Aq, cq, rfl, -, -, -, -⟩ := hO.form
  rw [Hl.out] at hO ⊢
  have topq := Lib.hid (fun k hk => hO.lt k hk)
  clear oc0 oc1 oc2 oc3 oc4 oc5 oc6 oc7 oc8 oc9
  clear fz
  have s5 : w4.heap.size ≤ w5.heap.size := hb.size
  have sw5 : w.heap.size < w5.heap.size := by omega
  have O5 := Lib.hid (O4.out.below hb (by omega))
  have R5 := Lib.hid (R4.out.below hb (by omega))
  have T5 := Lib.hid (T4.out.trans (hb.mono (by omega)))
  have E5 := Lib.hid (E4.out.below (by omega) hb)
  have D5 := Lib.hid (D4.out.below (by omega) hb)
  have M5 := Lib.hid (M4.out.below (by omega) hb)
  have L5 := Lib.hid (L4.out.below (by omega) hb)
  have W5 := Lib.hid (W4.out.below (by omega) hb)
  have G5 := Lib.hid (G4.out.below hb)
  have a5 := Lib.hid (a4.out.below hb)
  have b5 := Lib.hid (b4.out.below hb)
  clear O4 R4 T4 E4 D4 M4 L4 W4 G4 a4 b4 hb
  have q5 := Lib.hid (hO)
  clear hO
  obtain ⟨oc0, oc1, oc2, oc3, oc4, oc5, oc6, oc7, oc8, oc9⟩ := O5.out.ten
  have fz := O5.out.warm
  go_wp2_with fail
  clear oc0 oc1 oc2 oc3 oc4 oc5 oc6 oc7 oc8 oc9
  clear fz
  obtain ⟨w6, hx⟩ : ∃ x, w5.setCell ⟨w.heap.size, 8, none⟩ (.slice Aq l cq) = x := ⟨_, rfl⟩
  have ox : Blk w6 w.heap.size #[.string s, .slice Aa n ca, .slice Ab m cb, .slice M q e0, .int .i64 sp, .int .i64 W, .int .i64 t, .int .i64 k, .slice Aq l cq, .slice T r tc] 61 := by rw [← hx]; exact heapSet (i := 8) O5.out _
  have hc : Chg w.heap.size (w.heap.size + 1) w5 w6 := by rw [← hx]; exact chg_set w5 w.heap.size 8 _
  have hq6 : Hid (w6.heap.size = w5.heap.size) := by show _ = _; rw [← hx]; simp
  rw [hx]
  clear hx
  have s6 : w5.heap.size ≤ w6.heap.size := hc.size
  have sw6 : w.heap.size < w6.heap.size := by omega
  have R6 := Lib.hid (R5.out.chg hc (by omega))
  have T6 := Lib.hid (T5.out.trans ((hc.below (by omega)).mono (by omega)))
  have E6 := Lib.hid (E5.out.below (by omega) (hc.below (by omega)))
  have D6 := Lib.hid (D5.out.below (by omega) (hc.below (by omega)))
  have M6 := Lib.hid (M5.out.below (by omega) (hc.below (by omega)))
  have L6 := Lib.hid (L5.out.below (by omega) (hc.below (by omega)))
  have W6 := Lib.hid (W5.out.below (by omega) (hc.below (by omega)))
  have G6 := Lib.hid (G5.out.chg hc (by omega))
  have a6 := Lib.hid (hc.own a5.out (fun x hx => by have := topa.out x hx; omega))
  have b6 := Lib.hid (hc.own b5.out (fun x hx => by have := topb.out x hx; omega))
  have q6 := Lib.hid (q5.out.chg hc (fun x hx => by have := topq.out x hx; omega))
  clear R5 T5 E5 D5 M5 L5 W5 G5 a5 b5 q5 hc
  clear O5
  have O6 := Lib.hid ox
  clear ox
  obtain ⟨oc0, oc1, oc2, oc3, oc4, oc5, oc6, oc7, oc8, oc9⟩ := O6.out.ten
  have fz := O6.out.warm
  refine (cloneM_any lo hi _ _ _ (X.wt) w6 Hr.out hr1 W6.out (by omega)).mono ?_
  rintro e w7 ⟨u, rfl, hO, hb⟩
  obtain ⟨Au, cu, rfl, -, -, -, -⟩ := hO.form
  rw [Hr.out] at hO ⊢
  have topu := Lib.hid (fun k hk => hO.lt k hk)
  clear oc0 oc1 oc2 oc3 oc4 oc5 oc6 oc7 oc8 oc9
  clear fz
  have s7 : w6.heap.size ≤ w7.heap.size := hb.size
  have sw7 : w.heap.size < w7.heap.size := by omega
  have O7 := Lib.hid (O6.out.below hb (by omega))
  have R7 := Lib.hid (R6.out.below hb (by omega))
  have T7 := Lib.hid (T6.out.trans (hb.mono (by omega)))
  have E7 := Lib.hid (E6.out.below (by omega) hb)
  have D7 := Lib.hid (D6.out.below (by omega) hb)
  have M7 := Lib.hid (M6.out.below (by omega) hb)
  have L7 := Lib.hid (L6.out.below (by omega) hb)
  have W7 := Lib.hid (W6.out.below (by omega) hb)
  have G7 := Lib.hid (G6.out.below hb)
  have a7 := Lib.hid (a6.out.below hb)
  have b7 := Lib.hid (b6.out.below hb)
  have q7 := Lib.hid (q6.out.below hb)
  clear O6 R6 T6 E6 D6 M6 L6 W6 G6 a6 b6 q6 hb
  have u7 := Lib.hid (hO)
  clear hO
  obtain ⟨oc0, oc1, oc2, oc3, oc4, oc5, oc6, oc7, oc8, oc9⟩ := O7.out.ten
  have fz := O7.out.warm
  obtain ⟨rc0, rc1, rc2, rc3, rc4, rc5, rc6, rc7, rc8, rc9⟩ := R7.out.ten
  have fr := R7.out.warm
  go_wp2_with fail
  clear rc0 rc1 rc2 rc3 rc4 rc5 rc6 rc7 rc8 rc9 fr
  clear oc0 oc1 oc2 oc3 oc4 oc5 oc6 oc7 oc8 oc9
  clear fz
  obtain ⟨w8, hx⟩ : ∃ x, w7.setCell ⟨w.heap.size, 9, none⟩ (.slice Au r cu) = x := ⟨_, rfl⟩
  have ox : Blk w8 w.heap.size #[.string s, .slice Aa n ca, .slice Ab m cb, .slice M q e0, .int .i64 sp, .int .i64 W, .int .i64 t, .int .i64 k, .slice Aq l cq, .slice Au r cu] 61 := by rw [← hx]; exact heapSet (i := 9) O7.out _
  have hc : Chg w.heap.size (w.heap.size + 1) w7 w8 := by rw [← hx]; exact chg_set w7 w.heap.size 9 _
  have hq8 : Hid (w8.heap.size = w7.heap.size) := by show _ = _; rw [← hx]; simp
  rw [hx]
  clear hx
  have s8 : w7.heap.size ≤ w8.heap.size := hc.size
  have sw8 : w.heap.size < w8.heap.size := by omega
  have R8 := Lib.hid (R7.out.chg hc (by omega))
  have T8 := Lib.hid (T7.out.trans ((hc.below (by omega)).mono (by omega)))
  have E8 := Lib.hid (E7.out.below (by omega) (hc.below (by omega)))
  have D8 := Lib.hid (D7.out.below (by omega) (hc.below (by omega)))
  have M8 := Lib.hid (M7.out.below (by omega) (hc.below (by omega)))
  have L8 := Lib.hid (L7.out.below (by omega) (hc.below (by omega)))
  have W8 := Lib.hid (W7.out.below (by omega) (hc.below (by omega)))
  have G8 := Lib.hid (G7.out.chg hc (by omega))
  have a8 := Lib.hid (hc.own a7.out (fun x hx => by have := topa.out x hx; omega))
  have b8 := Lib.hid (hc.own b7.out (fun x hx => by have := topb.out x hx; omega))
  have q8 := Lib.hid (q7.out.chg hc (fun x hx => by have := topq.out x hx; omega))
  have u8 := Lib.hid (u7.out.chg hc (fun x hx => by have := topu.out x hx; omega))
  clear R7 T7 E7 D7 M7 L7 W7 G7 a7 b7 q7 u7 hc
  clear O7
  have O8 := Lib.hid ox
  clear ox
  obtain ⟨oc0, oc1, oc2, oc3, oc4, oc5, oc6, oc7, oc8, oc9⟩ := O8.out.ten
  have fz := O8.out.warm
  clear oc0 oc1 oc2 oc3 oc4 oc5 oc6 oc7 oc8 oc9
  clear fz
  obtain ⟨w9, hx⟩ : ∃ x, w8.setCell ⟨w.heap.size, 3, none⟩ (.slice N nq ne) = x := ⟨_, rfl⟩
  have ox : Blk w9 w.heap.size #[.string s, .slice Aa n ca, .slice Ab m cb, .slice N nq ne, .int .i64 sp, .int .i64 W, .int .i64 t, .int .i64 k, .slice Aq l cq, .slice Au r cu] 61 := by rw [← hx]; exact heapSet (i := 3) O8.out _
  have hc : Chg w.heap.size (w.heap.size + 1) w8 w9 := by rw [← hx]; exact chg_set w8 w.heap.size 3 _
  have hq9 : Hid (w9.heap.size = w8.heap.size) := by show _ = _; rw [← hx]; simp
  rw [hx]
  clear hx
  have s9 : w8.heap.size ≤ w9.heap.size := hc.size
  have sw9 : w.heap.size < w9.heap.size := by omega
  have R9 := Lib.hid (R8.out.chg hc (by omega))
  have T9 := Lib.hid (T8.out.trans ((hc.below (by omega)).mono (by omega)))
  have E9 := Lib.hid (E8.out.below (by omega) (hc.below (by omega)))
  have D9 := Lib.hid (D8.out.below (by omega) (hc.below (by omega)))
  have M9 := Lib.hid (M8.out.below (by omega) (hc.below (by omega)))
  have L9 := Lib.hid (L8.out.below (by omega) (hc.below (by omega)))
  have W9 := Lib.hid (W8.out.below (by omega) (hc.below (by omega)))
  have G9 := Lib.hid (G8.out.chg hc (by omega))
  have a9 := Lib.hid (hc.own a8.out (fun x hx => by have := topa.out x hx; omega))
  have b9 := Lib.hid (hc.own b8.out (fun x hx => by have := topb.out x hx; omega))
  have q9 := Lib.hid (q8.out.chg hc (fun x hx => by have := topq.out x hx; omega))
  have u9 := Lib.hid (u8.out.chg hc (fun x hx => by have := topu.out x hx; omega))
  clear R8 T8 E8 D8 M8 L8 W8 G8 a8 b8 q8 u8 hc
  clear O8
  have O9 := Lib.hid ox
  clear ox
  obtain ⟨oc0, oc1, oc2, oc3, oc4, oc5, oc6, oc7, oc8, oc9⟩ := O9.out.ten
  have fz := O9.out.warm
  obtain ⟨y, hy⟩ : ∃ x, ((((((((((w9.setCell ⟨w.heap.size + 1, 0, none⟩ (.string s)).setCell ⟨w.heap.size + 1, 1, none⟩ (.slice Aa n ca)).setCell ⟨w.heap.size + 1, 2, none⟩ (.slice Ab m cb)).setCell ⟨w.heap.size + 1, 3, none⟩ (.slice N nq ne)).setCell ⟨w.heap.size + 1, 4, none⟩ (.int .i64 sp)).setCell ⟨w.heap.size + 1, 5, none⟩ (.int .i64 W)).setCell ⟨w.heap.size + 1, 6, none⟩ (.int .i64 t)).setCell ⟨w.heap.size + 1, 7, none⟩ (.int .i64 k)).setCell ⟨w.heap.size + 1, 8, none⟩ (.slice Aq l cq)).setCell ⟨w.heap.size + 1, 9, none⟩ (.slice Au r cu)) = x := ⟨_, rfl⟩
  have ry : Blk y (w.heap.size + 1) #[.string s, .slice Aa n ca, .slice Ab m cb, .slice N nq ne, .int .i64 sp, .int .i64 W, .int .i64 t, .int .i64 k, .slice Aq l cq, .slice Au r cu] 61 := by rw [← hy]; exact Blk.fill R9.out (.string s) (.slice Aa n ca) (.slice Ab m cb) (.slice N nq ne) (.int .i64 sp) (.int .i64 W) (.int .i64 t) (.int .i64 k) (.slice Aq l cq) (.slice Au r cu)
  have hc : Chg (w.heap.size + 1) (w.heap.size + 2) w9 y := by rw [← hy]; exact (((((((((((Chg.refl (w.heap.size + 1) (w.heap.size + 2) w9).trans (chg_set w9 (w.heap.size + 1) 0 (.string s))).trans (chg_set (w9.setCell ⟨w.heap.size + 1, 0, none⟩ (.string s)) (w.heap.size + 1) 1 (.slice Aa n ca))).trans (chg_set ((w9.setCell ⟨w.heap.size + 1, 0, none⟩ (.string s)).setCell ⟨w.heap.size + 1, 1, none⟩ (.slice Aa n ca)) (w.heap.size + 1) 2 (.slice Ab m cb))).trans (chg_set (((w9.setCell ⟨w.heap.size + 1, 0, none⟩ (.string s)).setCell ⟨w.heap.size + 1, 1, none⟩ (.slice Aa n ca)).setCell ⟨w.heap.size + 1, 2, none⟩ (.slice Ab m cb)) (w.heap.size + 1) 3 (.slice N nq ne))).trans (chg_set ((((w9.setCell ⟨w.heap.size + 1, 0, none⟩ (.string s)).setCell ⟨w.heap.size + 1, 1, none⟩ (.slice Aa n ca)).setCell ⟨w.heap.size + 1, 2, none⟩ (.slice Ab m cb)).setCell ⟨w.heap.size + 1, 3, none⟩ (.slice N nq ne)) (w.heap.size + 1) 4 (.int .i64 sp))).trans (chg_set (((((w9.setCell ⟨w.heap.size + 1, 0, none⟩ (.string s)).setCell ⟨w.heap.size + 1, 1, none⟩ (.slice Aa n ca)).setCell ⟨w.heap.size + 1, 2, none⟩ (.slice Ab m cb)).setCell ⟨w.heap.size + 1, 3, none⟩ (.slice N nq ne)).setCell ⟨w.heap.size + 1, 4, none⟩ (.int .i64 sp)) (w.heap.size + 1) 5 (.int .i64 W))).trans (chg_set ((((((w9.setCell ⟨w.heap.size + 1, 0, none⟩ (.string s)).setCell ⟨w.heap.size + 1, 1, none⟩ (.slice Aa n ca)).setCell ⟨w.heap.size + 1, 2, none⟩ (.slice Ab m cb)).setCell ⟨w.heap.size + 1, 3, none⟩ (.slice N nq ne)).setCell ⟨w.heap.size + 1, 4, none⟩ (.int .i64 sp)).setCell ⟨w.heap.size + 1, 5, none⟩ (.int .i64 W)) (w.heap.size + 1) 6 (.int .i64 t))).trans (chg_set (((((((w9.setCell ⟨w.heap.size + 1, 0, none⟩ (.string s)).setCell ⟨w.heap.size + 1, 1, none⟩ (.slice Aa n ca)).setCell ⟨w.heap.size + 1, 2, none⟩ (.slice Ab m cb)).setCell ⟨w.heap.size + 1, 3, none⟩ (.slice N nq ne)).setCell ⟨w.heap.size + 1, 4, none⟩ (.int .i64 sp)).setCell ⟨w.heap.size + 1, 5, none⟩ (.int .i64 W)).setCell ⟨w.heap.size + 1, 6, none⟩ (.int .i64 t)) (w.heap.size + 1) 7 (.int .i64 k))).trans (chg_set ((((((((w9.setCell ⟨w.heap.size + 1, 0, none⟩ (.string s)).setCell ⟨w.heap.size + 1, 1, none⟩ (.slice Aa n ca)).setCell ⟨w.heap.size + 1, 2, none⟩ (.slice Ab m cb)).setCell ⟨w.heap.size + 1, 3, none⟩ (.slice N nq ne)).setCell ⟨w.heap.size + 1, 4, none⟩ (.int .i64 sp)).setCell ⟨w.heap.size + 1, 5, none⟩ (.int .i64 W)).setCell ⟨w.heap.size + 1, 6, none⟩ (.int .i64 t)).setCell ⟨w.heap.size + 1, 7, none⟩ (.int .i64 k)) (w.heap.size + 1) 8 (.slice Aq l cq))).trans (chg_set (((((((((w9.setCell ⟨w.heap.size + 1, 0, none⟩ (.string s)).setCell ⟨w.heap.size + 1, 1, none⟩ (.slice Aa n ca)).setCell ⟨w.heap.size + 1, 2, none⟩ (.slice Ab m cb)).setCell ⟨w.heap.size + 1, 3, none⟩ (.slice N nq ne)).setCell ⟨w.heap.size + 1, 4, none⟩ (.int .i64 sp)).setCell ⟨w.heap.size + 1, 5, none⟩ (.int .i64 W)).setCell ⟨w.heap.size + 1, 6, none⟩ (.int .i64 t)).setCell ⟨w.heap.size + 1, 7, none⟩ (.int .i64 k)).setCell ⟨w.heap.size + 1, 8, none⟩ (.slice Aq l cq)) (w.heap.size + 1) 9 (.slice Au r cu)))
  rw [hy]
  obtain ⟨rc0, rc1, rc2, rc3, rc4, rc5, rc6, rc7, rc8, rc9⟩ := ry.ten
  have sy : w9.heap.size ≤ y.heap.size := hc.size
  have ya := hc.own a9.out (fun x hx => by have := topa.out x hx; omega)
  have yb := hc.own b9.out (fun x hx => by have := topb.out x hx; omega)
  have yq := q9.out.chg hc (fun x hx => by have := topq.out x hx; omega)
  have yu := u9.out.chg hc (fun x hx => by have := topu.out x hx; omega)
  have yg := G9.out.chg hc (by omega)
  have hF : FontO y w0.heap.size w3.heap.size (.agg #[.string s, .slice Aa n ca, .slice Ab m cb]) X.f :=
    ⟨Aa, ca, Ab, cb, w2.heap.size, by rw [HFs.out.1, HFs.out.2.1, HFs.out.2.2], by rw [HFs.out.2.1]; exact ya, by rw [HFs.out.2.1]; exact fun k hk => by have := (topa.out k hk).2; omega, by rw [HFs.out.2.2]; exact yb, by rw [HFs.out.2.2]; exact fun k hk => (topb.out k hk).2, by omega, by omega, Hss.out⟩
  have hX := MchX.build (X := ⟨X.f, ms, X.sp, X.w, X.t, X.k, X.ln, X.wt⟩) (B := B) (hi := y.heap.size) hF yg yq (fun k hk => (topq.out k hk).2) yu (fun k hk => (topu.out k hk).2) (by unfold Off; omega) (by unfold Off; omega) (by unfold Off; omega) (by unfold Off; omega) (by unfold Off; omega) (by unfold Off; omega) ⟨by omega, by omega⟩ ⟨by omega, by omega⟩ ⟨by omega, by omega⟩ ⟨by omega, by omega⟩
  simp only [HE.out.1, HE.out.2.1, HE.out.2.2.1, HE.out.2.2.2] at hX ⊢
  refine bodyPost_ret (v := .agg #[.string s, .slice Aa n ca, .slice Ab m cb, .slice N nq ne, .int .i64 sp, .int .i64 W, .int .i64 t, .int .i64 k, .slice Aq l cq, .slice Au r cu]) (by simp [results, Try.results124, go_sem, rc0, rc1, rc2, rc3, rc4, rc5, rc6, rc7, rc8, rc9]) rfl ⟨_, rfl, hX, T9.out.trans (hc.below (by omega) |>.mono (by omega))⟩
set_option maxRecDepth 100000 in
set_option maxHeartbeats 3200000 in
theorem l5Copy_any (lo hi : Nat) (v : Value) (X : Mch) (w : World) (h : MchV w lo hi v X) (hhi : hi ≤ w.heap.size) (hs : SmallX X) :
    Calls Try.prog 122 #[v] w fun e w' => ∃ v', e = .returned v' ∧ MchX w' w.heap.size w'.heap.size v' X ∧ Below w.heap.size w w' := by
  obtain ⟨s, A, n, c, A2, m, d, M, q, e0, L, l, lc, T, r, tc, rfl, hf, hq, hM, hqe, hem, hl, hL, hllc, hlm, hr, hT, hrt, htm⟩ := h.parts
  obtain ⟨fA, fc, fA2, fd, hfv, hI1, hI2, hc1, hc2, hd1, hd2, hss⟩ := hf
  simp only [Value.agg.injEq, Array.mk.injEq, List.cons.injEq, and_true, Value.string.injEq, Value.slice.injEq] at hfv
  obtain ⟨rfl, ⟨rfl, rfl, rfl⟩, ⟨rfl, rfl, rfl⟩⟩ := hfv
  obtain ⟨s, hs1⟩ : ∃ x, X.f.s = x := ⟨_, rfl⟩
  obtain ⟨n, hn⟩ : ∃ x, X.f.ws.length = x := ⟨_, rfl⟩
  obtain ⟨m, hm⟩ : ∃ x, X.f.cs.length = x := ⟨_, rfl⟩
  obtain ⟨sp, hsp⟩ : ∃ x, X.sp = x := ⟨_, rfl⟩
  obtain ⟨W, hW⟩ : ∃ x, X.w = x := ⟨_, rfl⟩
  obtain ⟨t, ht⟩ : ∃ x, X.t = x := ⟨_, rfl⟩
  obtain ⟨k, hk⟩ : ∃ x, X.k = x := ⟨_, rfl⟩
  have HFs : Hid (X.f.s = s ∧ X.f.ws.length = n ∧ X.f.cs.length = m) := ⟨hs1, hn, hm⟩
  have HE : Hid (X.sp = sp ∧ X.w = W ∧ X.t = t ∧ X.k = k) := ⟨hsp, hW, ht, hk⟩
  have Hq := Lib.hid hq; have Hl := Lib.hid hl; have Hr := Lib.hid hr; have Hn := Lib.hid hn; have Hm := Lib.hid hm; have HS := Lib.hid hs; have Hss := Lib.hid hss
  have hn1 : n ≤ 1048576 := by rw [← hn]; exact hs.f.2.1
  have hm1 : m ≤ 1048576 := by rw [← hm]; exact hs.f.2.2
  have hq1 : q ≤ 1048576 := by rw [← hq]; exact hs.ms
  have hl1 : l ≤ 1048576 := by rw [← hl]; exact hs.ln
  have hr1 : r ≤ 1048576 := by rw [← hr]; exact hs.wt
  rw [hs1, hn, hm, hsp, hW, ht, hk] at h ⊢
  obtain ⟨wA, hA, hbA, hzA, KA⟩ := mxWorld w #[.string s, .slice A n c, .slice A2 m d, .slice M q e0, .int .i64 sp, .int .i64 W, .int .i64 t, .int .i64 k, .slice L l lc, .slice T r tc] 61
  obtain ⟨w0, hB, hbB, hzB, RB⟩ := mxWorld wA #[.string ⟨#[]⟩, .slice none 0 0, .slice none 0 0, .slice none 0 0, .int .i64 0, .int .i64 0, .int .i64 0, .int .i64 0, .slice none 0 0, .slice none 0 0] 61
  rw [hzA] at RB
  have O0 := Lib.hid (KA.below hbB (by omega))
  have R0 := Lib.hid RB
  have hb0 : Below w.heap.size w w0 := hbA.trans (hbB.mono (by omega))
  have T0 := Lib.hid hb0
  have E0 := Lib.hid (hI1.below hhi hb0); have D0 := Lib.hid (hI2.below hhi hb0); have M0 := Lib.hid (hM.below hhi hb0); have L0 := Lib.hid (hL.below hhi hb0); have W0 := Lib.hid (hT.below hhi hb0)
  have s0 : w.heap.size + 2 ≤ w0.heap.size := by omega
  have HZ : Hid (w0.heap.size = w.heap.size + 1 + 1) := by show _ = _; omega
  have HA : Hid ((w.alloc (.cells #[.string s, .slice A n c, .slice A2 m d, .slice M q e0, .int .i64 sp, .int .i64 W, .int .i64 t, .int .i64 k, .slice L l lc, .slice T r tc] 61)).alloc (.cells #[.string ⟨#[]⟩, .slice none 0 0, .slice none 0 0, .slice none 0 0, .int .i64 0, .int .i64 0, .int .i64 0, .int .i64 0, .slice none 0 0, .slice none 0 0] 61) = w0) := by show _ = _; rw [hA, hB]
  clear h hM hqe hem hq hl hL hllc hlm hr hT hrt htm hsp hW ht hk hs1 hn hm hI1 hI2 hc1 hc2 hd1 hd2 hss hs hb0 hbA hbB hzA hzB KA RB hA hB
  obtain ⟨oc0, oc1, oc2, oc3, oc4, oc5, oc6, oc7, oc8, oc9⟩ := O0.out.ten
  have fz := O0.out.warm
  have tok1 : True := trivial
  have tok2 : True := trivial
  have tok3 : True := trivial
  have tok4 : True := trivial
  go_enter Try.func122, Try.ntmps122
  go_wp2_with (first
    | (at_builtin; clear tok1; rw [HA.out]; obtain ⟨w1, hw, hb, hz, hK⟩ := mxWorld w0 #[] 3; rw [hw]; have za : w0.heap.size < w1.heap.size := hK.lt; have hE : Own w1 w0.heap.size (.slice (some ⟨w.heap.size + 1 + 1, 0, none⟩) 0 0) [] := (by rw [← HZ.out, ← hw]; exact World.ownsRow_lit w0 #[] 0 (Nat.le_refl _) (Nat.zero_le _) rfl); have HEm := Lib.hid hE; clear hw hz hK hE; clear oc0 oc1 oc2 oc3 oc4 oc5 oc6 oc7 oc8 oc9; clear fz; have s1 : w0.heap.size ≤ w1.heap.size := hb.size; have sw1 : w.heap.size < w1.heap.size := (by omega); have O1 := Lib.hid (O0.out.below hb (by omega)); have R1 := Lib.hid (R0.out.below hb (by omega)); have T1 := Lib.hid (T0.out.trans (hb.mono (by omega))); have E1 := Lib.hid (E0.out.below (by omega) hb); have D1 := Lib.hid (D0.out.below (by omega) hb); have M1 := Lib.hid (M0.out.below (by omega) hb); have L1 := Lib.hid (L0.out.below (by omega) hb); have W1 := Lib.hid (W0.out.below (by omega) hb); clear O0 R0 T0 E0 D0 M0 L0 W0 hb; refine wpl_append_any w1 rfl (.tmp 3) (.tmp 6) rfl w0.heap.size _ [] (X.f.ws) _ n c rfl rfl Hn.out E1.out.ints HEm.out (by omega) (by simp; omega) ?_; intro u w2 hO hg _; rw [List.nil_append] at hO; obtain ⟨Aa, ca, rfl, -, -, -, -⟩ := hO.form; rw [Hn.out] at hO ⊢; have topa := Lib.hid (fun k hk => World.ownsRow.lt hO k hk); have hc : Chg w0.heap.size w1.heap.size w1 w2 := Chg.of_grown hg (fun x hx => by have hx2 : w.heap.size + 1 + 1 = x := (by injection hx); have := HZ.out; omega); clear hg HEm; have s2 : w1.heap.size ≤ w2.heap.size := hc.size; have sw2 : w.heap.size < w2.heap.size := (by omega); have O2 := Lib.hid (O1.out.chg hc (by omega)); have R2 := Lib.hid (R1.out.chg hc (by omega)); have T2 := Lib.hid (T1.out.trans ((hc.below (by omega)).mono (by omega))); have E2 := Lib.hid (E1.out.below (by omega) (hc.below (by omega))); have D2 := Lib.hid (D1.out.below (by omega) (hc.below (by omega))); have M2 := Lib.hid (M1.out.below (by omega) (hc.below (by omega))); have L2 := Lib.hid (L1.out.below (by omega) (hc.below (by omega))); have W2 := Lib.hid (W1.out.below (by omega) (hc.below (by omega))); clear O1 R1 T1 E1 D1 M1 L1 W1 hc; have a2 := Lib.hid (hO); clear hO; obtain ⟨oc0, oc1, oc2, oc3, oc4, oc5, oc6, oc7, oc8, oc9⟩ := O2.out.ten; have fz := O2.out.warm)
    | (at_builtin; clear tok2; clear oc0 oc1 oc2 oc3 oc4 oc5 oc6 oc7 oc8 oc9; clear fz; obtain ⟨w3, hx⟩ : ∃ x, w2.setCell ⟨w.heap.size, 1, none⟩ (.slice Aa n ca) = x := ⟨_, rfl⟩; have ox : Blk w3 w.heap.size #[.string s, .slice Aa n ca, .slice A2 m d, .slice M q e0, .int .i64 sp, .int .i64 W, .int .i64 t, .int .i64 k, .slice L l lc, .slice T r tc] 61 := (by rw [← hx]; exact heapSet (i := 1) O2.out _); have hc : Chg w.heap.size (w.heap.size + 1) w2 w3 := (by rw [← hx]; exact chg_set w2 w.heap.size 1 _); have hq3 : Hid (w3.heap.size = w2.heap.size) := (by show _ = _; rw [← hx]; simp); rw [hx]; clear hx; have s3 : w2.heap.size ≤ w3.heap.size := hc.size; have sw3 : w.heap.size < w3.heap.size := (by omega); have R3 := Lib.hid (R2.out.chg hc (by omega)); have T3 := Lib.hid (T2.out.trans ((hc.below (by omega)).mono (by omega))); have E3 := Lib.hid (E2.out.below (by omega) (hc.below (by omega))); have D3 := Lib.hid (D2.out.below (by omega) (hc.below (by omega))); have M3 := Lib.hid (M2.out.below (by omega) (hc.below (by omega))); have L3 := Lib.hid (L2.out.below (by omega) (hc.below (by omega))); have W3 := Lib.hid (W2.out.below (by omega) (hc.below (by omega))); have a3 := Lib.hid (hc.own a2.out (fun x hx => by have := topa.out x hx; omega)); clear R2 T2 E2 D2 M2 L2 W2 a2 hc; clear O2; have O3 := Lib.hid ox; clear ox; obtain ⟨oc0, oc1, oc2, oc3, oc4, oc5, oc6, oc7, oc8, oc9⟩ := O3.out.ten; have fz := O3.out.warm; obtain ⟨w4, hw, hb, hz, hK⟩ := mxWorld w3 #[] 3; rw [hw]; have zb : w3.heap.size < w4.heap.size := hK.lt; have hE : Own w4 w3.heap.size (.slice (some ⟨w2.heap.size, 0, none⟩) 0 0) [] := (by rw [← hq3.out, ← hw]; exact World.ownsRow_lit w3 #[] 0 (Nat.le_refl _) (Nat.zero_le _) rfl); have HEm := Lib.hid hE; clear hw hz hK hE; clear oc0 oc1 oc2 oc3 oc4 oc5 oc6 oc7 oc8 oc9; clear fz; have s4 : w3.heap.size ≤ w4.heap.size := hb.size; have sw4 : w.heap.size < w4.heap.size := (by omega); have O4 := Lib.hid (O3.out.below hb (by omega)); have R4 := Lib.hid (R3.out.below hb (by omega)); have T4 := Lib.hid (T3.out.trans (hb.mono (by omega))); have E4 := Lib.hid (E3.out.below (by omega) hb); have D4 := Lib.hid (D3.out.below (by omega) hb); have M4 := Lib.hid (M3.out.below (by omega) hb); have L4 := Lib.hid (L3.out.below (by omega) hb); have W4 := Lib.hid (W3.out.below (by omega) hb); have a4 := Lib.hid (a3.out.below hb); clear O3 R3 T3 E3 D3 M3 L3 W3 a3 hb; refine wpl_append_any w4 rfl (.tmp 10) (.tmp 13) rfl w3.heap.size _ [] (X.f.cs) _ m d rfl rfl Hm.out D4.out.ints HEm.out (by omega) (by simp; omega) ?_; intro u w5 hO hg _; rw [List.nil_append] at hO; obtain ⟨Ab, cb, rfl, -, -, -, -⟩ := hO.form; rw [Hm.out] at hO ⊢; have topb := Lib.hid (fun k hk => World.ownsRow.lt hO k hk); have hc : Chg w3.heap.size w4.heap.size w4 w5 := Chg.of_grown hg (fun x hx => by have hx2 : w2.heap.size = x := (by injection hx); have := hq3.out; omega); clear hg HEm; have s5 : w4.heap.size ≤ w5.heap.size := hc.size; have sw5 : w.heap.size < w5.heap.size := (by omega); have O5 := Lib.hid (O4.out.chg hc (by omega)); have R5 := Lib.hid (R4.out.chg hc (by omega)); have T5 := Lib.hid (T4.out.trans ((hc.below (by omega)).mono (by omega))); have E5 := Lib.hid (E4.out.below (by omega) (hc.below (by omega))); have D5 := Lib.hid (D4.out.below (by omega) (hc.below (by omega))); have M5 := Lib.hid (M4.out.below (by omega) (hc.below (by omega))); have L5 := Lib.hid (L4.out.below (by omega) (hc.below (by omega))); have W5 := Lib.hid (W4.out.below (by omega) (hc.below (by omega))); have a5 := Lib.hid (hc.own a4.out (fun x hx => by have := topa.out x hx; omega)); clear O4 R4 T4 E4 D4 M4 L4 W4 a4 hc; have b5 := Lib.hid (hO); clear hO; obtain ⟨oc0, oc1, oc2, oc3, oc4, oc5, oc6, oc7, oc8, oc9⟩ := O5.out.ten; have fz := O5.out.warm)
    | (go_at_call 174; clear oc0 oc1 oc2 oc3 oc4 oc5 oc6 oc7 oc8 oc9; clear fz; obtain ⟨w6, hx⟩ : ∃ x, w5.setCell ⟨w.heap.size, 2, none⟩ (.slice Ab m cb) = x := ⟨_, rfl⟩; have ox : Blk w6 w.heap.size #[.string s, .slice Aa n ca, .slice Ab m cb, .slice M q e0, .int .i64 sp, .int .i64 W, .int .i64 t, .int .i64 k, .slice L l lc, .slice T r tc] 61 := (by rw [← hx]; exact heapSet (i := 2) O5.out _); have hc : Chg w.heap.size (w.heap.size + 1) w5 w6 := (by rw [← hx]; exact chg_set w5 w.heap.size 2 _); have hq6 : Hid (w6.heap.size = w5.heap.size) := (by show _ = _; rw [← hx]; simp); rw [hx]; clear hx; have s6 : w5.heap.size ≤ w6.heap.size := hc.size; have sw6 : w.heap.size < w6.heap.size := (by omega); have R6 := Lib.hid (R5.out.chg hc (by omega)); have T6 := Lib.hid (T5.out.trans ((hc.below (by omega)).mono (by omega))); have E6 := Lib.hid (E5.out.below (by omega) (hc.below (by omega))); have D6 := Lib.hid (D5.out.below (by omega) (hc.below (by omega))); have M6 := Lib.hid (M5.out.below (by omega) (hc.below (by omega))); have L6 := Lib.hid (L5.out.below (by omega) (hc.below (by omega))); have W6 := Lib.hid (W5.out.below (by omega) (hc.below (by omega))); have a6 := Lib.hid (hc.own a5.out (fun x hx => by have := topa.out x hx; omega)); have b6 := Lib.hid (hc.own b5.out (fun x hx => by have := topb.out x hx; omega)); clear R5 T5 E5 D5 M5 L5 W5 a5 b5 hc; clear O5; have O6 := Lib.hid ox; clear ox; obtain ⟨oc0, oc1, oc2, oc3, oc4, oc5, oc6, oc7, oc8, oc9⟩ := O6.out.ten; have fz := O6.out.warm; refine (l2Copy_any lo hi _ _ _ X.ms w6 Hq.out hq1 HS.out.row M6.out (by omega)).mono ?_; rintro e w7 ⟨u, hs0, rfl, hO, hb⟩; obtain ⟨Ag, cg, rfl, -⟩ := hO.form; rw [Hq.out] at hO ⊢; clear oc0 oc1 oc2 oc3 oc4 oc5 oc6 oc7 oc8 oc9; clear fz; have s7 : w6.heap.size ≤ w7.heap.size := hb.size; have sw7 : w.heap.size < w7.heap.size := (by omega); have O7 := Lib.hid (O6.out.below hb (by omega)); have R7 := Lib.hid (R6.out.below hb (by omega)); have T7 := Lib.hid (T6.out.trans (hb.mono (by omega))); have E7 := Lib.hid (E6.out.below (by omega) hb); have D7 := Lib.hid (D6.out.below (by omega) hb); have M7 := Lib.hid (M6.out.below (by omega) hb); have L7 := Lib.hid (L6.out.below (by omega) hb); have W7 := Lib.hid (W6.out.below (by omega) hb); have a7 := Lib.hid (a6.out.below hb); have b7 := Lib.hid (b6.out.below hb); clear O6 R6 T6 E6 D6 M6 L6 W6 a6 b6 hb; have G7 := Lib.hid (hO); clear hO; obtain ⟨oc0, oc1, oc2, oc3, oc4, oc5, oc6, oc7, oc8, oc9⟩ := O7.out.ten; have fz := O7.out.warm)
    | (at_builtin; clear tok3; clear oc0 oc1 oc2 oc3 oc4 oc5 oc6 oc7 oc8 oc9; clear fz; obtain ⟨w8, hx⟩ : ∃ x, w7.setCell ⟨w.heap.size, 3, none⟩ (.slice Ag q cg) = x := ⟨_, rfl⟩; have ox : Blk w8 w.heap.size #[.string s, .slice Aa n ca, .slice Ab m cb, .slice Ag q cg, .int .i64 sp, .int .i64 W, .int .i64 t, .int .i64 k, .slice L l lc, .slice T r tc] 61 := (by rw [← hx]; exact heapSet (i := 3) O7.out _); have hc : Chg w.heap.size (w.heap.size + 1) w7 w8 := (by rw [← hx]; exact chg_set w7 w.heap.size 3 _); have hq8 : Hid (w8.heap.size = w7.heap.size) := (by show _ = _; rw [← hx]; simp); rw [hx]; clear hx; have s8 : w7.heap.size ≤ w8.heap.size := hc.size; have sw8 : w.heap.size < w8.heap.size := (by omega); have R8 := Lib.hid (R7.out.chg hc (by omega)); have T8 := Lib.hid (T7.out.trans ((hc.below (by omega)).mono (by omega))); have E8 := Lib.hid (E7.out.below (by omega) (hc.below (by omega))); have D8 := Lib.hid (D7.out.below (by omega) (hc.below (by omega))); have M8 := Lib.hid (M7.out.below (by omega) (hc.below (by omega))); have L8 := Lib.hid (L7.out.below (by omega) (hc.below (by omega))); have W8 := Lib.hid (W7.out.below (by omega) (hc.below (by omega))); have a8 := Lib.hid (hc.own a7.out (fun x hx => by have := topa.out x hx; omega)); have b8 := Lib.hid (hc.own b7.out (fun x hx => by have := topb.out x hx; omega)); have G8 := Lib.hid (G7.out.chg hc (by omega)); clear R7 T7 E7 D7 M7 L7 W7 a7 b7 G7 hc; clear O7; have O8 := Lib.hid ox; clear ox; obtain ⟨oc0, oc1, oc2, oc3, oc4, oc5, oc6, oc7, oc8, oc9⟩ := O8.out.ten; have fz := O8.out.warm; obtain ⟨w9, hw, hb, hz, hK⟩ := mxWorld w8 #[] 34; rw [hw]; have zq : w8.heap.size < w9.heap.size := hK.lt; have hE : OwnM w9 w8.heap.size (.slice (some ⟨w7.heap.size, 0, none⟩) 0 0) [] := (by rw [← hq8.out, ← hw]; exact World.ownsRow_lit w8 #[] 0 (Nat.le_refl _) (Nat.zero_le _) rfl); have HEm := Lib.hid hE; clear hw hz hK hE; clear oc0 oc1 oc2 oc3 oc4 oc5 oc6 oc7 oc8 oc9; clear fz; have s9 : w8.heap.size ≤ w9.heap.size := hb.size; have sw9 : w.heap.size < w9.heap.size := (by omega); have O9 := Lib.hid (O8.out.below hb (by omega)); have R9 := Lib.hid (R8.out.below hb (by omega)); have T9 := Lib.hid (T8.out.trans (hb.mono (by omega))); have E9 := Lib.hid (E8.out.below (by omega) hb); have D9 := Lib.hid (D8.out.below (by omega) hb); have M9 := Lib.hid (M8.out.below (by omega) hb); have L9 := Lib.hid (L8.out.below (by omega) hb); have W9 := Lib.hid (W8.out.below (by omega) hb); have a9 := Lib.hid (a8.out.below hb); have b9 := Lib.hid (b8.out.below hb); have G9 := Lib.hid (G8.out.below hb); clear O8 R8 T8 E8 D8 M8 L8 W8 a8 b8 G8 hb; refine wpl_copy_mat w9 rfl (.tmp 21) (.tmp 23) rfl w8.heap.size lo hi _ (X.ln) _ l lc rfl HEm.out (by omega) rfl Hl.out L9.out (by omega) ?_; intro u w10 hO hg _; obtain ⟨Aq, cq, rfl, -, -, -, -⟩ := hO.form; rw [Hl.out] at hO ⊢; have topq := Lib.hid (fun k hk => hO.lt k hk); have hc : Chg w8.heap.size w9.heap.size w9 w10 := Chg.of_grown hg (fun x hx => by have hx2 : w7.heap.size = x := (by injection hx); have := hq8.out; omega); clear hg HEm; have s10 : w9.heap.size ≤ w10.heap.size := hc.size; have sw10 : w.heap.size < w10.heap.size := (by omega); have O10 := Lib.hid (O9.out.chg hc (by omega)); have R10 := Lib.hid (R9.out.chg hc (by omega)); have T10 := Lib.hid (T9.out.trans ((hc.below (by omega)).mono (by omega))); have E10 := Lib.hid (E9.out.below (by omega) (hc.below (by omega))); have D10 := Lib.hid (D9.out.below (by omega) (hc.below (by omega))); have M10 := Lib.hid (M9.out.below (by omega) (hc.below (by omega))); have L10 := Lib.hid (L9.out.below (by omega) (hc.below (by omega))); have W10 := Lib.hid (W9.out.below (by omega) (hc.below (by omega))); have a10 := Lib.hid (hc.own a9.out (fun x hx => by have := topa.out x hx; omega)); have b10 := Lib.hid (hc.own b9.out (fun x hx => by have := topb.out x hx; omega)); have G10 := Lib.hid (G9.out.chg hc (by omega)); clear O9 R9 T9 E9 D9 M9 L9 W9 a9 b9 G9 hc; have q10 := Lib.hid (hO); clear hO; obtain ⟨oc0, oc1, oc2, oc3, oc4, oc5, oc6, oc7, oc8, oc9⟩ := O10.out.ten; have fz := O10.out.warm)
    | (at_builtin; clear tok4; clear oc0 oc1 oc2 oc3 oc4 oc5 oc6 oc7 oc8 oc9; clear fz; obtain ⟨w11, hx⟩ : ∃ x, w10.setCell ⟨w.heap.size, 8, none⟩ (.slice Aq l cq) = x := ⟨_, rfl⟩; have ox : Blk w11 w.heap.size #[.string s, .slice Aa n ca, .slice Ab m cb, .slice Ag q cg, .int .i64 sp, .int .i64 W, .int .i64 t, .int .i64 k, .slice Aq l cq, .slice T r tc] 61 := (by rw [← hx]; exact heapSet (i := 8) O10.out _); have hc : Chg w.heap.size (w.heap.size + 1) w10 w11 := (by rw [← hx]; exact chg_set w10 w.heap.size 8 _); have hq11 : Hid (w11.heap.size = w10.heap.size) := (by show _ = _; rw [← hx]; simp); rw [hx]; clear hx; have s11 : w10.heap.size ≤ w11.heap.size := hc.size; have sw11 : w.heap.size < w11.heap.size := (by omega); have R11 := Lib.hid (R10.out.chg hc (by omega)); have T11 := Lib.hid (T10.out.trans ((hc.below (by omega)).mono (by omega))); have E11 := Lib.hid (E10.out.below (by omega) (hc.below (by omega))); have D11 := Lib.hid (D10.out.below (by omega) (hc.below (by omega))); have M11 := Lib.hid (M10.out.below (by omega) (hc.below (by omega))); have L11 := Lib.hid (L10.out.below (by omega) (hc.below (by omega))); have W11 := Lib.hid (W10.out.below (by omega) (hc.below (by omega))); have a11 := Lib.hid (hc.own a10.out (fun x hx => by have := topa.out x hx; omega)); have b11 := Lib.hid (hc.own b10.out (fun x hx => by have := topb.out x hx; omega)); have G11 := Lib.hid (G10.out.chg hc (by omega)); have q11 := Lib.hid (q10.out.chg hc (fun x hx => by have := topq.out x hx; omega)); clear R10 T10 E10 D10 M10 L10 W10 a10 b10 G10 q10 hc; clear O10; have O11 := Lib.hid ox; clear ox; obtain ⟨oc0, oc1, oc2, oc3, oc4, oc5, oc6, oc7, oc8, oc9⟩ := O11.out.ten; have fz := O11.out.warm; obtain ⟨w12, hw, hb, hz, hK⟩ := mxWorld w11 #[] 34; rw [hw]; have zu : w11.heap.size < w12.heap.size := hK.lt; have hE : OwnM w12 w11.heap.size (.slice (some ⟨w10.heap.size, 0, none⟩) 0 0) [] := (by rw [← hq11.out, ← hw]; exact World.ownsRow_lit w11 #[] 0 (Nat.le_refl _) (Nat.zero_le _) rfl); have HEm := Lib.hid hE; clear hw hz hK hE; clear oc0 oc1 oc2 oc3 oc4 oc5 oc6 oc7 oc8 oc9; clear fz; have s12 : w11.heap.size ≤ w12.heap.size := hb.size; have sw12 : w.heap.size < w12.heap.size := (by omega); have O12 := Lib.hid (O11.out.below hb (by omega)); have R12 := Lib.hid (R11.out.below hb (by omega)); have T12 := Lib.hid (T11.out.trans (hb.mono (by omega))); have E12 := Lib.hid (E11.out.below (by omega) hb); have D12 := Lib.hid (D11.out.below (by omega) hb); have M12 := Lib.hid (M11.out.below (by omega) hb); have L12 := Lib.hid (L11.out.below (by omega) hb); have W12 := Lib.hid (W11.out.below (by omega) hb); have a12 := Lib.hid (a11.out.below hb); have b12 := Lib.hid (b11.out.below hb); have G12 := Lib.hid (G11.out.below hb); have q12 := Lib.hid (q11.out.below hb); clear O11 R11 T11 E11 D11 M11 L11 W11 a11 b11 G11 q11 hb; refine wpl_copy_mat w12 rfl (.tmp 26) (.tmp 28) rfl w11.heap.size lo hi _ (X.wt) _ r tc rfl HEm.out (by omega) rfl Hr.out W12.out (by omega) ?_; intro u w13 hO hg _; obtain ⟨Au, cu, rfl, -, -, -, -⟩ := hO.form; rw [Hr.out] at hO ⊢; have topu := Lib.hid (fun k hk => hO.lt k hk); have hc : Chg w11.heap.size w12.heap.size w12 w13 := Chg.of_grown hg (fun x hx => by have hx2 : w10.heap.size = x := (by injection hx); have := hq11.out; omega); clear hg HEm; have s13 : w12.heap.size ≤ w13.heap.size := hc.size; have sw13 : w.heap.size < w13.heap.size := (by omega); have O13 := Lib.hid (O12.out.chg hc (by omega)); have R13 := Lib.hid (R12.out.chg hc (by omega)); have T13 := Lib.hid (T12.out.trans ((hc.below (by omega)).mono (by omega))); have E13 := Lib.hid (E12.out.below (by omega) (hc.below (by omega))); have D13 := Lib.hid (D12.out.below (by omega) (hc.below (by omega))); have M13 := Lib.hid (M12.out.below (by omega) (hc.below (by omega))); have L13 := Lib.hid (L12.out.below (by omega) (hc.below (by omega))); have W13 := Lib.hid (W12.out.below (by omega) (hc.below (by omega))); have a13 := Lib.hid (hc.own a12.out (fun x hx => by have := topa.out x hx; omega)); have b13 := Lib.hid (hc.own b12.out (fun x hx => by have := topb.out x hx; omega)); have G13 := Lib.hid (G12.out.chg hc (by omega)); have q13 := Lib.hid (q12.out.chg hc (fun x hx => by have := topq.out x hx; omega)); clear O12 R12 T12 E12 D12 M12 L12 W12 a12 b12 G12 q12 hc; have u13 := Lib.hid (hO); clear hO; obtain ⟨oc0, oc1, oc2, oc3, oc4, oc5, oc6, oc7, oc8, oc9⟩ := O13.out.ten; have fz := O13.out.warm; obtain ⟨rc0, rc1, rc2, rc3, rc4, rc5, rc6, rc7, rc8, rc9⟩ := R13.out.ten; have fr := R13.out.warm))
  clear rc0 rc1 rc2 rc3 rc4 rc5 rc6 rc7 rc8 rc9 fr
  clear oc0 oc1 oc2 oc3 oc4 oc5 oc6 oc7 oc8 oc9
  clear fz
  obtain ⟨w14, hx⟩ : ∃ x, w13.setCell ⟨w.heap.size, 9, none⟩ (.slice Au r cu) = x := ⟨_, rfl⟩
  have ox : Blk w14 w.heap.size #[.string s, .slice Aa n ca, .slice Ab m cb, .slice Ag q cg, .int .i64 sp, .int .i64 W, .int .i64 t, .int .i64 k, .slice Aq l cq, .slice Au r cu] 61 := by rw [← hx]; exact heapSet (i := 9) O13.out _
  have hc : Chg w.heap.size (w.heap.size + 1) w13 w14 := by rw [← hx]; exact chg_set w13 w.heap.size 9 _
  have hq14 : Hid (w14.heap.size = w13.heap.size) := by show _ = _; rw [← hx]; simp
  rw [hx]
  clear hx
  have s14 : w13.heap.size ≤ w14.heap.size := hc.size
  have sw14 : w.heap.size < w14.heap.size := by omega
  have R14 := Lib.hid (R13.out.chg hc (by omega))
  have T14 := Lib.hid (T13.out.trans ((hc.below (by omega)).mono (by omega)))
  have E14 := Lib.hid (E13.out.below (by omega) (hc.below (by omega)))
  have D14 := Lib.hid (D13.out.below (by omega) (hc.below (by omega)))
  have M14 := Lib.hid (M13.out.below (by omega) (hc.below (by omega)))
  have L14 := Lib.hid (L13.out.below (by omega) (hc.below (by omega)))
  have W14 := Lib.hid (W13.out.below (by omega) (hc.below (by omega)))
  have a14 := Lib.hid (hc.own a13.out (fun x hx => by have := topa.out x hx; omega))
  have b14 := Lib.hid (hc.own b13.out (fun x hx => by have := topb.out x hx; omega))
  have G14 := Lib.hid (G13.out.chg hc (by omega))
  have q14 := Lib.hid (q13.out.chg hc (fun x hx => by have := topq.out x hx; omega))
  have u14 := Lib.hid (u13.out.chg hc (fun x hx => by have := topu.out x hx; omega))
  clear R13 T13 E13 D13 M13 L13 W13 a13 b13 G13 q13 u13 hc
  clear O13
  have O14 := Lib.hid ox
  clear ox
  obtain ⟨oc0, oc1, oc2, oc3, oc4, oc5, oc6, oc7, oc8, oc9⟩ := O14.out.ten
  have fz := O14.out.warm
  obtain ⟨y, hy⟩ : ∃ x, ((((((((((w14.setCell ⟨w.heap.size + 1, 0, none⟩ (.string s)).setCell ⟨w.heap.size + 1, 1, none⟩ (.slice Aa n ca)).setCell ⟨w.heap.size + 1, 2, none⟩ (.slice Ab m cb)).setCell ⟨w.heap.size + 1, 3, none⟩ (.slice Ag q cg)).setCell ⟨w.heap.size + 1, 4, none⟩ (.int .i64 sp)).setCell ⟨w.heap.size + 1, 5, none⟩ (.int .i64 W)).setCell ⟨w.heap.size + 1, 6, none⟩ (.int .i64 t)).setCell ⟨w.heap.size + 1, 7, none⟩ (.int .i64 k)).setCell ⟨w.heap.size + 1, 8, none⟩ (.slice Aq l cq)).setCell ⟨w.heap.size + 1, 9, none⟩ (.slice Au r cu)) = x := ⟨_, rfl⟩
  have ry : Blk y (w.heap.size + 1) #[.string s, .slice Aa n ca, .slice Ab m cb, .slice Ag q cg, .int .i64 sp, .int .i64 W, .int .i64 t, .int .i64 k, .slice Aq l cq, .slice Au r cu] 61 := by rw [← hy]; exact Blk.fill R14.out (.string s) (.slice Aa n ca) (.slice Ab m cb) (.slice Ag q cg) (.int .i64 sp) (.int .i64 W) (.int .i64 t) (.int .i64 k) (.slice Aq l cq) (.slice Au r cu)
  have hc : Chg (w.heap.size + 1) (w.heap.size + 2) w14 y := by rw [← hy]; exact (((((((((((Chg.refl (w.heap.size + 1) (w.heap.size + 2) w14).trans (chg_set w14 (w.heap.size + 1) 0 (.string s))).trans (chg_set (w14.setCell ⟨w.heap.size + 1, 0, none⟩ (.string s)) (w.heap.size + 1) 1 (.slice Aa n ca))).trans (chg_set ((w14.setCell ⟨w.heap.size + 1, 0, none⟩ (.string s)).setCell ⟨w.heap.size + 1, 1, none⟩ (.slice Aa n ca)) (w.heap.size + 1) 2 (.slice Ab m cb))).trans (chg_set (((w14.setCell ⟨w.heap.size + 1, 0, none⟩ (.string s)).setCell ⟨w.heap.size + 1, 1, none⟩ (.slice Aa n ca)).setCell ⟨w.heap.size + 1, 2, none⟩ (.slice Ab m cb)) (w.heap.size + 1) 3 (.slice Ag q cg))).trans (chg_set ((((w14.setCell ⟨w.heap.size + 1, 0, none⟩ (.string s)).setCell ⟨w.heap.size + 1, 1, none⟩ (.slice Aa n ca)).setCell ⟨w.heap.size + 1, 2, none⟩ (.slice Ab m cb)).setCell ⟨w.heap.size + 1, 3, none⟩ (.slice Ag q cg)) (w.heap.size + 1) 4 (.int .i64 sp))).trans (chg_set (((((w14.setCell ⟨w.heap.size + 1, 0, none⟩ (.string s)).setCell ⟨w.heap.size + 1, 1, none⟩ (.slice Aa n ca)).setCell ⟨w.heap.size + 1, 2, none⟩ (.slice Ab m cb)).setCell ⟨w.heap.size + 1, 3, none⟩ (.slice Ag q cg)).setCell ⟨w.heap.size + 1, 4, none⟩ (.int .i64 sp)) (w.heap.size + 1) 5 (.int .i64 W))).trans (chg_set ((((((w14.setCell ⟨w.heap.size + 1, 0, none⟩ (.string s)).setCell ⟨w.heap.size + 1, 1, none⟩ (.slice Aa n ca)).setCell ⟨w.heap.size + 1, 2, none⟩ (.slice Ab m cb)).setCell ⟨w.heap.size + 1, 3, none⟩ (.slice Ag q cg)).setCell ⟨w.heap.size + 1, 4, none⟩ (.int .i64 sp)).setCell ⟨w.heap.size + 1, 5, none⟩ (.int .i64 W)) (w.heap.size + 1) 6 (.int .i64 t))).trans (chg_set (((((((w14.setCell ⟨w.heap.size + 1, 0, none⟩ (.string s)).setCell ⟨w.heap.size + 1, 1, none⟩ (.slice Aa n ca)).setCell ⟨w.heap.size + 1, 2, none⟩ (.slice Ab m cb)).setCell ⟨w.heap.size + 1, 3, none⟩ (.slice Ag q cg)).setCell ⟨w.heap.size + 1, 4, none⟩ (.int .i64 sp)).setCell ⟨w.heap.size + 1, 5, none⟩ (.int .i64 W)).setCell ⟨w.heap.size + 1, 6, none⟩ (.int .i64 t)) (w.heap.size + 1) 7 (.int .i64 k))).trans (chg_set ((((((((w14.setCell ⟨w.heap.size + 1, 0, none⟩ (.string s)).setCell ⟨w.heap.size + 1, 1, none⟩ (.slice Aa n ca)).setCell ⟨w.heap.size + 1, 2, none⟩ (.slice Ab m cb)).setCell ⟨w.heap.size + 1, 3, none⟩ (.slice Ag q cg)).setCell ⟨w.heap.size + 1, 4, none⟩ (.int .i64 sp)).setCell ⟨w.heap.size + 1, 5, none⟩ (.int .i64 W)).setCell ⟨w.heap.size + 1, 6, none⟩ (.int .i64 t)).setCell ⟨w.heap.size + 1, 7, none⟩ (.int .i64 k)) (w.heap.size + 1) 8 (.slice Aq l cq))).trans (chg_set (((((((((w14.setCell ⟨w.heap.size + 1, 0, none⟩ (.string s)).setCell ⟨w.heap.size + 1, 1, none⟩ (.slice Aa n ca)).setCell ⟨w.heap.size + 1, 2, none⟩ (.slice Ab m cb)).setCell ⟨w.heap.size + 1, 3, none⟩ (.slice Ag q cg)).setCell ⟨w.heap.size + 1, 4, none⟩ (.int .i64 sp)).setCell ⟨w.heap.size + 1, 5, none⟩ (.int .i64 W)).setCell ⟨w.heap.size + 1, 6, none⟩ (.int .i64 t)).setCell ⟨w.heap.size + 1, 7, none⟩ (.int .i64 k)).setCell ⟨w.heap.size + 1, 8, none⟩ (.slice Aq l cq)) (w.heap.size + 1) 9 (.slice Au r cu)))
  rw [hy]
  obtain ⟨rc0, rc1, rc2, rc3, rc4, rc5, rc6, rc7, rc8, rc9⟩ := ry.ten
  have sy : w14.heap.size ≤ y.heap.size := hc.size
  have ya := hc.own a14.out (fun x hx => by have := topa.out x hx; omega)
  have yb := hc.own b14.out (fun x hx => by have := topb.out x hx; omega)
  have yq := q14.out.chg hc (fun x hx => by have := topq.out x hx; omega)
  have yu := u14.out.chg hc (fun x hx => by have := topu.out x hx; omega)
  have yg := G14.out.chg hc (by omega)
  have hF : FontO y w0.heap.size w5.heap.size (.agg #[.string s, .slice Aa n ca, .slice Ab m cb]) X.f :=
    ⟨Aa, ca, Ab, cb, w3.heap.size, by rw [HFs.out.1, HFs.out.2.1, HFs.out.2.2], by rw [HFs.out.2.1]; exact ya, by rw [HFs.out.2.1]; exact fun k hk => by have := (topa.out k hk).2; omega, by rw [HFs.out.2.2]; exact yb, by rw [HFs.out.2.2]; exact fun k hk => (topb.out k hk).2, by omega, by omega, Hss.out⟩
  have hX := MchX.build (X := X) (B := w.heap.size) (hi := y.heap.size) hF yg yq (fun k hk => (topq.out k hk).2) yu (fun k hk => (topu.out k hk).2) (by unfold Off; omega) (by unfold Off; omega) (by unfold Off; omega) (by unfold Off; omega) (by unfold Off; omega) (by unfold Off; omega) ⟨by omega, by omega⟩ ⟨by omega, by omega⟩ ⟨by omega, by omega⟩ ⟨by omega, by omega⟩
  simp only [HE.out.1, HE.out.2.1, HE.out.2.2.1, HE.out.2.2.2] at hX ⊢
  refine bodyPost_ret (v := .agg #[.string s, .slice Aa n ca, .slice Ab m cb, .slice Ag q cg, .int .i64 sp, .int .i64 W, .int .i64 t, .int .i64 k, .slice Aq l cq, .slice Au r cu]) (by simp [results, Try.results122, go_sem, rc0, rc1, rc2, rc3, rc4, rc5, rc6, rc7, rc8, rc9]) rfl ⟨_, rfl, hX, T14.out.trans (hc.below (by omega) |>.mono (by omega))⟩
end Go.Proofs.Ythoepelgmplcmaa
