/-
 A machine of the call's own whose waiting row begins inside its block, apart from a row; stop and marks by contract: the row stays. Conditions: rows of at most 20, sizes of at most 2^20.
-/
import Derived.Test.YtimhnkpccbcohaaGreatDoorZEngKT
namespace Go.Proofs.YtimhnkpccbcohaaGreatDoor
open Go.RowKit Go.Conc
set_option linter.unusedVariables false
set_option linter.unusedSimpArgs false

/-- a machine of the call's own, its parts apart from the row u -/
def MchYA (w : World) (B hi : Nat) (v : Value) (X : Mch) (u : Value) : Prop := ∃ A c A2 d M e L lc T tc hs f0 f1 g0 g1 l0 l1 t0 t1, MchYO w B hi v X A c A2 d M e L lc T tc hs f0 f1 g0 g1 l0 l1 t0 t1 ∧ ∀ g, u.ownBlock = some g → Off f0 f1 g (g + 1) ∧ Off g0 g1 g (g + 1) ∧ Off l0 l1 g (g + 1) ∧ Off t0 t1 g (g + 1)
theorem MchYA.mch {w : World} {B hi : Nat} {v : Value} {X : Mch} {u : Value} (h : MchYA w B hi v X u) : MchY w B hi v X := by
 obtain ⟨A, c, A2, d, M, e, L, lc, T, tc, hs, f0, f1, g0, g1, l0, l1, t0, t1, h, -⟩ := h
 exact ⟨A, c, A2, d, M, e, L, lc, T, tc, hs, f0, f1, g0, g1, l0, l1, t0, t1, h⟩
theorem MchY.apart {w : World} {B hi : Nat} {v : Value} {X : Mch} {u : Value} (h : MchY w B hi v X) (hu : u.ownBlock = none) : MchYA w B hi v X u := by
 obtain ⟨A, c, A2, d, M, e, L, lc, T, tc, hs, f0, f1, g0, g1, l0, l1, t0, t1, h⟩ := h
 exact ⟨A, c, A2, d, M, e, L, lc, T, tc, hs, f0, f1, g0, g1, l0, l1, t0, t1, h, fun g hg => by rw [hu] at hg; cases hg⟩
theorem MchYA.below {w w' : World} {B hi : Nat} {v : Value} {X : Mch} {u : Value} (h : MchYA w B hi v X u) (hb : Below w.heap.size w w') : MchYA w' B hi v X u := by
 obtain ⟨A, c, A2, d, M, e, L, lc, T, tc, hs, f0, f1, g0, g1, l0, l1, t0, t1, h, ha⟩ := h
 exact ⟨A, c, A2, d, M, e, L, lc, T, tc, hs, f0, f1, g0, g1, l0, l1, t0, t1, ⟨h.v, h.font.below hb, h.mag.below hb, h.line.below hb, h.lineT, h.wait.below hb, h.waitT, h.fg, h.fl, h.ft, h.gl, h.gt, h.lt, h.fi, h.gi, h.li, h.ti⟩, ha⟩
theorem MchYA.wide {w : World} {B hi : Nat} {v : Value} {X : Mch} {u : Value} {B' hi' : Nat} (h : MchYA w B hi v X u) (h1 : B' ≤ B) (h2 : hi ≤ hi') : MchYA w B' hi' v X u := by
 obtain ⟨A, c, A2, d, M, e, L, lc, T, tc, hs, f0, f1, g0, g1, l0, l1, t0, t1, h, ha⟩ := h
 exact ⟨A, c, A2, d, M, e, L, lc, T, tc, hs, f0, f1, g0, g1, l0, l1, t0, t1, ⟨h.v, h.font, h.mag, h.line, h.lineT, h.wait, h.waitT, h.fg, h.fl, h.ft, h.gl, h.gt, h.lt, ⟨by have := h.fi.1; omega, by have := h.fi.2; omega⟩, ⟨by have := h.gi.1; omega, by have := h.gi.2; omega⟩, ⟨by have := h.li.1; omega, by have := h.li.2; omega⟩, ⟨by have := h.ti.1; omega, by have := h.ti.2; omega⟩⟩, ha⟩
theorem MchYA.chg {w w' : World} {B hi : Nat} {v : Value} {X : Mch} {u : Value} {lo' hi' : Nat} (h : MchYA w B hi v X u) (hc : Chg lo' hi' w w') (hn : Off B hi lo' hi') : MchYA w' B hi v X u := by
 obtain ⟨A, c, A2, d, M, e, L, lc, T, tc, hs, f0, f1, g0, g1, l0, l1, t0, t1, h, ha⟩ := h
 have q1 := h.fi; have q2 := h.gi; have q3 := h.li; have q4 := h.ti
 unfold Off at hn
 refine ⟨A, c, A2, d, M, e, L, lc, T, tc, hs, f0, f1, g0, g1, l0, l1, t0, t1, ⟨h.v, h.font.chg hc (by unfold Off; omega), h.mag.chg hc (by omega), h.line.chg hc (fun k hk => ?_), h.lineT, h.wait.chg hc (fun k hk => ?_), h.waitT, h.fg, h.fl, h.ft, h.gl, h.gt, h.lt, h.fi, h.gi, h.li, h.ti⟩, ha⟩
 ·have := h.line.lt k hk; have := h.lineT k hk; omega
 ·have := h.wait.lt k hk; have := h.waitT k hk; omega
theorem MchYA.row {w w' : World} {B hi : Nat} {v : Value} {X : Mch} {u : Value} (h : MchYA w B hi v X u) (hg : w.grownBy w' u.ownBlock) : MchYA w' B hi v X u := by
 cases hq : u.ownBlock with
 | none => exact h.chg (Chg.of_grown (lo := 0) (hi := 0) hg (fun g h9 => by rw [hq] at h9; cases h9)) (.inr (Nat.zero_le _))
 | some g =>
  have hc : Chg g (g + 1) w w' := Chg.of_grown hg (fun k h9 => by rw [hq] at h9; injection h9 with h9; omega)
  obtain ⟨A, c, A2, d, M, e, L, lc, T, tc, hs, f0, f1, g0, g1, l0, l1, t0, t1, h, ha⟩ := h
  obtain ⟨x1, x2, x3, x4⟩ := ha g hq
  refine ⟨A, c, A2, d, M, e, L, lc, T, tc, hs, f0, f1, g0, g1, l0, l1, t0, t1, ⟨h.v, h.font.chg hc x1, h.mag.chg hc (by unfold Off at x2; omega), h.line.chg hc (fun k hk => ?_), h.lineT, h.wait.chg hc (fun k hk => ?_), h.waitT, h.fg, h.fl, h.ft, h.gl, h.gt, h.lt, h.fi, h.gi, h.li, h.ti⟩, ha⟩
  ·have := h.line.lt k hk; have := h.lineT k hk; unfold Off at x3; omega
  ·have := h.wait.lt k hk; have := h.waitT k hk; unfold Off at x4; omega
theorem MchYA.build {w : World} {B hi : Nat} {X : Mch} {s : ByteArray} {A A2 M L T : Option Addr} {n c m d q e l lc r tc : Nat} {hs : List Value} {f0 f1 g0 g1 l0 l1 t0 t1 : Nat}
  (h1 : FontO w f0 f1 (.agg #[.string s, .slice A n c, .slice A2 m d]) X.f) (h2 : OwnMag w g0 g1 (.slice M q e) hs X.ms)
  (h3 : OwnM w l0 (.slice L l lc) X.ln) (h3t : ∀ k, (Value.slice L l lc).ownBlock = some k → k < l1) (h4 : OwnT w t0 (.slice T r tc) X.wt) (h4t : ∀ k, (Value.slice T r tc).ownBlock = some k → k < t1)
  (o1 : Off f0 f1 g0 g1) (o2 : Off f0 f1 l0 l1) (o3 : Off f0 f1 t0 t1) (o4 : Off g0 g1 l0 l1) (o5 : Off g0 g1 t0 t1) (o6 : Off l0 l1 t0 t1)
  (i1 : B ≤ f0 ∧ f1 ≤ hi) (i2 : B ≤ g0 ∧ g1 ≤ hi) (i3 : B ≤ l0 ∧ l1 ≤ hi) (i4 : B ≤ t0 ∧ t1 ≤ hi) (v : Value) (ha : ∀ g, v.ownBlock = some g → Off f0 f1 g (g + 1) ∧ Off g0 g1 g (g + 1) ∧ Off l0 l1 g (g + 1) ∧ Off t0 t1 g (g + 1)) :
  MchYA w B hi (.agg #[.string s, .slice A n c, .slice A2 m d, .slice M q e, .int .i64 X.sp, .int .i64 X.w, .int .i64 X.t, .int .i64 X.k, .slice L l lc, .slice T r tc]) X v := by
 have h1' := h1
 obtain ⟨A', c', A2', d', mid, hv, -⟩ := h1'
 injection hv with hv
 injection hv with hv
 simp only [List.cons.injEq, Value.string.injEq, Value.slice.injEq] at hv
 obtain ⟨rfl, ⟨rfl, rfl, rfl⟩, ⟨rfl, rfl, rfl⟩, -⟩ := hv
 obtain ⟨M', e', hv2, -⟩ := h2.form
 simp only [Value.slice.injEq] at hv2
 obtain ⟨rfl, rfl, rfl⟩ := hv2
 obtain ⟨L', e2', hv3, -⟩ := h3.form
 simp only [Value.slice.injEq] at hv3
 obtain ⟨rfl, rfl, rfl⟩ := hv3
 obtain ⟨T', e3', hv4, -⟩ := h4.form
 simp only [Value.slice.injEq] at hv4
 obtain ⟨rfl, rfl, rfl⟩ := hv4
 exact ⟨A, c, A2, d, M, e, L, lc, T, tc, hs, f0, f1, g0, g1, l0, l1, t0, t1, ⟨rfl, h1, h2, h3, h3t, h4, h4t, o1, o2, o3, o4, o5, o6, i1, i2, i3, i4⟩, ha⟩
set_option maxRecDepth 100000 in
set_option maxHeartbeats 12800000 in
theorem stopYA_any (lo E : Nat) (X : Mch) (va : Value) (w : World) (h : EngAT w lo E X va) (hvw : ∀ g, va.ownBlock = some g → g < w.heap.size) (hm : X.ms.length ≤ 1048576) (hlim : ∀ xs ∈ X.ms, xs.length ≤ 20) :
  Calls Tryz.prog 41 #[.pointer (some ⟨E, 0, none⟩)] w fun e w' => ∃ v', e = .returned v' ∧ MchYA w' lo w'.heap.size v' X va ∧ Below lo w w' ∧ ∀ g, va.ownBlock = some g → w'.heap[g]? = w.heap[g]? := by
 obtain ⟨A, c, A2, d, M, q, e0, L, lc, T, tc, Bc, dc, B, hi, hs, km, f0, f1, l0, l1, t0, t1, p0, p1, ⟨hblk, hF, hL, hLT, hW, hWT, ofl, oft, olt, ofE, olE, otE, ⟨olow1, olow2, olow3, olow4⟩, ⟨otop1, otop2, otop3⟩, ot0, hcod, o0, hmd, hch, hkeys, o3, o4⟩, hap⟩ := h
 unfold Off at ofE olE otE
 have hEl := hblk.lt
 have hBh := hch.top B rfl
 obtain ⟨w0, hw0⟩ : ∃ x, w = x := ⟨_, rfl⟩
 have hww : w.heap.size = w0.heap.size := by rw [hw0]
 have HLIM := Lib.hid hlim; have HMD := Lib.hid hmd
 obtain ⟨nn, hnn⟩ : ∃ x, X.ms.length = x := ⟨_, rfl⟩
 rw [hnn] at hm hch hblk hmd
 have HNN := Lib.hid hnn
 have C0 : Hid (Chg B (E + 1) w0 w0) := Chg.of_below (Below.refl _ _)
 have G0 : Hid (Blk w0 E #[.string X.f.s, .slice A X.f.ws.length c, .slice A2 X.f.cs.length d, .slice M q e0, .int .i64 X.sp, .int .i64 X.w, .int .i64 X.t, .int .i64 X.k, .slice L X.ln.length lc, .slice T X.wt.length tc, .slice Bc X.f.cs.length dc, .slice (some ⟨B, 0, none⟩) nn nn, .map (some km)] 118) := by show Blk _ _ _ _; rw [← hw0]; exact hblk
 have F0 : Hid (FontO w0 f0 f1 (.agg #[.string X.f.s, .slice A X.f.ws.length c, .slice A2 X.f.cs.length d]) X.f) := by rw [← hw0]; exact hF
 have L0 : Hid (OwnM w0 l0 (.slice L X.ln.length lc) X.ln) := by rw [← hw0]; exact hL
 have S0 : Hid (OwnT w0 t0 (.slice T X.wt.length tc) X.wt) := by rw [← hw0]; exact hW
 have H0 : Hid (ChM w0 B hi (.slice (some ⟨B, 0, none⟩) nn nn) hs X.ms) := by rw [← hw0]; exact hch
 clear hblk hF hL hW hcod hmd hch hkeys hlim hnn
 obtain ⟨w1, hw1, hb1, hz1, hX1⟩ := mxWorld w0 #[.string ⟨#[]⟩, .slice none 0 0, .slice none 0 0, .slice none 0 0, .int .i64 0, .int .i64 0, .int .i64 0, .int .i64 0, .slice none 0 0, .slice none 0 0] 37
 have C1 := Lib.hid (C0.out.trans (Chg.of_below hb1))
 have G1 := Lib.hid (G0.out.below hb1 (by omega))
 have F1 := Lib.hid (F0.out.below hb1)
 have L1 := Lib.hid (L0.out.below hb1)
 have S1 := Lib.hid (S0.out.below hb1)
 have H1 := Lib.hid (H0.out.below (by omega) hb1)
 have sz1 : w0.heap.size ≤ w1.heap.size := hb1.size
 clear C0 G0 F0 L0 S0 H0
 have R1 := Lib.hid hX1
 have g0 := cellOfBlk G1.out 0
 have g1 := cellOfBlk G1.out 1
 have g2 := cellOfBlk G1.out 2
 have g3 := cellOfBlk G1.out 3
 have g4 := cellOfBlk G1.out 4
 have g5 := cellOfBlk G1.out 5
 have g6 := cellOfBlk G1.out 6
 have g7 := cellOfBlk G1.out 7
 have g8 := cellOfBlk G1.out 8
 have g9 := cellOfBlk G1.out 9
 have g10 := cellOfBlk G1.out 10
 have g11 := cellOfBlk G1.out 11
 have g12 := cellOfBlk G1.out 12
 rw [hw0]
 go_enter Tryz.func41, Tryz.ntmps41
 go_wp2_with fail
 clear g0 g1 g2 g3 g4 g5 g6 g7 g8 g9 g10 g11 g12
 refine (unload_any (.slice Bc X.f.cs.length dc) rfl B hi nn hs X.ms w1 HNN.out hm HLIM.out (by rw [← HNN.out]; exact HMD.out) H1.out (by omega)).mono ?_
 rintro e w2 ⟨v9, hs9, rfl, hO, hc⟩
 obtain ⟨N, ne, rfl, -⟩ := hO.form
 rw [HNN.out] at hO ⊢
 have hb2 := hc.below (by omega)
 have C2 := Lib.hid (C1.out.trans (hc.wide (Nat.le_refl _) (by omega)))
 have G2 : Hid (Blk w2 E #[.string X.f.s, .slice A X.f.ws.length c, .slice A2 X.f.cs.length d, .slice M q e0, .int .i64 X.sp, .int .i64 X.w, .int .i64 X.t, .int .i64 X.k, .slice L X.ln.length lc, .slice T X.wt.length tc, .slice Bc X.f.cs.length dc, .slice (some ⟨B, 0, none⟩) nn nn, .map (some km)] 118) := (hc.block E (by omega) (by omega)).trans G1.out
 have F2 : Hid (FontO w2 f0 f1 (.agg #[.string X.f.s, .slice A X.f.ws.length c, .slice A2 X.f.cs.length d]) X.f) := F1.out.chg hc (by unfold Off; omega)
 have L2 : Hid (OwnM w2 l0 (.slice L X.ln.length lc) X.ln) := L1.out.chg hc (fun k hk => by have h1 := L1.out.lt k hk; have h2 := hLT k hk; omega)
 have S2 : Hid (OwnT w2 t0 (.slice T X.wt.length tc) X.wt) := S1.out.chg hc (fun k hk => by have h1 := S1.out.lt k hk; have h2 := hWT k hk; omega)
 have R2 : Hid (Blk w2 (w0.heap.size) #[.string ⟨#[]⟩, .slice none 0 0, .slice none 0 0, .slice none 0 0, .int .i64 0, .int .i64 0, .int .i64 0, .int .i64 0, .slice none 0 0, .slice none 0 0] 37) := (hc.block _ (by omega) (by omega)).trans R1.out
 have sz2 := hc.size
 clear C1 G1 F1 L1 S1 R1 H1 hc
 have D2 := Lib.hid hO
 clear hO
 have f3 := G2.out.warm 3
 have g0 := cellOfBlk G2.out 0
 have g1 := cellOfBlk G2.out 1
 have g2 := cellOfBlk G2.out 2
 have g3 := cellOfBlk G2.out 3
 have g4 := cellOfBlk G2.out 4
 have g5 := cellOfBlk G2.out 5
 have g6 := cellOfBlk G2.out 6
 have g7 := cellOfBlk G2.out 7
 have g8 := cellOfBlk G2.out 8
 have g9 := cellOfBlk G2.out 9
 have g10 := cellOfBlk G2.out 10
 have g11 := cellOfBlk G2.out 11
 have g12 := cellOfBlk G2.out 12
 obtain ⟨w3, hw3⟩ : ∃ x, w2.setCell ⟨E, 3, none⟩ (.slice N nn ne) = x := ⟨_, rfl⟩
 have hcs := chg_one w2 E 3 (.slice N nn ne)
 rw [hw3] at hcs
 have C3 := Lib.hid (C2.out.trans (hcs.wide (by omega) (Nat.le_refl _)))
 have G3 : Hid (Blk w3 E #[.string X.f.s, .slice A X.f.ws.length c, .slice A2 X.f.cs.length d, .slice N nn ne, .int .i64 X.sp, .int .i64 X.w, .int .i64 X.t, .int .i64 X.k, .slice L X.ln.length lc, .slice T X.wt.length tc, .slice Bc X.f.cs.length dc, .slice (some ⟨B, 0, none⟩) nn nn, .map (some km)] 118) := by show Blk _ _ _ _; rw [← hw3]; exact heapSet (i := 3) G2.out _
 have F3 : Hid (FontO w3 f0 f1 (.agg #[.string X.f.s, .slice A X.f.ws.length c, .slice A2 X.f.cs.length d]) X.f) := F2.out.chg hcs (by unfold Off; omega)
 have L3 : Hid (OwnM w3 l0 (.slice L X.ln.length lc) X.ln) := L2.out.chg hcs (fun k hk => by have h1 := L2.out.lt k hk; have h2 := hLT k hk; omega)
 have S3 : Hid (OwnT w3 t0 (.slice T X.wt.length tc) X.wt) := S2.out.chg hcs (fun k hk => by have h1 := S2.out.lt k hk; have h2 := hWT k hk; omega)
 have R3 : Hid (Blk w3 (w0.heap.size) #[.string ⟨#[]⟩, .slice none 0 0, .slice none 0 0, .slice none 0 0, .int .i64 0, .int .i64 0, .int .i64 0, .int .i64 0, .slice none 0 0, .slice none 0 0] 37) := (hcs.block _ (by omega) (by omega)).trans R2.out
 have D3 := Lib.hid (D2.out.chg hcs (.inr (by omega)))
 have sz3 := hcs.size
 have hsk : w3.heap.size = w2.heap.size := by rw [← hw3]; simp [World.setCell]
 go_upto_region 2 with fail
 (try rw [hw3])
 clear g0 g1 g2 g3 g4 g5 g6 g7 g8 g9 g10 g11 g12
 clear f3 C2 G2 F2 L2 S2 R2 D2 hcs hw3
 have g0 := cellOfBlk G3.out 0
 have g1 := cellOfBlk G3.out 1
 have g2 := cellOfBlk G3.out 2
 have g3 := cellOfBlk G3.out 3
 have g4 := cellOfBlk G3.out 4
 have g5 := cellOfBlk G3.out 5
 have g6 := cellOfBlk G3.out 6
 have g7 := cellOfBlk G3.out 7
 have g8 := cellOfBlk G3.out 8
 have g9 := cellOfBlk G3.out 9
 have g10 := cellOfBlk G3.out 10
 have g11 := cellOfBlk G3.out 11
 have g12 := cellOfBlk G3.out 12
 obtain ⟨r0, r1, r2, r3, r4, r5, r6, r7, r8, r9⟩ := R3.out.ten
 have ff := R3.out.warm
 go_wp2
 obtain ⟨w9, hw9, hc9, hR⟩ := R3.out.put10 (.string X.f.s) (.slice A X.f.ws.length c) (.slice A2 X.f.cs.length d) (.slice N nn ne) (.int .i64 X.sp) (.int .i64 X.w) (.int .i64 X.t) (.int .i64 X.k) (.slice L X.ln.length lc) (.slice T X.wt.length tc)
 (try rw [hw9])
 clear hw9
 have R9 := Lib.hid hR
 have C9 := C3.out.upon hc9 (Nat.le_refl _)
 have F9 := F3.out.chg hc9 (by unfold Off; omega)
 have L9 := L3.out.chg hc9 (fun q hq => by have h1 := L3.out.lt q hq; have h2 := hLT q hq; omega)
 have S9 := S3.out.chg hc9 (fun q hq => by have h1 := S3.out.lt q hq; have h2 := hWT q hq; omega)
 have D9 := D3.out.chg hc9 (.inr (by omega))
 have hz9 := hc9.size
 clear r0 r1 r2 r3 r4 r5 r6 r7 r8 r9 ff g0 g1 g2 g3 g4 g5 g6 g7 g8 g9 g10 g11 g12
 obtain ⟨r0, r1, r2, r3, r4, r5, r6, r7, r8, r9⟩ := R9.out.ten
 (try simp only [Exit.inBlock, Exit.then])
 refine bodyPost_ret (v := .agg #[.string X.f.s, .slice A X.f.ws.length c, .slice A2 X.f.cs.length d, .slice N nn ne, .int .i64 X.sp, .int .i64 X.w, .int .i64 X.t, .int .i64 X.k, .slice L X.ln.length lc, .slice T X.wt.length tc]) (by simp [results, Tryz.results41, go_sem, r0, r1, r2, r3, r4, r5, r6, r7, r8, r9]) rfl ?_
 have hX := MchYA.build (B := lo) (hi := w9.heap.size) (X := X) F9 D9 L9 hLT S9 hWT (by unfold Off; omega) ofl oft (by unfold Off; omega) (by unfold Off; omega) olt ⟨by omega, by omega⟩ ⟨by omega, by omega⟩ ⟨by omega, by omega⟩ ⟨by omega, by omega⟩ va (fun g hg => by
  obtain ⟨h1, h2, h3, h4⟩ := hap g hg
  have h5 := hvw g hg
  exact ⟨h2, by unfold Off; omega, h3, h4⟩)
 exact ⟨_, rfl, hX, (C9.below (by omega)).mono (by omega), fun g hg => by
  obtain ⟨h1, -⟩ := hap g hg
  have h5 := hvw g hg
  exact C9.block g (by omega) (by omega)⟩
set_option maxRecDepth 100000 in
set_option maxHeartbeats 3200000 in
theorem markMachineYA_any (B hi : Nat) (v : Value) (u : Value) (X : Mch) (k : Int) (w : World) (h : MchYA w B hi v X u) (hu : ∀ g, u.ownBlock = some g → g < w.heap.size) (hhi : hi ≤ w.heap.size) (hs : X.big ≤ 1048576) (hk0 : 0 ≤ k) (hk1 : k ≤ 1) :
  Calls Tryz.prog 12 #[v, .int .i64 k] w fun e w' => e = .returned (.int .i64 (k + X.marks)) ∧ MchYA w' B hi v (markX k X) u ∧ Chg B hi w w' ∧ ∀ g, u.ownBlock = some g → w'.heap[g]? = w.heap[g]? := by
 obtain ⟨A, c, A2, d, M, e0, L, lc, T, tc, hs0, f0, f1, g0, g1, l0, l1, t0, t1, h, ha⟩ := h
 have hS := big_smallX hs
 have hb : X.f.ws.length + X.f.cs.length + X.ms.length + tot X.ms + X.ln.length + X.wt.length ≤ 1048576 := by unfold Mch.big Fnt.big magBig at hs; omega
 obtain ⟨hv, hF, hG, hL, hLt, hT, hTt, o1, o2, o3, o4, o5, o6, i1, i2, i3, i4⟩ := h
 unfold mwords at hv
 subst hv
 obtain ⟨s, hs1⟩ : ∃ x, X.f.s = x := ⟨_, rfl⟩
 obtain ⟨n, hn⟩ : ∃ x, X.f.ws.length = x := ⟨_, rfl⟩
 obtain ⟨m, hm⟩ : ∃ x, X.f.cs.length = x := ⟨_, rfl⟩
 obtain ⟨q, hq⟩ : ∃ x, X.ms.length = x := ⟨_, rfl⟩
 obtain ⟨l, hl⟩ : ∃ x, X.ln.length = x := ⟨_, rfl⟩
 obtain ⟨r, hr⟩ : ∃ x, X.wt.length = x := ⟨_, rfl⟩
 obtain ⟨tt, htt⟩ : ∃ x, tot X.ms = x := ⟨_, rfl⟩
 have HMk : Hid (X.marks = n + m + 2 * tt + 2 * l + 2 * r) := by show _ = _; unfold Mch.marks; rw [hn, hm, htt, hl, hr]
 have HX : Hid (markX k X = ⟨mkF k X.f, upMM (k + n + m) X.ms, X.sp, X.w, X.t, X.k, upM (k + n + m + 2 * tt) l, upM (k + n + m + 2 * tt + 2 * l) r⟩) := by show _ = _; unfold markX; rw [hn, hm, htt, hl, hr]
 rw [hs1, hn, hm] at hF
 rw [hq] at hG
 rw [hl] at hL hLt
 rw [hr] at hT hTt
 rw [hs1, hn, hm, hq, hl, hr, HMk.out, HX.out]
 rw [hn, hm, hq, htt, hl, hr] at hb
 have Hn := Lib.hid hn; have Hm := Lib.hid hm; have Hl := Lib.hid hl; have Hr := Lib.hid hr; have Htt := Lib.hid htt
 unfold Off at o1 o2 o3 o4 o5 o6
 have hff : f0 ≤ f1 := by obtain ⟨_, _, _, _, mid, _, _, _, _, _, h3, h4, _⟩ := hF; omega
 have lF := hF; have lG := hG; have lL := fun k hk => OwnM.lt hL k hk; have lT := fun k hk => OwnT.lt hT k hk
 obtain ⟨w0, hw0, hb0, hz0, K0⟩ := mxWorld w #[.string s, .slice A n c, .slice A2 m d, .slice M q e0, .int .i64 X.sp, .int .i64 X.w, .int .i64 X.t, .int .i64 X.k, .slice L l lc, .slice T r tc] 37
 have K0 := Lib.hid K0
 have F0 := Lib.hid (hF.below hb0); have G0 := Lib.hid (hG.below hb0); have L0 := Lib.hid (hL.below hb0); have T0 := Lib.hid (hT.below hb0)
 have C0 := Lib.hid (Chg.of_below (lo := B) (hi := hi) hb0)
 have LT := Lib.hid hLt; have TT := Lib.hid hTt; have LL := Lib.hid lL; have TL := Lib.hid lT
 have z0 : w.heap.size < w0.heap.size := by omega
 have HU := Lib.hid hu; have HA := Lib.hid ha
 have U0 : Hid (∀ g, u.ownBlock = some g → w0.heap[g]? = w.heap[g]?) := fun g hg => hb0.block g (hu g hg)
 clear hu ha
 clear hs hF hG hL hT hLt hTt hn hm hq hl hr htt hs1 lF lG lL lT hb0 hz0 HMk HX
 obtain ⟨kc0, kc1, kc2, kc3, kc4, kc5, kc6, kc7, kc8, kc9⟩ := K0.out.ten
 go_enter Tryz.func12, Tryz.ntmps12
 go_wp2_with fail
 clear hw0
 refine (markFontO_any f0 f1 _ X.f k w0 F0.out (by omega) (by omega) hS.f hk0 (by omega) (by rw [Hn.out]; omega)).mono ?_
 rintro e w1 ⟨rfl, hF1, hc⟩
 rw [Hn.out, Hm.out]
 have F1 := Lib.hid hF1
 have K1 := Lib.hid (K0.out.chg hc (by omega)); have C1 := Lib.hid (C0.out.trans (hc.wide (by omega) (by omega)))
 have G1 := Lib.hid (G0.out.chg hc (by omega))
 have L1 := Lib.hid (L0.out.chg hc (fun x hx => by have := LL.out x hx; have := LT.out x hx; omega))
 have T1 := Lib.hid (T0.out.chg hc (fun x hx => by have := TL.out x hx; have := TT.out x hx; omega))
 have z1 : w0.heap.size ≤ w1.heap.size := hc.size
 have U1 : Hid (∀ g, u.ownBlock = some g → w1.heap[g]? = w.heap[g]?) := fun g hg => (hc.block g (by have := HU.out g hg; omega) (by have h9 := HA.out g hg; unfold Off at h9; omega)).trans (U0.out g hg)
 clear hF1 hc F0 K0 U0 C0 G0 L0 T0 kc0 kc1 kc2 kc3 kc4 kc5 kc6 kc7 kc8 kc9
 obtain ⟨kc0, kc1, kc2, kc3, kc4, kc5, kc6, kc7, kc8, kc9⟩ := K1.out.ten
 go_wp2_with fail
 refine (markMatrixSS_any g0 g1 _ hs0 (k + n + m) X.ms w1 (by omega) (by omega) hS.ms hS.tot G1.out).mono ?_
 rintro e w2 ⟨rfl, hG2, hc⟩
 rw [Htt.out]
 have G2 := Lib.hid hG2
 have F2 := Lib.hid (F1.out.chg hc (by unfold Off; omega))
 have K2 := Lib.hid (K1.out.chg hc (by omega)); have C2 := Lib.hid (C1.out.trans (hc.wide (by omega) (by omega)))
 have L2 := Lib.hid (L1.out.chg hc (fun x hx => by have := LL.out x hx; have := LT.out x hx; omega))
 have T2 := Lib.hid (T1.out.chg hc (fun x hx => by have := TL.out x hx; have := TT.out x hx; omega))
 have z2 : w1.heap.size ≤ w2.heap.size := hc.size
 have U2 : Hid (∀ g, u.ownBlock = some g → w2.heap[g]? = w.heap[g]?) := fun g hg => (hc.block g (by have := HU.out g hg; omega) (by have h9 := HA.out g hg; unfold Off at h9; omega)).trans (U1.out g hg)
 clear hG2 hc F1 K1 U1 C1 G1 L1 T1 kc0 kc1 kc2 kc3 kc4 kc5 kc6 kc7 kc8 kc9
 obtain ⟨kc0, kc1, kc2, kc3, kc4, kc5, kc6, kc7, kc8, kc9⟩ := K2.out.ten
 go_wp2_with fail
 refine (markMatrixS_any l0 _ (k + n + m + 2 * tt) X.ln w2 (by omega) (by omega) hS.ln L2.out).mono ?_
 rintro e w3 ⟨rfl, hL3, hg⟩
 rw [Hl.out] at hL3
 rw [Hl.out]
 have hc : Chg l0 l1 w2 w3 := Chg.of_grown hg (fun x hx => ⟨(LL.out x hx).1, LT.out x hx⟩)
 have L3 := Lib.hid hL3
 have F3 := Lib.hid (F2.out.chg hc (by unfold Off; omega)); have G3 := Lib.hid (G2.out.chg hc (by omega))
 have K3 := Lib.hid (K2.out.chg hc (by omega)); have C3 := Lib.hid (C2.out.trans (hc.wide (by omega) (by omega)))
 have T3 := Lib.hid (T2.out.chg hc (fun x hx => by have := TL.out x hx; have := TT.out x hx; omega))
 have z3 : w2.heap.size ≤ w3.heap.size := hc.size
 have U3 : Hid (∀ g, u.ownBlock = some g → w3.heap[g]? = w.heap[g]?) := fun g hg => (hc.block g (by have := HU.out g hg; omega) (by have h9 := HA.out g hg; unfold Off at h9; omega)).trans (U2.out g hg)
 clear hL3 hg hc F2 K2 U2 C2 G2 L2 T2 kc0 kc1 kc2 kc3 kc4 kc5 kc6 kc7 kc8 kc9
 obtain ⟨kc0, kc1, kc2, kc3, kc4, kc5, kc6, kc7, kc8, kc9⟩ := K3.out.ten
 go_wp2_with fail
 refine (markMatrixT_any t0 _ (k + n + m + 2 * tt + 2 * l) X.wt w3 (by omega) (by omega) hS.wt T3.out).mono ?_
 rintro e w4 ⟨rfl, hT4, hg⟩
 rw [Hr.out] at hT4
 rw [Hr.out]
 have hc : Chg t0 t1 w3 w4 := Chg.of_grown hg (fun x hx => ⟨(TL.out x hx).1, TT.out x hx⟩)
 have T4 := Lib.hid hT4
 have F4 := Lib.hid (F3.out.chg hc (by unfold Off; omega)); have G4 := Lib.hid (G3.out.chg hc (by omega))
 have L4 := Lib.hid (L3.out.chg hc (fun x hx => by have := LL.out x hx; have := LT.out x hx; omega))
 have C4 := Lib.hid (C3.out.trans (hc.wide (by omega) (by omega)))
 have U4 : Hid (∀ g, u.ownBlock = some g → w4.heap[g]? = w.heap[g]?) := fun g hg => (hc.block g (by have := HU.out g hg; omega) (by have h9 := HA.out g hg; unfold Off at h9; omega)).trans (U3.out g hg)
 clear hT4 hg hc F3 K3 U3 C3 G3 L3 T3 kc0 kc1 kc2 kc3 kc4 kc5 kc6 kc7 kc8 kc9
 go_wp2
 go_ret
 refine ⟨ret_int (by push_cast; omega), ?_, C4.out, U4.out⟩
 have := MchYA.build (v := u) (X := ⟨mkF k X.f, upMM (k + n + m) X.ms, X.sp, X.w, X.t, X.k, upM (k + n + m + 2 * tt) l, upM (k + n + m + 2 * tt + 2 * l) r⟩) F4.out G4.out L4.out LT.out T4.out TT.out (by unfold Off; omega) (by unfold Off; omega) (by unfold Off; omega) (by unfold Off; omega) (by unfold Off; omega) (by unfold Off; omega) i1 i2 i3 i4 HA.out
 exact this
end Go.Proofs.YtimhnkpccbcohaaGreatDoor
