/-
  stop by contract: the machine that comes out is the call's own, each part apart from a row that the call had made before. Condition: rows of at most 20.
-/
import Derived.Test.YtimhnkpccbcohaaGreatDoorPkK
import Derived.Test.YtimhnkpccbcohaaGreatDoorEngK
namespace Go.Proofs.YtimhnkpccbcohaaGreatDoor
open Go.RowKit Go.Conc
set_option linter.unusedVariables false
set_option linter.unusedSimpArgs false

/-- a machine of the call's own, its parts apart from the row u -/
def MchA (w : World) (B hi : Nat) (v : Value) (X : Mch) (u : Value) : Prop := ∃ A c A2 d M e L lc T tc hs f0 f1 g0 g1 l0 l1 t0 t1, MchO w B hi v X A c A2 d M e L lc T tc hs f0 f1 g0 g1 l0 l1 t0 t1 ∧ ∀ g, u.ownBlock = some g → Off f0 f1 g (g + 1) ∧ Off g0 g1 g (g + 1) ∧ Off l0 l1 g (g + 1) ∧ Off t0 t1 g (g + 1)
theorem MchA.mch {w : World} {B hi : Nat} {v : Value} {X : Mch} {u : Value} (h : MchA w B hi v X u) : MchX w B hi v X := by
  obtain ⟨A, c, A2, d, M, e, L, lc, T, tc, hs, f0, f1, g0, g1, l0, l1, t0, t1, h, -⟩ := h
  exact ⟨A, c, A2, d, M, e, L, lc, T, tc, hs, f0, f1, g0, g1, l0, l1, t0, t1, h⟩
theorem MchA.build {w : World} {B hi : Nat} {X : Mch} {s : ByteArray} {A A2 M L T : Option Addr} {n c m d q e l lc r tc : Nat} {hs : List Value} {f0 f1 g0 g1 l0 l1 t0 t1 : Nat}
    (h1 : FontO w f0 f1 (.agg #[.string s, .slice A n c, .slice A2 m d]) X.f) (h2 : OwnMag w g0 g1 (.slice M q e) hs X.ms)
    (h3 : OwnM w l0 (.slice L l lc) X.ln) (h3t : ∀ k, (Value.slice L l lc).ownBlock = some k → k < l1) (h4 : OwnM w t0 (.slice T r tc) X.wt) (h4t : ∀ k, (Value.slice T r tc).ownBlock = some k → k < t1)
    (o1 : Off f0 f1 g0 g1) (o2 : Off f0 f1 l0 l1) (o3 : Off f0 f1 t0 t1) (o4 : Off g0 g1 l0 l1) (o5 : Off g0 g1 t0 t1) (o6 : Off l0 l1 t0 t1)
    (i1 : B ≤ f0 ∧ f1 ≤ hi) (i2 : B ≤ g0 ∧ g1 ≤ hi) (i3 : B ≤ l0 ∧ l1 ≤ hi) (i4 : B ≤ t0 ∧ t1 ≤ hi) (v : Value) (ha : ∀ g, v.ownBlock = some g → Off f0 f1 g (g + 1) ∧ Off g0 g1 g (g + 1) ∧ Off l0 l1 g (g + 1) ∧ Off t0 t1 g (g + 1)) :
    MchA w B hi (.agg #[.string s, .slice A n c, .slice A2 m d, .slice M q e, .int .i64 X.sp, .int .i64 X.w, .int .i64 X.t, .int .i64 X.k, .slice L l lc, .slice T r tc]) X v := by
  have h1' := h1
  obtain ⟨A', c', A2', d', mid, hv, -⟩ := h1'
  injection hv with hv
  injection hv with hv
  simp only [List.cons.injEq, Value.string.injEq, Value.slice.injEq] at hv
  obtain ⟨rfl, ⟨rfl, rfl, rfl⟩, ⟨rfl, rfl, rfl⟩, -⟩ := hv
  obtain ⟨M', e', hv2, -⟩ := h2.form
  simp only [Value.slice.injEq] at hv2
  obtain ⟨rfl, rfl, rfl⟩ := hv2
  obtain ⟨L', e2', hv3, -⟩ := h3.form
  simp only [Value.slice.injEq] at hv3
  obtain ⟨rfl, rfl, rfl⟩ := hv3
  obtain ⟨T', e3', hv4, -⟩ := h4.form
  simp only [Value.slice.injEq] at hv4
  obtain ⟨rfl, rfl, rfl⟩ := hv4
  exact ⟨A, c, A2, d, M, e, L, lc, T, tc, hs, f0, f1, g0, g1, l0, l1, t0, t1, ⟨rfl, h1, h2, h3, h3t, h4, h4t, o1, o2, o3, o4, o5, o6, i1, i2, i3, i4⟩, ha⟩
set_option maxRecDepth 100000 in
set_option maxHeartbeats 12800000 in
theorem stopA_any (lo E : Nat) (X : Mch) (va : Value) (w : World) (h : EngA w lo E X va) (hvw : ∀ g, va.ownBlock = some g → g < w.heap.size) (hm : X.ms.length ≤ 1048576) (hlim : ∀ xs ∈ X.ms, xs.length ≤ 20) :
    Calls Tryz.prog 41 #[.pointer (some ⟨E, 0, none⟩)] w fun e w' => ∃ v', e = .returned v' ∧ MchA w' lo w'.heap.size v' X va ∧ Below lo w w' ∧ ∀ g, va.ownBlock = some g → w'.heap[g]? = w.heap[g]? := by
  obtain ⟨A, c, A2, d, M, q, e0, L, lc, T, tc, Bc, dc, B, hi, hs, km, f0, f1, l0, l1, t0, t1, p0, p1, ⟨hblk, hF, hL, hLT, hW, hWT, ofl, oft, olt, ofE, olE, otE, ⟨olow1, olow2, olow3, olow4⟩, ⟨otop1, otop2, otop3⟩, ot0, hcod, o0, hmd, hch, hkeys, o3, o4⟩, hap⟩ := h
  unfold Off at ofE olE otE
  have hEl := hblk.lt
  have hBh := hch.top B rfl
  obtain ⟨w0, hw0⟩ : ∃ x, w = x := ⟨_, rfl⟩
  have hww : w.heap.size = w0.heap.size := by rw [hw0]
  have HLIM := Lib.hid hlim; have HMD := Lib.hid hmd
  obtain ⟨nn, hnn⟩ : ∃ x, X.ms.length = x := ⟨_, rfl⟩
  rw [hnn] at hm hch hblk hmd
  have HNN := Lib.hid hnn
  have C0 : Hid (Chg B (E + 1) w0 w0) := Chg.of_below (Below.refl _ _)
  have G0 : Hid (Blk w0 E #[.string X.f.s, .slice A X.f.ws.length c, .slice A2 X.f.cs.length d, .slice M q e0, .int .i64 X.sp, .int .i64 X.w, .int .i64 X.t, .int .i64 X.k, .slice L X.ln.length lc, .slice T X.wt.length tc, .slice Bc X.f.cs.length dc, .slice (some ⟨B, 0, none⟩) nn nn, .map (some km)] 118) := by show Blk _ _ _ _; rw [← hw0]; exact hblk
  have F0 : Hid (FontO w0 f0 f1 (.agg #[.string X.f.s, .slice A X.f.ws.length c, .slice A2 X.f.cs.length d]) X.f) := by rw [← hw0]; exact hF
  have L0 : Hid (OwnM w0 l0 (.slice L X.ln.length lc) X.ln) := by rw [← hw0]; exact hL
  have S0 : Hid (OwnM w0 t0 (.slice T X.wt.length tc) X.wt) := by rw [← hw0]; exact hW
  have H0 : Hid (ChM w0 B hi (.slice (some ⟨B, 0, none⟩) nn nn) hs X.ms) := by rw [← hw0]; exact hch
  clear hblk hF hL hW hcod hmd hch hkeys hlim hnn
  obtain ⟨w1, hw1, hb1, hz1, hX1⟩ := mxWorld w0 #[.string ⟨#[]⟩, .slice none 0 0, .slice none 0 0, .slice none 0 0, .int .i64 0, .int .i64 0, .int .i64 0, .int .i64 0, .slice none 0 0, .slice none 0 0] 37
  have C1 : Hid (Chg B (E + 1) w0 w1) := C0.out.trans (Chg.of_below hb1)
  have G1 : Hid (Blk w1 E #[.string X.f.s, .slice A X.f.ws.length c, .slice A2 X.f.cs.length d, .slice M q e0, .int .i64 X.sp, .int .i64 X.w, .int .i64 X.t, .int .i64 X.k, .slice L X.ln.length lc, .slice T X.wt.length tc, .slice Bc X.f.cs.length dc, .slice (some ⟨B, 0, none⟩) nn nn, .map (some km)] 118) := G0.out.below hb1 (by omega)
  have F1 : Hid (FontO w1 f0 f1 (.agg #[.string X.f.s, .slice A X.f.ws.length c, .slice A2 X.f.cs.length d]) X.f) := F0.out.below hb1
  have L1 : Hid (OwnM w1 l0 (.slice L X.ln.length lc) X.ln) := L0.out.below hb1
  have S1 : Hid (OwnM w1 t0 (.slice T X.wt.length tc) X.wt) := S0.out.below hb1
  have H1 : Hid (ChM w1 B hi (.slice (some ⟨B, 0, none⟩) nn nn) hs X.ms) := H0.out.below (by omega) hb1
  have sz1 : w0.heap.size ≤ w1.heap.size := hb1.size
  clear C0 G0 F0 L0 S0 H0
  have R1 : Hid (Blk w1 (w0.heap.size) #[.string ⟨#[]⟩, .slice none 0 0, .slice none 0 0, .slice none 0 0, .int .i64 0, .int .i64 0, .int .i64 0, .int .i64 0, .slice none 0 0, .slice none 0 0] 37) := by show Blk _ _ _ _; exact hX1
  have g0 := cellOfBlk G1.out 0
  have g1 := cellOfBlk G1.out 1
  have g2 := cellOfBlk G1.out 2
  have g3 := cellOfBlk G1.out 3
  have g4 := cellOfBlk G1.out 4
  have g5 := cellOfBlk G1.out 5
  have g6 := cellOfBlk G1.out 6
  have g7 := cellOfBlk G1.out 7
  have g8 := cellOfBlk G1.out 8
  have g9 := cellOfBlk G1.out 9
  have g10 := cellOfBlk G1.out 10
  have g11 := cellOfBlk G1.out 11
  have g12 := cellOfBlk G1.out 12
  rw [hw0]
  go_enter Tryz.func41, Tryz.ntmps41
  go_wp2_with fail
  clear g0 g1 g2 g3 g4 g5 g6 g7 g8 g9 g10 g11 g12
  refine (unload_any (.slice Bc X.f.cs.length dc) rfl B hi nn hs X.ms w1 HNN.out hm HLIM.out (by rw [← HNN.out]; exact HMD.out) H1.out (by omega)).mono ?_
  rintro e w2 ⟨v9, hs9, rfl, hO, hc⟩
  obtain ⟨N, ne, rfl, -⟩ := hO.form
  rw [HNN.out] at hO ⊢
  have hb2 := hc.below (by omega)
  have C2 : Hid (Chg B (E + 1) w0 w2) := C1.out.trans (hc.wide (Nat.le_refl _) (by omega))
  have G2 : Hid (Blk w2 E #[.string X.f.s, .slice A X.f.ws.length c, .slice A2 X.f.cs.length d, .slice M q e0, .int .i64 X.sp, .int .i64 X.w, .int .i64 X.t, .int .i64 X.k, .slice L X.ln.length lc, .slice T X.wt.length tc, .slice Bc X.f.cs.length dc, .slice (some ⟨B, 0, none⟩) nn nn, .map (some km)] 118) := (hc.block E (by omega) (by omega)).trans G1.out
  have F2 : Hid (FontO w2 f0 f1 (.agg #[.string X.f.s, .slice A X.f.ws.length c, .slice A2 X.f.cs.length d]) X.f) := F1.out.chg hc (by unfold Off; omega)
  have L2 : Hid (OwnM w2 l0 (.slice L X.ln.length lc) X.ln) := L1.out.chg hc (fun k hk => by have h1 := L1.out.lt k hk; have h2 := hLT k hk; omega)
  have S2 : Hid (OwnM w2 t0 (.slice T X.wt.length tc) X.wt) := S1.out.chg hc (fun k hk => by have h1 := S1.out.lt k hk; have h2 := hWT k hk; omega)
  have R2 : Hid (Blk w2 (w0.heap.size) #[.string ⟨#[]⟩, .slice none 0 0, .slice none 0 0, .slice none 0 0, .int .i64 0, .int .i64 0, .int .i64 0, .int .i64 0, .slice none 0 0, .slice none 0 0] 37) := (hc.block _ (by omega) (by omega)).trans R1.out
  have sz2 := hc.size
  clear C1 G1 F1 L1 S1 R1 H1 hc
  have D2 := Lib.hid hO
  clear hO
  have f3 := G2.out.warm 3
  have g0 := cellOfBlk G2.out 0
  have g1 := cellOfBlk G2.out 1
  have g2 := cellOfBlk G2.out 2
  have g3 := cellOfBlk G2.out 3
  have g4 := cellOfBlk G2.out 4
  have g5 := cellOfBlk G2.out 5
  have g6 := cellOfBlk G2.out 6
  have g7 := cellOfBlk G2.out 7
  have g8 := cellOfBlk G2.out 8
  have g9 := cellOfBlk G2.out 9
  have g10 := cellOfBlk G2.out 10
  have g11 := cellOfBlk G2.out 11
  have g12 := cellOfBlk G2.out 12
  obtain ⟨w3, hw3⟩ : ∃ x, w2.setCell ⟨E, 3, none⟩ (.slice N nn ne) = x := ⟨_, rfl⟩
  have hcs := chg_one w2 E 3 (.slice N nn ne)
  rw [hw3] at hcs
  have C3 : Hid (Chg B (E + 1) w0 w3) := C2.out.trans (hcs.wide (by omega) (Nat.le_refl _))
  have G3 : Hid (Blk w3 E #[.string X.f.s, .slice A X.f.ws.length c, .slice A2 X.f.cs.length d, .slice N nn ne, .int .i64 X.sp, .int .i64 X.w, .int .i64 X.t, .int .i64 X.k, .slice L X.ln.length lc, .slice T X.wt.length tc, .slice Bc X.f.cs.length dc, .slice (some ⟨B, 0, none⟩) nn nn, .map (some km)] 118) := by show Blk _ _ _ _; rw [← hw3]; exact heapSet (i := 3) G2.out _
  have F3 : Hid (FontO w3 f0 f1 (.agg #[.string X.f.s, .slice A X.f.ws.length c, .slice A2 X.f.cs.length d]) X.f) := F2.out.chg hcs (by unfold Off; omega)
  have L3 : Hid (OwnM w3 l0 (.slice L X.ln.length lc) X.ln) := L2.out.chg hcs (fun k hk => by have h1 := L2.out.lt k hk; have h2 := hLT k hk; omega)
  have S3 : Hid (OwnM w3 t0 (.slice T X.wt.length tc) X.wt) := S2.out.chg hcs (fun k hk => by have h1 := S2.out.lt k hk; have h2 := hWT k hk; omega)
  have R3 : Hid (Blk w3 (w0.heap.size) #[.string ⟨#[]⟩, .slice none 0 0, .slice none 0 0, .slice none 0 0, .int .i64 0, .int .i64 0, .int .i64 0, .int .i64 0, .slice none 0 0, .slice none 0 0] 37) := (hcs.block _ (by omega) (by omega)).trans R2.out
  have D3 := Lib.hid (D2.out.chg hcs (.inr (by omega)))
  have sz3 := hcs.size
  have hsk : w3.heap.size = w2.heap.size := by rw [← hw3]; simp [World.setCell]
  go_upto_region 2 with fail
  (try rw [hw3])
  clear g0 g1 g2 g3 g4 g5 g6 g7 g8 g9 g10 g11 g12
  clear f3 C2 G2 F2 L2 S2 R2 D2 hcs hw3
  have g0 := cellOfBlk G3.out 0
  have g1 := cellOfBlk G3.out 1
  have g2 := cellOfBlk G3.out 2
  have g3 := cellOfBlk G3.out 3
  have g4 := cellOfBlk G3.out 4
  have g5 := cellOfBlk G3.out 5
  have g6 := cellOfBlk G3.out 6
  have g7 := cellOfBlk G3.out 7
  have g8 := cellOfBlk G3.out 8
  have g9 := cellOfBlk G3.out 9
  have g10 := cellOfBlk G3.out 10
  have g11 := cellOfBlk G3.out 11
  have g12 := cellOfBlk G3.out 12
  have r0 := cellOfBlk R3.out 0
  have r1 := cellOfBlk R3.out 1
  have r2 := cellOfBlk R3.out 2
  have r3 := cellOfBlk R3.out 3
  have r4 := cellOfBlk R3.out 4
  have r5 := cellOfBlk R3.out 5
  have r6 := cellOfBlk R3.out 6
  have r7 := cellOfBlk R3.out 7
  have r8 := cellOfBlk R3.out 8
  have r9 := cellOfBlk R3.out 9
  have ff := R3.out.warm
  go_wp2
  have hR := R3.out.fill (.string X.f.s) (.slice A X.f.ws.length c) (.slice A2 X.f.cs.length d) (.slice N nn ne) (.int .i64 X.sp) (.int .i64 X.w) (.int .i64 X.t) (.int .i64 X.k) (.slice L X.ln.length lc) (.slice T X.wt.length tc)
  have hc9 := chg_ten w3 (w0.heap.size) (.string X.f.s) (.slice A X.f.ws.length c) (.slice A2 X.f.cs.length d) (.slice N nn ne) (.int .i64 X.sp) (.int .i64 X.w) (.int .i64 X.t) (.int .i64 X.k) (.slice L X.ln.length lc) (.slice T X.wt.length tc)
  obtain ⟨w9, hw9⟩ : ∃ x, ((((((((((w3.setCell ⟨w0.heap.size, 0, none⟩ (.string X.f.s)).setCell ⟨w0.heap.size, 1, none⟩ (.slice A X.f.ws.length c)).setCell ⟨w0.heap.size, 2, none⟩ (.slice A2 X.f.cs.length d)).setCell ⟨w0.heap.size, 3, none⟩ (.slice N nn ne)).setCell ⟨w0.heap.size, 4, none⟩ (.int .i64 X.sp)).setCell ⟨w0.heap.size, 5, none⟩ (.int .i64 X.w)).setCell ⟨w0.heap.size, 6, none⟩ (.int .i64 X.t)).setCell ⟨w0.heap.size, 7, none⟩ (.int .i64 X.k)).setCell ⟨w0.heap.size, 8, none⟩ (.slice L X.ln.length lc)).setCell ⟨w0.heap.size, 9, none⟩ (.slice T X.wt.length tc)) = x := ⟨_, rfl⟩
  rw [hw9] at hR hc9
  (try rw [hw9])
  clear hw9
  have R9 := Lib.hid hR
  have C9 := C3.out.upon hc9 (Nat.le_refl _)
  have F9 := F3.out.chg hc9 (by unfold Off; omega)
  have L9 := L3.out.chg hc9 (fun q hq => by have h1 := L3.out.lt q hq; have h2 := hLT q hq; omega)
  have S9 := S3.out.chg hc9 (fun q hq => by have h1 := S3.out.lt q hq; have h2 := hWT q hq; omega)
  have D9 := D3.out.chg hc9 (.inr (by omega))
  have hz9 := hc9.size
  clear r0 r1 r2 r3 r4 r5 r6 r7 r8 r9 ff g0 g1 g2 g3 g4 g5 g6 g7 g8 g9 g10 g11 g12
  have r0 := cellOfBlk R9.out 0
  have r1 := cellOfBlk R9.out 1
  have r2 := cellOfBlk R9.out 2
  have r3 := cellOfBlk R9.out 3
  have r4 := cellOfBlk R9.out 4
  have r5 := cellOfBlk R9.out 5
  have r6 := cellOfBlk R9.out 6
  have r7 := cellOfBlk R9.out 7
  have r8 := cellOfBlk R9.out 8
  have r9 := cellOfBlk R9.out 9
  (try simp only [Exit.inBlock, Exit.then])
  refine bodyPost_ret (v := .agg #[.string X.f.s, .slice A X.f.ws.length c, .slice A2 X.f.cs.length d, .slice N nn ne, .int .i64 X.sp, .int .i64 X.w, .int .i64 X.t, .int .i64 X.k, .slice L X.ln.length lc, .slice T X.wt.length tc]) (by simp [results, Tryz.results41, go_sem, r0, r1, r2, r3, r4, r5, r6, r7, r8, r9]) rfl ?_
  have hX := MchA.build (B := lo) (hi := w9.heap.size) (X := X) F9 D9 L9 hLT S9 hWT (by unfold Off; omega) ofl oft (by unfold Off; omega) (by unfold Off; omega) olt ⟨by omega, by omega⟩ ⟨by omega, by omega⟩ ⟨by omega, by omega⟩ ⟨by omega, by omega⟩ va (fun g hg => by
    obtain ⟨h1, h2, h3, h4⟩ := hap g hg
    have h5 := hvw g hg
    exact ⟨h2, by unfold Off; omega, h3, h4⟩)
  exact ⟨_, rfl, hX, (C9.below (by omega)).mono (by omega), fun g hg => by
    obtain ⟨h1, -⟩ := hap g hg
    have h5 := hvw g hg
    exact C9.block g (by omega) (by omega)⟩
end Go.Proofs.YtimhnkpccbcohaaGreatDoor
