/-
  The engine whose waiting row begins inside its block: its steps, and stop by contract. Condition: rows of at most 20.
-/
import Derived.Test.YtimhnkpccbcohaaGreatDoorMchX2
import Derived.Test.YtimhnkpccbcohaaGreatDoorPkK
namespace Go.Proofs.YtimhnkpccbcohaaGreatDoor
open Go.RowKit Go.Conc
set_option linter.unusedVariables false
set_option linter.unusedSimpArgs false

structure EngT (w : World) (lo E : Nat) (X : Mch) (A : Option Addr) (c : Nat) (A2 : Option Addr) (d : Nat) (M : Option Addr) (q e0 : Nat) (L : Option Addr) (lc : Nat) (T : Option Addr) (tc : Nat) (Bc : Option Addr) (dc B hi : Nat) (hs : List (Option Nat)) (km f0 f1 l0 l1 t0 t1 p0 p1 : Nat) : Prop where
  blk : Blk w E #[.string X.f.s, .slice A X.f.ws.length c, .slice A2 X.f.cs.length d, .slice M q e0, .int .i64 X.sp, .int .i64 X.w, .int .i64 X.t, .int .i64 X.k, .slice L X.ln.length lc, .slice T X.wt.length tc, .slice Bc X.f.cs.length dc, .slice (some ⟨B, 0, none⟩) X.ms.length X.ms.length, .map (some km)] 118
  font : FontO w f0 f1 (.agg #[.string X.f.s, .slice A X.f.ws.length c, .slice A2 X.f.cs.length d]) X.f
  line : OwnM w l0 (.slice L X.ln.length lc) X.ln
  lineT : ∀ k, (Value.slice L X.ln.length lc).ownBlock = some k → k < l1
  wait : OwnT w t0 (.slice T X.wt.length tc) X.wt
  waitT : ∀ k, (Value.slice T X.wt.length tc).ownBlock = some k → k < t1
  fl : Off f0 f1 l0 l1
  ft : Off f0 f1 t0 t1
  lt : Off l0 l1 t0 t1
  fE : Off f0 f1 B (E + 1)
  lE : Off l0 l1 B (E + 1)
  tE : Off t0 t1 B (E + 1)
  low : lo ≤ f0 ∧ lo ≤ l0 ∧ lo ≤ t0 ∧ lo ≤ B
  top : f1 ≤ w.heap.size ∧ l1 ≤ w.heap.size ∧ t1 ≤ w.heap.size
  t0h : t0 ≤ w.heap.size
  codes : IntsI w p0 p1 Bc X.f.cs
  o0 : p1 ≤ lo
  made : Made hs X.ms.length X.ms.length
  chs : ChM w B hi (.slice (some ⟨B, 0, none⟩) X.ms.length X.ms.length) hs X.ms
  keys : w.ownsMap Tryz.prog 21 (plainElem (H := Unit) Tryz.prog 3) km X.f.s.size (keysD X.f.s X.f.s.size)
  o3 : hi ≤ km
  o4 : km < E
def EngX (w : World) (lo E : Nat) (X : Mch) : Prop := ∃ A c A2 d M q e0 L lc T tc Bc dc B hi hs km f0 f1 l0 l1 t0 t1 p0 p1, EngT w lo E X A c A2 d M q e0 L lc T tc Bc dc B hi hs km f0 f1 l0 l1 t0 t1 p0 p1
section
variable {w w' : World} {lo E : Nat} {X : Mch} {A : Option Addr} {c : Nat} {A2 : Option Addr} {d : Nat} {M : Option Addr} {q e0 : Nat} {L : Option Addr} {lc : Nat} {T : Option Addr} {tc : Nat} {Bc : Option Addr} {dc B hi : Nat} {hs : List (Option Nat)} {km f0 f1 l0 l1 t0 t1 p0 p1 : Nat}
theorem EngT.at_ (h : EngT w lo E X A c A2 d M q e0 L lc T tc Bc dc B hi hs km f0 f1 l0 l1 t0 t1 p0 p1) : B < hi ∧ E < w.heap.size := ⟨h.chs.top B rfl, h.blk.lt⟩
theorem EngT.below (h : EngT w lo E X A c A2 d M q e0 L lc T tc Bc dc B hi hs km f0 f1 l0 l1 t0 t1 p0 p1) (hb : Below w.heap.size w w') : EngT w' lo E X A c A2 d M q e0 L lc T tc Bc dc B hi hs km f0 f1 l0 l1 t0 t1 p0 p1 := by
  obtain ⟨e1, e2⟩ := h.at_
  have e3 := h.low; have e4 := h.top; have e5 := h.o3; have e6 := h.o4; have e7 := h.o0; have e8 := hb.size
  exact ⟨h.blk.below hb e2, h.font.below hb, h.line.below hb, h.lineT, h.wait.below hb, h.waitT, h.fl, h.ft, h.lt, h.fE, h.lE, h.tE, h.low, ⟨by omega, by omega, by omega⟩, Nat.le_trans h.t0h e8, h.codes.below (by omega) hb, h.o0, h.made, h.chs.below (by omega) hb, ownsMapE_below h.keys hb, h.o3, h.o4⟩
theorem EngP.tailed (h : EngP w lo E X A c A2 d M q e0 L lc T tc Bc dc B hi hs km f0 f1 l0 l1 t0 t1 p0 p1) : EngT w lo E X A c A2 d M q e0 L lc T tc Bc dc B hi hs km f0 f1 l0 l1 t0 t1 p0 p1 :=
  ⟨h.blk, h.font, h.line, h.lineT, h.wait.tailed, h.waitT, h.fl, h.ft, h.lt, h.fE, h.lE, h.tE, h.low, h.top, h.t0h, h.codes, h.o0, h.made, h.chs, h.keys, h.o3, h.o4⟩
/-- the channels have changed -/
theorem EngT.comm (h : EngT w lo E X A c A2 d M q e0 L lc T tc Bc dc B hi hs km f0 f1 l0 l1 t0 t1 p0 p1) {ms' : List (List Mat)} (hc : Chg B hi w w') (hl : ms'.length = X.ms.length) (hch : ChM w' B hi (.slice (some ⟨B, 0, none⟩) X.ms.length X.ms.length) hs ms') : EngT w' lo E ⟨X.f, ms', X.sp, X.w, X.t, X.k, X.ln, X.wt⟩ A c A2 d M q e0 L lc T tc Bc dc B hi hs km f0 f1 l0 l1 t0 t1 p0 p1 := by
  obtain ⟨e1, e2⟩ := h.at_
  have e3 := h.low; have e4 := h.top; have e5 := h.o3; have e6 := h.o4; have e7 := h.o0; have e8 := hc.size; have e9 := h.t0h
  have fE := h.fE; have lE := h.lE; have tE := h.tE
  unfold Off at fE lE tE
  have hblk := (hc.block E e2 (by omega)).trans h.blk
  refine ⟨?_, h.font.chg hc (by unfold Off; omega), h.line.chg hc (fun k hk => by have := h.line.lt k hk; have := h.lineT k hk; omega), h.lineT, h.wait.chg hc (fun k hk => by have := h.wait.lt k hk; have := h.waitT k hk; omega), h.waitT, h.fl, h.ft, h.lt, h.fE, h.lE, h.tE, h.low, ⟨by omega, by omega, by omega⟩, by omega, h.codes.chgE hc (by omega) (by omega), h.o0, ?_, ?_, ownsMapE_chg h.keys hc (by omega), h.o3, h.o4⟩
  · show Blk _ _ _ _
    simp only [hl]
    exact hblk
  · simp only [hl]; exact h.made
  · simp only [hl]; exact hch
/-- the first of the waiting row is gone -/
theorem EngT.next (h : EngT w lo E X A c A2 d M q e0 L lc T tc Bc dc B hi hs km f0 f1 l0 l1 t0 t1 p0 p1) {x : Mat} {xs : List Mat} (hx : X.wt = x :: xs) {T' : Option Addr} (hA : 1 < tc → T' = T.map (·.add 2)) (hA2 : tc = 1 → T' = T) : EngT (w.setCell ⟨E, 9, none⟩ (.slice T' xs.length (tc - 1))) lo E ⟨X.f, X.ms, X.sp, X.w, X.t, X.k, X.ln, xs⟩ A c A2 d M q e0 L lc T' (tc - 1) Bc dc B hi hs km f0 f1 l0 l1 t0 t1 p0 p1 := by
  obtain ⟨e1, e2⟩ := h.at_
  have e3 := h.low; have e4 := h.top; have e5 := h.o3; have e6 := h.o4; have e7 := h.o0
  have fE := h.fE; have lE := h.lE; have tE := h.tE
  unfold Off at fE lE tE
  have hc := chg_one w E 9 (.slice T' xs.length (tc - 1))
  have hz : (w.setCell ⟨E, 9, none⟩ (.slice T' xs.length (tc - 1))).heap.size = w.heap.size := by simp [World.setCell]
  have hw := h.wait
  have hwT := h.waitT
  rw [hx] at hw hwT
  have hcap := hw.caps.1
  simp only [List.length_cons] at hcap
  have hown : ∀ k, (Value.slice T' xs.length (tc - 1)).ownBlock = some k → (Value.slice T (x :: xs).length tc).ownBlock = some k := fun k hk => by
    by_cases h1 : tc = 1
    · rw [hA2 h1] at hk
      cases T with
      | none => cases hk
      | some ad => exact hk
    · rw [hA (by omega)] at hk
      cases T with
      | none => cases hk
      | some ad => simp only [Option.map_some, Value.ownBlock, Addr.add] at hk ⊢; exact hk
  have hw2 := (hw.tail hA hA2).chg hc (fun k hk => by have h3 := hown k hk; have := hw.lt k h3; have := hwT k h3; omega)
  exact ⟨heapSet (i := 9) h.blk _, h.font.chg hc (by unfold Off; omega), h.line.chg hc (fun k hk => by have := h.line.lt k hk; have := h.lineT k hk; omega), h.lineT, hw2, fun k hk => hwT k (hown k hk), h.fl, h.ft, h.lt, h.fE, h.lE, h.tE, h.low, ⟨by omega, by omega, by omega⟩, by rw [hz]; exact h.t0h, h.codes.chgE hc (by omega) (by omega), h.o0, h.made, h.chs.chg (by omega) hc (.inl (by omega)), ownsMapE_chg h.keys hc (by omega), h.o3, h.o4⟩
end
set_option maxRecDepth 100000 in
set_option maxHeartbeats 12800000 in
theorem stopT_any (lo E : Nat) (X : Mch) (w : World) (h : EngX w lo E X) (hm : X.ms.length ≤ 1048576) (hlim : ∀ xs ∈ X.ms, xs.length ≤ 20) :
    Calls Tryz.prog 41 #[.pointer (some ⟨E, 0, none⟩)] w fun e w' => ∃ v', e = .returned v' ∧ MchY w' lo w'.heap.size v' X ∧ Below lo w w' := by
  obtain ⟨A, c, A2, d, M, q, e0, L, lc, T, tc, Bc, dc, B, hi, hs, km, f0, f1, l0, l1, t0, t1, p0, p1, hblk, hF, hL, hLT, hW, hWT, ofl, oft, olt, ofE, olE, otE, ⟨olow1, olow2, olow3, olow4⟩, ⟨otop1, otop2, otop3⟩, ot0, hcod, o0, hmd, hch, hkeys, o3, o4⟩ := h
  unfold Off at ofE olE otE
  have hEl := hblk.lt
  have hBh := hch.top B rfl
  obtain ⟨w0, hw0⟩ : ∃ x, w = x := ⟨_, rfl⟩
  have hww : w.heap.size = w0.heap.size := by rw [hw0]
  have HLIM := Lib.hid hlim; have HMD := Lib.hid hmd
  obtain ⟨nn, hnn⟩ : ∃ x, X.ms.length = x := ⟨_, rfl⟩
  rw [hnn] at hm hch hblk hmd
  have HNN := Lib.hid hnn
  have C0 : Hid (Chg B (E + 1) w0 w0) := Chg.of_below (Below.refl _ _)
  have G0 : Hid (Blk w0 E #[.string X.f.s, .slice A X.f.ws.length c, .slice A2 X.f.cs.length d, .slice M q e0, .int .i64 X.sp, .int .i64 X.w, .int .i64 X.t, .int .i64 X.k, .slice L X.ln.length lc, .slice T X.wt.length tc, .slice Bc X.f.cs.length dc, .slice (some ⟨B, 0, none⟩) nn nn, .map (some km)] 118) := by show Blk _ _ _ _; rw [← hw0]; exact hblk
  have F0 : Hid (FontO w0 f0 f1 (.agg #[.string X.f.s, .slice A X.f.ws.length c, .slice A2 X.f.cs.length d]) X.f) := by rw [← hw0]; exact hF
  have L0 : Hid (OwnM w0 l0 (.slice L X.ln.length lc) X.ln) := by rw [← hw0]; exact hL
  have S0 : Hid (OwnT w0 t0 (.slice T X.wt.length tc) X.wt) := by rw [← hw0]; exact hW
  have H0 : Hid (ChM w0 B hi (.slice (some ⟨B, 0, none⟩) nn nn) hs X.ms) := by rw [← hw0]; exact hch
  clear hblk hF hL hW hcod hmd hch hkeys hlim hnn
  obtain ⟨w1, hw1, hb1, hz1, hX1⟩ := mxWorld w0 #[.string ⟨#[]⟩, .slice none 0 0, .slice none 0 0, .slice none 0 0, .int .i64 0, .int .i64 0, .int .i64 0, .int .i64 0, .slice none 0 0, .slice none 0 0] 37
  have C1 : Hid (Chg B (E + 1) w0 w1) := C0.out.trans (Chg.of_below hb1)
  have G1 : Hid (Blk w1 E #[.string X.f.s, .slice A X.f.ws.length c, .slice A2 X.f.cs.length d, .slice M q e0, .int .i64 X.sp, .int .i64 X.w, .int .i64 X.t, .int .i64 X.k, .slice L X.ln.length lc, .slice T X.wt.length tc, .slice Bc X.f.cs.length dc, .slice (some ⟨B, 0, none⟩) nn nn, .map (some km)] 118) := G0.out.below hb1 (by omega)
  have F1 : Hid (FontO w1 f0 f1 (.agg #[.string X.f.s, .slice A X.f.ws.length c, .slice A2 X.f.cs.length d]) X.f) := F0.out.below hb1
  have L1 : Hid (OwnM w1 l0 (.slice L X.ln.length lc) X.ln) := L0.out.below hb1
  have S1 : Hid (OwnT w1 t0 (.slice T X.wt.length tc) X.wt) := S0.out.below hb1
  have H1 : Hid (ChM w1 B hi (.slice (some ⟨B, 0, none⟩) nn nn) hs X.ms) := H0.out.below (by omega) hb1
  have sz1 : w0.heap.size ≤ w1.heap.size := hb1.size
  clear C0 G0 F0 L0 S0 H0
  have R1 : Hid (Blk w1 (w0.heap.size) #[.string ⟨#[]⟩, .slice none 0 0, .slice none 0 0, .slice none 0 0, .int .i64 0, .int .i64 0, .int .i64 0, .int .i64 0, .slice none 0 0, .slice none 0 0] 37) := by show Blk _ _ _ _; exact hX1
  have g0 := cellOfBlk G1.out 0
  have g1 := cellOfBlk G1.out 1
  have g2 := cellOfBlk G1.out 2
  have g3 := cellOfBlk G1.out 3
  have g4 := cellOfBlk G1.out 4
  have g5 := cellOfBlk G1.out 5
  have g6 := cellOfBlk G1.out 6
  have g7 := cellOfBlk G1.out 7
  have g8 := cellOfBlk G1.out 8
  have g9 := cellOfBlk G1.out 9
  have g10 := cellOfBlk G1.out 10
  have g11 := cellOfBlk G1.out 11
  have g12 := cellOfBlk G1.out 12
  rw [hw0]
  go_enter Tryz.func41, Tryz.ntmps41
  go_wp2_with fail
  clear g0 g1 g2 g3 g4 g5 g6 g7 g8 g9 g10 g11 g12
  refine (unload_any (.slice Bc X.f.cs.length dc) rfl B hi nn hs X.ms w1 HNN.out hm HLIM.out (by rw [← HNN.out]; exact HMD.out) H1.out (by omega)).mono ?_
  rintro e w2 ⟨v9, hs9, rfl, hO, hc⟩
  obtain ⟨N, ne, rfl, -⟩ := hO.form
  rw [HNN.out] at hO ⊢
  have hb2 := hc.below (by omega)
  have C2 : Hid (Chg B (E + 1) w0 w2) := C1.out.trans (hc.wide (Nat.le_refl _) (by omega))
  have G2 : Hid (Blk w2 E #[.string X.f.s, .slice A X.f.ws.length c, .slice A2 X.f.cs.length d, .slice M q e0, .int .i64 X.sp, .int .i64 X.w, .int .i64 X.t, .int .i64 X.k, .slice L X.ln.length lc, .slice T X.wt.length tc, .slice Bc X.f.cs.length dc, .slice (some ⟨B, 0, none⟩) nn nn, .map (some km)] 118) := (hc.block E (by omega) (by omega)).trans G1.out
  have F2 : Hid (FontO w2 f0 f1 (.agg #[.string X.f.s, .slice A X.f.ws.length c, .slice A2 X.f.cs.length d]) X.f) := F1.out.chg hc (by unfold Off; omega)
  have L2 : Hid (OwnM w2 l0 (.slice L X.ln.length lc) X.ln) := L1.out.chg hc (fun k hk => by have h1 := L1.out.lt k hk; have h2 := hLT k hk; omega)
  have S2 : Hid (OwnT w2 t0 (.slice T X.wt.length tc) X.wt) := S1.out.chg hc (fun k hk => by have h1 := S1.out.lt k hk; have h2 := hWT k hk; omega)
  have R2 : Hid (Blk w2 (w0.heap.size) #[.string ⟨#[]⟩, .slice none 0 0, .slice none 0 0, .slice none 0 0, .int .i64 0, .int .i64 0, .int .i64 0, .int .i64 0, .slice none 0 0, .slice none 0 0] 37) := (hc.block _ (by omega) (by omega)).trans R1.out
  have sz2 := hc.size
  clear C1 G1 F1 L1 S1 R1 H1 hc
  have D2 := Lib.hid hO
  clear hO
  have f3 := G2.out.warm 3
  have g0 := cellOfBlk G2.out 0
  have g1 := cellOfBlk G2.out 1
  have g2 := cellOfBlk G2.out 2
  have g3 := cellOfBlk G2.out 3
  have g4 := cellOfBlk G2.out 4
  have g5 := cellOfBlk G2.out 5
  have g6 := cellOfBlk G2.out 6
  have g7 := cellOfBlk G2.out 7
  have g8 := cellOfBlk G2.out 8
  have g9 := cellOfBlk G2.out 9
  have g10 := cellOfBlk G2.out 10
  have g11 := cellOfBlk G2.out 11
  have g12 := cellOfBlk G2.out 12
  obtain ⟨w3, hw3⟩ : ∃ x, w2.setCell ⟨E, 3, none⟩ (.slice N nn ne) = x := ⟨_, rfl⟩
  have hcs := chg_one w2 E 3 (.slice N nn ne)
  rw [hw3] at hcs
  have C3 : Hid (Chg B (E + 1) w0 w3) := C2.out.trans (hcs.wide (by omega) (Nat.le_refl _))
  have G3 : Hid (Blk w3 E #[.string X.f.s, .slice A X.f.ws.length c, .slice A2 X.f.cs.length d, .slice N nn ne, .int .i64 X.sp, .int .i64 X.w, .int .i64 X.t, .int .i64 X.k, .slice L X.ln.length lc, .slice T X.wt.length tc, .slice Bc X.f.cs.length dc, .slice (some ⟨B, 0, none⟩) nn nn, .map (some km)] 118) := by show Blk _ _ _ _; rw [← hw3]; exact heapSet (i := 3) G2.out _
  have F3 : Hid (FontO w3 f0 f1 (.agg #[.string X.f.s, .slice A X.f.ws.length c, .slice A2 X.f.cs.length d]) X.f) := F2.out.chg hcs (by unfold Off; omega)
  have L3 : Hid (OwnM w3 l0 (.slice L X.ln.length lc) X.ln) := L2.out.chg hcs (fun k hk => by have h1 := L2.out.lt k hk; have h2 := hLT k hk; omega)
  have S3 : Hid (OwnT w3 t0 (.slice T X.wt.length tc) X.wt) := S2.out.chg hcs (fun k hk => by have h1 := S2.out.lt k hk; have h2 := hWT k hk; omega)
  have R3 : Hid (Blk w3 (w0.heap.size) #[.string ⟨#[]⟩, .slice none 0 0, .slice none 0 0, .slice none 0 0, .int .i64 0, .int .i64 0, .int .i64 0, .int .i64 0, .slice none 0 0, .slice none 0 0] 37) := (hcs.block _ (by omega) (by omega)).trans R2.out
  have D3 := Lib.hid (D2.out.chg hcs (.inr (by omega)))
  have sz3 := hcs.size
  have hsk : w3.heap.size = w2.heap.size := by rw [← hw3]; simp [World.setCell]
  go_upto_region 2 with fail
  (try rw [hw3])
  clear g0 g1 g2 g3 g4 g5 g6 g7 g8 g9 g10 g11 g12
  clear f3 C2 G2 F2 L2 S2 R2 D2 hcs hw3
  have g0 := cellOfBlk G3.out 0
  have g1 := cellOfBlk G3.out 1
  have g2 := cellOfBlk G3.out 2
  have g3 := cellOfBlk G3.out 3
  have g4 := cellOfBlk G3.out 4
  have g5 := cellOfBlk G3.out 5
  have g6 := cellOfBlk G3.out 6
  have g7 := cellOfBlk G3.out 7
  have g8 := cellOfBlk G3.out 8
  have g9 := cellOfBlk G3.out 9
  have g10 := cellOfBlk G3.out 10
  have g11 := cellOfBlk G3.out 11
  have g12 := cellOfBlk G3.out 12
  have r0 := cellOfBlk R3.out 0
  have r1 := cellOfBlk R3.out 1
  have r2 := cellOfBlk R3.out 2
  have r3 := cellOfBlk R3.out 3
  have r4 := cellOfBlk R3.out 4
  have r5 := cellOfBlk R3.out 5
  have r6 := cellOfBlk R3.out 6
  have r7 := cellOfBlk R3.out 7
  have r8 := cellOfBlk R3.out 8
  have r9 := cellOfBlk R3.out 9
  have ff := R3.out.warm
  go_wp2
  have hR := R3.out.fill (.string X.f.s) (.slice A X.f.ws.length c) (.slice A2 X.f.cs.length d) (.slice N nn ne) (.int .i64 X.sp) (.int .i64 X.w) (.int .i64 X.t) (.int .i64 X.k) (.slice L X.ln.length lc) (.slice T X.wt.length tc)
  have hc9 := chg_ten w3 (w0.heap.size) (.string X.f.s) (.slice A X.f.ws.length c) (.slice A2 X.f.cs.length d) (.slice N nn ne) (.int .i64 X.sp) (.int .i64 X.w) (.int .i64 X.t) (.int .i64 X.k) (.slice L X.ln.length lc) (.slice T X.wt.length tc)
  obtain ⟨w9, hw9⟩ : ∃ x, ((((((((((w3.setCell ⟨w0.heap.size, 0, none⟩ (.string X.f.s)).setCell ⟨w0.heap.size, 1, none⟩ (.slice A X.f.ws.length c)).setCell ⟨w0.heap.size, 2, none⟩ (.slice A2 X.f.cs.length d)).setCell ⟨w0.heap.size, 3, none⟩ (.slice N nn ne)).setCell ⟨w0.heap.size, 4, none⟩ (.int .i64 X.sp)).setCell ⟨w0.heap.size, 5, none⟩ (.int .i64 X.w)).setCell ⟨w0.heap.size, 6, none⟩ (.int .i64 X.t)).setCell ⟨w0.heap.size, 7, none⟩ (.int .i64 X.k)).setCell ⟨w0.heap.size, 8, none⟩ (.slice L X.ln.length lc)).setCell ⟨w0.heap.size, 9, none⟩ (.slice T X.wt.length tc)) = x := ⟨_, rfl⟩
  rw [hw9] at hR hc9
  (try rw [hw9])
  clear hw9
  have R9 := Lib.hid hR
  have C9 := C3.out.upon hc9 (Nat.le_refl _)
  have F9 := F3.out.chg hc9 (by unfold Off; omega)
  have L9 := L3.out.chg hc9 (fun q hq => by have h1 := L3.out.lt q hq; have h2 := hLT q hq; omega)
  have S9 := S3.out.chg hc9 (fun q hq => by have h1 := S3.out.lt q hq; have h2 := hWT q hq; omega)
  have D9 := D3.out.chg hc9 (.inr (by omega))
  have hz9 := hc9.size
  clear r0 r1 r2 r3 r4 r5 r6 r7 r8 r9 ff g0 g1 g2 g3 g4 g5 g6 g7 g8 g9 g10 g11 g12
  have r0 := cellOfBlk R9.out 0
  have r1 := cellOfBlk R9.out 1
  have r2 := cellOfBlk R9.out 2
  have r3 := cellOfBlk R9.out 3
  have r4 := cellOfBlk R9.out 4
  have r5 := cellOfBlk R9.out 5
  have r6 := cellOfBlk R9.out 6
  have r7 := cellOfBlk R9.out 7
  have r8 := cellOfBlk R9.out 8
  have r9 := cellOfBlk R9.out 9
  (try simp only [Exit.inBlock, Exit.then])
  refine bodyPost_ret (v := .agg #[.string X.f.s, .slice A X.f.ws.length c, .slice A2 X.f.cs.length d, .slice N nn ne, .int .i64 X.sp, .int .i64 X.w, .int .i64 X.t, .int .i64 X.k, .slice L X.ln.length lc, .slice T X.wt.length tc]) (by simp [results, Tryz.results41, go_sem, r0, r1, r2, r3, r4, r5, r6, r7, r8, r9]) rfl ?_
  have hX := MchY.build (B := lo) (hi := w9.heap.size) (X := X) F9 D9 L9 hLT S9 hWT (by unfold Off; omega) ofl oft (by unfold Off; omega) (by unfold Off; omega) olt ⟨by omega, by omega⟩ ⟨by omega, by omega⟩ ⟨by omega, by omega⟩ ⟨by omega, by omega⟩
  exact ⟨_, rfl, hX, (C9.below (by omega)).mono (by omega)⟩
end Go.Proofs.YtimhnkpccbcohaaGreatDoor
