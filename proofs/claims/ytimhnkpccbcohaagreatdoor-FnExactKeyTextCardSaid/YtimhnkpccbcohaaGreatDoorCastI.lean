/-
  CastLine of the program by contract. Conditions: lengths of at most 2^20; errNoItems, errLoose, errTooMany read as laid.
-/
import Derived.Test.YtimhnkpccbcohaaGreatDoorEngA
namespace Go.Proofs.YtimhnkpccbcohaaGreatDoor
open Go.RowKit Go.Conc
set_option linter.unusedVariables false
set_option linter.unusedSimpArgs false

/-- what a machine that is one tells -/
theorem mach_facts {X : Mch} (h : machB X = true) : (∀ i, i < X.f.s.size → letOk X.f.s i = true) ∧ (∀ x ∈ X.ln, bandM x = true ∨ (0 ≤ x.1 ∧ x.1.toNat < X.f.ws.length)) ∧ (∀ x ∈ X.ln, bandM x = true ∨ (0 ≤ x.1 ∧ x.1.toNat < X.f.s.size)) ∧ 0 ≤ X.sp ∧ X.sp ≤ 60 := by
  obtain ⟨hm, hsp, -, -, -, hset, -⟩ := machB_parts h
  have hf := magB_font hm
  obtain ⟨e1, e2, -⟩ := fontB_codes hf
  obtain ⟨s0, s1⟩ := (inB_iff _ _ _).1 hsp
  have key : ∀ x ∈ X.ln, bandM x = true ∨ (0 ≤ x.1 ∧ x.1.toNat < X.f.s.size) := fun x hx => by
    have h1 := List.all_eq_true.1 hset x hx
    unfold setM at h1
    rw [Bool.or_eq_true] at h1
    rcases h1 with h1 | h1
    · exact .inl h1
    · unfold matB at h1
      rw [Bool.and_eq_true] at h1
      obtain ⟨k0, k1⟩ := (inB_iff _ _ _).1 h1.1
      exact .inr ⟨k0, by omega⟩
  refine ⟨letters_all (fontB_letters hf), fun x hx => ?_, key, s0, s1⟩
  rcases key x hx with h1 | ⟨h1, h2⟩
  · exact .inl h1
  · exact .inr ⟨h1, by omega⟩
theorem magB_20 {f : Fnt} {ms : List (List Mat)} (h : magB f ms = true) : ∀ xs ∈ ms, xs.length ≤ 20 := by
  unfold magB at h
  simp only [Bool.and_eq_true, beq_iff_eq, List.all_eq_true] at h
  intro xs hx
  have := h.2.2 xs hx
  unfold rowB at this
  simp only [Bool.and_eq_true, decide_eq_true_eq, List.all_eq_true] at this
  exact this.1
def castOk (X : Mch) (rag : Bool) : Bool := machB X && (castGo X rag && clearOk X)
def castX (X : Mch) (rag : Bool) : Mch := if castOk X rag then clearX X else zeroX
def castT (X : Mch) (rag : Bool) : ByteArray := if castOk X rag then txt X.f X.ln else ⟨#[]⟩
def castP (X : Mch) (rag : Bool) : List Int := if castOk X rag then placesL ⟨X.w, X.t, X.k⟩ (itemsM X.f X.ln) else []
theorem cast_off {X : Mch} {rag : Bool} (h : castOk X rag = false) : castX X rag = zeroX ∧ castT X rag = ⟨#[]⟩ ∧ castP X rag = [] := by
  unfold castX castT castP; rw [h]; exact ⟨rfl, rfl, rfl⟩
theorem cast_on {X : Mch} {rag : Bool} (h : castOk X rag = true) : castX X rag = clearX X ∧ castT X rag = txt X.f X.ln ∧ castP X rag = placesL ⟨X.w, X.t, X.k⟩ (itemsM X.f X.ln) := by
  unfold castX castT castP; rw [h]; exact ⟨rfl, rfl, rfl⟩
theorem zeroX_apart (w : World) (B : Nat) (u : Value) (hu : u.ownBlock = none) : MchA w B B (.agg #[.string ⟨#[]⟩, .slice none 0 0, .slice none 0 0, .slice none 0 0, .int .i64 0, .int .i64 0, .int .i64 0, .int .i64 0, .slice none 0 0, .slice none 0 0]) zeroX u := by
  obtain ⟨A, c, A2, d, M, e, L, lc, T, tc, hs, f0, f1, g0, g1, l0, l1, t0, t1, h⟩ := zeroX_own w B
  exact ⟨A, c, A2, d, M, e, L, lc, T, tc, hs, f0, f1, g0, g1, l0, l1, t0, t1, h, fun g hg => by rw [hu] at hg; cases hg⟩
theorem MchA.below {w w' : World} {B hi : Nat} {v : Value} {X : Mch} {u : Value} (h : MchA w B hi v X u) (hb : Below w.heap.size w w') : MchA w' B hi v X u := by
  obtain ⟨A, c, A2, d, M, e, L, lc, T, tc, hs, f0, f1, g0, g1, l0, l1, t0, t1, h, ha⟩ := h
  exact ⟨A, c, A2, d, M, e, L, lc, T, tc, hs, f0, f1, g0, g1, l0, l1, t0, t1, ⟨h.v, h.font.below hb, h.mag.below hb, h.line.below hb, h.lineT, h.wait.below hb, h.waitT, h.fg, h.fl, h.ft, h.gl, h.gt, h.lt, h.fi, h.gi, h.li, h.ti⟩, ha⟩
theorem MchA.wide {w : World} {B hi : Nat} {v : Value} {X : Mch} {u : Value} {B' hi' : Nat} (h : MchA w B hi v X u) (h1 : B' ≤ B) (h2 : hi ≤ hi') : MchA w B' hi' v X u := by
  obtain ⟨A, c, A2, d, M, e, L, lc, T, tc, hs, f0, f1, g0, g1, l0, l1, t0, t1, h, ha⟩ := h
  exact ⟨A, c, A2, d, M, e, L, lc, T, tc, hs, f0, f1, g0, g1, l0, l1, t0, t1, ⟨h.v, h.font, h.mag, h.line, h.lineT, h.wait, h.waitT, h.fg, h.fl, h.ft, h.gl, h.gt, h.lt, ⟨by have := h.fi.1; omega, by have := h.fi.2; omega⟩, ⟨by have := h.gi.1; omega, by have := h.gi.2; omega⟩, ⟨by have := h.li.1; omega, by have := h.li.2; omega⟩, ⟨by have := h.ti.1; omega, by have := h.ti.2; omega⟩⟩, ha⟩
theorem MchA.chg {w w' : World} {B hi : Nat} {v : Value} {X : Mch} {u : Value} {lo' hi' : Nat} (h : MchA w B hi v X u) (hc : Chg lo' hi' w w') (hn : Off B hi lo' hi') : MchA w' B hi v X u := by
  obtain ⟨A, c, A2, d, M, e, L, lc, T, tc, hs, f0, f1, g0, g1, l0, l1, t0, t1, h, ha⟩ := h
  have q1 := h.fi; have q2 := h.gi; have q3 := h.li; have q4 := h.ti
  unfold Off at hn
  refine ⟨A, c, A2, d, M, e, L, lc, T, tc, hs, f0, f1, g0, g1, l0, l1, t0, t1, ⟨h.v, h.font.chg hc (by unfold Off; omega), h.mag.chg hc (by omega), h.line.chg hc (fun k hk => ?_), h.lineT, h.wait.chg hc (fun k hk => ?_), h.waitT, h.fg, h.fl, h.ft, h.gl, h.gt, h.lt, h.fi, h.gi, h.li, h.ti⟩, ha⟩
  · have := h.line.lt k hk; have := h.lineT k hk; omega
  · have := h.wait.lt k hk; have := h.waitT k hk; omega
/-- a machine of a row apart, its ten words in sight -/
theorem MchA.words {w : World} {B hi : Nat} {v : Value} {X : Mch} {u : Value} (h : MchA w B hi v X u) : ∃ A c A2 d M e L lc T tc, v = .agg #[.string X.f.s, .slice A X.f.ws.length c, .slice A2 X.f.cs.length d, .slice M X.ms.length e, .int .i64 X.sp, .int .i64 X.w, .int .i64 X.t, .int .i64 X.k, .slice L X.ln.length lc, .slice T X.wt.length tc] := by
  obtain ⟨A, c, A2, d, M, e, L, lc, T, tc, hs, f0, f1, g0, g1, l0, l1, t0, t1, h, ha⟩ := h
  exact ⟨A, c, A2, d, M, e, L, lc, T, tc, h.v⟩
set_option maxRecDepth 100000 in
set_option maxHeartbeats 6400000 in
theorem implCast_no (lo hi0 : Nat) (v : Value) (X : Mch) (rag : Bool) (w : World) (h : MchV w lo hi0 v X) (hhi : hi0 ≤ w.heap.size) (hs : SmallX X) (wf : WfX X) (hm : machB X = false) :
    Calls Tryz.prog 15 #[v, .bool rag] w fun e w' => ∃ v' vp, e = .returned (.tuple #[v', .string (castT X rag), vp, .bool (castOk X rag)]) ∧ (∃ hb, MchA w' w.heap.size hb v' (castX X rag) vp ∧ hb ≤ w'.heap.size) ∧ Own w' w.heap.size vp (castP X rag) ∧ Below w.heap.size w w' := by
  have HOFF : Hid (castOk X rag = false) := by show _ = _; unfold castOk; rw [hm]; rfl
  obtain ⟨s, A, n, c, A2, m, d, M, q, e0, L, l, lc, T, r, tc, hv, -⟩ := h.parts
  rw [hv] at h ⊢
  clear hv
  obtain ⟨w0, hw0⟩ : ∃ x, w = x := ⟨_, rfl⟩
  have hww : w.heap.size = w0.heap.size := by rw [hw0]
  have HS := Lib.hid hs; have HWF := Lib.hid wf
  have T0 : Hid (Below w0.heap.size w0 w0) := Below.refl _ _
  have V0 : Hid (MchV w0 lo hi0 (.agg #[.string s, .slice A n c, .slice A2 m d, .slice M q e0, .int .i64 X.sp, .int .i64 X.w, .int .i64 X.t, .int .i64 X.k, .slice L l lc, .slice T r tc]) X) := by rw [← hw0]; exact h
  clear h hs wf
  obtain ⟨w1, hw1, hb1, hz1, hX1⟩ := mxWorld w0 #[.string s, .slice A n c, .slice A2 m d, .slice M q e0, .int .i64 X.sp, .int .i64 X.w, .int .i64 X.t, .int .i64 X.k, .slice L l lc, .slice T r tc] 37
  have T1 : Hid (Below w0.heap.size w0 w1) := T0.out.trans (hb1.mono (by omega))
  have V1 : Hid (MchV w1 lo hi0 (.agg #[.string s, .slice A n c, .slice A2 m d, .slice M q e0, .int .i64 X.sp, .int .i64 X.w, .int .i64 X.t, .int .i64 X.k, .slice L l lc, .slice T r tc]) X) := V0.out.below (by omega) hb1
  have sz1 : w0.heap.size ≤ w1.heap.size := hb1.size
  clear T0 V0
  have P1 : Hid (Blk w1 (w0.heap.size) #[.string s, .slice A n c, .slice A2 m d, .slice M q e0, .int .i64 X.sp, .int .i64 X.w, .int .i64 X.t, .int .i64 X.k, .slice L l lc, .slice T r tc] 37) := by show Blk _ _ _ _; exact hX1
  obtain ⟨w2, hw2, hb2, hz2, hX2⟩ := mxWorld w1 #[.string ⟨#[]⟩, .slice none 0 0, .slice none 0 0, .slice none 0 0, .int .i64 0, .int .i64 0, .int .i64 0, .int .i64 0, .slice none 0 0, .slice none 0 0] 37
  have T2 : Hid (Below w0.heap.size w0 w2) := T1.out.trans (hb2.mono (by omega))
  have V2 : Hid (MchV w2 lo hi0 (.agg #[.string s, .slice A n c, .slice A2 m d, .slice M q e0, .int .i64 X.sp, .int .i64 X.w, .int .i64 X.t, .int .i64 X.k, .slice L l lc, .slice T r tc]) X) := V1.out.below (by omega) hb2
  have P2 : Hid (Blk w2 (w0.heap.size) #[.string s, .slice A n c, .slice A2 m d, .slice M q e0, .int .i64 X.sp, .int .i64 X.w, .int .i64 X.t, .int .i64 X.k, .slice L l lc, .slice T r tc] 37) := P1.out.below hb2 (by omega)
  have sz2 : w1.heap.size ≤ w2.heap.size := hb2.size
  clear T1 V1 P1
  have R2 : Hid (Blk w2 (w0.heap.size + 1) #[.string ⟨#[]⟩, .slice none 0 0, .slice none 0 0, .slice none 0 0, .int .i64 0, .int .i64 0, .int .i64 0, .int .i64 0, .slice none 0 0, .slice none 0 0] 37) := by show Blk _ _ _ _; rw [← hz1]; exact hX2
  rw [hz1] at hz2
  have p0 := cellOfBlk P2.out 0
  have p1 := cellOfBlk P2.out 1
  have p2 := cellOfBlk P2.out 2
  have p3 := cellOfBlk P2.out 3
  have p4 := cellOfBlk P2.out 4
  have p5 := cellOfBlk P2.out 5
  have p6 := cellOfBlk P2.out 6
  have p7 := cellOfBlk P2.out 7
  have p8 := cellOfBlk P2.out 8
  have p9 := cellOfBlk P2.out 9
  rw [hw0]
  go_enter Tryz.func15, Tryz.ntmps15
  go_wp2_with fail
  clear p0 p1 p2 p3 p4 p5 p6 p7 p8 p9
  refine (implMachine_any lo hi0 _ X w2 V2.out (by omega) HS.out HWF.out).mono ?_
  rintro e w3 ⟨rfl, hb3⟩
  have T3 : Hid (Below w0.heap.size w0 w3) := T2.out.trans (hb3.mono (by omega))
  have V3 : Hid (MchV w3 lo hi0 (.agg #[.string s, .slice A n c, .slice A2 m d, .slice M q e0, .int .i64 X.sp, .int .i64 X.w, .int .i64 X.t, .int .i64 X.k, .slice L l lc, .slice T r tc]) X) := V2.out.below (by omega) hb3
  have P3 : Hid (Blk w3 (w0.heap.size) #[.string s, .slice A n c, .slice A2 m d, .slice M q e0, .int .i64 X.sp, .int .i64 X.w, .int .i64 X.t, .int .i64 X.k, .slice L l lc, .slice T r tc] 37) := P2.out.below hb3 (by omega)
  have R3 : Hid (Blk w3 (w0.heap.size + 1) #[.string ⟨#[]⟩, .slice none 0 0, .slice none 0 0, .slice none 0 0, .int .i64 0, .int .i64 0, .int .i64 0, .int .i64 0, .slice none 0 0, .slice none 0 0] 37) := R2.out.below hb3 (by omega)
  have sz3 : w2.heap.size ≤ w3.heap.size := hb3.size
  clear T2 V2 P2 R2
  rw [hm]
  have r0 := cellOfBlk R3.out 0
  have r1 := cellOfBlk R3.out 1
  have r2 := cellOfBlk R3.out 2
  have r3 := cellOfBlk R3.out 3
  have r4 := cellOfBlk R3.out 4
  have r5 := cellOfBlk R3.out 5
  have r6 := cellOfBlk R3.out 6
  have r7 := cellOfBlk R3.out 7
  have r8 := cellOfBlk R3.out 8
  have r9 := cellOfBlk R3.out 9
  have ff := R3.out.warm
  go_wp2
  have hR := R3.out.fill (.string ⟨#[]⟩) (.slice none 0 0) (.slice none 0 0) (.slice none 0 0) (.int .i64 0) (.int .i64 0) (.int .i64 0) (.int .i64 0) (.slice none 0 0) (.slice none 0 0)
  have hc9 := chg_ten w3 (w0.heap.size + 1) (.string ⟨#[]⟩) (.slice none 0 0) (.slice none 0 0) (.slice none 0 0) (.int .i64 0) (.int .i64 0) (.int .i64 0) (.int .i64 0) (.slice none 0 0) (.slice none 0 0)
  obtain ⟨w9, hw9⟩ : ∃ x, ((((((((((w3.setCell ⟨w0.heap.size + 1, 0, none⟩ (.string ⟨#[]⟩)).setCell ⟨w0.heap.size + 1, 1, none⟩ (.slice none 0 0)).setCell ⟨w0.heap.size + 1, 2, none⟩ (.slice none 0 0)).setCell ⟨w0.heap.size + 1, 3, none⟩ (.slice none 0 0)).setCell ⟨w0.heap.size + 1, 4, none⟩ (.int .i64 0)).setCell ⟨w0.heap.size + 1, 5, none⟩ (.int .i64 0)).setCell ⟨w0.heap.size + 1, 6, none⟩ (.int .i64 0)).setCell ⟨w0.heap.size + 1, 7, none⟩ (.int .i64 0)).setCell ⟨w0.heap.size + 1, 8, none⟩ (.slice none 0 0)).setCell ⟨w0.heap.size + 1, 9, none⟩ (.slice none 0 0)) = x := ⟨_, rfl⟩
  rw [hw9] at hR hc9
  (try rw [hw9])
  clear hw9 r0 r1 r2 r3 r4 r5 r6 r7 r8 r9
  have r0 := cellOfBlk hR 0
  have r1 := cellOfBlk hR 1
  have r2 := cellOfBlk hR 2
  have r3 := cellOfBlk hR 3
  have r4 := cellOfBlk hR 4
  have r5 := cellOfBlk hR 5
  have r6 := cellOfBlk hR 6
  have r7 := cellOfBlk hR 7
  have r8 := cellOfBlk hR 8
  have r9 := cellOfBlk hR 9
  (try simp only [Exit.inBlock, Exit.then])
  refine bodyPost_ret (v := .tuple #[.agg #[.string ⟨#[]⟩, .slice none 0 0, .slice none 0 0, .slice none 0 0, .int .i64 0, .int .i64 0, .int .i64 0, .int .i64 0, .slice none 0 0, .slice none 0 0], .string ⟨#[]⟩, .slice none 0 0, .bool false]) (by simp [results, Tryz.results15, go_sem, r0, r1, r2, r3, r4, r5, r6, r7, r8, r9]) rfl ?_
  obtain ⟨z1, z2, z3⟩ := cast_off HOFF.out
  rw [HOFF.out, z1, z2, z3]
  exact ⟨_, _, rfl, ⟨w0.heap.size, zeroX_apart w9 _ _ rfl, by have := hc9.size; omega⟩, own_none _ _, T3.out.trans ((hc9.below (by omega)).mono (by omega))⟩
set_option maxRecDepth 100000 in
set_option maxHeartbeats 6400000 in
theorem implCast_loose (lo hi0 : Nat) (v : Value) (X : Mch) (rag : Bool) (w : World) (h : MchV w lo hi0 v X) (hhi : hi0 ≤ w.heap.size) (hs : SmallX X) (wf : WfX X) (hm : machB X = true) (a1 a2 : Addr) (ca1 ca2 : Array Value) (ta1 ta2 : TypeId) (hne : a1 ≠ a2) (hb1 : w.heap[a1.block]? = some (.cells ca1 ta1 (0, 0))) (hb2 : w.heap[a2.block]? = some (.cells ca2 ta2 (0, 0))) (hg1 : w.cell? ⟨3, 0, none⟩ = some (.iface 192 (.pointer (some a1)))) (hg2 : w.cell? ⟨1, 0, none⟩ = some (.iface 192 (.pointer (some a2)))) (hgo : castGo X rag = false) :
    Calls Tryz.prog 15 #[v, .bool rag] w fun e w' => ∃ v' vp, e = .returned (.tuple #[v', .string (castT X rag), vp, .bool (castOk X rag)]) ∧ (∃ hb, MchA w' w.heap.size hb v' (castX X rag) vp ∧ hb ≤ w'.heap.size) ∧ Own w' w.heap.size vp (castP X rag) ∧ Below w.heap.size w w' := by
  have HOFF : Hid (castOk X rag = false) := by show _ = _; unfold castOk; rw [hgo]; simp
  have HGO := Lib.hid hgo
  clear hgo
  have HF := Lib.hid (mach_facts hm)
  obtain ⟨hmg, -, hwt, -, hln, -, -⟩ := machB_parts hm
  have hlim : ∀ xs ∈ X.ms, xs.length ≤ 20 := fun xs hx => magB_20 hmg xs hx
  have HLIM := Lib.hid hlim; have HLN := Lib.hid hln; have HWT := Lib.hid hwt
  clear hmg hlim hln hwt
  obtain ⟨s, A, n, c, A2, m, d, M, q, e0, L, l, lc, T, r, tc, hv, -⟩ := h.parts
  rw [hv] at h ⊢
  clear hv
  obtain ⟨w0, hw0⟩ : ∃ x, w = x := ⟨_, rfl⟩
  have hww : w.heap.size = w0.heap.size := by rw [hw0]
  have HS := Lib.hid hs; have HWF := Lib.hid wf
  have T0 : Hid (Below w0.heap.size w0 w0) := Below.refl _ _
  have V0 : Hid (MchV w0 lo hi0 (.agg #[.string s, .slice A n c, .slice A2 m d, .slice M q e0, .int .i64 X.sp, .int .i64 X.w, .int .i64 X.t, .int .i64 X.k, .slice L l lc, .slice T r tc]) X) := by rw [← hw0]; exact h
  clear h hs wf
  rw [hw0] at hb1 hb2 hg1 hg2 hhi
  have C10 : Hid (w0.cell? ⟨3, 0, none⟩ = some (.iface 192 (.pointer (some a1)))) := hg1
  have C20 : Hid (w0.cell? ⟨1, 0, none⟩ = some (.iface 192 (.pointer (some a2)))) := hg2
  have B10 : Hid ((w0).heap[a1.block]? = some (.cells ca1 ta1 (0, 0))) := hb1
  have B20 : Hid ((w0).heap[a2.block]? = some (.cells ca2 ta2 (0, 0))) := hb2
  clear hb1 hb2 hg1 hg2
  obtain ⟨w1, hw1, hb1, hz1, hX1⟩ := mxWorld w0 #[.string s, .slice A n c, .slice A2 m d, .slice M q e0, .int .i64 X.sp, .int .i64 X.w, .int .i64 X.t, .int .i64 X.k, .slice L l lc, .slice T r tc] 37
  have T1 : Hid (Below w0.heap.size w0 w1) := T0.out.trans (hb1.mono (by omega))
  have V1 : Hid (MchV w1 lo hi0 (.agg #[.string s, .slice A n c, .slice A2 m d, .slice M q e0, .int .i64 X.sp, .int .i64 X.w, .int .i64 X.t, .int .i64 X.k, .slice L l lc, .slice T r tc]) X) := V0.out.below (by omega) hb1
  have C11 : Hid (w1.cell? ⟨3, 0, none⟩ = some (.iface 192 (.pointer (some a1)))) := (hb1.cell (World.block_lt_of_cell? _ _ C10.out)).trans C10.out
  have C21 : Hid (w1.cell? ⟨1, 0, none⟩ = some (.iface 192 (.pointer (some a2)))) := (hb1.cell (World.block_lt_of_cell? _ _ C20.out)).trans C20.out
  have B11 : Hid ((w1).heap[a1.block]? = some (.cells ca1 ta1 (0, 0))) := (hb1.block a1.block (by have := (Array.getElem?_eq_some_iff.1 B10.out).1; omega)).trans B10.out
  have B21 : Hid ((w1).heap[a2.block]? = some (.cells ca2 ta2 (0, 0))) := (hb1.block a2.block (by have := (Array.getElem?_eq_some_iff.1 B20.out).1; omega)).trans B20.out
  have sz1 : w0.heap.size ≤ w1.heap.size := hb1.size
  clear T0 V0 C10 C20 B10 B20
  have P1 : Hid (Blk w1 (w0.heap.size) #[.string s, .slice A n c, .slice A2 m d, .slice M q e0, .int .i64 X.sp, .int .i64 X.w, .int .i64 X.t, .int .i64 X.k, .slice L l lc, .slice T r tc] 37) := by show Blk _ _ _ _; exact hX1
  obtain ⟨w2, hw2, hb2, hz2, hX2⟩ := mxWorld w1 #[.string ⟨#[]⟩, .slice none 0 0, .slice none 0 0, .slice none 0 0, .int .i64 0, .int .i64 0, .int .i64 0, .int .i64 0, .slice none 0 0, .slice none 0 0] 37
  have T2 : Hid (Below w0.heap.size w0 w2) := T1.out.trans (hb2.mono (by omega))
  have V2 : Hid (MchV w2 lo hi0 (.agg #[.string s, .slice A n c, .slice A2 m d, .slice M q e0, .int .i64 X.sp, .int .i64 X.w, .int .i64 X.t, .int .i64 X.k, .slice L l lc, .slice T r tc]) X) := V1.out.below (by omega) hb2
  have C12 : Hid (w2.cell? ⟨3, 0, none⟩ = some (.iface 192 (.pointer (some a1)))) := (hb2.cell (World.block_lt_of_cell? _ _ C11.out)).trans C11.out
  have C22 : Hid (w2.cell? ⟨1, 0, none⟩ = some (.iface 192 (.pointer (some a2)))) := (hb2.cell (World.block_lt_of_cell? _ _ C21.out)).trans C21.out
  have B12 : Hid ((w2).heap[a1.block]? = some (.cells ca1 ta1 (0, 0))) := (hb2.block a1.block (by have := (Array.getElem?_eq_some_iff.1 B11.out).1; omega)).trans B11.out
  have B22 : Hid ((w2).heap[a2.block]? = some (.cells ca2 ta2 (0, 0))) := (hb2.block a2.block (by have := (Array.getElem?_eq_some_iff.1 B21.out).1; omega)).trans B21.out
  have P2 : Hid (Blk w2 (w0.heap.size) #[.string s, .slice A n c, .slice A2 m d, .slice M q e0, .int .i64 X.sp, .int .i64 X.w, .int .i64 X.t, .int .i64 X.k, .slice L l lc, .slice T r tc] 37) := P1.out.below hb2 (by omega)
  have sz2 : w1.heap.size ≤ w2.heap.size := hb2.size
  clear T1 V1 C11 C21 B11 B21 P1
  have R2 : Hid (Blk w2 (w0.heap.size + 1) #[.string ⟨#[]⟩, .slice none 0 0, .slice none 0 0, .slice none 0 0, .int .i64 0, .int .i64 0, .int .i64 0, .int .i64 0, .slice none 0 0, .slice none 0 0] 37) := by show Blk _ _ _ _; rw [← hz1]; exact hX2
  rw [hz1] at hz2
  have p0 := cellOfBlk P2.out 0
  have p1 := cellOfBlk P2.out 1
  have p2 := cellOfBlk P2.out 2
  have p3 := cellOfBlk P2.out 3
  have p4 := cellOfBlk P2.out 4
  have p5 := cellOfBlk P2.out 5
  have p6 := cellOfBlk P2.out 6
  have p7 := cellOfBlk P2.out 7
  have p8 := cellOfBlk P2.out 8
  have p9 := cellOfBlk P2.out 9
  rw [hw0]
  go_enter Tryz.func15, Tryz.ntmps15
  go_wp2_with fail
  clear p0 p1 p2 p3 p4 p5 p6 p7 p8 p9
  refine (implMachine_any lo hi0 _ X w2 V2.out (by omega) HS.out HWF.out).mono ?_
  rintro e w3 ⟨rfl, hb3⟩
  have T3 : Hid (Below w0.heap.size w0 w3) := T2.out.trans (hb3.mono (by omega))
  have V3 : Hid (MchV w3 lo hi0 (.agg #[.string s, .slice A n c, .slice A2 m d, .slice M q e0, .int .i64 X.sp, .int .i64 X.w, .int .i64 X.t, .int .i64 X.k, .slice L l lc, .slice T r tc]) X) := V2.out.below (by omega) hb3
  have C13 : Hid (w3.cell? ⟨3, 0, none⟩ = some (.iface 192 (.pointer (some a1)))) := (hb3.cell (World.block_lt_of_cell? _ _ C12.out)).trans C12.out
  have C23 : Hid (w3.cell? ⟨1, 0, none⟩ = some (.iface 192 (.pointer (some a2)))) := (hb3.cell (World.block_lt_of_cell? _ _ C22.out)).trans C22.out
  have B13 : Hid ((w3).heap[a1.block]? = some (.cells ca1 ta1 (0, 0))) := (hb3.block a1.block (by have := (Array.getElem?_eq_some_iff.1 B12.out).1; omega)).trans B12.out
  have B23 : Hid ((w3).heap[a2.block]? = some (.cells ca2 ta2 (0, 0))) := (hb3.block a2.block (by have := (Array.getElem?_eq_some_iff.1 B22.out).1; omega)).trans B22.out
  have P3 : Hid (Blk w3 (w0.heap.size) #[.string s, .slice A n c, .slice A2 m d, .slice M q e0, .int .i64 X.sp, .int .i64 X.w, .int .i64 X.t, .int .i64 X.k, .slice L l lc, .slice T r tc] 37) := P2.out.below hb3 (by omega)
  have R3 : Hid (Blk w3 (w0.heap.size + 1) #[.string ⟨#[]⟩, .slice none 0 0, .slice none 0 0, .slice none 0 0, .int .i64 0, .int .i64 0, .int .i64 0, .int .i64 0, .slice none 0 0, .slice none 0 0] 37) := R2.out.below hb3 (by omega)
  have sz3 : w2.heap.size ≤ w3.heap.size := hb3.size
  clear T2 V2 C12 C22 B12 B22 P2 R2
  rw [hm]
  have p0 := cellOfBlk P3.out 0
  have p1 := cellOfBlk P3.out 1
  have p2 := cellOfBlk P3.out 2
  have p3 := cellOfBlk P3.out 3
  have p4 := cellOfBlk P3.out 4
  have p5 := cellOfBlk P3.out 5
  have p6 := cellOfBlk P3.out 6
  have p7 := cellOfBlk P3.out 7
  have p8 := cellOfBlk P3.out 8
  have p9 := cellOfBlk P3.out 9
  go_wp2_with fail
  clear p0 p1 p2 p3 p4 p5 p6 p7 p8 p9
  refine (start_any lo hi0 _ X w3 V3.out (by omega) HS.out HLIM.out HF.out.1).mono ?_
  rintro e w4 ⟨E, vm, Bc, dc, B, hi, hs, km, b0, b1, rfl, hEO, hb4⟩
  have hEn := Lib.hid hEO.parts
  clear hEO
  have T4 : Hid (Below w0.heap.size w0 w4) := T3.out.trans (hb4.mono (by omega))
  have V4 : Hid (MchV w4 lo hi0 (.agg #[.string s, .slice A n c, .slice A2 m d, .slice M q e0, .int .i64 X.sp, .int .i64 X.w, .int .i64 X.t, .int .i64 X.k, .slice L l lc, .slice T r tc]) X) := V3.out.below (by omega) hb4
  have C14 : Hid (w4.cell? ⟨3, 0, none⟩ = some (.iface 192 (.pointer (some a1)))) := (hb4.cell (World.block_lt_of_cell? _ _ C13.out)).trans C13.out
  have C24 : Hid (w4.cell? ⟨1, 0, none⟩ = some (.iface 192 (.pointer (some a2)))) := (hb4.cell (World.block_lt_of_cell? _ _ C23.out)).trans C23.out
  have B14 : Hid ((w4).heap[a1.block]? = some (.cells ca1 ta1 (0, 0))) := (hb4.block a1.block (by have := (Array.getElem?_eq_some_iff.1 B13.out).1; omega)).trans B13.out
  have B24 : Hid ((w4).heap[a2.block]? = some (.cells ca2 ta2 (0, 0))) := (hb4.block a2.block (by have := (Array.getElem?_eq_some_iff.1 B23.out).1; omega)).trans B23.out
  have P4 : Hid (Blk w4 (w0.heap.size) #[.string s, .slice A n c, .slice A2 m d, .slice M q e0, .int .i64 X.sp, .int .i64 X.w, .int .i64 X.t, .int .i64 X.k, .slice L l lc, .slice T r tc] 37) := P3.out.below hb4 (by omega)
  have R4 : Hid (Blk w4 (w0.heap.size + 1) #[.string ⟨#[]⟩, .slice none 0 0, .slice none 0 0, .slice none 0 0, .int .i64 0, .int .i64 0, .int .i64 0, .int .i64 0, .slice none 0 0, .slice none 0 0] 37) := R3.out.below hb4 (by omega)
  have sz4 : w3.heap.size ≤ w4.heap.size := hb4.size
  clear T3 V3 C13 C23 B13 B23 P3 R3
  have H4 : Hid (Eng w4 w3.heap.size E X) := hEn.out
  clear hEn
  go_wp2_with fail
  refine (cast_no _ E X rag w4 H4.out HLN.out HF.out.2.1 a1 a2 ca1 ca2 ta1 ta2 hne B14.out B24.out C14.out C24.out HGO.out).mono ?_
  rintro e w5 ⟨⟨a9, rfl⟩, hb5⟩
  have T5 : Hid (Below w0.heap.size w0 w5) := T4.out.trans (hb5.mono (by omega))
  have V5 : Hid (MchV w5 lo hi0 (.agg #[.string s, .slice A n c, .slice A2 m d, .slice M q e0, .int .i64 X.sp, .int .i64 X.w, .int .i64 X.t, .int .i64 X.k, .slice L l lc, .slice T r tc]) X) := V4.out.below (by omega) hb5
  have C15 : Hid (w5.cell? ⟨3, 0, none⟩ = some (.iface 192 (.pointer (some a1)))) := (hb5.cell (World.block_lt_of_cell? _ _ C14.out)).trans C14.out
  have C25 : Hid (w5.cell? ⟨1, 0, none⟩ = some (.iface 192 (.pointer (some a2)))) := (hb5.cell (World.block_lt_of_cell? _ _ C24.out)).trans C24.out
  have B15 : Hid ((w5).heap[a1.block]? = some (.cells ca1 ta1 (0, 0))) := (hb5.block a1.block (by have := (Array.getElem?_eq_some_iff.1 B14.out).1; omega)).trans B14.out
  have B25 : Hid ((w5).heap[a2.block]? = some (.cells ca2 ta2 (0, 0))) := (hb5.block a2.block (by have := (Array.getElem?_eq_some_iff.1 B24.out).1; omega)).trans B24.out
  have P5 : Hid (Blk w5 (w0.heap.size) #[.string s, .slice A n c, .slice A2 m d, .slice M q e0, .int .i64 X.sp, .int .i64 X.w, .int .i64 X.t, .int .i64 X.k, .slice L l lc, .slice T r tc] 37) := P4.out.below hb5 (by omega)
  have R5 : Hid (Blk w5 (w0.heap.size + 1) #[.string ⟨#[]⟩, .slice none 0 0, .slice none 0 0, .slice none 0 0, .int .i64 0, .int .i64 0, .int .i64 0, .int .i64 0, .slice none 0 0, .slice none 0 0] 37) := R4.out.below hb5 (by omega)
  have H5 : Hid (Eng w5 w3.heap.size E X) := Eng.below H4.out hb5
  have sz5 : w4.heap.size ≤ w5.heap.size := hb5.size
  clear T4 V4 C14 C24 B14 B24 P4 R4 H4
  have r0 := cellOfBlk R5.out 0
  have r1 := cellOfBlk R5.out 1
  have r2 := cellOfBlk R5.out 2
  have r3 := cellOfBlk R5.out 3
  have r4 := cellOfBlk R5.out 4
  have r5 := cellOfBlk R5.out 5
  have r6 := cellOfBlk R5.out 6
  have r7 := cellOfBlk R5.out 7
  have r8 := cellOfBlk R5.out 8
  have r9 := cellOfBlk R5.out 9
  have ff := R5.out.warm
  go_wp2
  have hR := R5.out.fill (.string ⟨#[]⟩) (.slice none 0 0) (.slice none 0 0) (.slice none 0 0) (.int .i64 0) (.int .i64 0) (.int .i64 0) (.int .i64 0) (.slice none 0 0) (.slice none 0 0)
  have hc9 := chg_ten w5 (w0.heap.size + 1) (.string ⟨#[]⟩) (.slice none 0 0) (.slice none 0 0) (.slice none 0 0) (.int .i64 0) (.int .i64 0) (.int .i64 0) (.int .i64 0) (.slice none 0 0) (.slice none 0 0)
  obtain ⟨w9, hw9⟩ : ∃ x, ((((((((((w5.setCell ⟨w0.heap.size + 1, 0, none⟩ (.string ⟨#[]⟩)).setCell ⟨w0.heap.size + 1, 1, none⟩ (.slice none 0 0)).setCell ⟨w0.heap.size + 1, 2, none⟩ (.slice none 0 0)).setCell ⟨w0.heap.size + 1, 3, none⟩ (.slice none 0 0)).setCell ⟨w0.heap.size + 1, 4, none⟩ (.int .i64 0)).setCell ⟨w0.heap.size + 1, 5, none⟩ (.int .i64 0)).setCell ⟨w0.heap.size + 1, 6, none⟩ (.int .i64 0)).setCell ⟨w0.heap.size + 1, 7, none⟩ (.int .i64 0)).setCell ⟨w0.heap.size + 1, 8, none⟩ (.slice none 0 0)).setCell ⟨w0.heap.size + 1, 9, none⟩ (.slice none 0 0)) = x := ⟨_, rfl⟩
  rw [hw9] at hR hc9
  (try rw [hw9])
  clear hw9 r0 r1 r2 r3 r4 r5 r6 r7 r8 r9
  have r0 := cellOfBlk hR 0
  have r1 := cellOfBlk hR 1
  have r2 := cellOfBlk hR 2
  have r3 := cellOfBlk hR 3
  have r4 := cellOfBlk hR 4
  have r5 := cellOfBlk hR 5
  have r6 := cellOfBlk hR 6
  have r7 := cellOfBlk hR 7
  have r8 := cellOfBlk hR 8
  have r9 := cellOfBlk hR 9
  (try simp only [Exit.inBlock, Exit.then])
  refine bodyPost_ret (v := .tuple #[.agg #[.string ⟨#[]⟩, .slice none 0 0, .slice none 0 0, .slice none 0 0, .int .i64 0, .int .i64 0, .int .i64 0, .int .i64 0, .slice none 0 0, .slice none 0 0], .string ⟨#[]⟩, .slice none 0 0, .bool false]) (by simp [results, Tryz.results15, go_sem, r0, r1, r2, r3, r4, r5, r6, r7, r8, r9]) rfl ?_
  obtain ⟨z1, z2, z3⟩ := cast_off HOFF.out
  rw [HOFF.out, z1, z2, z3]
  exact ⟨_, _, rfl, ⟨w0.heap.size, zeroX_apart w9 _ _ rfl, by have := hc9.size; omega⟩, own_none _ _, T5.out.trans ((hc9.below (by omega)).mono (by omega))⟩
set_option maxRecDepth 100000 in
set_option maxHeartbeats 6400000 in
theorem implCast_many (lo hi0 : Nat) (v : Value) (X : Mch) (rag : Bool) (w : World) (h : MchV w lo hi0 v X) (hhi : hi0 ≤ w.heap.size) (hs : SmallX X) (wf : WfX X) (hm : machB X = true) (a1 a2 : Addr) (ca1 ca2 : Array Value) (ta1 ta2 : TypeId) (hne : a1 ≠ a2) (hb1 : w.heap[a1.block]? = some (.cells ca1 ta1 (0, 0))) (hb2 : w.heap[a2.block]? = some (.cells ca2 ta2 (0, 0))) (hg1 : w.cell? ⟨3, 0, none⟩ = some (.iface 192 (.pointer (some a1)))) (hg2 : w.cell? ⟨1, 0, none⟩ = some (.iface 192 (.pointer (some a2)))) (ct : TypeId) (cu : Value) (hg3 : w.cell? ⟨4, 0, none⟩ = some (.iface ct cu)) (hglo : 4 < w.heap.size) (hgo : castGo X rag = true) (hcl : clearOk X = false) :
    Calls Tryz.prog 15 #[v, .bool rag] w fun e w' => ∃ v' vp, e = .returned (.tuple #[v', .string (castT X rag), vp, .bool (castOk X rag)]) ∧ (∃ hb, MchA w' w.heap.size hb v' (castX X rag) vp ∧ hb ≤ w'.heap.size) ∧ Own w' w.heap.size vp (castP X rag) ∧ Below w.heap.size w w' := by
  have HOFF : Hid (castOk X rag = false) := by show _ = _; unfold castOk; rw [hcl]; simp
  have HGO := Lib.hid hgo
  clear hgo
  have HF := Lib.hid (mach_facts hm)
  obtain ⟨hmg, -, hwt, -, hln, -, -⟩ := machB_parts hm
  have hlim : ∀ xs ∈ X.ms, xs.length ≤ 20 := fun xs hx => magB_20 hmg xs hx
  have HLIM := Lib.hid hlim; have HLN := Lib.hid hln; have HWT := Lib.hid hwt
  clear hmg hlim hln hwt
  obtain ⟨s, A, n, c, A2, m, d, M, q, e0, L, l, lc, T, r, tc, hv, -⟩ := h.parts
  rw [hv] at h ⊢
  clear hv
  obtain ⟨w0, hw0⟩ : ∃ x, w = x := ⟨_, rfl⟩
  have hww : w.heap.size = w0.heap.size := by rw [hw0]
  have HS := Lib.hid hs; have HWF := Lib.hid wf
  have T0 : Hid (Below w0.heap.size w0 w0) := Below.refl _ _
  have V0 : Hid (MchV w0 lo hi0 (.agg #[.string s, .slice A n c, .slice A2 m d, .slice M q e0, .int .i64 X.sp, .int .i64 X.w, .int .i64 X.t, .int .i64 X.k, .slice L l lc, .slice T r tc]) X) := by rw [← hw0]; exact h
  clear h hs wf
  rw [hw0] at hb1 hb2 hg1 hg2 hhi hg3 hglo
  have C10 : Hid (w0.cell? ⟨3, 0, none⟩ = some (.iface 192 (.pointer (some a1)))) := hg1
  have C20 : Hid (w0.cell? ⟨1, 0, none⟩ = some (.iface 192 (.pointer (some a2)))) := hg2
  have B10 : Hid ((w0).heap[a1.block]? = some (.cells ca1 ta1 (0, 0))) := hb1
  have B20 : Hid ((w0).heap[a2.block]? = some (.cells ca2 ta2 (0, 0))) := hb2
  clear hb1 hb2 hg1 hg2
  have C30 : Hid (w0.cell? ⟨4, 0, none⟩ = some (.iface ct cu)) := hg3
  clear hg3
  obtain ⟨w1, hw1, hb1, hz1, hX1⟩ := mxWorld w0 #[.string s, .slice A n c, .slice A2 m d, .slice M q e0, .int .i64 X.sp, .int .i64 X.w, .int .i64 X.t, .int .i64 X.k, .slice L l lc, .slice T r tc] 37
  have T1 : Hid (Below w0.heap.size w0 w1) := T0.out.trans (hb1.mono (by omega))
  have V1 : Hid (MchV w1 lo hi0 (.agg #[.string s, .slice A n c, .slice A2 m d, .slice M q e0, .int .i64 X.sp, .int .i64 X.w, .int .i64 X.t, .int .i64 X.k, .slice L l lc, .slice T r tc]) X) := V0.out.below (by omega) hb1
  have C11 : Hid (w1.cell? ⟨3, 0, none⟩ = some (.iface 192 (.pointer (some a1)))) := (hb1.cell (World.block_lt_of_cell? _ _ C10.out)).trans C10.out
  have C21 : Hid (w1.cell? ⟨1, 0, none⟩ = some (.iface 192 (.pointer (some a2)))) := (hb1.cell (World.block_lt_of_cell? _ _ C20.out)).trans C20.out
  have B11 : Hid ((w1).heap[a1.block]? = some (.cells ca1 ta1 (0, 0))) := (hb1.block a1.block (by have := (Array.getElem?_eq_some_iff.1 B10.out).1; omega)).trans B10.out
  have B21 : Hid ((w1).heap[a2.block]? = some (.cells ca2 ta2 (0, 0))) := (hb1.block a2.block (by have := (Array.getElem?_eq_some_iff.1 B20.out).1; omega)).trans B20.out
  have C31 : Hid (w1.cell? ⟨4, 0, none⟩ = some (.iface ct cu)) := (hb1.cell (World.block_lt_of_cell? _ _ C30.out)).trans C30.out
  have sz1 : w0.heap.size ≤ w1.heap.size := hb1.size
  clear T0 V0 C10 C20 B10 B20 C30
  have P1 : Hid (Blk w1 (w0.heap.size) #[.string s, .slice A n c, .slice A2 m d, .slice M q e0, .int .i64 X.sp, .int .i64 X.w, .int .i64 X.t, .int .i64 X.k, .slice L l lc, .slice T r tc] 37) := by show Blk _ _ _ _; exact hX1
  obtain ⟨w2, hw2, hb2, hz2, hX2⟩ := mxWorld w1 #[.string ⟨#[]⟩, .slice none 0 0, .slice none 0 0, .slice none 0 0, .int .i64 0, .int .i64 0, .int .i64 0, .int .i64 0, .slice none 0 0, .slice none 0 0] 37
  have T2 : Hid (Below w0.heap.size w0 w2) := T1.out.trans (hb2.mono (by omega))
  have V2 : Hid (MchV w2 lo hi0 (.agg #[.string s, .slice A n c, .slice A2 m d, .slice M q e0, .int .i64 X.sp, .int .i64 X.w, .int .i64 X.t, .int .i64 X.k, .slice L l lc, .slice T r tc]) X) := V1.out.below (by omega) hb2
  have C12 : Hid (w2.cell? ⟨3, 0, none⟩ = some (.iface 192 (.pointer (some a1)))) := (hb2.cell (World.block_lt_of_cell? _ _ C11.out)).trans C11.out
  have C22 : Hid (w2.cell? ⟨1, 0, none⟩ = some (.iface 192 (.pointer (some a2)))) := (hb2.cell (World.block_lt_of_cell? _ _ C21.out)).trans C21.out
  have B12 : Hid ((w2).heap[a1.block]? = some (.cells ca1 ta1 (0, 0))) := (hb2.block a1.block (by have := (Array.getElem?_eq_some_iff.1 B11.out).1; omega)).trans B11.out
  have B22 : Hid ((w2).heap[a2.block]? = some (.cells ca2 ta2 (0, 0))) := (hb2.block a2.block (by have := (Array.getElem?_eq_some_iff.1 B21.out).1; omega)).trans B21.out
  have C32 : Hid (w2.cell? ⟨4, 0, none⟩ = some (.iface ct cu)) := (hb2.cell (World.block_lt_of_cell? _ _ C31.out)).trans C31.out
  have P2 : Hid (Blk w2 (w0.heap.size) #[.string s, .slice A n c, .slice A2 m d, .slice M q e0, .int .i64 X.sp, .int .i64 X.w, .int .i64 X.t, .int .i64 X.k, .slice L l lc, .slice T r tc] 37) := P1.out.below hb2 (by omega)
  have sz2 : w1.heap.size ≤ w2.heap.size := hb2.size
  clear T1 V1 C11 C21 B11 B21 C31 P1
  have R2 : Hid (Blk w2 (w0.heap.size + 1) #[.string ⟨#[]⟩, .slice none 0 0, .slice none 0 0, .slice none 0 0, .int .i64 0, .int .i64 0, .int .i64 0, .int .i64 0, .slice none 0 0, .slice none 0 0] 37) := by show Blk _ _ _ _; rw [← hz1]; exact hX2
  rw [hz1] at hz2
  have p0 := cellOfBlk P2.out 0
  have p1 := cellOfBlk P2.out 1
  have p2 := cellOfBlk P2.out 2
  have p3 := cellOfBlk P2.out 3
  have p4 := cellOfBlk P2.out 4
  have p5 := cellOfBlk P2.out 5
  have p6 := cellOfBlk P2.out 6
  have p7 := cellOfBlk P2.out 7
  have p8 := cellOfBlk P2.out 8
  have p9 := cellOfBlk P2.out 9
  rw [hw0]
  go_enter Tryz.func15, Tryz.ntmps15
  go_wp2_with fail
  clear p0 p1 p2 p3 p4 p5 p6 p7 p8 p9
  refine (implMachine_any lo hi0 _ X w2 V2.out (by omega) HS.out HWF.out).mono ?_
  rintro e w3 ⟨rfl, hb3⟩
  have T3 : Hid (Below w0.heap.size w0 w3) := T2.out.trans (hb3.mono (by omega))
  have V3 : Hid (MchV w3 lo hi0 (.agg #[.string s, .slice A n c, .slice A2 m d, .slice M q e0, .int .i64 X.sp, .int .i64 X.w, .int .i64 X.t, .int .i64 X.k, .slice L l lc, .slice T r tc]) X) := V2.out.below (by omega) hb3
  have C13 : Hid (w3.cell? ⟨3, 0, none⟩ = some (.iface 192 (.pointer (some a1)))) := (hb3.cell (World.block_lt_of_cell? _ _ C12.out)).trans C12.out
  have C23 : Hid (w3.cell? ⟨1, 0, none⟩ = some (.iface 192 (.pointer (some a2)))) := (hb3.cell (World.block_lt_of_cell? _ _ C22.out)).trans C22.out
  have B13 : Hid ((w3).heap[a1.block]? = some (.cells ca1 ta1 (0, 0))) := (hb3.block a1.block (by have := (Array.getElem?_eq_some_iff.1 B12.out).1; omega)).trans B12.out
  have B23 : Hid ((w3).heap[a2.block]? = some (.cells ca2 ta2 (0, 0))) := (hb3.block a2.block (by have := (Array.getElem?_eq_some_iff.1 B22.out).1; omega)).trans B22.out
  have C33 : Hid (w3.cell? ⟨4, 0, none⟩ = some (.iface ct cu)) := (hb3.cell (World.block_lt_of_cell? _ _ C32.out)).trans C32.out
  have P3 : Hid (Blk w3 (w0.heap.size) #[.string s, .slice A n c, .slice A2 m d, .slice M q e0, .int .i64 X.sp, .int .i64 X.w, .int .i64 X.t, .int .i64 X.k, .slice L l lc, .slice T r tc] 37) := P2.out.below hb3 (by omega)
  have R3 : Hid (Blk w3 (w0.heap.size + 1) #[.string ⟨#[]⟩, .slice none 0 0, .slice none 0 0, .slice none 0 0, .int .i64 0, .int .i64 0, .int .i64 0, .int .i64 0, .slice none 0 0, .slice none 0 0] 37) := R2.out.below hb3 (by omega)
  have sz3 : w2.heap.size ≤ w3.heap.size := hb3.size
  clear T2 V2 C12 C22 B12 B22 C32 P2 R2
  rw [hm]
  have p0 := cellOfBlk P3.out 0
  have p1 := cellOfBlk P3.out 1
  have p2 := cellOfBlk P3.out 2
  have p3 := cellOfBlk P3.out 3
  have p4 := cellOfBlk P3.out 4
  have p5 := cellOfBlk P3.out 5
  have p6 := cellOfBlk P3.out 6
  have p7 := cellOfBlk P3.out 7
  have p8 := cellOfBlk P3.out 8
  have p9 := cellOfBlk P3.out 9
  go_wp2_with fail
  clear p0 p1 p2 p3 p4 p5 p6 p7 p8 p9
  refine (start_any lo hi0 _ X w3 V3.out (by omega) HS.out HLIM.out HF.out.1).mono ?_
  rintro e w4 ⟨E, vm, Bc, dc, B, hi, hs, km, b0, b1, rfl, hEO, hb4⟩
  have hEn := Lib.hid hEO.parts
  clear hEO
  have T4 : Hid (Below w0.heap.size w0 w4) := T3.out.trans (hb4.mono (by omega))
  have V4 : Hid (MchV w4 lo hi0 (.agg #[.string s, .slice A n c, .slice A2 m d, .slice M q e0, .int .i64 X.sp, .int .i64 X.w, .int .i64 X.t, .int .i64 X.k, .slice L l lc, .slice T r tc]) X) := V3.out.below (by omega) hb4
  have C14 : Hid (w4.cell? ⟨3, 0, none⟩ = some (.iface 192 (.pointer (some a1)))) := (hb4.cell (World.block_lt_of_cell? _ _ C13.out)).trans C13.out
  have C24 : Hid (w4.cell? ⟨1, 0, none⟩ = some (.iface 192 (.pointer (some a2)))) := (hb4.cell (World.block_lt_of_cell? _ _ C23.out)).trans C23.out
  have B14 : Hid ((w4).heap[a1.block]? = some (.cells ca1 ta1 (0, 0))) := (hb4.block a1.block (by have := (Array.getElem?_eq_some_iff.1 B13.out).1; omega)).trans B13.out
  have B24 : Hid ((w4).heap[a2.block]? = some (.cells ca2 ta2 (0, 0))) := (hb4.block a2.block (by have := (Array.getElem?_eq_some_iff.1 B23.out).1; omega)).trans B23.out
  have C34 : Hid (w4.cell? ⟨4, 0, none⟩ = some (.iface ct cu)) := (hb4.cell (World.block_lt_of_cell? _ _ C33.out)).trans C33.out
  have P4 : Hid (Blk w4 (w0.heap.size) #[.string s, .slice A n c, .slice A2 m d, .slice M q e0, .int .i64 X.sp, .int .i64 X.w, .int .i64 X.t, .int .i64 X.k, .slice L l lc, .slice T r tc] 37) := P3.out.below hb4 (by omega)
  have R4 : Hid (Blk w4 (w0.heap.size + 1) #[.string ⟨#[]⟩, .slice none 0 0, .slice none 0 0, .slice none 0 0, .int .i64 0, .int .i64 0, .int .i64 0, .int .i64 0, .slice none 0 0, .slice none 0 0] 37) := R3.out.below hb4 (by omega)
  have sz4 : w3.heap.size ≤ w4.heap.size := hb4.size
  clear T3 V3 C13 C23 B13 B23 C33 P3 R3
  have H4 : Hid (Eng w4 w3.heap.size E X) := hEn.out
  clear hEn
  go_wp2_with fail
  refine (cast_go _ E X rag w4 H4.out HLN.out HF.out.2.1 a1 a2 ca1 ca2 ta1 ta2 hne B14.out B24.out C14.out C24.out HWT.out HF.out.2.2.2.1 HF.out.2.2.2.2 HF.out.2.2.1 ct cu C34.out (by omega) HGO.out).mono ?_
  rintro e w5 ⟨vp, rfl, hO, hEA, hbe⟩
  rw [clearE_no hcl]
  have hb5 := hbe.mono (show w0.heap.size + 2 ≤ w3.heap.size by omega)
  clear hO hEA hbe
  clear H4 V4
  clear C14 C24 C34 B14 B24
  have T5 : Hid (Below w0.heap.size w0 w5) := T4.out.trans (hb5.mono (by omega))
  have P5 : Hid (Blk w5 (w0.heap.size) #[.string s, .slice A n c, .slice A2 m d, .slice M q e0, .int .i64 X.sp, .int .i64 X.w, .int .i64 X.t, .int .i64 X.k, .slice L l lc, .slice T r tc] 37) := P4.out.below hb5 (by omega)
  have R5 : Hid (Blk w5 (w0.heap.size + 1) #[.string ⟨#[]⟩, .slice none 0 0, .slice none 0 0, .slice none 0 0, .int .i64 0, .int .i64 0, .int .i64 0, .int .i64 0, .slice none 0 0, .slice none 0 0] 37) := R4.out.below hb5 (by omega)
  have sz5 : w4.heap.size ≤ w5.heap.size := hb5.size
  clear T4 P4 R4
  have r0 := cellOfBlk R5.out 0
  have r1 := cellOfBlk R5.out 1
  have r2 := cellOfBlk R5.out 2
  have r3 := cellOfBlk R5.out 3
  have r4 := cellOfBlk R5.out 4
  have r5 := cellOfBlk R5.out 5
  have r6 := cellOfBlk R5.out 6
  have r7 := cellOfBlk R5.out 7
  have r8 := cellOfBlk R5.out 8
  have r9 := cellOfBlk R5.out 9
  have ff := R5.out.warm
  go_wp2
  have hR := R5.out.fill (.string ⟨#[]⟩) (.slice none 0 0) (.slice none 0 0) (.slice none 0 0) (.int .i64 0) (.int .i64 0) (.int .i64 0) (.int .i64 0) (.slice none 0 0) (.slice none 0 0)
  have hc9 := chg_ten w5 (w0.heap.size + 1) (.string ⟨#[]⟩) (.slice none 0 0) (.slice none 0 0) (.slice none 0 0) (.int .i64 0) (.int .i64 0) (.int .i64 0) (.int .i64 0) (.slice none 0 0) (.slice none 0 0)
  obtain ⟨w9, hw9⟩ : ∃ x, ((((((((((w5.setCell ⟨w0.heap.size + 1, 0, none⟩ (.string ⟨#[]⟩)).setCell ⟨w0.heap.size + 1, 1, none⟩ (.slice none 0 0)).setCell ⟨w0.heap.size + 1, 2, none⟩ (.slice none 0 0)).setCell ⟨w0.heap.size + 1, 3, none⟩ (.slice none 0 0)).setCell ⟨w0.heap.size + 1, 4, none⟩ (.int .i64 0)).setCell ⟨w0.heap.size + 1, 5, none⟩ (.int .i64 0)).setCell ⟨w0.heap.size + 1, 6, none⟩ (.int .i64 0)).setCell ⟨w0.heap.size + 1, 7, none⟩ (.int .i64 0)).setCell ⟨w0.heap.size + 1, 8, none⟩ (.slice none 0 0)).setCell ⟨w0.heap.size + 1, 9, none⟩ (.slice none 0 0)) = x := ⟨_, rfl⟩
  rw [hw9] at hR hc9
  (try rw [hw9])
  clear hw9 r0 r1 r2 r3 r4 r5 r6 r7 r8 r9
  have r0 := cellOfBlk hR 0
  have r1 := cellOfBlk hR 1
  have r2 := cellOfBlk hR 2
  have r3 := cellOfBlk hR 3
  have r4 := cellOfBlk hR 4
  have r5 := cellOfBlk hR 5
  have r6 := cellOfBlk hR 6
  have r7 := cellOfBlk hR 7
  have r8 := cellOfBlk hR 8
  have r9 := cellOfBlk hR 9
  (try simp only [Exit.inBlock, Exit.then])
  refine bodyPost_ret (v := .tuple #[.agg #[.string ⟨#[]⟩, .slice none 0 0, .slice none 0 0, .slice none 0 0, .int .i64 0, .int .i64 0, .int .i64 0, .int .i64 0, .slice none 0 0, .slice none 0 0], .string ⟨#[]⟩, .slice none 0 0, .bool false]) (by simp [results, Tryz.results15, go_sem, r0, r1, r2, r3, r4, r5, r6, r7, r8, r9]) rfl ?_
  obtain ⟨z1, z2, z3⟩ := cast_off HOFF.out
  rw [HOFF.out, z1, z2, z3]
  exact ⟨_, _, rfl, ⟨w0.heap.size, zeroX_apart w9 _ _ rfl, by have := hc9.size; omega⟩, own_none _ _, T5.out.trans ((hc9.below (by omega)).mono (by omega))⟩
set_option maxRecDepth 100000 in
set_option maxHeartbeats 6400000 in
theorem implCast_yes (lo hi0 : Nat) (v : Value) (X : Mch) (rag : Bool) (w : World) (h : MchV w lo hi0 v X) (hhi : hi0 ≤ w.heap.size) (hs : SmallX X) (wf : WfX X) (hm : machB X = true) (a1 a2 : Addr) (ca1 ca2 : Array Value) (ta1 ta2 : TypeId) (hne : a1 ≠ a2) (hb1 : w.heap[a1.block]? = some (.cells ca1 ta1 (0, 0))) (hb2 : w.heap[a2.block]? = some (.cells ca2 ta2 (0, 0))) (hg1 : w.cell? ⟨3, 0, none⟩ = some (.iface 192 (.pointer (some a1)))) (hg2 : w.cell? ⟨1, 0, none⟩ = some (.iface 192 (.pointer (some a2)))) (ct : TypeId) (cu : Value) (hg3 : w.cell? ⟨4, 0, none⟩ = some (.iface ct cu)) (hglo : 4 < w.heap.size) (hgo : castGo X rag = true) (hcl : clearOk X = true) :
    Calls Tryz.prog 15 #[v, .bool rag] w fun e w' => ∃ v' vp, e = .returned (.tuple #[v', .string (castT X rag), vp, .bool (castOk X rag)]) ∧ (∃ hb, MchA w' w.heap.size hb v' (castX X rag) vp ∧ hb ≤ w'.heap.size) ∧ Own w' w.heap.size vp (castP X rag) ∧ Below w.heap.size w w' := by
  have HON : Hid (castOk X rag = true) := by show _ = _; unfold castOk; rw [hm, hgo, hcl]; rfl
  have HGO := Lib.hid hgo
  clear hgo
  have HF := Lib.hid (mach_facts hm)
  obtain ⟨hmg, -, hwt, -, hln, -, -⟩ := machB_parts hm
  have hlim : ∀ xs ∈ X.ms, xs.length ≤ 20 := fun xs hx => magB_20 hmg xs hx
  have HLIM := Lib.hid hlim; have HLN := Lib.hid hln; have HWT := Lib.hid hwt
  clear hmg hlim hln hwt
  obtain ⟨s, A, n, c, A2, m, d, M, q, e0, L, l, lc, T, r, tc, hv, -⟩ := h.parts
  rw [hv] at h ⊢
  clear hv
  obtain ⟨w0, hw0⟩ : ∃ x, w = x := ⟨_, rfl⟩
  have hww : w.heap.size = w0.heap.size := by rw [hw0]
  have HS := Lib.hid hs; have HWF := Lib.hid wf
  have T0 : Hid (Below w0.heap.size w0 w0) := Below.refl _ _
  have V0 : Hid (MchV w0 lo hi0 (.agg #[.string s, .slice A n c, .slice A2 m d, .slice M q e0, .int .i64 X.sp, .int .i64 X.w, .int .i64 X.t, .int .i64 X.k, .slice L l lc, .slice T r tc]) X) := by rw [← hw0]; exact h
  clear h hs wf
  rw [hw0] at hb1 hb2 hg1 hg2 hhi hg3 hglo
  have C10 : Hid (w0.cell? ⟨3, 0, none⟩ = some (.iface 192 (.pointer (some a1)))) := hg1
  have C20 : Hid (w0.cell? ⟨1, 0, none⟩ = some (.iface 192 (.pointer (some a2)))) := hg2
  have B10 : Hid ((w0).heap[a1.block]? = some (.cells ca1 ta1 (0, 0))) := hb1
  have B20 : Hid ((w0).heap[a2.block]? = some (.cells ca2 ta2 (0, 0))) := hb2
  clear hb1 hb2 hg1 hg2
  have C30 : Hid (w0.cell? ⟨4, 0, none⟩ = some (.iface ct cu)) := hg3
  clear hg3
  obtain ⟨w1, hw1, hb1, hz1, hX1⟩ := mxWorld w0 #[.string s, .slice A n c, .slice A2 m d, .slice M q e0, .int .i64 X.sp, .int .i64 X.w, .int .i64 X.t, .int .i64 X.k, .slice L l lc, .slice T r tc] 37
  have T1 : Hid (Below w0.heap.size w0 w1) := T0.out.trans (hb1.mono (by omega))
  have V1 : Hid (MchV w1 lo hi0 (.agg #[.string s, .slice A n c, .slice A2 m d, .slice M q e0, .int .i64 X.sp, .int .i64 X.w, .int .i64 X.t, .int .i64 X.k, .slice L l lc, .slice T r tc]) X) := V0.out.below (by omega) hb1
  have C11 : Hid (w1.cell? ⟨3, 0, none⟩ = some (.iface 192 (.pointer (some a1)))) := (hb1.cell (World.block_lt_of_cell? _ _ C10.out)).trans C10.out
  have C21 : Hid (w1.cell? ⟨1, 0, none⟩ = some (.iface 192 (.pointer (some a2)))) := (hb1.cell (World.block_lt_of_cell? _ _ C20.out)).trans C20.out
  have B11 : Hid ((w1).heap[a1.block]? = some (.cells ca1 ta1 (0, 0))) := (hb1.block a1.block (by have := (Array.getElem?_eq_some_iff.1 B10.out).1; omega)).trans B10.out
  have B21 : Hid ((w1).heap[a2.block]? = some (.cells ca2 ta2 (0, 0))) := (hb1.block a2.block (by have := (Array.getElem?_eq_some_iff.1 B20.out).1; omega)).trans B20.out
  have C31 : Hid (w1.cell? ⟨4, 0, none⟩ = some (.iface ct cu)) := (hb1.cell (World.block_lt_of_cell? _ _ C30.out)).trans C30.out
  have sz1 : w0.heap.size ≤ w1.heap.size := hb1.size
  clear T0 V0 C10 C20 B10 B20 C30
  have P1 : Hid (Blk w1 (w0.heap.size) #[.string s, .slice A n c, .slice A2 m d, .slice M q e0, .int .i64 X.sp, .int .i64 X.w, .int .i64 X.t, .int .i64 X.k, .slice L l lc, .slice T r tc] 37) := by show Blk _ _ _ _; exact hX1
  obtain ⟨w2, hw2, hb2, hz2, hX2⟩ := mxWorld w1 #[.string ⟨#[]⟩, .slice none 0 0, .slice none 0 0, .slice none 0 0, .int .i64 0, .int .i64 0, .int .i64 0, .int .i64 0, .slice none 0 0, .slice none 0 0] 37
  have T2 : Hid (Below w0.heap.size w0 w2) := T1.out.trans (hb2.mono (by omega))
  have V2 : Hid (MchV w2 lo hi0 (.agg #[.string s, .slice A n c, .slice A2 m d, .slice M q e0, .int .i64 X.sp, .int .i64 X.w, .int .i64 X.t, .int .i64 X.k, .slice L l lc, .slice T r tc]) X) := V1.out.below (by omega) hb2
  have C12 : Hid (w2.cell? ⟨3, 0, none⟩ = some (.iface 192 (.pointer (some a1)))) := (hb2.cell (World.block_lt_of_cell? _ _ C11.out)).trans C11.out
  have C22 : Hid (w2.cell? ⟨1, 0, none⟩ = some (.iface 192 (.pointer (some a2)))) := (hb2.cell (World.block_lt_of_cell? _ _ C21.out)).trans C21.out
  have B12 : Hid ((w2).heap[a1.block]? = some (.cells ca1 ta1 (0, 0))) := (hb2.block a1.block (by have := (Array.getElem?_eq_some_iff.1 B11.out).1; omega)).trans B11.out
  have B22 : Hid ((w2).heap[a2.block]? = some (.cells ca2 ta2 (0, 0))) := (hb2.block a2.block (by have := (Array.getElem?_eq_some_iff.1 B21.out).1; omega)).trans B21.out
  have C32 : Hid (w2.cell? ⟨4, 0, none⟩ = some (.iface ct cu)) := (hb2.cell (World.block_lt_of_cell? _ _ C31.out)).trans C31.out
  have P2 : Hid (Blk w2 (w0.heap.size) #[.string s, .slice A n c, .slice A2 m d, .slice M q e0, .int .i64 X.sp, .int .i64 X.w, .int .i64 X.t, .int .i64 X.k, .slice L l lc, .slice T r tc] 37) := P1.out.below hb2 (by omega)
  have sz2 : w1.heap.size ≤ w2.heap.size := hb2.size
  clear T1 V1 C11 C21 B11 B21 C31 P1
  have R2 : Hid (Blk w2 (w0.heap.size + 1) #[.string ⟨#[]⟩, .slice none 0 0, .slice none 0 0, .slice none 0 0, .int .i64 0, .int .i64 0, .int .i64 0, .int .i64 0, .slice none 0 0, .slice none 0 0] 37) := by show Blk _ _ _ _; rw [← hz1]; exact hX2
  rw [hz1] at hz2
  have p0 := cellOfBlk P2.out 0
  have p1 := cellOfBlk P2.out 1
  have p2 := cellOfBlk P2.out 2
  have p3 := cellOfBlk P2.out 3
  have p4 := cellOfBlk P2.out 4
  have p5 := cellOfBlk P2.out 5
  have p6 := cellOfBlk P2.out 6
  have p7 := cellOfBlk P2.out 7
  have p8 := cellOfBlk P2.out 8
  have p9 := cellOfBlk P2.out 9
  rw [hw0]
  go_enter Tryz.func15, Tryz.ntmps15
  go_wp2_with fail
  clear p0 p1 p2 p3 p4 p5 p6 p7 p8 p9
  refine (implMachine_any lo hi0 _ X w2 V2.out (by omega) HS.out HWF.out).mono ?_
  rintro e w3 ⟨rfl, hb3⟩
  have T3 : Hid (Below w0.heap.size w0 w3) := T2.out.trans (hb3.mono (by omega))
  have V3 : Hid (MchV w3 lo hi0 (.agg #[.string s, .slice A n c, .slice A2 m d, .slice M q e0, .int .i64 X.sp, .int .i64 X.w, .int .i64 X.t, .int .i64 X.k, .slice L l lc, .slice T r tc]) X) := V2.out.below (by omega) hb3
  have C13 : Hid (w3.cell? ⟨3, 0, none⟩ = some (.iface 192 (.pointer (some a1)))) := (hb3.cell (World.block_lt_of_cell? _ _ C12.out)).trans C12.out
  have C23 : Hid (w3.cell? ⟨1, 0, none⟩ = some (.iface 192 (.pointer (some a2)))) := (hb3.cell (World.block_lt_of_cell? _ _ C22.out)).trans C22.out
  have B13 : Hid ((w3).heap[a1.block]? = some (.cells ca1 ta1 (0, 0))) := (hb3.block a1.block (by have := (Array.getElem?_eq_some_iff.1 B12.out).1; omega)).trans B12.out
  have B23 : Hid ((w3).heap[a2.block]? = some (.cells ca2 ta2 (0, 0))) := (hb3.block a2.block (by have := (Array.getElem?_eq_some_iff.1 B22.out).1; omega)).trans B22.out
  have C33 : Hid (w3.cell? ⟨4, 0, none⟩ = some (.iface ct cu)) := (hb3.cell (World.block_lt_of_cell? _ _ C32.out)).trans C32.out
  have P3 : Hid (Blk w3 (w0.heap.size) #[.string s, .slice A n c, .slice A2 m d, .slice M q e0, .int .i64 X.sp, .int .i64 X.w, .int .i64 X.t, .int .i64 X.k, .slice L l lc, .slice T r tc] 37) := P2.out.below hb3 (by omega)
  have R3 : Hid (Blk w3 (w0.heap.size + 1) #[.string ⟨#[]⟩, .slice none 0 0, .slice none 0 0, .slice none 0 0, .int .i64 0, .int .i64 0, .int .i64 0, .int .i64 0, .slice none 0 0, .slice none 0 0] 37) := R2.out.below hb3 (by omega)
  have sz3 : w2.heap.size ≤ w3.heap.size := hb3.size
  clear T2 V2 C12 C22 B12 B22 C32 P2 R2
  rw [hm]
  have p0 := cellOfBlk P3.out 0
  have p1 := cellOfBlk P3.out 1
  have p2 := cellOfBlk P3.out 2
  have p3 := cellOfBlk P3.out 3
  have p4 := cellOfBlk P3.out 4
  have p5 := cellOfBlk P3.out 5
  have p6 := cellOfBlk P3.out 6
  have p7 := cellOfBlk P3.out 7
  have p8 := cellOfBlk P3.out 8
  have p9 := cellOfBlk P3.out 9
  go_wp2_with fail
  clear p0 p1 p2 p3 p4 p5 p6 p7 p8 p9
  refine (start_any lo hi0 _ X w3 V3.out (by omega) HS.out HLIM.out HF.out.1).mono ?_
  rintro e w4 ⟨E, vm, Bc, dc, B, hi, hs, km, b0, b1, rfl, hEO, hb4⟩
  have hEn := Lib.hid hEO.parts
  clear hEO
  have T4 : Hid (Below w0.heap.size w0 w4) := T3.out.trans (hb4.mono (by omega))
  have V4 : Hid (MchV w4 lo hi0 (.agg #[.string s, .slice A n c, .slice A2 m d, .slice M q e0, .int .i64 X.sp, .int .i64 X.w, .int .i64 X.t, .int .i64 X.k, .slice L l lc, .slice T r tc]) X) := V3.out.below (by omega) hb4
  have C14 : Hid (w4.cell? ⟨3, 0, none⟩ = some (.iface 192 (.pointer (some a1)))) := (hb4.cell (World.block_lt_of_cell? _ _ C13.out)).trans C13.out
  have C24 : Hid (w4.cell? ⟨1, 0, none⟩ = some (.iface 192 (.pointer (some a2)))) := (hb4.cell (World.block_lt_of_cell? _ _ C23.out)).trans C23.out
  have B14 : Hid ((w4).heap[a1.block]? = some (.cells ca1 ta1 (0, 0))) := (hb4.block a1.block (by have := (Array.getElem?_eq_some_iff.1 B13.out).1; omega)).trans B13.out
  have B24 : Hid ((w4).heap[a2.block]? = some (.cells ca2 ta2 (0, 0))) := (hb4.block a2.block (by have := (Array.getElem?_eq_some_iff.1 B23.out).1; omega)).trans B23.out
  have C34 : Hid (w4.cell? ⟨4, 0, none⟩ = some (.iface ct cu)) := (hb4.cell (World.block_lt_of_cell? _ _ C33.out)).trans C33.out
  have P4 : Hid (Blk w4 (w0.heap.size) #[.string s, .slice A n c, .slice A2 m d, .slice M q e0, .int .i64 X.sp, .int .i64 X.w, .int .i64 X.t, .int .i64 X.k, .slice L l lc, .slice T r tc] 37) := P3.out.below hb4 (by omega)
  have R4 : Hid (Blk w4 (w0.heap.size + 1) #[.string ⟨#[]⟩, .slice none 0 0, .slice none 0 0, .slice none 0 0, .int .i64 0, .int .i64 0, .int .i64 0, .int .i64 0, .slice none 0 0, .slice none 0 0] 37) := R3.out.below hb4 (by omega)
  have sz4 : w3.heap.size ≤ w4.heap.size := hb4.size
  clear T3 V3 C13 C23 B13 B23 C33 P3 R3
  have H4 : Hid (Eng w4 w3.heap.size E X) := hEn.out
  clear hEn
  go_wp2_with fail
  refine (cast_go _ E X rag w4 H4.out HLN.out HF.out.2.1 a1 a2 ca1 ca2 ta1 ta2 hne B14.out B24.out C14.out C24.out HWT.out HF.out.2.2.2.1 HF.out.2.2.2.2 HF.out.2.2.1 ct cu C34.out (by omega) HGO.out).mono ?_
  rintro e w5 ⟨vp, rfl, hO, hEA, hbe⟩
  rw [clearE_yes hcl]
  have hb5 := hbe.mono (show w0.heap.size + 2 ≤ w3.heap.size by omega)
  clear H4 V4 C14 C24 C34 B14 B24
  have T5 : Hid (Below w0.heap.size w0 w5) := T4.out.trans (hb5.mono (by omega))
  have P5 : Hid (Blk w5 (w0.heap.size) #[.string s, .slice A n c, .slice A2 m d, .slice M q e0, .int .i64 X.sp, .int .i64 X.w, .int .i64 X.t, .int .i64 X.k, .slice L l lc, .slice T r tc] 37) := P4.out.below hb5 (by omega)
  have R5 : Hid (Blk w5 (w0.heap.size + 1) #[.string ⟨#[]⟩, .slice none 0 0, .slice none 0 0, .slice none 0 0, .int .i64 0, .int .i64 0, .int .i64 0, .int .i64 0, .slice none 0 0, .slice none 0 0] 37) := R4.out.below hb5 (by omega)
  have sz5 : w4.heap.size ≤ w5.heap.size := hb5.size
  clear T4 P4 R4
  have HO := Lib.hid hO; have HEA := Lib.hid hEA
  have HM2 : Hid ((clearX X).ms.length ≤ 1048576) := by show _ ≤ _; exact HS.out.ms
  have HL2 : Hid (∀ xs ∈ (clearX X).ms, xs.length ≤ 20) := HLIM.out
  have hvw : ∀ g, vp.ownBlock = some g → g < w5.heap.size := fun g hg => (World.ownsRow.lt hO g hg).2
  have hlow : ∀ g, vp.ownBlock = some g → w4.heap.size ≤ g := fun g hg => (World.ownsRow.lt hO g hg).1
  have HVW := Lib.hid hvw; have HLOW := Lib.hid hlow
  clear hO hEA hvw hlow
  obtain ⟨Y, hY⟩ : ∃ Y, clearX X = Y := ⟨_, rfl⟩
  have HY := Lib.hid hY
  rw [hY] at HEA HM2 HL2
  clear hY
  go_wp2_with fail
  refine (stopA_any _ E Y vp w5 HEA.out HVW.out HM2.out HL2.out).mono ?_
  rintro e w6 ⟨v9, rfl, hA9, hbs, hkeep⟩
  have hb6 := hbs.mono (show w0.heap.size + 2 ≤ w3.heap.size by omega)
  clear HEA
  have T6 : Hid (Below w0.heap.size w0 w6) := T5.out.trans (hb6.mono (by omega))
  have P6 : Hid (Blk w6 (w0.heap.size) #[.string s, .slice A n c, .slice A2 m d, .slice M q e0, .int .i64 X.sp, .int .i64 X.w, .int .i64 X.t, .int .i64 X.k, .slice L l lc, .slice T r tc] 37) := P5.out.below hb6 (by omega)
  have R6 : Hid (Blk w6 (w0.heap.size + 1) #[.string ⟨#[]⟩, .slice none 0 0, .slice none 0 0, .slice none 0 0, .int .i64 0, .int .i64 0, .int .i64 0, .int .i64 0, .slice none 0 0, .slice none 0 0] 37) := R5.out.below hb6 (by omega)
  have sz6 : w5.heap.size ≤ w6.heap.size := hb6.size
  clear T5 P5 R5
  obtain ⟨A9, c9, A29, d9, M9, e9, L9, lc9, T9, tc9, rfl⟩ := hA9.words
  have HA := Lib.hid hA9
  have HO2 := Lib.hid (row_keepB HO.out hkeep)
  clear hA9 hkeep HO
  have r0 := cellOfBlk R6.out 0
  have r1 := cellOfBlk R6.out 1
  have r2 := cellOfBlk R6.out 2
  have r3 := cellOfBlk R6.out 3
  have r4 := cellOfBlk R6.out 4
  have r5 := cellOfBlk R6.out 5
  have r6 := cellOfBlk R6.out 6
  have r7 := cellOfBlk R6.out 7
  have r8 := cellOfBlk R6.out 8
  have r9 := cellOfBlk R6.out 9
  have ff := R6.out.warm
  go_wp2
  have hR := R6.out.fill (.string Y.f.s) (.slice A9 Y.f.ws.length c9) (.slice A29 Y.f.cs.length d9) (.slice M9 Y.ms.length e9) (.int .i64 Y.sp) (.int .i64 Y.w) (.int .i64 Y.t) (.int .i64 Y.k) (.slice L9 Y.ln.length lc9) (.slice T9 Y.wt.length tc9)
  have hc9 := chg_ten w6 (w0.heap.size + 1) (.string Y.f.s) (.slice A9 Y.f.ws.length c9) (.slice A29 Y.f.cs.length d9) (.slice M9 Y.ms.length e9) (.int .i64 Y.sp) (.int .i64 Y.w) (.int .i64 Y.t) (.int .i64 Y.k) (.slice L9 Y.ln.length lc9) (.slice T9 Y.wt.length tc9)
  obtain ⟨w99, hw9⟩ : ∃ x, ((((((((((w6.setCell ⟨w0.heap.size + 1, 0, none⟩ (.string Y.f.s)).setCell ⟨w0.heap.size + 1, 1, none⟩ (.slice A9 Y.f.ws.length c9)).setCell ⟨w0.heap.size + 1, 2, none⟩ (.slice A29 Y.f.cs.length d9)).setCell ⟨w0.heap.size + 1, 3, none⟩ (.slice M9 Y.ms.length e9)).setCell ⟨w0.heap.size + 1, 4, none⟩ (.int .i64 Y.sp)).setCell ⟨w0.heap.size + 1, 5, none⟩ (.int .i64 Y.w)).setCell ⟨w0.heap.size + 1, 6, none⟩ (.int .i64 Y.t)).setCell ⟨w0.heap.size + 1, 7, none⟩ (.int .i64 Y.k)).setCell ⟨w0.heap.size + 1, 8, none⟩ (.slice L9 Y.ln.length lc9)).setCell ⟨w0.heap.size + 1, 9, none⟩ (.slice T9 Y.wt.length tc9)) = x := ⟨_, rfl⟩
  rw [hw9] at hR hc9
  (try rw [hw9])
  clear hw9 r0 r1 r2 r3 r4 r5 r6 r7 r8 r9
  have r0 := cellOfBlk hR 0
  have r1 := cellOfBlk hR 1
  have r2 := cellOfBlk hR 2
  have r3 := cellOfBlk hR 3
  have r4 := cellOfBlk hR 4
  have r5 := cellOfBlk hR 5
  have r6 := cellOfBlk hR 6
  have r7 := cellOfBlk hR 7
  have r8 := cellOfBlk hR 8
  have r9 := cellOfBlk hR 9
  (try simp only [Exit.inBlock, Exit.then])
  refine bodyPost_ret (v := .tuple #[.agg #[.string Y.f.s, .slice A9 Y.f.ws.length c9, .slice A29 Y.f.cs.length d9, .slice M9 Y.ms.length e9, .int .i64 Y.sp, .int .i64 Y.w, .int .i64 Y.t, .int .i64 Y.k, .slice L9 Y.ln.length lc9, .slice T9 Y.wt.length tc9], .string (txt X.f X.ln), vp, .bool true]) (by simp [results, Tryz.results15, go_sem, r0, r1, r2, r3, r4, r5, r6, r7, r8, r9]) rfl ?_
  obtain ⟨z1, z2, z3⟩ := cast_on HON.out
  rw [HON.out, z1, z2, z3, HY.out]
  have hsz9 := hc9.size
  exact ⟨_, _, rfl, ⟨w6.heap.size, (HA.out.chg hc9 (by unfold Off; omega)).wide (by omega) (Nat.le_refl _), by omega⟩, row_base (row_keepB HO2.out (fun g hg => hc9.block g (by have := HVW.out g hg; omega) (by have := HLOW.out g hg; omega))) (by omega), T6.out.trans ((hc9.below (by omega)).mono (by omega))⟩
theorem implCast_any (lo hi0 : Nat) (v : Value) (X : Mch) (rag : Bool) (w : World) (h : MchV w lo hi0 v X) (hhi : hi0 ≤ w.heap.size) (hs : SmallX X) (wf : WfX X) (a1 a2 : Addr) (ca1 ca2 : Array Value) (ta1 ta2 : TypeId) (hne : a1 ≠ a2) (hb1 : w.heap[a1.block]? = some (.cells ca1 ta1 (0, 0))) (hb2 : w.heap[a2.block]? = some (.cells ca2 ta2 (0, 0))) (hg1 : w.cell? ⟨3, 0, none⟩ = some (.iface 192 (.pointer (some a1)))) (hg2 : w.cell? ⟨1, 0, none⟩ = some (.iface 192 (.pointer (some a2)))) (ct : TypeId) (cu : Value) (hg3 : w.cell? ⟨4, 0, none⟩ = some (.iface ct cu)) (hglo : 4 < w.heap.size) :
    Calls Tryz.prog 15 #[v, .bool rag] w fun e w' => ∃ v' vp, e = .returned (.tuple #[v', .string (castT X rag), vp, .bool (castOk X rag)]) ∧ (∃ hb, MchA w' w.heap.size hb v' (castX X rag) vp ∧ hb ≤ w'.heap.size) ∧ Own w' w.heap.size vp (castP X rag) ∧ Below w.heap.size w w' := by
  cases hm : machB X
  · exact implCast_no lo hi0 v X rag w h hhi hs wf hm
  cases hgo : castGo X rag
  · exact implCast_loose lo hi0 v X rag w h hhi hs wf hm a1 a2 ca1 ca2 ta1 ta2 hne hb1 hb2 hg1 hg2 hgo
  cases hcl : clearOk X
  · exact implCast_many lo hi0 v X rag w h hhi hs wf hm a1 a2 ca1 ca2 ta1 ta2 hne hb1 hb2 hg1 hg2 ct cu hg3 hglo hgo hcl
  · exact implCast_yes lo hi0 v X rag w h hhi hs wf hm a1 a2 ca1 ca2 ta1 ta2 hne hb1 hb2 hg1 hg2 ct cu hg3 hglo hgo hcl
end Go.Proofs.YtimhnkpccbcohaaGreatDoor
