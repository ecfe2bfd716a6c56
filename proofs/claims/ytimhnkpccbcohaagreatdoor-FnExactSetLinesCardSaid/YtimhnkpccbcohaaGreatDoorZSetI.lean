/-
 SetLines of the program by contract. Conditions: lengths of at most 2^20; the listed errors read as laid.
-/
import Derived.Test.YtimhnkpccbcohaaGreatDoorZEngSL
import Derived.Test.YtimhnkpccbcohaaGreatDoorZEngYA
import Derived.Test.YtimhnkpccbcohaaGreatDoorZStrP
namespace Go.Proofs.YtimhnkpccbcohaaGreatDoor
open Go.RowKit Go.Conc
set_option linter.unusedVariables false
set_option linter.unusedSimpArgs false

theorem OwnS.stay {w w' : World} {B : Nat} {v : Value} {zs : List ByteArray} (h : OwnS w B v zs) (hk : ∀ g, v.ownBlock = some g → w'.heap[g]? = w.heap[g]?) : OwnS w' B v zs := by
 obtain ⟨h1, h2⟩ := h
 refine ⟨h1, ?_⟩
 rcases h2 with h2 | ⟨g, cap, cur, e, h5, h6, h7⟩
 ·exact .inl h2
 ·exact .inr ⟨g, cap, cur, e, h5, (hk g (by rw [e]; rfl)).trans h6, h7⟩
theorem OwnS.baseQ {w : World} {B B' : Nat} {v : Value} {zs : List ByteArray} (h : OwnS w B v zs) (hB : B' ≤ B) : OwnS w B' v zs := by
 refine ⟨h.1, ?_⟩
 rcases h.2 with h2 | ⟨g, cap, cur, e, h5, h6⟩
 ·exact .inl h2
 ·exact .inr ⟨g, cap, cur, e, Nat.le_trans hB h5, h6⟩
theorem EngT.beside {w w' : World} {lo E I : Nat} {X : Mch} {A : Option Addr} {c : Nat} {A2 : Option Addr} {d : Nat} {M : Option Addr} {q e0 : Nat} {L : Option Addr} {lc : Nat} {T : Option Addr} {tc : Nat} {Bc : Option Addr} {dc B hi : Nat} {hs : List (Option Nat)} {km f0 f1 l0 l1 t0 t1 p0 p1 : Nat} (h : EngT w lo E X A c A2 d M q e0 L lc T tc Bc dc B hi hs km f0 f1 l0 l1 t0 t1 p0 p1) (hc : Chg I (I + 1) w w') (h1 : Off f0 f1 I (I + 1)) (h2 : Off l0 l1 I (I + 1)) (h4 : Off t0 t1 I (I + 1)) (h3 : E < I) : EngT w' lo E X A c A2 d M q e0 L lc T tc Bc dc B hi hs km f0 f1 l0 l1 t0 t1 p0 p1 := by
 obtain ⟨e1, e2⟩ := h.at_
 have e3 := h.low; have e4 := h.top; have e5 := h.o3; have e6 := h.o4; have e7 := h.o0; have e8 := hc.size; have e9 := h.t0h
 unfold Off at h1 h2 h4
 exact ⟨(hc.block E e2 (by omega)).trans h.blk, h.font.chg hc (by unfold Off; omega), h.line.chg hc (fun k hk => by have := h.line.lt k hk; have := h.lineT k hk; omega), h.lineT, h.wait.chg hc (fun k hk => by have := h.wait.lt k hk; have := h.waitT k hk; omega), h.waitT, h.fl, h.ft, h.lt, h.fE, h.lE, h.tE, h.low, ⟨by omega, by omega, by omega⟩, by omega, h.codes.chgE hc (by omega) (by omega), h.o0, h.made, h.chs.chg (by omega) hc (by omega), ownsMapE_chg h.keys hc (by omega), h.o3, h.o4⟩
/-- the row of texts grows: the engine stays apart from it -/
theorem EngAT.push {w w' : World} {lo E : Nat} {X : Mch} {u u' : Value} (h : EngAT w lo E X u) (hg : w.grownBy w' u.ownBlock) (hn : ∀ g, u'.ownBlock = some g → u.ownBlock = some g ∨ w.heap.size ≤ g) : EngAT w' lo E X u' := by
 obtain ⟨A, c, A2, d, M, q, e0, L, lc, T, tc, Bc, dc, B, hi, hs, km, f0, f1, l0, l1, t0, t1, p0, p1, hP, ha⟩ := h
 have htop := hP.top; have hE := hP.at_.2
 have hP' : EngT w' lo E X A c A2 d M q e0 L lc T tc Bc dc B hi hs km f0 f1 l0 l1 t0 t1 p0 p1 := by
  cases hu : u.ownBlock with
  | none => exact hP.below ((Chg.of_grown (lo := w.heap.size) (hi := w.heap.size) hg (fun g h9 => by rw [hu] at h9; cases h9)).below (Nat.le_refl _))
  | some g =>
   obtain ⟨h1, h2, h3, h4⟩ := ha g hu
   exact hP.beside (I := g) (Chg.of_grown hg (fun k h9 => by rw [hu] at h9; injection h9 with h9; omega)) h2 h3 h4 h1
 refine ⟨A, c, A2, d, M, q, e0, L, lc, T, tc, Bc, dc, B, hi, hs, km, f0, f1, l0, l1, t0, t1, p0, p1, hP', fun g hg' => ?_⟩
 rcases hn g hg' with h9 | h9
 ·exact ha g h9
 ·unfold Off
  exact ⟨by omega, by omega, by omega, by omega⟩
set_option maxRecDepth 100000 in
set_option maxHeartbeats 6400000 in
theorem implSet_no (lo hi0 : Nat) (v : Value) (X : Mch) (A9 : Option Addr) (n9 c9 : Nat) (ss : List ByteArray) (w : World) (h : MchV w lo hi0 v X) (hhi : hi0 ≤ w.heap.size) (hs : SmallX X) (wf : WfX X) (hn9 : ss.length = n9) (hm9 : n9 ≤ 1048576) (h9 : Strs w A9 ss) (wf9 : ∀ s ∈ ss, s.size ≤ maxLen) (hm : machB X = false) :
  Calls Tryz.prog 24 #[v, .slice A9 n9 c9] w fun e w' => ∃ v' u, e = .returned (.tuple #[v', u, .bool (setsOk X ss)]) ∧ MchYA w' w.heap.size w'.heap.size v' (setsX X ss) u ∧ OwnS w' w.heap.size u (setsT X ss) ∧ Below w.heap.size w w' := by
 have HNO := Lib.hid hm
 obtain ⟨s, A, n, c, A2, m, d, M, q, e0, L, l, lc, T, r, tc, hv, -⟩ := h.parts
 rw [hv] at h ⊢
 clear hv
 obtain ⟨w0, hw0⟩ : ∃ x, w = x := ⟨_, rfl⟩
 have hww : w.heap.size = w0.heap.size := by rw [hw0]
 have HS := Lib.hid hs; have HWF := Lib.hid wf; have HN9 := Lib.hid hn9; have HWS := Lib.hid wf9; have HS9 := Lib.hid h9
 have T0 : Hid (Below w0.heap.size w0 w0) := Below.refl _ _
 have V0 : Hid (MchV w0 lo hi0 (.agg #[.string s, .slice A n c, .slice A2 m d, .slice M q e0, .int .i64 X.sp, .int .i64 X.w, .int .i64 X.t, .int .i64 X.k, .slice L l lc, .slice T r tc]) X) := by rw [← hw0]; exact h
 have S0 : Hid (Strs w0 A9 ss) := by rw [← hw0]; exact h9
 clear h hs wf hn9 h9 wf9
 obtain ⟨w1, hw1, hb1, hz1, hX1⟩ := mxWorld w0 #[.string s, .slice A n c, .slice A2 m d, .slice M q e0, .int .i64 X.sp, .int .i64 X.w, .int .i64 X.t, .int .i64 X.k, .slice L l lc, .slice T r tc] 37
 have T1 := Lib.hid (T0.out.trans (hb1.mono (by omega)))
 have V1 := Lib.hid (V0.out.below (by omega) hb1)
 have S1 := Lib.hid (S0.out.below (hb1.mono (by omega)))
 have sz1 : w0.heap.size ≤ w1.heap.size := hb1.size
 clear T0 V0 S0
 have P1 := Lib.hid hX1
 obtain ⟨w2, hw2, hb2, hz2, hX2⟩ := mxWorld w1 #[.string ⟨#[]⟩, .slice none 0 0, .slice none 0 0, .slice none 0 0, .int .i64 0, .int .i64 0, .int .i64 0, .int .i64 0, .slice none 0 0, .slice none 0 0] 37
 have T2 := Lib.hid (T1.out.trans (hb2.mono (by omega)))
 have V2 := Lib.hid (V1.out.below (by omega) hb2)
 have S2 := Lib.hid (S1.out.below (hb2.mono (by omega)))
 have P2 := Lib.hid (P1.out.below hb2 (by omega))
 have sz2 : w1.heap.size ≤ w2.heap.size := hb2.size
 clear T1 V1 S1 P1
 rw [hz1] at hX2
 have R2 := Lib.hid hX2
 rw [hz1] at hz2
 obtain ⟨p0, p1, p2, p3, p4, p5, p6, p7, p8, p9⟩ := P2.out.ten
 rw [hw0]
 go_enter Tryz.func24, Tryz.ntmps24
 go_wp2_with fail
 clear p0 p1 p2 p3 p4 p5 p6 p7 p8 p9
 refine (implMachine_any lo hi0 _ X w2 V2.out (by omega) HS.out HWF.out).mono ?_
 rintro e w3 ⟨rfl, hb3⟩
 have T3 := Lib.hid (T2.out.trans (hb3.mono (by omega)))
 have V3 := Lib.hid (V2.out.below (by omega) hb3)
 have S3 := Lib.hid (S2.out.below (hb3.mono (by omega)))
 have P3 := Lib.hid (P2.out.below hb3 (by omega))
 have R3 := Lib.hid (R2.out.below hb3 (by omega))
 have sz3 : w2.heap.size ≤ w3.heap.size := hb3.size
 clear T2 V2 S2 P2 R2
 rw [hm]
 obtain ⟨r0, r1, r2, r3, r4, r5, r6, r7, r8, r9⟩ := R3.out.ten
 have ff := R3.out.warm
 go_wp2
 obtain ⟨w9, hw9, hc9, hR⟩ := R3.out.put10 (.string ⟨#[]⟩) (.slice none 0 0) (.slice none 0 0) (.slice none 0 0) (.int .i64 0) (.int .i64 0) (.int .i64 0) (.int .i64 0) (.slice none 0 0) (.slice none 0 0)
 (try rw [hw9])
 clear hw9 r0 r1 r2 r3 r4 r5 r6 r7 r8 r9
 obtain ⟨r0, r1, r2, r3, r4, r5, r6, r7, r8, r9⟩ := hR.ten
 (try simp only [Exit.inBlock, Exit.then])
 refine bodyPost_ret (v := .tuple #[.agg #[.string ⟨#[]⟩, .slice none 0 0, .slice none 0 0, .slice none 0 0, .int .i64 0, .int .i64 0, .int .i64 0, .int .i64 0, .slice none 0 0, .slice none 0 0], .slice none 0 0, .bool false]) (by simp [results, Tryz.results24, go_sem, r0, r1, r2, r3, r4, r5, r6, r7, r8, r9]) rfl ?_
 obtain ⟨z1, z2, z3⟩ := sets_no (ls := ss) HNO.out
 rw [z1, z2, z3]
 exact ⟨_, _, rfl, (((zeroX_own w9 w0.heap.size).tailed).wide (Nat.le_refl _) (by have := hc9.size; omega)).apart rfl, ⟨rfl, .inl ⟨rfl, rfl⟩⟩, T3.out.trans ((hc9.below (by omega)).mono (by omega))⟩
set_option maxRecDepth 100000 in
set_option maxHeartbeats 12800000 in
theorem implSet_yes (lo hi0 : Nat) (v : Value) (X : Mch) (A9 : Option Addr) (n9 c9 : Nat) (ss : List ByteArray) (w : World) (h : MchV w lo hi0 v X) (hhi : hi0 ≤ w.heap.size) (hs : SmallX X) (wf : WfX X) (hn9 : ss.length = n9) (hm9 : n9 ≤ 1048576) (h9 : Strs w A9 ss) (wf9 : ∀ s ∈ ss, s.size ≤ maxLen) (hm : machB X = true) (z : SErr) (hz : SErrAt w w.heap.size z) :
  Calls Tryz.prog 24 #[v, .slice A9 n9 c9] w fun e w' => ∃ v' u, e = .returned (.tuple #[v', u, .bool (setsOk X ss)]) ∧ MchYA w' w.heap.size w'.heap.size v' (setsX X ss) u ∧ OwnS w' w.heap.size u (setsT X ss) ∧ Below w.heap.size w w' := by
 have HYES := Lib.hid hm
 have HF := Lib.hid (mach_facts hm)
 obtain ⟨hmg, -, -, -, -, -, -⟩ := machB_parts hm
 have hlim : ∀ xs ∈ X.ms, xs.length ≤ 20 := fun xs hx => magB_20 hmg xs hx
 have HLIM := Lib.hid hlim; have HZ0 := Lib.hid hz
 clear hmg hlim hz
 obtain ⟨s, A, n, c, A2, m, d, M, q, e0, L, l, lc, T, r, tc, hv, -⟩ := h.parts
 rw [hv] at h ⊢
 clear hv
 obtain ⟨w0, hw0⟩ : ∃ x, w = x := ⟨_, rfl⟩
 have hww : w.heap.size = w0.heap.size := by rw [hw0]
 have HS := Lib.hid hs; have HWF := Lib.hid wf; have HN9 := Lib.hid hn9; have HWS := Lib.hid wf9; have HS9 := Lib.hid h9
 have T0 : Hid (Below w0.heap.size w0 w0) := Below.refl _ _
 have V0 : Hid (MchV w0 lo hi0 (.agg #[.string s, .slice A n c, .slice A2 m d, .slice M q e0, .int .i64 X.sp, .int .i64 X.w, .int .i64 X.t, .int .i64 X.k, .slice L l lc, .slice T r tc]) X) := by rw [← hw0]; exact h
 have S0 : Hid (Strs w0 A9 ss) := by rw [← hw0]; exact h9
 clear h hs wf hn9 h9 wf9
 have Z0 : Hid (SErrAt w0 w0.heap.size z) := by show SErrAt _ _ _; rw [← hw0]; exact HZ0.out
 obtain ⟨w1, hw1, hb1, hz1, hX1⟩ := mxWorld w0 #[.string s, .slice A n c, .slice A2 m d, .slice M q e0, .int .i64 X.sp, .int .i64 X.w, .int .i64 X.t, .int .i64 X.k, .slice L l lc, .slice T r tc] 37
 have T1 := Lib.hid (T0.out.trans (hb1.mono (by omega)))
 have V1 := Lib.hid (V0.out.below (by omega) hb1)
 have S1 := Lib.hid (S0.out.below (hb1.mono (by omega)))
 have Z1 := Lib.hid (Z0.out.below hb1 (by omega))
 have sz1 : w0.heap.size ≤ w1.heap.size := hb1.size
 clear T0 V0 S0 Z0
 have P1 := Lib.hid hX1
 obtain ⟨w2, hw2, hb2, hz2, hX2⟩ := mxWorld w1 #[.string ⟨#[]⟩, .slice none 0 0, .slice none 0 0, .slice none 0 0, .int .i64 0, .int .i64 0, .int .i64 0, .int .i64 0, .slice none 0 0, .slice none 0 0] 37
 have T2 := Lib.hid (T1.out.trans (hb2.mono (by omega)))
 have V2 := Lib.hid (V1.out.below (by omega) hb2)
 have S2 := Lib.hid (S1.out.below (hb2.mono (by omega)))
 have Z2 := Lib.hid (Z1.out.below hb2 (by omega))
 have P2 := Lib.hid (P1.out.below hb2 (by omega))
 have sz2 : w1.heap.size ≤ w2.heap.size := hb2.size
 clear T1 V1 S1 Z1 P1
 rw [hz1] at hX2
 have R2 := Lib.hid hX2
 rw [hz1] at hz2
 obtain ⟨p0, p1, p2, p3, p4, p5, p6, p7, p8, p9⟩ := P2.out.ten
 rw [hw0]
 go_enter Tryz.func24, Tryz.ntmps24
 go_wp2_with fail
 clear p0 p1 p2 p3 p4 p5 p6 p7 p8 p9
 refine (implMachine_any lo hi0 _ X w2 V2.out (by omega) HS.out HWF.out).mono ?_
 rintro e w3 ⟨rfl, hb3⟩
 have T3 := Lib.hid (T2.out.trans (hb3.mono (by omega)))
 have V3 := Lib.hid (V2.out.below (by omega) hb3)
 have S3 := Lib.hid (S2.out.below (hb3.mono (by omega)))
 have Z3 := Lib.hid (Z2.out.below hb3 (by omega))
 have P3 := Lib.hid (P2.out.below hb3 (by omega))
 have R3 := Lib.hid (R2.out.below hb3 (by omega))
 have sz3 : w2.heap.size ≤ w3.heap.size := hb3.size
 clear T2 V2 S2 Z2 P2 R2
 rw [hm]
 obtain ⟨p0, p1, p2, p3, p4, p5, p6, p7, p8, p9⟩ := P3.out.ten
 go_wp2_with fail
 clear p0 p1 p2 p3 p4 p5 p6 p7 p8 p9
 refine (start_any lo hi0 _ X w3 V3.out (by omega) HS.out HLIM.out HF.out.1).mono ?_
 rintro e w4 ⟨E, vm, Bc, dc, B, hi, hs, km, b0, b1, rfl, hEO, hb4⟩
 have hEn := Lib.hid hEO.parts
 clear hEO
 have T4 := Lib.hid (T3.out.trans (hb4.mono (by omega)))
 have S4 := Lib.hid (S3.out.below (hb4.mono (by omega)))
 have Z4 := Lib.hid (Z3.out.below hb4 (by omega))
 have P4 := Lib.hid (P3.out.below hb4 (by omega))
 have R4 := Lib.hid (R3.out.below hb4 (by omega))
 have sz4 : w3.heap.size ≤ w4.heap.size := hb4.size
 clear T3 V3 S3 Z3 P3 R3
 obtain ⟨A1, c1, A21, d1, M1, q1, e1, L1, lc1, T1, tc1, Bc1, dc1, B1, hi1, hs1, km1, f0, f1, l0, l1, t0, t1, p0, p1, hP⟩ := hEn.out
 have hEA : EngAT w4 w3.heap.size E X (.slice none 0 0) := ⟨_, _, _, _, _, _, _, _, _, _, _, _, _, _, _, _, _, _, _, _, _, _, _, _, _, hP.tailed, fun g hg => by cases hg⟩
 have HEA := Lib.hid hEA
 have hEl : w3.heap.size ≤ E := by have := hP.low; have := hP.o3; have := hP.o4; have := hP.at_; omega
 clear hP hEn hEA
 go_wp2
 obtain ⟨b, hbq⟩ : ∃ x, w3.heap.size = x := ⟨_, rfl⟩
 have hb0 : w0.heap.size + 2 ≤ b := by omega
 rw [hbq] at HEA hEl
 have hbw : b ≤ w4.heap.size := by omega
 have hO0 : Hid (OwnS w4 b (.slice none 0 0) []) := ⟨rfl, .inl ⟨rfl, rfl⟩⟩
 go_loopw [21, 8] (fun jv uv wr => ∃ (j : Nat) (Y : Mch) (ts : List ByteArray) (U : Option Addr) (mu cu : Nat), j ≤ n9 ∧ jv = .int .i64 j ∧ uv = .slice U mu cu ∧ ts.length = j ∧ Hid (setGo (ss.take j) X = some (Y, ts)) ∧ Hid (EngAT wr b E Y (.slice U mu cu)) ∧ Hid (OwnS wr b (.slice U mu cu) ts) ∧ Hid (Blk wr (w0.heap.size + 1) #[.string ⟨#[]⟩, .slice none 0 0, .slice none 0 0, .slice none 0 0, .int .i64 0, .int .i64 0, .int .i64 0, .int .i64 0, .slice none 0 0, .slice none 0 0] 37) ∧ Hid (Below w0.heap.size w0 wr) ∧ b ≤ wr.heap.size) (fun jv _ _ => n9 - (intOf jv).toNat)
 case atStart => exact ⟨0, X, [], none, 0, 0, Nat.zero_le _, rfl, rfl, rfl, rfl, HEA, hO0, R4, T4, hbw⟩
 case round =>
  obtain ⟨j, Y, ts, U, mu, cu, hjl, rfl, rfl, hlt, HGO, H3, U3, R3, T3, hbw3⟩ := hrel
  obtain ⟨w5, hwq⟩ : ∃ x, x = wr := ⟨_, rfl⟩
  subst hwq
  have S5 : Hid (Strs w5 A9 ss) := by
   show Strs _ _ _
   refine Strs.below (w := w0) ?_ T3.out
   rw [← hw0]; exact HS9.out
  have Z5 : Hid (SErrAt w5 w0.heap.size z) := by
   show SErrAt _ _ _
   refine SErrAt.below (w := w0) ?_ T3.out (Nat.le_refl _)
   rw [← hw0]; rw [hw0] at HZ0; rw [hw0]; exact HZ0.out
  have T5 := T3; have R5 := R3; have H5 := H3; have U5 := U3
  clear T3 R3 H3 U3
  obtain ⟨hYM, hYW, -⟩ := setGo_mach HYES.out HWF.out HGO.out
  have HYM := Lib.hid hYM
  have HYW := Lib.hid hYW
  clear hYM hYW
  by_cases hj : j < n9
  ·obtain ⟨ad, t, hA, ht, c0⟩ := S5.out.at_ (k := j) (by rw [HN9.out]; exact hj)
   have hA2 := hA
   subst hA2
   have hji : decide ((j : Int) < (n9 : Int)) = true := by simp; omega
   have HTS := Lib.hid (HWS.out t (List.mem_of_getElem? ht.out))
   go_wp2_with fail
   clear c0
   have hUl := World.ownsRow.lt U5.out
   obtain ⟨A1, c1, A21, d1, M1, q1, e1, L1, lc1, T1, tc1, Bc1, dc1, B1, hi1, hs1, km1, f0, f1, l0, l1, t0, t1, p0, p1, hP, hap⟩ := H5.out
   have hEz : E < w5.heap.size := hP.at_.2
   refine (engLine_any b E Y t w5 (.slice U mu cu) hP (fun g hg => ⟨(hUl g hg).2, hap g hg⟩) HTS.out HYM.out z (Z5.out.wide (by omega))).mono ?_
   rintro e w6 ⟨er, tt, rfl, hyy, hno, hb6, hkeep⟩
   have sz6 : w5.heap.size ≤ w6.heap.size := hb6.size
   have T6 := Lib.hid (T5.out.trans (hb6.mono (by omega)))
   have R6 : Hid (Blk w6 (w0.heap.size + 1) #[.string ⟨#[]⟩, .slice none 0 0, .slice none 0 0, .slice none 0 0, .int .i64 0, .int .i64 0, .int .i64 0, .int .i64 0, .slice none 0 0, .slice none 0 0] 37) := (hb6.block _ (by omega)).trans R5.out
   have U6 := Lib.hid (U5.out.stay hkeep)
   have HYY := Lib.hid hyy; have HNOQ := Lib.hid hno
   clear hyy hno hkeep hb6 hP hap hUl T5 R5 U5 H5 S5 Z5
   cases hso : setOk Y t
   ·obtain ⟨ty, ve, rfl⟩ := HNOQ.out hso
    have HNON := Lib.hid ((setGo_next ht.out HGO.out).2 hso)
    clear hso HYY HNOQ
    obtain ⟨r0, r1, r2, r3, r4, r5, r6, r7, r8, r9⟩ := R6.out.ten
    have ff := R6.out.warm
    go_wp2
    obtain ⟨w9, hw9, hc9, hR⟩ := R6.out.put10 (.string ⟨#[]⟩) (.slice none 0 0) (.slice none 0 0) (.slice none 0 0) (.int .i64 0) (.int .i64 0) (.int .i64 0) (.int .i64 0) (.slice none 0 0) (.slice none 0 0)
    (try rw [hw9])
    clear hw9 r0 r1 r2 r3 r4 r5 r6 r7 r8 r9
    obtain ⟨r0, r1, r2, r3, r4, r5, r6, r7, r8, r9⟩ := hR.ten
    (try simp only [Exit.inBlock, Exit.then])
    refine bodyPost_ret (v := .tuple #[.agg #[.string ⟨#[]⟩, .slice none 0 0, .slice none 0 0, .slice none 0 0, .int .i64 0, .int .i64 0, .int .i64 0, .int .i64 0, .slice none 0 0, .slice none 0 0], .slice none 0 0, .bool false]) (by simp [results, Tryz.results24, go_sem, r0, r1, r2, r3, r4, r5, r6, r7, r8, r9]) rfl ?_
    obtain ⟨z1, z2, z3⟩ := sets_none (X := X) HNON.out
    rw [z1, z2, z3]
    exact ⟨_, _, rfl, (((zeroX_own w9 w0.heap.size).tailed).wide (Nat.le_refl _) (by have := hc9.size; omega)).apart rfl, ⟨rfl, .inl ⟨rfl, rfl⟩⟩, T6.out.trans ((hc9.below (by omega)).mono (by omega))⟩
   ·obtain ⟨rfl, rfl, hEA⟩ := HYY.out hso
    have H6 := Lib.hid hEA
    have HGO2 := Lib.hid ((setGo_next ht.out HGO.out).1 hso)
    clear hso HYY HNOQ hEA
    have hbw9 : b ≤ w6.heap.size := by omega
    have hl20 : ts.length ≤ 1048576 := by omega
    go_wp2_with (at_builtin; refine wpls_push2 w6 rfl (.tmp 34) (.tmp 36) rfl b (.slice U mu cu) ts (setT Y t) rfl rfl U6.out hbw9 hl20 ?_; intro v4 w7 hO4 hg4 hv4; obtain ⟨A4, c4, rfl, -⟩ := hO4.form; have hl4 : (ts ++ [setT Y t]).length = j + 1 := (by rw [List.length_append, hlt]; rfl); rw [hl4] at hO4 hv4 ⊢; have HO4 := Lib.hid hO4; have HG4 := Lib.hid hg4; have HV4 := Lib.hid hv4; clear hO4 hg4 hv4)
    have H9 := Lib.hid (H6.out.push HG4.out HV4.out)
    have hbl : Below b w6 w7 := (Below.refl b w6).grown HG4.out hbw9 (fun g hg => ((World.ownsRow.lt U6.out) g hg).1)
    have hsz9 := hbl.size
    exact ⟨⟨j + 1, setY Y t, ts ++ [setT Y t], A4, j + 1, c4, by omega, by go_num, rfl, hl4, HGO2, H9, HO4, Lib.hid ((hbl.block _ (by omega)).trans R6.out), Lib.hid (T6.out.trans (hbl.mono (by omega))), by omega⟩, by simp [intOf]; omega⟩
  ·have hjn : n9 = j := by omega
   have hji : decide ((j : Int) < (n9 : Int)) = false := by simp; omega
   have HLIM2 := Lib.hid (mach_big HYM.out)
   have hgo2 : setGo ss X = some (Y, ts) := by
    have h9 := HGO.out
    rwa [List.take_of_length_le (by rw [HN9.out]; omega)] at h9
   have HG2 := Lib.hid hgo2
   clear hgo2 hjn
   have hUl := World.ownsRow.lt U5.out
   go_wp2_with fail
   refine (stopYA_any b E Y (.slice U mu cu) w5 H5.out (fun g hg => (hUl g hg).2) (by have := HLIM2.out.2.1; omega) HLIM2.out.2.2.1).mono ?_
   rintro e w6 ⟨v', rfl, hY, hb6, hkeep⟩
   have sz6 := hb6.size
   have T6 := Lib.hid (T5.out.trans (hb6.mono (by omega)))
   have R6 : Hid (Blk w6 (w0.heap.size + 1) #[.string ⟨#[]⟩, .slice none 0 0, .slice none 0 0, .slice none 0 0, .int .i64 0, .int .i64 0, .int .i64 0, .int .i64 0, .slice none 0 0, .slice none 0 0] 37) := (hb6.block _ (by omega)).trans R5.out
   have U6 := Lib.hid (U5.out.stay hkeep)
   obtain ⟨s9, AA9, nn9, cc9, A29, m9, d9, M9, q9, e9, sp9, w_9, t9, k9, L9, l9, lc9, T9, r_9, tc9, rfl⟩ := hY.mch.reads.form
   have HY := Lib.hid hY
   clear hY hkeep hb6 hUl
   obtain ⟨r0, r1, r2, r3, r4, r5, r6, r7, r8, r9⟩ := R6.out.ten
   have ff := R6.out.warm
   go_wp2
   obtain ⟨w9, hw9, hc9, hR⟩ := R6.out.put10 (.string s9) (.slice AA9 nn9 cc9) (.slice A29 m9 d9) (.slice M9 q9 e9) (.int .i64 sp9) (.int .i64 w_9) (.int .i64 t9) (.int .i64 k9) (.slice L9 l9 lc9) (.slice T9 r_9 tc9)
   (try rw [hw9])
   clear hw9 r0 r1 r2 r3 r4 r5 r6 r7 r8 r9
   obtain ⟨r0, r1, r2, r3, r4, r5, r6, r7, r8, r9⟩ := hR.ten
   (try simp only [Exit.inBlock, Exit.then])
   refine bodyPost_ret (v := .tuple #[.agg #[.string s9, .slice AA9 nn9 cc9, .slice A29 m9 d9, .slice M9 q9 e9, .int .i64 sp9, .int .i64 w_9, .int .i64 t9, .int .i64 k9, .slice L9 l9 lc9, .slice T9 r_9 tc9], .slice U mu cu, .bool true]) (by simp [results, Tryz.results24, go_sem, r0, r1, r2, r3, r4, r5, r6, r7, r8, r9]) rfl ?_
   obtain ⟨z1, z2, z3⟩ := sets_some HYES.out HG2.out
   rw [z1, z2, z3]
   exact ⟨_, _, rfl, (HY.out.chg hc9 (by unfold Off; omega)).wide (by omega) (by have := hc9.size; omega), OwnS.baseQ (OwnS.stay U6.out (fun g hg => hc9.block g (((World.ownsRow.lt U6.out) g hg).2) (by have := ((World.ownsRow.lt U6.out) g hg).1; omega))) (by omega), T6.out.trans ((hc9.below (by omega)).mono (by omega))⟩
theorem implSet_any (lo hi0 : Nat) (v : Value) (X : Mch) (A9 : Option Addr) (n9 c9 : Nat) (ss : List ByteArray) (w : World) (h : MchV w lo hi0 v X) (hhi : hi0 ≤ w.heap.size) (hs : SmallX X) (wf : WfX X) (hn9 : ss.length = n9) (hm9 : n9 ≤ 1048576) (h9 : Strs w A9 ss) (wf9 : ∀ s ∈ ss, s.size ≤ maxLen) (z : SErr) (hz : SErrAt w w.heap.size z) :
  Calls Tryz.prog 24 #[v, .slice A9 n9 c9] w fun e w' => ∃ v' u, e = .returned (.tuple #[v', u, .bool (setsOk X ss)]) ∧ MchYA w' w.heap.size w'.heap.size v' (setsX X ss) u ∧ OwnS w' w.heap.size u (setsT X ss) ∧ Below w.heap.size w w' := by
 cases hm : machB X
 ·exact implSet_no lo hi0 v X A9 n9 c9 ss w h hhi hs wf hn9 hm9 h9 wf9 hm
 ·exact implSet_yes lo hi0 v X A9 n9 c9 ss w h hhi hs wf hn9 hm9 h9 wf9 hm z hz
end Go.Proofs.YtimhnkpccbcohaaGreatDoor
