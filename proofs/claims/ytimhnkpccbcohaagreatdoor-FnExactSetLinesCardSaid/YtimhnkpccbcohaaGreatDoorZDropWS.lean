/-
 DropWaiting of the reference model by contract: what comes out reads as it should. Conditions: lengths of at most 2^20, teeth in the range of int.
-/
import Derived.Test.YtimhnkpccbcohaaGreatDoorZDropM
import Derived.Test.YtimhnkpccbcohaaGreatDoorZDropS
import Derived.Test.YtimhnkpccbcohaaGreatDoorZCntMagG
namespace Go.Proofs.YtimhnkpccbcohaaGreatDoor
open Go.RowKit Go.Conc
set_option linter.unusedVariables false
set_option linter.unusedSimpArgs false

theorem FontV.wideQ {w : World} {lo hi lo' hi' : Nat} {v : Value} {f : Fnt} (h : FontV w lo hi v f) (h1 : lo' ≤ lo) (h2 : hi ≤ hi') : FontV w lo' hi' v f := by
 obtain ⟨A, c, A2, d, hv, i1, i2, rest⟩ := h
 exact ⟨A, c, A2, d, hv, i1.wide h1 h2, i2.wide h1 h2, rest⟩
theorem MatsI.tailI {w : World} {lo hi : Nat} {ad : Addr} {x : Mat} {xs : List Mat} (h : MatsI w lo hi (some ad) (x :: xs)) : MatsI w lo hi (some (ad.add 2)) xs := fun hn => by
 obtain ⟨ad', e, h1, h2, hc⟩ := h (by simp)
 obtain rfl := Option.some.inj e
 refine ⟨ad.add 2, rfl, h1, h2, fun j y hy => ?_⟩
 have h3 := hc (j + 1) y (by simpa using hy)
 have e4 : ad.add ((j + 1) * 2) = (ad.add 2).add (j * 2) := by unfold Addr.add; split <;> split <;> simp_all <;> omega
 have e5 : ad.add ((j + 1) * 2 + 1) = (ad.add 2).add (j * 2 + 1) := by unfold Addr.add; split <;> split <;> simp_all <;> omega
 rw [e4, e5] at h3
 exact h3
theorem dropGo_reads {w : World} {lo hi : Nat} {X : Mch} {j q rj : Nat} {A A2 M L T : Option Addr} {c d e lc tc : Nat} (hF : FontV w lo hi (.agg #[.string X.f.s, .slice A X.f.ws.length c, .slice A2 X.f.cs.length d]) X.f) (hM : MagI w lo hi M (dropMs X.f X.ms X.wt j)) (hL : MatsI w lo hi L X.ln) (hW : MatsI w lo hi T (X.wt.drop j))
  (hq : X.ms.length = q) (hr : (X.wt.drop j).length = rj) (h1 : q ≤ e) (h2 : e ≤ maxLen) (h3 : X.ln.length ≤ lc) (h4 : lc ≤ maxLen) (h5 : rj ≤ tc) (h6 : tc ≤ maxLen) :
  MchV w lo hi (.agg #[.string X.f.s, .slice A X.f.ws.length c, .slice A2 X.f.cs.length d, .slice M q e, .int .i64 X.sp, .int .i64 X.w, .int .i64 X.t, .int .i64 X.k, .slice L X.ln.length lc, .slice T rj tc]) (dropGo X j) := by
 have hl := dropMs_len X.f X.ms X.wt j
 refine ⟨A, c, A2, d, M, e, L, lc, T, tc, ?_, ⟨hF, hM, hL, hW, ?_, h2, h3, h4, ?_, h6⟩⟩
 ·unfold mwords dropGo; simp only; rw [hl, hq, hr]
 ·show (dropMs X.f X.ms X.wt j).length ≤ e; rw [hl, hq]; exact h1
 ·show (X.wt.drop j).length ≤ tc; rw [hr]; exact h5
set_option maxRecDepth 100000 in
set_option maxHeartbeats 6400000 in
theorem specDropW_no (lo hi0 : Nat) (v : Value) (X : Mch) (most : Int) (w : World) (h : MchV w lo hi0 v X) (hhi : hi0 ≤ w.heap.size) (hs : SmallX X) (wf : WfX X) (wfm : (Lit.int .i64 most).wf = true) (hm : machB X = false) :
  Calls Tryz.prog 8 #[v, .int .i64 most] w fun e w' => ∃ v', e = .returned (.tuple #[v', .int .i64 (dropXN X most)]) ∧ MchV w' w.heap.size w'.heap.size v' (dropXX X most) ∧ Below w.heap.size w w' := by
 have HOFF : Hid (dropXOk X most = false) := by show _ = _; unfold dropXOk; rw [hm]; rfl
 obtain ⟨s, A, n, c, A2, m, d, M, q, e0, L, l, lc, T, r, tc, hv, -⟩ := h.parts
 rw [hv] at h ⊢
 clear hv
 obtain ⟨w0, hw0⟩ : ∃ x, w = x := ⟨_, rfl⟩
 have hww : w.heap.size = w0.heap.size := by rw [hw0]
 have HS := Lib.hid hs; have HWF := Lib.hid wf; have HWM := Lib.hid wfm
 have T0 : Hid (Below w0.heap.size w0 w0) := Below.refl _ _
 have V0 : Hid (MchV w0 lo hi0 (.agg #[.string s, .slice A n c, .slice A2 m d, .slice M q e0, .int .i64 X.sp, .int .i64 X.w, .int .i64 X.t, .int .i64 X.k, .slice L l lc, .slice T r tc]) X) := by rw [← hw0]; exact h
 clear h hs wf wfm
 obtain ⟨w1, hw1, hb1, hz1, hX1⟩ := mxWorld w0 #[.string s, .slice A n c, .slice A2 m d, .slice M q e0, .int .i64 X.sp, .int .i64 X.w, .int .i64 X.t, .int .i64 X.k, .slice L l lc, .slice T r tc] 37
 have T1 := Lib.hid (T0.out.trans (hb1.mono (by omega)))
 have V1 := Lib.hid (V0.out.below (by omega) hb1)
 have sz1 : w0.heap.size ≤ w1.heap.size := hb1.size
 clear T0 V0
 have P1 := Lib.hid hX1
 obtain ⟨w2, hw2, hb2, hz2, hX2⟩ := mxWorld w1 #[.string ⟨#[]⟩, .slice none 0 0, .slice none 0 0, .slice none 0 0, .int .i64 0, .int .i64 0, .int .i64 0, .int .i64 0, .slice none 0 0, .slice none 0 0] 37
 have T2 := Lib.hid (T1.out.trans (hb2.mono (by omega)))
 have V2 := Lib.hid (V1.out.below (by omega) hb2)
 have P2 := Lib.hid (P1.out.below hb2 (by omega))
 have sz2 : w1.heap.size ≤ w2.heap.size := hb2.size
 clear T1 V1 P1
 rw [hz1] at hX2
 have R2 := Lib.hid hX2
 rw [hz1] at hz2
 obtain ⟨p0, p1, p2, p3, p4, p5, p6, p7, p8, p9⟩ := P2.out.ten
 rw [hw0]
 go_enter Tryz.func8, Tryz.ntmps8
 go_wp2_with fail
 clear p0 p1 p2 p3 p4 p5 p6 p7 p8 p9
 refine (specMachine_any lo hi0 _ X w2 V2.out (by omega) HS.out).mono ?_
 rintro e w3 ⟨rfl, hb3⟩
 have T3 := Lib.hid (T2.out.trans (hb3.mono (by omega)))
 have V3 := Lib.hid (V2.out.below (by omega) hb3)
 have P3 := Lib.hid (P2.out.below hb3 (by omega))
 have R3 := Lib.hid (R2.out.below hb3 (by omega))
 have sz3 : w2.heap.size ≤ w3.heap.size := hb3.size
 clear T2 V2 P2 R2
 rw [hm]
 obtain ⟨r0, r1, r2, r3, r4, r5, r6, r7, r8, r9⟩ := R3.out.ten
 have ff := R3.out.warm
 go_wp2
 obtain ⟨w9, hw9, hc9, hR⟩ := R3.out.put10 (.string ⟨#[]⟩) (.slice none 0 0) (.slice none 0 0) (.slice none 0 0) (.int .i64 0) (.int .i64 0) (.int .i64 0) (.int .i64 0) (.slice none 0 0) (.slice none 0 0)
 (try rw [hw9])
 clear hw9 r0 r1 r2 r3 r4 r5 r6 r7 r8 r9
 obtain ⟨r0, r1, r2, r3, r4, r5, r6, r7, r8, r9⟩ := hR.ten
 (try simp only [Exit.inBlock, Exit.then])
 refine bodyPost_ret (v := .tuple #[.agg #[.string ⟨#[]⟩, .slice none 0 0, .slice none 0 0, .slice none 0 0, .int .i64 0, .int .i64 0, .int .i64 0, .int .i64 0, .slice none 0 0, .slice none 0 0], .int .i64 (-1)]) (by simp [results, Tryz.results8, go_sem, r0, r1, r2, r3, r4, r5, r6, r7, r8, r9]) rfl ?_
 obtain ⟨z1, z2⟩ := dropX_off HOFF.out
 rw [z1, z2]
 exact ⟨_, rfl, ((zeroX_own w9 w0.heap.size).wide (Nat.le_refl _) (by have := hc9.size; omega) : MchX w9 w0.heap.size w9.heap.size _ _).reads, T3.out.trans ((hc9.below (by omega)).mono (by omega))⟩
set_option maxRecDepth 100000 in
set_option maxHeartbeats 6400000 in
theorem specDropW_neg (lo hi0 : Nat) (v : Value) (X : Mch) (most : Int) (w : World) (h : MchV w lo hi0 v X) (hhi : hi0 ≤ w.heap.size) (hs : SmallX X) (wf : WfX X) (wfm : (Lit.int .i64 most).wf = true) (hm : machB X = true) (hneg : most < 0) :
  Calls Tryz.prog 8 #[v, .int .i64 most] w fun e w' => ∃ v', e = .returned (.tuple #[v', .int .i64 (dropXN X most)]) ∧ MchV w' w.heap.size w'.heap.size v' (dropXX X most) ∧ Below w.heap.size w w' := by
 have HOFF : Hid (dropXOk X most = false) := by show _ = _; unfold dropXOk; rw [decide_eq_false (by omega)]; simp
 have hnd : decide (most < 0) = true := decide_eq_true hneg
 obtain ⟨s, A, n, c, A2, m, d, M, q, e0, L, l, lc, T, r, tc, hv, -⟩ := h.parts
 rw [hv] at h ⊢
 clear hv
 obtain ⟨w0, hw0⟩ : ∃ x, w = x := ⟨_, rfl⟩
 have hww : w.heap.size = w0.heap.size := by rw [hw0]
 have HS := Lib.hid hs; have HWF := Lib.hid wf; have HWM := Lib.hid wfm
 have T0 : Hid (Below w0.heap.size w0 w0) := Below.refl _ _
 have V0 : Hid (MchV w0 lo hi0 (.agg #[.string s, .slice A n c, .slice A2 m d, .slice M q e0, .int .i64 X.sp, .int .i64 X.w, .int .i64 X.t, .int .i64 X.k, .slice L l lc, .slice T r tc]) X) := by rw [← hw0]; exact h
 clear h hs wf wfm
 obtain ⟨w1, hw1, hb1, hz1, hX1⟩ := mxWorld w0 #[.string s, .slice A n c, .slice A2 m d, .slice M q e0, .int .i64 X.sp, .int .i64 X.w, .int .i64 X.t, .int .i64 X.k, .slice L l lc, .slice T r tc] 37
 have T1 := Lib.hid (T0.out.trans (hb1.mono (by omega)))
 have V1 := Lib.hid (V0.out.below (by omega) hb1)
 have sz1 : w0.heap.size ≤ w1.heap.size := hb1.size
 clear T0 V0
 have P1 := Lib.hid hX1
 obtain ⟨w2, hw2, hb2, hz2, hX2⟩ := mxWorld w1 #[.string ⟨#[]⟩, .slice none 0 0, .slice none 0 0, .slice none 0 0, .int .i64 0, .int .i64 0, .int .i64 0, .int .i64 0, .slice none 0 0, .slice none 0 0] 37
 have T2 := Lib.hid (T1.out.trans (hb2.mono (by omega)))
 have V2 := Lib.hid (V1.out.below (by omega) hb2)
 have P2 := Lib.hid (P1.out.below hb2 (by omega))
 have sz2 : w1.heap.size ≤ w2.heap.size := hb2.size
 clear T1 V1 P1
 rw [hz1] at hX2
 have R2 := Lib.hid hX2
 rw [hz1] at hz2
 obtain ⟨p0, p1, p2, p3, p4, p5, p6, p7, p8, p9⟩ := P2.out.ten
 rw [hw0]
 go_enter Tryz.func8, Tryz.ntmps8
 go_wp2_with fail
 clear p0 p1 p2 p3 p4 p5 p6 p7 p8 p9
 refine (specMachine_any lo hi0 _ X w2 V2.out (by omega) HS.out).mono ?_
 rintro e w3 ⟨rfl, hb3⟩
 have T3 := Lib.hid (T2.out.trans (hb3.mono (by omega)))
 have V3 := Lib.hid (V2.out.below (by omega) hb3)
 have P3 := Lib.hid (P2.out.below hb3 (by omega))
 have R3 := Lib.hid (R2.out.below hb3 (by omega))
 have sz3 : w2.heap.size ≤ w3.heap.size := hb3.size
 clear T2 V2 P2 R2
 rw [hm]
 obtain ⟨r0, r1, r2, r3, r4, r5, r6, r7, r8, r9⟩ := R3.out.ten
 have ff := R3.out.warm
 go_wp2
 obtain ⟨w9, hw9, hc9, hR⟩ := R3.out.put10 (.string ⟨#[]⟩) (.slice none 0 0) (.slice none 0 0) (.slice none 0 0) (.int .i64 0) (.int .i64 0) (.int .i64 0) (.int .i64 0) (.slice none 0 0) (.slice none 0 0)
 (try rw [hw9])
 clear hw9 r0 r1 r2 r3 r4 r5 r6 r7 r8 r9
 obtain ⟨r0, r1, r2, r3, r4, r5, r6, r7, r8, r9⟩ := hR.ten
 (try simp only [Exit.inBlock, Exit.then])
 refine bodyPost_ret (v := .tuple #[.agg #[.string ⟨#[]⟩, .slice none 0 0, .slice none 0 0, .slice none 0 0, .int .i64 0, .int .i64 0, .int .i64 0, .int .i64 0, .slice none 0 0, .slice none 0 0], .int .i64 (-1)]) (by simp [results, Tryz.results8, go_sem, r0, r1, r2, r3, r4, r5, r6, r7, r8, r9]) rfl ?_
 obtain ⟨z1, z2⟩ := dropX_off HOFF.out
 rw [z1, z2]
 exact ⟨_, rfl, ((zeroX_own w9 w0.heap.size).wide (Nat.le_refl _) (by have := hc9.size; omega) : MchX w9 w0.heap.size w9.heap.size _ _).reads, T3.out.trans ((hc9.below (by omega)).mono (by omega))⟩
set_option maxRecDepth 100000 in
set_option maxHeartbeats 12800000 in
theorem specDropW_yes (lo hi0 : Nat) (v : Value) (X : Mch) (most : Int) (w : World) (h : MchV w lo hi0 v X) (hhi : hi0 ≤ w.heap.size) (hs : SmallX X) (wf : WfX X) (wfm : (Lit.int .i64 most).wf = true) (hm : machB X = true) (hpos : 0 ≤ most) :
  Calls Tryz.prog 8 #[v, .int .i64 most] w fun e w' => ∃ v', e = .returned (.tuple #[v', .int .i64 (dropXN X most)]) ∧ MchV w' w.heap.size w'.heap.size v' (dropXX X most) ∧ Below w.heap.size w w' := by
 obtain ⟨k, rfl⟩ : ∃ k : Nat, most = (k : Int) := ⟨most.toNat, by omega⟩
 have HON : Hid (dropXOk X (k : Int) = true) := by show _ = _; unfold dropXOk; rw [hm, decide_eq_true hpos]; rfl
 have hnd : decide ((k : Int) < 0) = false := decide_eq_false (by omega)
 have HKN : Hid (dropN X (k : Int) = dropC X.f k X.ms X.wt) := by show _ = _; unfold dropN; rw [Int.toNat_natCast]
 obtain ⟨hmg, -, hwt, hwa, hln, -, -⟩ := machB_parts hm
 have hwa2 : ∀ x ∈ X.wt, matB X.f x = true := fun x hx => List.all_eq_true.1 hwa x hx
 have HWT := Lib.hid hwt; have HMG := Lib.hid hmg; have HWA := Lib.hid hwa2
 have hq40 : X.ms.length ≤ 1048576 := hs.ms
 obtain ⟨hTT, hrr⟩ : True ∧ True := ⟨trivial, trivial⟩
 clear hmg hwt hwa hwa2 hln hTT hrr
 have hparts := h.parts
 obtain ⟨s, A, n, c, A2, m, d, M, q, e0, L, l, lc, T, r, tc, hv, -, hq, -, -, -, -, -, -, -, hrT, hT, -, -⟩ := hparts
 rw [hv] at h ⊢
 clear hv
 obtain ⟨w0, hw0⟩ : ∃ x, w = x := ⟨_, rfl⟩
 have hww : w.heap.size = w0.heap.size := by rw [hw0]
 have HS := Lib.hid hs; have HWF := Lib.hid wf; have HWM := Lib.hid wfm
 have T0 : Hid (Below w0.heap.size w0 w0) := Below.refl _ _
 have V0 : Hid (MchV w0 lo hi0 (.agg #[.string s, .slice A n c, .slice A2 m d, .slice M q e0, .int .i64 X.sp, .int .i64 X.w, .int .i64 X.t, .int .i64 X.k, .slice L l lc, .slice T r tc]) X) := by rw [← hw0]; exact h
 clear h hs wf wfm
 have Y0 : Hid (MatsI w0 lo hi0 T X.wt) := by rw [← hw0]; exact hT
 have HRT := Lib.hid hrT; have HQ := Lib.hid hq
 clear hT hrT hq
 obtain ⟨w1, hw1, hb1, hz1, hX1⟩ := mxWorld w0 #[.string s, .slice A n c, .slice A2 m d, .slice M q e0, .int .i64 X.sp, .int .i64 X.w, .int .i64 X.t, .int .i64 X.k, .slice L l lc, .slice T r tc] 37
 have T1 := Lib.hid (T0.out.trans (hb1.mono (by omega)))
 have V1 := Lib.hid (V0.out.below (by omega) hb1)
 have Y1 := Lib.hid (Y0.out.below (by omega) hb1)
 have sz1 : w0.heap.size ≤ w1.heap.size := hb1.size
 clear T0 V0 Y0
 have P1 := Lib.hid hX1
 obtain ⟨w2, hw2, hb2, hz2, hX2⟩ := mxWorld w1 #[.string ⟨#[]⟩, .slice none 0 0, .slice none 0 0, .slice none 0 0, .int .i64 0, .int .i64 0, .int .i64 0, .int .i64 0, .slice none 0 0, .slice none 0 0] 37
 have T2 := Lib.hid (T1.out.trans (hb2.mono (by omega)))
 have V2 := Lib.hid (V1.out.below (by omega) hb2)
 have Y2 := Lib.hid (Y1.out.below (by omega) hb2)
 have P2 := Lib.hid (P1.out.below hb2 (by omega))
 have sz2 : w1.heap.size ≤ w2.heap.size := hb2.size
 clear T1 V1 Y1 P1
 rw [hz1] at hX2
 have R2 := Lib.hid hX2
 rw [hz1] at hz2
 obtain ⟨p0, p1, p2, p3, p4, p5, p6, p7, p8, p9⟩ := P2.out.ten
 rw [hw0]
 go_enter Tryz.func8, Tryz.ntmps8
 go_wp2_with fail
 clear p0 p1 p2 p3 p4 p5 p6 p7 p8 p9
 refine (specMachine_any lo hi0 _ X w2 V2.out (by omega) HS.out).mono ?_
 rintro e w3 ⟨rfl, hb3⟩
 have T3 := Lib.hid (T2.out.trans (hb3.mono (by omega)))
 have V3 := Lib.hid (V2.out.below (by omega) hb3)
 have Y3 := Lib.hid (Y2.out.below (by omega) hb3)
 have P3 := Lib.hid (P2.out.below hb3 (by omega))
 have R3 := Lib.hid (R2.out.below hb3 (by omega))
 have sz3 : w2.heap.size ≤ w3.heap.size := hb3.size
 clear T2 V2 Y2 P2 R2
 rw [hm]
 obtain ⟨p0, p1, p2, p3, p4, p5, p6, p7, p8, p9⟩ := P3.out.ten
 go_wp2_with fail
 clear p0 p1 p2 p3 p4 p5 p6 p7 p8 p9
 obtain ⟨b, hbq⟩ : ∃ x, w3.heap.size = x := ⟨_, rfl⟩
 refine (l5Copy_any lo hi0 _ X w3 V3.out (by omega) HS.out).mono ?_
 rintro e u1 ⟨vC, rfl, hC, hbC⟩
 obtain ⟨O, hOz⟩ : ∃ x, u1.heap.size = x := ⟨_, rfl⟩
 have hbO := hbC.size
 rw [hbq] at hC hbC hbO
 rw [hOz] at hC hbO
 obtain ⟨A7, c7, A27, d7, M7, e7, L7, lc7, T7, tc7, rfl, hp7⟩ := hC.reads
 unfold mwords
 have hp := hp7
 rw [HQ.out, HRT.out]
 have HP7 := Lib.hid hp
 clear hC hp hp7
 obtain ⟨u2, hu2, hbu2, hzu2, hU⟩ := mxWorld u1 #[.string ⟨#[]⟩, .slice none 0 0, .slice none 0 0, .slice none 0 0, .int .i64 0, .int .i64 0, .int .i64 0, .int .i64 0, .slice none 0 0, .slice none 0 0] 37
 rw [hOz] at hU hzu2 hbu2
 have BC : Below b w3 u2 := hbC.trans (hbu2.mono hbO)
 have p9 := cellOfBlk (P3.out.below BC (by omega)) 9
 obtain ⟨o0, o1, o2, o3, o4, o5, o6, o7, o8, o9⟩ := hU.ten
 have fo := hU.warm
 have BC2 := Lib.hid BC
 have HU2 := Lib.hid hU
 have HBU := Lib.hid hbu2
 clear BC hU hbC hbu2
 go_wp2
 obtain ⟨u3, hu3, hc9, hR⟩ := HU2.out.put10 (.string X.f.s) (.slice A7 X.f.ws.length c7) (.slice A27 X.f.cs.length d7) (.slice M7 q e7) (.int .i64 X.sp) (.int .i64 X.w) (.int .i64 X.t) (.int .i64 X.k) (.slice L7 X.ln.length lc7) (.slice T7 r tc7)
 rw [hu3]
 have hzu3 := hc9.size
 have hbl := HBU.out.trans (hc9.below (by omega))
 have B3 := Lib.hid (BC2.out.trans ((hc9.below (by omega)).mono hbO))
 have hOb : O < u3.heap.size := by omega
 have F3 : Hid (FontV u3 b O (.agg #[.string X.f.s, .slice A7 X.f.ws.length c7, .slice A27 X.f.cs.length d7]) X.f) := HP7.out.font.below (by omega) hbl
 have L3 : Hid (MatsI u3 b O L7 X.ln) := HP7.out.line.below (by omega) hbl
 have K3 : Hid (MatsI u3 b O T7 (X.wt.drop 0)) := by show MatsI _ _ _ _ _; rw [List.drop_zero]; exact HP7.out.wait.below (by omega) hbl
 have M3 : Hid (MagI u3 b O M7 (dropMs X.f X.ms X.wt 0)) := HP7.out.mag.below (by omega) hbl
 have Q3 : Hid (Blk u3 O #[.string X.f.s, .slice A7 X.f.ws.length c7, .slice A27 X.f.cs.length d7, .slice M7 q e7, .int .i64 X.sp, .int .i64 X.w, .int .i64 X.t, .int .i64 X.k, .slice L7 X.ln.length lc7, .slice T7 r tc7] 37) := hR
 have E3 : Hid ((q ≤ e7 ∧ e7 ≤ maxLen) ∧ (r ≤ tc7 ∧ tc7 ≤ maxLen)) := by
  have h1 := HP7.out.me; have h2 := HP7.out.tl
  rw [HQ.out] at h1; rw [HRT.out] at h2
  exact ⟨⟨h1, HP7.out.em⟩, h2, HP7.out.tm⟩
 have HLC : Hid (X.ln.length ≤ lc7 ∧ lc7 ≤ maxLen) := ⟨HP7.out.ll, HP7.out.lm⟩
 have D3 := Lib.hid (DropAt.start X.f X.ms X.wt k)
 clear hu3 hR hc9 p9 fo o0 o1 o2 o3 o4 o5 o6 o7 o8 o9 hu2 BC2 HU2 HBU HP7 hbl
 go_loopw [25] (fun jv wr => ∃ (j : Nat) (Mz : Option Addr) (ez : Nat) (Tz : Option Addr) (rj tz g0 g1 : Nat), j + rj = r ∧ jv = .int .i64 j ∧ Hid (Blk wr O #[.string X.f.s, .slice A7 X.f.ws.length c7, .slice A27 X.f.cs.length d7, .slice Mz q ez, .int .i64 X.sp, .int .i64 X.w, .int .i64 X.t, .int .i64 X.k, .slice L7 X.ln.length lc7, .slice Tz rj tz] 37) ∧ Hid (FontV wr b O (.agg #[.string X.f.s, .slice A7 X.f.ws.length c7, .slice A27 X.f.cs.length d7]) X.f) ∧ Hid (MatsI wr b O L7 X.ln) ∧ Hid (MatsI wr b O Tz (X.wt.drop j)) ∧ Hid (MagI wr g0 g1 Mz (dropMs X.f X.ms X.wt j)) ∧ Hid (Below b w3 wr) ∧ Hid (DropAt X.f X.ms X.wt k j) ∧ Hid ((q ≤ ez ∧ ez ≤ maxLen) ∧ (rj ≤ tz ∧ tz ≤ maxLen)) ∧ (b ≤ g0 ∧ g1 ≤ wr.heap.size ∧ (g1 ≤ O ∨ O < g0)) ∧ O < wr.heap.size) (fun jv _ => r - (intOf jv).toNat)
 case atStart => exact ⟨0, M7, e7, T7, r, tc7, b, O, by omega, rfl, Q3, F3, L3, K3, M3, B3, D3, E3, ⟨Nat.le_refl _, by omega, .inl (Nat.le_refl _)⟩, hOb⟩
 case round =>
  clear Q3 F3 L3 K3 M3 B3 D3 E3 hOb hzu3 hzu2 hOz
  obtain ⟨j, Mz, ez, Tz, rj, tz, g0, g1, hjr, rfl, Q3, F3, L3, K3, M3, B3, D3, E3, hgg, hOb⟩ := hrel
  obtain ⟨w4, hwq⟩ : ∃ x, x = wr := ⟨_, rfl⟩
  subst hwq
  have T4 := Lib.hid (T3.out.trans (B3.out.mono (by omega)))
  have V4 := Lib.hid (V3.out.below (by omega) B3.out)
  have Y4 := Lib.hid (Y3.out.below (by omega) B3.out)
  have P4 := Lib.hid (P3.out.below B3.out (by omega))
  have R4 := Lib.hid (R3.out.below B3.out (by omega))
  have sz4 : w3.heap.size ≤ w4.heap.size := B3.out.size
  clear T3 V3 Y3 P3 R3
  have F4 : Hid (FontV w4 b O (.agg #[.string X.f.s, .slice A7 X.f.ws.length c7, .slice A27 X.f.cs.length d7]) X.f) := F3.out
  have L4 : Hid (MatsI w4 b O L7 X.ln) := L3.out
  have K4 : Hid (MatsI w4 b O Tz (X.wt.drop j)) := K3.out
  have M4 : Hid (MagI w4 g0 g1 Mz (dropMs X.f X.ms X.wt j)) := M3.out
  have Q4 : Hid (Blk w4 O #[.string X.f.s, .slice A7 X.f.ws.length c7, .slice A27 X.f.cs.length d7, .slice Mz q ez, .int .i64 X.sp, .int .i64 X.w, .int .i64 X.t, .int .i64 X.k, .slice L7 X.ln.length lc7, .slice Tz rj tz] 37) := Q3.out
  have B4 : Hid (Below b w3 w4) := B3.out
  clear Q3 F3 L3 K3 M3 B3
  have hjk := D3.out.le.1
  have hrl : X.wt.length = r := HRT.out
  have HRJ : Hid ((X.wt.drop j).length = rj) := by show _ = _; rw [List.length_drop]; omega
  have hr240 : r ≤ 240 := by rw [← hrl]; exact HWT.out
  clear hrl
  by_cases hj : j < r
  ·obtain ⟨ad, x, hA, hx, c0, c1⟩ := Y4.out.at_ (k := j) (by rw [HRT.out]; exact hj)
   have hwfx := HWF.out.wt x (List.mem_of_getElem? hx.out)
   have hxm := HWA.out x (List.mem_of_getElem? hx.out)
   obtain ⟨k1, k2⟩ := x
   simp only at c0 c1 hwfx
   subst hA
   have hji : decide ((j : Int) < (r : Int)) = true := by simp; omega
   obtain ⟨w5, hw5, hb5, hz5, hX5⟩ := mxWorld w4 #[.int .i64 k1, .int .i64 k2] 64
   have T5 := Lib.hid (T4.out.trans (hb5.mono (by omega)))
   have V5 := Lib.hid (V4.out.below (by omega) hb5)
   have Y5 := Lib.hid (Y4.out.below (by omega) hb5)
   have P5 := Lib.hid (P4.out.below hb5 (by omega))
   have R5 := Lib.hid (R4.out.below hb5 (by omega))
   have F5 := Lib.hid (F4.out.below (by omega) hb5)
   have L5 := Lib.hid (L4.out.below (by omega) hb5)
   have K5 := Lib.hid (K4.out.below (by omega) hb5)
   have M5 := Lib.hid (M4.out.below (by omega) hb5)
   have Q5 := Lib.hid (Q4.out.below hb5 (by omega))
   have B5 := Lib.hid (B4.out.trans (hb5.mono (by omega)))
   have sz5 : w4.heap.size ≤ w5.heap.size := hb5.size
   clear T4 V4 Y4 P4 R4 F4 L4 K4 M4 Q4 B4
   have X5 := Lib.hid hX5
   have x0 := cellOfBlk X5.out 0
   have x1 := cellOfBlk X5.out 1
   by_cases hjk2 : j = k
   ·have hej : ((j : Int) == (k : Int)) = true := by simp; omega
    have HJK := Lib.hid hjk2
    clear hjk2
    obtain ⟨o0, o1, o2, o3, o4, o5, o6, o7, o8, o9⟩ := Q5.out.ten
    obtain ⟨r0, r1, r2, r3, r4, r5, r6, r7, r8, r9⟩ := R5.out.ten
    have ff := R5.out.warm
    go_wp2
    obtain ⟨w9, hw9, hc9, hR⟩ := R5.out.put10 (.string X.f.s) (.slice A7 X.f.ws.length c7) (.slice A27 X.f.cs.length d7) (.slice Mz q ez) (.int .i64 X.sp) (.int .i64 X.w) (.int .i64 X.t) (.int .i64 X.k) (.slice L7 X.ln.length lc7) (.slice Tz rj tz)
    (try rw [hw9])
    clear hw9 r0 r1 r2 r3 r4 r5 r6 r7 r8 r9
    obtain ⟨r0, r1, r2, r3, r4, r5, r6, r7, r8, r9⟩ := hR.ten
    (try simp only [Exit.inBlock, Exit.then])
    clear o0 o1 o2 o3 o4 o5 o6 o7 o8 o9
    refine bodyPost_ret (v := .tuple #[.agg #[.string X.f.s, .slice A7 X.f.ws.length c7, .slice A27 X.f.cs.length d7, .slice Mz q ez, .int .i64 X.sp, .int .i64 X.w, .int .i64 X.t, .int .i64 X.k, .slice L7 X.ln.length lc7, .slice Tz rj tz], .int .i64 (j : Int)]) (by simp [results, Tryz.results8, go_sem, r0, r1, r2, r3, r4, r5, r6, r7, r8, r9]) rfl ?_
    obtain ⟨z1, z2⟩ := dropX_on HON.out
    have hcnt : dropC X.f k X.ms X.wt = j := D3.out.enough HJK.out
    rw [z1, z2, HKN.out, hcnt]
    have hz9 := hc9.size
    have hE := E3.out; have hLC := HLC.out
    exact ⟨_, rfl, dropGo_reads ((F5.out.chg hc9 (by omega) (by omega)).wideQ (by omega) (by omega)) ((M5.out.chg hc9 (by omega) (by omega)).wide (by omega) (by omega)) (MatsI.wide (L5.out.keep fun p h1 h2 => hc9.cell (by omega) (by omega)) (by omega) (by omega)) (MatsI.wide (K5.out.keep fun p h1 h2 => hc9.cell (by omega) (by omega)) (by omega) (by omega)) HQ.out HRJ.out hE.1.1 hE.1.2 hLC.1 hLC.2 hE.2.1 hE.2.2, T5.out.trans ((hc9.below (by omega)).mono (by omega))⟩
   have hej : ((j : Int) == (k : Int)) = false := by simp; omega
   have hmagj := D3.out.mag HMG.out HWA.out
   have hwfj := D3.out.wf HWF.out.ms HWF.out.wt
   have hlt := drop_lt hmagj hxm
   simp only at hlt
   obtain ⟨ii, hi9⟩ : ∃ i, fallOf X.f.cs k2 = i := ⟨_, rfl⟩
   rw [hi9] at hlt
   obtain ⟨xs, hxs⟩ : ∃ xs, (dropMs X.f X.ms X.wt j)[ii]? = some xs := ⟨_, List.getElem?_eq_getElem hlt⟩
   have HROOM : Hid (roomy X.f (dropMs X.f X.ms X.wt j) (k1, k2) = decide (xs.length < 20)) := by show _ = _; unfold roomy; simp only; rw [hi9, List.getD, hxs]; rfl
   have HPUT : Hid (putD X.f (dropMs X.f X.ms X.wt j) (k1, k2) = (dropMs X.f X.ms X.wt j).set ii (xs ++ [(k1, k2)])) := by show _ = _; unfold putD; simp only; rw [hi9, List.getD, hxs]; rfl
   have hlen : (dropMs X.f X.ms X.wt j).length = q := by rw [dropMs_len]; exact HQ.out
   have hq20 : q ≤ 1048576 := by rw [← HQ.out]; exact hq40
   have HI := Lib.hid hi9; have HXS := Lib.hid hxs; have HLEN := Lib.hid hlen; have HMJ := Lib.hid hmagj; have HWJ := Lib.hid hwfj; have HXM := Lib.hid hxm; have HWX := Lib.hid hwfx
   clear hi9 hxs hlen hmagj hwfj hxm hwfx hlt
   obtain ⟨o0, o1, o2, o3, o4, o5, o6, o7, o8, o9⟩ := Q5.out.ten
   go_wp2_with fail
   clear x0 x1 o0 o1 o2 o3 o4 o5 o6 o7 o8 o9
   cases hro : decide (xs.length < 20)
   ·refine (specDrop_full b O g0 g1 _ X.f Mz q ez (dropMs X.f X.ms X.wt j) k1 k2 w5 F5.out (by omega) HS.out.f HLEN.out hq20 M5.out (by omega) HWJ.out HWX.out HMJ.out HXM.out ii HI.out xs HXS.out (by have := of_decide_eq_false hro; omega)).mono ?_
    rintro e w6 ⟨rfl, hb6⟩
    have T6 := Lib.hid (T5.out.trans (hb6.mono (by omega)))
    have V6 := Lib.hid (V5.out.below (by omega) hb6)
    have Y6 := Lib.hid (Y5.out.below (by omega) hb6)
    have P6 := Lib.hid (P5.out.below hb6 (by omega))
    have R6 := Lib.hid (R5.out.below hb6 (by omega))
    have F6 := Lib.hid (F5.out.below (by omega) hb6)
    have L6 := Lib.hid (L5.out.below (by omega) hb6)
    have K6 := Lib.hid (K5.out.below (by omega) hb6)
    have M6 := Lib.hid (M5.out.below (by omega) hb6)
    have Q6 := Lib.hid (Q5.out.below hb6 (by omega))
    have B6 := Lib.hid (B5.out.trans (hb6.mono (by omega)))
    have X6 := Lib.hid (X5.out.below hb6 (by omega))
    have sz6 : w5.heap.size ≤ w6.heap.size := hb6.size
    clear T5 V5 Y5 P5 R5 F5 L5 K5 M5 Q5 B5 X5
    obtain ⟨o0, o1, o2, o3, o4, o5, o6, o7, o8, o9⟩ := Q6.out.ten
    obtain ⟨r0, r1, r2, r3, r4, r5, r6, r7, r8, r9⟩ := R6.out.ten
    have ff := R6.out.warm
    go_wp2
    obtain ⟨w9, hw9, hc9, hR⟩ := R6.out.put10 (.string X.f.s) (.slice A7 X.f.ws.length c7) (.slice A27 X.f.cs.length d7) (.slice Mz q ez) (.int .i64 X.sp) (.int .i64 X.w) (.int .i64 X.t) (.int .i64 X.k) (.slice L7 X.ln.length lc7) (.slice Tz rj tz)
    (try rw [hw9])
    clear hw9 r0 r1 r2 r3 r4 r5 r6 r7 r8 r9
    obtain ⟨r0, r1, r2, r3, r4, r5, r6, r7, r8, r9⟩ := hR.ten
    (try simp only [Exit.inBlock, Exit.then])
    clear o0 o1 o2 o3 o4 o5 o6 o7 o8 o9
    refine bodyPost_ret (v := .tuple #[.agg #[.string X.f.s, .slice A7 X.f.ws.length c7, .slice A27 X.f.cs.length d7, .slice Mz q ez, .int .i64 X.sp, .int .i64 X.w, .int .i64 X.t, .int .i64 X.k, .slice L7 X.ln.length lc7, .slice Tz rj tz], .int .i64 (j : Int)]) (by simp [results, Tryz.results8, go_sem, r0, r1, r2, r3, r4, r5, r6, r7, r8, r9]) rfl ?_
    obtain ⟨z1, z2⟩ := dropX_on HON.out
    have hcnt : dropC X.f k X.ms X.wt = j := D3.out.stuck hx.out (HROOM.out.trans hro)
    rw [z1, z2, HKN.out, hcnt]
    have hz9 := hc9.size
    have hE := E3.out; have hLC := HLC.out
    exact ⟨_, rfl, dropGo_reads ((F6.out.chg hc9 (by omega) (by omega)).wideQ (by omega) (by omega)) ((M6.out.chg hc9 (by omega) (by omega)).wide (by omega) (by omega)) (MatsI.wide (L6.out.keep fun p h1 h2 => hc9.cell (by omega) (by omega)) (by omega) (by omega)) (MatsI.wide (K6.out.keep fun p h1 h2 => hc9.cell (by omega) (by omega)) (by omega) (by omega)) HQ.out HRJ.out hE.1.1 hE.1.2 hLC.1 hLC.2 hE.2.1 hE.2.2, T6.out.trans ((hc9.below (by omega)).mono (by omega))⟩
   ·refine (specDrop_yes b O g0 g1 _ X.f Mz q ez (dropMs X.f X.ms X.wt j) k1 k2 w5 F5.out (by omega) HS.out.f HLEN.out hq20 M5.out (by omega) HWJ.out HWX.out HMJ.out HXM.out ii HI.out xs HXS.out (of_decide_eq_true hro)).mono ?_
    rintro e w6 ⟨u, hs', rfl, hO, hb6⟩
    obtain ⟨Mu, eu, rfl, heu1, heu2, -⟩ := hO.form
    have hlu : ((dropMs X.f X.ms X.wt j).set ii (xs ++ [(k1, k2)])).length = q := by rw [List.length_set]; exact HLEN.out
    rw [hlu] at hO heu1 ⊢
    have T6 := Lib.hid (T5.out.trans (hb6.mono (by omega)))
    have V6 := Lib.hid (V5.out.below (by omega) hb6)
    have Y6 := Lib.hid (Y5.out.below (by omega) hb6)
    have P6 := Lib.hid (P5.out.below hb6 (by omega))
    have R6 := Lib.hid (R5.out.below hb6 (by omega))
    have F6 := Lib.hid (F5.out.below (by omega) hb6)
    have L6 := Lib.hid (L5.out.below (by omega) hb6)
    have K6 := Lib.hid (K5.out.below (by omega) hb6)
    have M6 := Lib.hid (M5.out.below (by omega) hb6)
    have Q6 := Lib.hid (Q5.out.below hb6 (by omega))
    have B6 := Lib.hid (B5.out.trans (hb6.mono (by omega)))
    have X6 := Lib.hid (X5.out.below hb6 (by omega))
    have sz6 : w5.heap.size ≤ w6.heap.size := hb6.size
    clear T5 V5 Y5 P5 R5 F5 L5 K5 M5 Q5 B5 X5
    have hMN := hO.reads
    clear hO hlu
    obtain ⟨ad2, x9, hA2, -, -, -⟩ := K6.out.at_ (k := 0) (by rw [HRJ.out]; omega)
    subst hA2
    have hfr := Q6.out.warm
    obtain ⟨o0, o1, o2, o3, o4, o5, o6, o7, o8, o9⟩ := Q6.out.ten
    go_wp2
    clear o0 o1 o2 o3 o4 o5 o6 o7 o8 o9
    have hdr : X.wt.drop j = (k1, k2) :: X.wt.drop (j + 1) := by
     have h9 := List.getElem?_eq_some_iff.1 hx.out
     rw [List.drop_eq_getElem_cons h9.1, h9.2]
    have hcc := (chg_set w6 O 3 (.slice Mu q eu)).trans (chg_set _ O 9 (.slice (if tz = 1 then some ad2 else some { block := ad2.block, off := ad2.off + 2 }) (rj - 1) (tz - 1)))
    have hQ : Blk ((w6.setCell ⟨O, 3, none⟩ (.slice Mu q eu)).setCell ⟨O, 9, none⟩ (.slice (if tz = 1 then some ad2 else some { block := ad2.block, off := ad2.off + 2 }) (rj - 1) (tz - 1))) O #[.string X.f.s, .slice A7 X.f.ws.length c7, .slice A27 X.f.cs.length d7, .slice Mu q eu, .int .i64 X.sp, .int .i64 X.w, .int .i64 X.t, .int .i64 X.k, .slice L7 X.ln.length lc7, .slice (if tz = 1 then some ad2 else some { block := ad2.block, off := ad2.off + 2 }) (rj - 1) (tz - 1)] 37 := heapSet (i := 9) (heapSet (i := 3) Q6.out (.slice Mu q eu)) _
    obtain ⟨w99, hw99⟩ : ∃ x, ((w6.setCell ⟨O, 3, none⟩ (.slice Mu q eu)).setCell ⟨O, 9, none⟩ (.slice (if tz = 1 then some ad2 else some { block := ad2.block, off := ad2.off + 2 }) (rj - 1) (tz - 1))) = x := ⟨_, rfl⟩
    rw [hw99] at hcc hQ
    (try rw [hw99])
    clear hw99
    have hE := E3.out
    have hz9 := hcc.size
    have hK : MatsI w99 b O (if tz = 1 then some ad2 else some { block := ad2.block, off := ad2.off + 2 }) (X.wt.drop (j + 1)) := by
     have hK0 : MatsI w99 b O (some ad2) (X.wt.drop j) := K6.out.keep fun p h1 h2 => hcc.cell (by omega) (by omega)
     rw [hdr] at hK0
     by_cases h1 : tz = 1
     ·have h2 : X.wt.drop (j + 1) = [] := List.eq_nil_of_length_eq_zero (by have := HRJ.out; rw [hdr] at this; simp only [List.length_cons] at this; omega)
      rw [h2]; exact MatsI.nil _ _ _ _
     ·rw [if_neg h1]; exact hK0.tailI
    have hM : MagI w99 w5.heap.size w6.heap.size Mu (dropMs X.f X.ms X.wt (j + 1)) := by
     rw [dropMs_next hx.out, HPUT.out]
     exact hMN.chg hcc (Nat.le_refl _) (.inr (by omega))
    exact ⟨⟨j + 1, Mu, eu, _, rj - 1, tz - 1, w5.heap.size, w6.heap.size, by omega, by go_num, hQ, Lib.hid (F6.out.chg hcc (by omega) (by omega)), Lib.hid (L6.out.keep fun p h1 h2 => hcc.cell (by omega) (by omega)), Lib.hid hK, Lib.hid hM, Lib.hid (B6.out.trans ((hcc.below (by omega)).mono (by omega))), Lib.hid (D3.out.step (by omega) hx.out (HROOM.out.trans hro)), Lib.hid ⟨⟨by omega, heu2⟩, by omega, by omega⟩, ⟨by omega, by omega, .inr (by omega)⟩, by omega⟩, by simp [intOf]; omega⟩
  ·have hjn : j = r := by omega
   have hji : decide ((j : Int) < (r : Int)) = false := by simp; omega
   obtain ⟨p0, p1, p2, p3, p4, p5, p6, p7, p8, p9⟩ := P4.out.ten
   obtain ⟨o0, o1, o2, o3, o4, o5, o6, o7, o8, o9⟩ := Q4.out.ten
   go_upto_region 15 with fail
   clear p0 o0 p1 o1 p2 o2 p3 o3 p4 o4 p5 o5 p6 o6 p7 o7 p8 o8 p9 o9
   refine wp_region_plan (.take 0 (.take 1 (.take 2 (.take 3 (.one 4 (.take 5 .done)))))) (fun w' => w'.cell? ⟨w0.heap.size, 0, none⟩ = some (.string s) ∧ w'.cell? ⟨w0.heap.size, 1, none⟩ = some (.slice A n c) ∧ w'.cell? ⟨w0.heap.size, 2, none⟩ = some (.slice A2 m d) ∧ w'.cell? ⟨w0.heap.size, 3, none⟩ = some (.slice M q e0) ∧ w'.cell? ⟨w0.heap.size, 4, none⟩ = some (.int .i64 X.sp) ∧ w'.cell? ⟨w0.heap.size, 5, none⟩ = some (.int .i64 X.w) ∧ w'.cell? ⟨w0.heap.size, 6, none⟩ = some (.int .i64 X.t) ∧ w'.cell? ⟨w0.heap.size, 7, none⟩ = some (.int .i64 X.k) ∧ w'.cell? ⟨w0.heap.size, 8, none⟩ = some (.slice L l lc) ∧ w'.cell? ⟨w0.heap.size, 9, none⟩ = some (.slice T r tc) ∧ w'.cell? ⟨O, 0, none⟩ = some (.string X.f.s) ∧ w'.cell? ⟨O, 1, none⟩ = some (.slice A7 X.f.ws.length c7) ∧ w'.cell? ⟨O, 2, none⟩ = some (.slice A27 X.f.cs.length d7) ∧ w'.cell? ⟨O, 3, none⟩ = some (.slice Mz q ez) ∧ w'.cell? ⟨O, 4, none⟩ = some (.int .i64 X.sp) ∧ w'.cell? ⟨O, 5, none⟩ = some (.int .i64 X.w) ∧ w'.cell? ⟨O, 6, none⟩ = some (.int .i64 X.t) ∧ w'.cell? ⟨O, 7, none⟩ = some (.int .i64 X.k) ∧ w'.cell? ⟨O, 8, none⟩ = some (.slice L7 X.ln.length lc7) ∧ w'.cell? ⟨O, 9, none⟩ = some (.slice Tz rj tz)) (by kernel_rfl) (by kernel_rfl) (by kernel_rfl) (by intro c a d v w h; cases d <;> exact h) ⟨cellOfBlk P4.out 0, cellOfBlk P4.out 1, cellOfBlk P4.out 2, cellOfBlk P4.out 3, cellOfBlk P4.out 4, cellOfBlk P4.out 5, cellOfBlk P4.out 6, cellOfBlk P4.out 7, cellOfBlk P4.out 8, cellOfBlk P4.out 9, cellOfBlk Q4.out 0, cellOfBlk Q4.out 1, cellOfBlk Q4.out 2, cellOfBlk Q4.out 3, cellOfBlk Q4.out 4, cellOfBlk Q4.out 5, cellOfBlk Q4.out 6, cellOfBlk Q4.out 7, cellOfBlk Q4.out 8, cellOfBlk Q4.out 9⟩ ?_
   obtain ⟨w5, hwd⟩ : ∃ x, w4.drew = x := ⟨_, rfl⟩
   have hb5 : Below w4.heap.size w4 w5 := by rw [← hwd]; exact (Below.refl _ _).drew
   have hsz5 : w5.heap.size = w4.heap.size := by rw [← hwd]; rfl
   have T5 := Lib.hid (T4.out.trans (hb5.mono (by omega)))
   have V5 := Lib.hid (V4.out.below (by omega) hb5)
   have Y5 := Lib.hid (Y4.out.below (by omega) hb5)
   have P5 := Lib.hid (P4.out.below hb5 (by omega))
   have R5 := Lib.hid (R4.out.below hb5 (by omega))
   have F5 := Lib.hid (F4.out.below (by omega) hb5)
   have L5 := Lib.hid (L4.out.below (by omega) hb5)
   have K5 := Lib.hid (K4.out.below (by omega) hb5)
   have M5 := Lib.hid (M4.out.below (by omega) hb5)
   have Q5 := Lib.hid (Q4.out.below hb5 (by omega))
   have B5 := Lib.hid (B4.out.trans (hb5.mono (by omega)))
   have sz5 : w4.heap.size ≤ w5.heap.size := hb5.size
   clear T4 V4 Y4 P4 R4 F4 L4 K4 M4 Q4 B4
   rw [hwd]
   clear hwd
   iterate 4 (refine plan_quiet rfl (by rfl) (v := ?_) ?_ ?_; rotate_left; (intro w1 hSw; obtain ⟨hs0, hs1, hs2, hs3, hs4, hs5, hs6, hs7, hs8, hs9, hs10, hs11, hs12, hs13, hs14, hs15, hs16, hs17, hs18, hs19⟩ := hSw; go_simp; try (with_reducible rfl)); (try simp only [Act.put, List.setIfInBounds_toArray, List.set_cons_zero, List.set_cons_succ]))
   obtain ⟨r0, r1, r2, r3, r4, r5, r6, r7, r8, r9⟩ := R5.out.ten
   have ff := R5.out.warm
   refine plan_step rfl (fun Kc hK => ?_)
   rw [if_pos (by rfl)]
   go_simp
   obtain ⟨w9, hw9, hc9, hR⟩ := R5.out.put10 (.string X.f.s) (.slice A7 X.f.ws.length c7) (.slice A27 X.f.cs.length d7) (.slice Mz q ez) (.int .i64 X.sp) (.int .i64 X.w) (.int .i64 X.t) (.int .i64 X.k) (.slice L7 X.ln.length lc7) (.slice Tz rj tz)
   (try rw [hw9])
   clear hw9 r0 r1 r2 r3 r4 r5 r6 r7 r8 r9
   obtain ⟨r0, r1, r2, r3, r4, r5, r6, r7, r8, r9⟩ := hR.ten
   refine hK.out _ _ ⟨(hc9.cell (p := ⟨w0.heap.size, 0, none⟩) (by show w0.heap.size < w5.heap.size; omega) (by show ¬ (w0.heap.size + 1 ≤ w0.heap.size ∧ w0.heap.size < w0.heap.size + 1 + 1); omega)).trans (cellOfBlk P5.out 0), (hc9.cell (p := ⟨w0.heap.size, 1, none⟩) (by show w0.heap.size < w5.heap.size; omega) (by show ¬ (w0.heap.size + 1 ≤ w0.heap.size ∧ w0.heap.size < w0.heap.size + 1 + 1); omega)).trans (cellOfBlk P5.out 1), (hc9.cell (p := ⟨w0.heap.size, 2, none⟩) (by show w0.heap.size < w5.heap.size; omega) (by show ¬ (w0.heap.size + 1 ≤ w0.heap.size ∧ w0.heap.size < w0.heap.size + 1 + 1); omega)).trans (cellOfBlk P5.out 2), (hc9.cell (p := ⟨w0.heap.size, 3, none⟩) (by show w0.heap.size < w5.heap.size; omega) (by show ¬ (w0.heap.size + 1 ≤ w0.heap.size ∧ w0.heap.size < w0.heap.size + 1 + 1); omega)).trans (cellOfBlk P5.out 3), (hc9.cell (p := ⟨w0.heap.size, 4, none⟩) (by show w0.heap.size < w5.heap.size; omega) (by show ¬ (w0.heap.size + 1 ≤ w0.heap.size ∧ w0.heap.size < w0.heap.size + 1 + 1); omega)).trans (cellOfBlk P5.out 4), (hc9.cell (p := ⟨w0.heap.size, 5, none⟩) (by show w0.heap.size < w5.heap.size; omega) (by show ¬ (w0.heap.size + 1 ≤ w0.heap.size ∧ w0.heap.size < w0.heap.size + 1 + 1); omega)).trans (cellOfBlk P5.out 5), (hc9.cell (p := ⟨w0.heap.size, 6, none⟩) (by show w0.heap.size < w5.heap.size; omega) (by show ¬ (w0.heap.size + 1 ≤ w0.heap.size ∧ w0.heap.size < w0.heap.size + 1 + 1); omega)).trans (cellOfBlk P5.out 6), (hc9.cell (p := ⟨w0.heap.size, 7, none⟩) (by show w0.heap.size < w5.heap.size; omega) (by show ¬ (w0.heap.size + 1 ≤ w0.heap.size ∧ w0.heap.size < w0.heap.size + 1 + 1); omega)).trans (cellOfBlk P5.out 7), (hc9.cell (p := ⟨w0.heap.size, 8, none⟩) (by show w0.heap.size < w5.heap.size; omega) (by show ¬ (w0.heap.size + 1 ≤ w0.heap.size ∧ w0.heap.size < w0.heap.size + 1 + 1); omega)).trans (cellOfBlk P5.out 8), (hc9.cell (p := ⟨w0.heap.size, 9, none⟩) (by show w0.heap.size < w5.heap.size; omega) (by show ¬ (w0.heap.size + 1 ≤ w0.heap.size ∧ w0.heap.size < w0.heap.size + 1 + 1); omega)).trans (cellOfBlk P5.out 9), (hc9.cell (p := ⟨O, 0, none⟩) (by show O < w5.heap.size; omega) (by show ¬ (w0.heap.size + 1 ≤ O ∧ O < w0.heap.size + 1 + 1); omega)).trans (cellOfBlk Q5.out 0), (hc9.cell (p := ⟨O, 1, none⟩) (by show O < w5.heap.size; omega) (by show ¬ (w0.heap.size + 1 ≤ O ∧ O < w0.heap.size + 1 + 1); omega)).trans (cellOfBlk Q5.out 1), (hc9.cell (p := ⟨O, 2, none⟩) (by show O < w5.heap.size; omega) (by show ¬ (w0.heap.size + 1 ≤ O ∧ O < w0.heap.size + 1 + 1); omega)).trans (cellOfBlk Q5.out 2), (hc9.cell (p := ⟨O, 3, none⟩) (by show O < w5.heap.size; omega) (by show ¬ (w0.heap.size + 1 ≤ O ∧ O < w0.heap.size + 1 + 1); omega)).trans (cellOfBlk Q5.out 3), (hc9.cell (p := ⟨O, 4, none⟩) (by show O < w5.heap.size; omega) (by show ¬ (w0.heap.size + 1 ≤ O ∧ O < w0.heap.size + 1 + 1); omega)).trans (cellOfBlk Q5.out 4), (hc9.cell (p := ⟨O, 5, none⟩) (by show O < w5.heap.size; omega) (by show ¬ (w0.heap.size + 1 ≤ O ∧ O < w0.heap.size + 1 + 1); omega)).trans (cellOfBlk Q5.out 5), (hc9.cell (p := ⟨O, 6, none⟩) (by show O < w5.heap.size; omega) (by show ¬ (w0.heap.size + 1 ≤ O ∧ O < w0.heap.size + 1 + 1); omega)).trans (cellOfBlk Q5.out 6), (hc9.cell (p := ⟨O, 7, none⟩) (by show O < w5.heap.size; omega) (by show ¬ (w0.heap.size + 1 ≤ O ∧ O < w0.heap.size + 1 + 1); omega)).trans (cellOfBlk Q5.out 7), (hc9.cell (p := ⟨O, 8, none⟩) (by show O < w5.heap.size; omega) (by show ¬ (w0.heap.size + 1 ≤ O ∧ O < w0.heap.size + 1 + 1); omega)).trans (cellOfBlk Q5.out 8), (hc9.cell (p := ⟨O, 9, none⟩) (by show O < w5.heap.size; omega) (by show ¬ (w0.heap.size + 1 ≤ O ∧ O < w0.heap.size + 1 + 1); omega)).trans (cellOfBlk Q5.out 9)⟩ ?_
   clear hK Kc
   refine plan_quiet rfl (by rfl) (v := ?_) ?_ ?_; rotate_left; (intro w1 hSw; obtain ⟨hs0, hs1, hs2, hs3, hs4, hs5, hs6, hs7, hs8, hs9, hs10, hs11, hs12, hs13, hs14, hs15, hs16, hs17, hs18, hs19⟩ := hSw; go_simp; try (with_reducible rfl)); (try simp only [Act.put, List.setIfInBounds_toArray, List.set_cons_zero, List.set_cons_succ])
   refine plan_end ?_
   go_wp2
   (try simp only [Exit.inBlock, Exit.then])
   rw [← hjn]
   refine bodyPost_ret (v := .tuple #[.agg #[.string X.f.s, .slice A7 X.f.ws.length c7, .slice A27 X.f.cs.length d7, .slice Mz q ez, .int .i64 X.sp, .int .i64 X.w, .int .i64 X.t, .int .i64 X.k, .slice L7 X.ln.length lc7, .slice Tz rj tz], .int .i64 (j : Int)]) (by simp [results, Tryz.results8, go_sem, r0, r1, r2, r3, r4, r5, r6, r7, r8, r9]) rfl ?_
   obtain ⟨z1, z2⟩ := dropX_on HON.out
   have hcnt : dropC X.f k X.ms X.wt = j := D3.out.empty (by rw [HRT.out]; exact hjn)
   rw [z1, z2, HKN.out, hcnt]
   have hz9 := hc9.size
   have hE := E3.out; have hLC := HLC.out
   exact ⟨_, rfl, dropGo_reads ((F5.out.chg hc9 (by omega) (by omega)).wideQ (by omega) (by omega)) ((M5.out.chg hc9 (by omega) (by omega)).wide (by omega) (by omega)) (MatsI.wide (L5.out.keep fun p h1 h2 => hc9.cell (by omega) (by omega)) (by omega) (by omega)) (MatsI.wide (K5.out.keep fun p h1 h2 => hc9.cell (by omega) (by omega)) (by omega) (by omega)) HQ.out HRJ.out hE.1.1 hE.1.2 hLC.1 hLC.2 hE.2.1 hE.2.2, T5.out.trans ((hc9.below (by omega)).mono (by omega))⟩
theorem specDropW_any (lo hi0 : Nat) (v : Value) (X : Mch) (most : Int) (w : World) (h : MchV w lo hi0 v X) (hhi : hi0 ≤ w.heap.size) (hs : SmallX X) (wf : WfX X) (wfm : (Lit.int .i64 most).wf = true) :
  Calls Tryz.prog 8 #[v, .int .i64 most] w fun e w' => ∃ v', e = .returned (.tuple #[v', .int .i64 (dropXN X most)]) ∧ MchV w' w.heap.size w'.heap.size v' (dropXX X most) ∧ Below w.heap.size w w' := by
 cases hm : machB X
 ·exact specDropW_no lo hi0 v X most w h hhi hs wf wfm hm
 ·by_cases hp : 0 ≤ most
  ·exact specDropW_yes lo hi0 v X most w h hhi hs wf wfm hm hp
  ·exact specDropW_neg lo hi0 v X most w h hhi hs wf wfm hm (by omega)
end Go.Proofs.YtimhnkpccbcohaaGreatDoor
