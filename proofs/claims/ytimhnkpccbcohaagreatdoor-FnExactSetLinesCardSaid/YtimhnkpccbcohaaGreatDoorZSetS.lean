/-
 SetLines of the reference model by contract. Conditions: lengths of at most 2^20.
-/
import Derived.Test.YtimhnkpccbcohaaGreatDoorZKeyS
import Derived.Test.YtimhnkpccbcohaaGreatDoorZCastT
import Derived.Test.YtimhnkpccbcohaaGreatDoorZDropWS
import Derived.Test.YtimhnkpccbcohaaGreatDoorZSetI
namespace Go.Proofs.YtimhnkpccbcohaaGreatDoor
open Go.RowKit Go.Conc
set_option linter.unusedVariables false
set_option linter.unusedSimpArgs false

theorem castX_mach {X : Mch} {rag : Bool} (h : castOk X rag = true) : castX X rag = clearX X ∧ machB (clearX X) = true := by
 refine ⟨(cast_on h).1, ?_⟩
 unfold castOk at h
 rw [Bool.and_eq_true, Bool.and_eq_true] at h
 rw [clear_mach h.1]; exact h.2.2
theorem keyRX_small (X : Mch) (s : ByteArray) : SmallX (keyRX X s) := by
 cases h : machB X with
 | true => exact mach_smallX (keyRX_mach s h)
 | false => unfold keyRX; rw [h]; exact big_smallX (by have := zeroX_big; simp only [Bool.false_eq_true, if_false]; omega)
set_option maxRecDepth 100000 in
set_option maxHeartbeats 6400000 in
theorem specSet_no (lo hi0 : Nat) (v : Value) (X : Mch) (A9 : Option Addr) (n9 c9 : Nat) (ss : List ByteArray) (w : World) (h : MchV w lo hi0 v X) (hhi : hi0 ≤ w.heap.size) (hs : SmallX X) (wf : WfX X) (hn9 : ss.length = n9) (hm9 : n9 ≤ 1048576) (h9 : Strs w A9 ss) (wf9 : ∀ s ∈ ss, s.size ≤ maxLen) (hm : machB X = false) :
  Calls Tryz.prog 22 #[v, .slice A9 n9 c9] w fun e w' => ∃ v' u, e = .returned (.tuple #[v', u, .bool (setsOk X ss)]) ∧ MchV w' w.heap.size w'.heap.size v' (setsX X ss) ∧ OwnS w' w.heap.size u (setsT X ss) ∧ Below w.heap.size w w' := by
 have HNO := Lib.hid hm
 obtain ⟨s, A, n, c, A2, m, d, M, q, e0, L, l, lc, T, r, tc, hv, -⟩ := h.parts
 rw [hv] at h ⊢
 clear hv
 obtain ⟨w0, hw0⟩ : ∃ x, w = x := ⟨_, rfl⟩
 have hww : w.heap.size = w0.heap.size := by rw [hw0]
 have HS := Lib.hid hs; have HWF := Lib.hid wf; have HN9 := Lib.hid hn9; have HWS := Lib.hid wf9; have HS9 := Lib.hid h9
 have T0 : Hid (Below w0.heap.size w0 w0) := Below.refl _ _
 have V0 : Hid (MchV w0 lo hi0 (.agg #[.string s, .slice A n c, .slice A2 m d, .slice M q e0, .int .i64 X.sp, .int .i64 X.w, .int .i64 X.t, .int .i64 X.k, .slice L l lc, .slice T r tc]) X) := by rw [← hw0]; exact h
 clear h hs wf hn9 h9 wf9
 obtain ⟨w1, hw1, hb1, hz1, hX1⟩ := mxWorld w0 #[.string s, .slice A n c, .slice A2 m d, .slice M q e0, .int .i64 X.sp, .int .i64 X.w, .int .i64 X.t, .int .i64 X.k, .slice L l lc, .slice T r tc] 37
 have T1 := Lib.hid (T0.out.trans (hb1.mono (by omega)))
 have V1 := Lib.hid (V0.out.below (by omega) hb1)
 have sz1 : w0.heap.size ≤ w1.heap.size := hb1.size
 clear T0 V0
 have P1 := Lib.hid hX1
 obtain ⟨w2, hw2, hb2, hz2, hX2⟩ := mxWorld w1 #[.string ⟨#[]⟩, .slice none 0 0, .slice none 0 0, .slice none 0 0, .int .i64 0, .int .i64 0, .int .i64 0, .int .i64 0, .slice none 0 0, .slice none 0 0] 37
 have T2 := Lib.hid (T1.out.trans (hb2.mono (by omega)))
 have V2 := Lib.hid (V1.out.below (by omega) hb2)
 have P2 := Lib.hid (P1.out.below hb2 (by omega))
 have sz2 : w1.heap.size ≤ w2.heap.size := hb2.size
 clear T1 V1 P1
 rw [hz1] at hX2
 have R2 := Lib.hid hX2
 rw [hz1] at hz2
 obtain ⟨p0, p1, p2, p3, p4, p5, p6, p7, p8, p9⟩ := P2.out.ten
 rw [hw0]
 go_enter Tryz.func22, Tryz.ntmps22
 go_wp2_with fail
 clear p0 p1 p2 p3 p4 p5 p6 p7 p8 p9
 refine (specMachine_any lo hi0 _ X w2 V2.out (by omega) HS.out).mono ?_
 rintro e w3 ⟨rfl, hb3⟩
 have T3 := Lib.hid (T2.out.trans (hb3.mono (by omega)))
 have V3 := Lib.hid (V2.out.below (by omega) hb3)
 have P3 := Lib.hid (P2.out.below hb3 (by omega))
 have R3 := Lib.hid (R2.out.below hb3 (by omega))
 have sz3 : w2.heap.size ≤ w3.heap.size := hb3.size
 clear T2 V2 P2 R2
 rw [hm]
 obtain ⟨r0, r1, r2, r3, r4, r5, r6, r7, r8, r9⟩ := R3.out.ten
 have ff := R3.out.warm
 go_wp2
 obtain ⟨w9, hw9, hc9, hR⟩ := R3.out.put10 (.string ⟨#[]⟩) (.slice none 0 0) (.slice none 0 0) (.slice none 0 0) (.int .i64 0) (.int .i64 0) (.int .i64 0) (.int .i64 0) (.slice none 0 0) (.slice none 0 0)
 (try rw [hw9])
 clear hw9 r0 r1 r2 r3 r4 r5 r6 r7 r8 r9
 obtain ⟨r0, r1, r2, r3, r4, r5, r6, r7, r8, r9⟩ := hR.ten
 (try simp only [Exit.inBlock, Exit.then])
 refine bodyPost_ret (v := .tuple #[.agg #[.string ⟨#[]⟩, .slice none 0 0, .slice none 0 0, .slice none 0 0, .int .i64 0, .int .i64 0, .int .i64 0, .int .i64 0, .slice none 0 0, .slice none 0 0], .slice none 0 0, .bool false]) (by simp [results, Tryz.results22, go_sem, r0, r1, r2, r3, r4, r5, r6, r7, r8, r9]) rfl ?_
 obtain ⟨z1, z2, z3⟩ := sets_no (ls := ss) HNO.out
 rw [z1, z2, z3]
 exact ⟨_, _, rfl, ((zeroX_own w9 w0.heap.size).wide (Nat.le_refl _) (by have := hc9.size; omega) : MchX w9 w0.heap.size w9.heap.size _ _).reads, ⟨rfl, .inl ⟨rfl, rfl⟩⟩, T3.out.trans ((hc9.below (by omega)).mono (by omega))⟩
set_option maxRecDepth 100000 in
set_option maxHeartbeats 12800000 in
theorem specSet_yes (lo hi0 : Nat) (v : Value) (X : Mch) (A9 : Option Addr) (n9 c9 : Nat) (ss : List ByteArray) (w : World) (h : MchV w lo hi0 v X) (hhi : hi0 ≤ w.heap.size) (hs : SmallX X) (wf : WfX X) (hn9 : ss.length = n9) (hm9 : n9 ≤ 1048576) (h9 : Strs w A9 ss) (wf9 : ∀ s ∈ ss, s.size ≤ maxLen) (hm : machB X = true) :
  Calls Tryz.prog 22 #[v, .slice A9 n9 c9] w fun e w' => ∃ v' u, e = .returned (.tuple #[v', u, .bool (setsOk X ss)]) ∧ MchV w' w.heap.size w'.heap.size v' (setsX X ss) ∧ OwnS w' w.heap.size u (setsT X ss) ∧ Below w.heap.size w w' := by
 have HYES := Lib.hid hm
 obtain ⟨s, A, n, c, A2, m, d, M, q, e0, L, l, lc, T, r, tc, hv, -⟩ := h.parts
 rw [hv] at h ⊢
 clear hv
 obtain ⟨w0, hw0⟩ : ∃ x, w = x := ⟨_, rfl⟩
 have hww : w.heap.size = w0.heap.size := by rw [hw0]
 have HS := Lib.hid hs; have HWF := Lib.hid wf; have HN9 := Lib.hid hn9; have HWS := Lib.hid wf9; have HS9 := Lib.hid h9
 have T0 : Hid (Below w0.heap.size w0 w0) := Below.refl _ _
 have V0 : Hid (MchV w0 lo hi0 (.agg #[.string s, .slice A n c, .slice A2 m d, .slice M q e0, .int .i64 X.sp, .int .i64 X.w, .int .i64 X.t, .int .i64 X.k, .slice L l lc, .slice T r tc]) X) := by rw [← hw0]; exact h
 clear h hs wf hn9 h9 wf9
 obtain ⟨w1, hw1, hb1, hz1, hX1⟩ := mxWorld w0 #[.string s, .slice A n c, .slice A2 m d, .slice M q e0, .int .i64 X.sp, .int .i64 X.w, .int .i64 X.t, .int .i64 X.k, .slice L l lc, .slice T r tc] 37
 have T1 := Lib.hid (T0.out.trans (hb1.mono (by omega)))
 have V1 := Lib.hid (V0.out.below (by omega) hb1)
 have sz1 : w0.heap.size ≤ w1.heap.size := hb1.size
 clear T0 V0
 have P1 := Lib.hid hX1
 obtain ⟨w2, hw2, hb2, hz2, hX2⟩ := mxWorld w1 #[.string ⟨#[]⟩, .slice none 0 0, .slice none 0 0, .slice none 0 0, .int .i64 0, .int .i64 0, .int .i64 0, .int .i64 0, .slice none 0 0, .slice none 0 0] 37
 have T2 := Lib.hid (T1.out.trans (hb2.mono (by omega)))
 have V2 := Lib.hid (V1.out.below (by omega) hb2)
 have P2 := Lib.hid (P1.out.below hb2 (by omega))
 have sz2 : w1.heap.size ≤ w2.heap.size := hb2.size
 clear T1 V1 P1
 rw [hz1] at hX2
 have R2 := Lib.hid hX2
 rw [hz1] at hz2
 obtain ⟨p0, p1, p2, p3, p4, p5, p6, p7, p8, p9⟩ := P2.out.ten
 rw [hw0]
 go_enter Tryz.func22, Tryz.ntmps22
 go_wp2_with fail
 clear p0 p1 p2 p3 p4 p5 p6 p7 p8 p9
 refine (specMachine_any lo hi0 _ X w2 V2.out (by omega) HS.out).mono ?_
 rintro e w3 ⟨rfl, hb3⟩
 have T3 := Lib.hid (T2.out.trans (hb3.mono (by omega)))
 have V3 := Lib.hid (V2.out.below (by omega) hb3)
 have P3 := Lib.hid (P2.out.below hb3 (by omega))
 have R3 := Lib.hid (R2.out.below hb3 (by omega))
 have sz3 : w2.heap.size ≤ w3.heap.size := hb3.size
 clear T2 V2 P2 R2
 rw [hm]
 obtain ⟨p0, p1, p2, p3, p4, p5, p6, p7, p8, p9⟩ := P3.out.ten
 have fp := P3.out.warm
 go_wp2_with fail
 refine (l5Copy_any lo hi0 _ X w3 V3.out (by omega) HS.out).mono ?_
 rintro e w4 ⟨vC, rfl, hC, hb4⟩
 obtain ⟨sQ0, AQ0, nQ0, cQ0, BQ0, mQ0, dQ0, MQ0, qQ0, eQ0, spQ0, wQ0, tQ0, kQ0, LQ0, lQ0, lcQ0, TQ0, rQ0, tcQ0, rfl⟩ := hC.reads.form
 clear fp p0 p1 p2 p3 p4 p5 p6 p7 p8 p9
 have HC := Lib.hid hC.reads
 clear hC
 have T4 := Lib.hid (T3.out.trans (hb4.mono (by omega)))
 have P4 := Lib.hid (P3.out.below hb4 (by omega))
 have R4 := Lib.hid (R3.out.below hb4 (by omega))
 have sz4 : w3.heap.size ≤ w4.heap.size := hb4.size
 clear T3 V3 P3 R3
 obtain ⟨p0, p1, p2, p3, p4, p5, p6, p7, p8, p9⟩ := P4.out.ten
 have fp := P4.out.warm
 go_upto_region 4 with fail
 clear fp p0 p1 p2 p3 p4 p5 p6 p7 p8 p9
 obtain ⟨u3, hu3, hc9, hP⟩ := P4.out.put10 (.string sQ0) (.slice AQ0 nQ0 cQ0) (.slice BQ0 mQ0 dQ0) (.slice MQ0 qQ0 eQ0) (.int .i64 spQ0) (.int .i64 wQ0) (.int .i64 tQ0) (.int .i64 kQ0) (.slice LQ0 lQ0 lcQ0) (.slice TQ0 rQ0 tcQ0)
 (try rw [hu3])
 clear hu3
 have hzu3 := hc9.size
 have hbz : w0.heap.size + 2 ≤ u3.heap.size := by omega
 obtain ⟨u4, hu4⟩ : ∃ x, u3.alloc (.cells #[] 9) = x := ⟨_, rfl⟩
 have hb4 : Below u3.heap.size u3 u4 := by rw [← hu4]; exact below_new _ _
 obtain ⟨b, hbq⟩ : ∃ x, u3.heap.size = x := ⟨_, rfl⟩
 have hO4 : OwnS u4 b (.slice (some ⟨b, 0, none⟩) 0 0) [] := by rw [← hu4, ← hbq]; exact World.ownsRow_lit u3 #[] 0 (Nat.le_refl _) (Nat.zero_le _) rfl
 have R3 : Hid (Blk u4 (w0.heap.size + 1) #[.string ⟨#[]⟩, .slice none 0 0, .slice none 0 0, .slice none 0 0, .int .i64 0, .int .i64 0, .int .i64 0, .int .i64 0, .slice none 0 0, .slice none 0 0] 37) := (R4.out.chg hc9 (by omega)).below hb4 (by omega)
 have T3 : Hid (Below w0.heap.size w0 u4) := (T4.out.trans ((hc9.below (by omega)).mono (by omega))).trans (hb4.mono (by omega))
 have V3 : Hid (MchV u4 w3.heap.size w4.heap.size (.agg #[.string sQ0, .slice AQ0 nQ0 cQ0, .slice BQ0 mQ0 dQ0, .slice MQ0 qQ0 eQ0, .int .i64 spQ0, .int .i64 wQ0, .int .i64 tQ0, .int .i64 kQ0, .slice LQ0 lQ0 lcQ0, .slice TQ0 rQ0 tcQ0]) X) := (HC.out.chg hc9 (by omega) (by omega)).below (by omega) hb4
 have P3 : Hid (Blk u4 w0.heap.size #[.string sQ0, .slice AQ0 nQ0 cQ0, .slice BQ0 mQ0 dQ0, .slice MQ0 qQ0 eQ0, .int .i64 spQ0, .int .i64 wQ0, .int .i64 tQ0, .int .i64 kQ0, .slice LQ0 lQ0 lcQ0, .slice TQ0 rQ0 tcQ0] 37) := hP.below hb4 (by omega)
 have O3 := Lib.hid hO4
 have hzu4 := hb4.size
 have hz0 : w0.heap.size + 2 ≤ w3.heap.size := by omega
 have hbl4 : b ≤ u4.heap.size := by omega
 have hz9 : w4.heap.size ≤ u4.heap.size := by omega
 have HU4 := Lib.hid hu4
 clear hP hc9 HC hO4 hb4 hu4 R4 T4 P4
 rw [hbq] at hbz
 go_wp2
 rw [HU4.out]
 (try rw [hbq])
 clear HU4 hbq hzu3 hzu4
 go_loopw [25, 7] (fun jv uv wr => ∃ (sQ : ByteArray) (AQ : Option Addr) (nQ cQ : Nat) (BQ : Option Addr) (mQ dQ : Nat) (MQ : Option Addr) (qQ eQ : Nat) (spQ wQ tQ kQ : Int) (LQ : Option Addr) (lQ lcQ : Nat) (TQ : Option Addr) (rQ tcQ : Nat) (g0 g1 j : Nat) (Y : Mch) (ts : List ByteArray) (U : Option Addr) (mu cu : Nat), j ≤ n9 ∧ jv = .int .i64 j ∧ uv = .slice U mu cu ∧ ts.length = j ∧ Hid (setGo (ss.take j) X = some (Y, ts)) ∧ Hid (Blk wr w0.heap.size #[.string sQ, .slice AQ nQ cQ, .slice BQ mQ dQ, .slice MQ qQ eQ, .int .i64 spQ, .int .i64 wQ, .int .i64 tQ, .int .i64 kQ, .slice LQ lQ lcQ, .slice TQ rQ tcQ] 37) ∧ Hid (Blk wr (w0.heap.size + 1) #[.string ⟨#[]⟩, .slice none 0 0, .slice none 0 0, .slice none 0 0, .int .i64 0, .int .i64 0, .int .i64 0, .int .i64 0, .slice none 0 0, .slice none 0 0] 37) ∧ Hid (Below w0.heap.size w0 wr) ∧ Hid (MchV wr g0 g1 (.agg #[.string sQ, .slice AQ nQ cQ, .slice BQ mQ dQ, .slice MQ qQ eQ, .int .i64 spQ, .int .i64 wQ, .int .i64 tQ, .int .i64 kQ, .slice LQ lQ lcQ, .slice TQ rQ tcQ]) Y) ∧ Hid (OwnS wr b (.slice U mu cu) ts) ∧ w0.heap.size + 2 ≤ g0 ∧ g1 ≤ wr.heap.size ∧ b ≤ wr.heap.size) (fun jv _ _ => n9 - (intOf jv).toNat)
 case atStart => exact ⟨sQ0, AQ0, nQ0, cQ0, BQ0, mQ0, dQ0, MQ0, qQ0, eQ0, spQ0, wQ0, tQ0, kQ0, LQ0, lQ0, lcQ0, TQ0, rQ0, tcQ0, w3.heap.size, w4.heap.size, 0, X, [], some ⟨b, 0, none⟩, 0, 0, Nat.zero_le _, rfl, rfl, rfl, rfl, P3, R3, T3, V3, O3, hz0, hz9, hbl4⟩
 case round =>
  clear P3 R3 T3 V3 O3 hz0 hbl4 hz9
  obtain ⟨sQ, AQ, nQ, cQ, BQ, mQ, dQ, MQ, qQ, eQ, spQ, wQ, tQ, kQ, LQ, lQ, lcQ, TQ, rQ, tcQ, g0, g1, j, Y, ts, U, mu, cu, hjl, rfl, rfl, hlt, HGO, P3, R3, T3, V3, O3, hg0, hg1, hbw⟩ := hrel
  obtain ⟨w5, hwq⟩ : ∃ x, x = wr := ⟨_, rfl⟩
  subst hwq
  have P5 := P3
  have R5 := R3
  have T5 := T3
  have V5 := V3
  have O5 := O3
  clear P3 R3 T3 V3 O3
  have hpl : w0.heap.size + 2 ≤ w5.heap.size := by omega
  have S5 : Hid (Strs w5 A9 ss) := by
   show Strs _ _ _
   refine Strs.below (w := w0) ?_ T5.out
   rw [← hw0]; exact HS9.out
  obtain ⟨hYM, hYW, -⟩ := setGo_mach HYES.out HWF.out HGO.out
  have HYM := Lib.hid hYM
  have HYW := Lib.hid hYW
  clear hYM hYW
  by_cases hj : j < n9
  ·obtain ⟨ad, t, hA, ht, c0⟩ := S5.out.at_ (k := j) (by rw [HN9.out]; exact hj)
   have hA2 := hA
   subst hA2
   have hji : decide ((j : Int) < (n9 : Int)) = true := by simp; omega
   have HTS := Lib.hid (HWS.out t (List.mem_of_getElem? ht.out))
   clear S5
   obtain ⟨p0, p1, p2, p3, p4, p5, p6, p7, p8, p9⟩ := P5.out.ten
   go_wp2_with fail
   clear c0 p0 p1 p2 p3 p4 p5 p6 p7 p8 p9
   refine (specKey_any g0 g1 _ Y t w5 V5.out (by omega) (mach_smallX HYM.out) HYW.out HTS.out).mono ?_
   rintro e w6 ⟨v', n8, Y8, rfl, hKR, hK, hb6⟩
   obtain ⟨e8, e9⟩ := keyRes_eq hKR
   subst e8; subst e9
   obtain ⟨sQk, AQk, nQk, cQk, BQk, mQk, dQk, MQk, qQk, eQk, spQk, wQk, tQk, kQk, LQk, lQk, lcQk, TQk, rQk, tcQk, rfl⟩ := hK.form
   have P6 := Lib.hid (P5.out.below hb6 (by omega))
   have R6 := Lib.hid (R5.out.below hb6 (by omega))
   have T6 := Lib.hid (T5.out.trans (hb6.mono (by omega)))
   have O6 := Lib.hid (O5.out.below hb6)
   have sz6 : w5.heap.size ≤ w6.heap.size := hb6.size
   clear P5 R5 T5 V5 O5
   have K6 : Hid (MchV w6 w5.heap.size w6.heap.size (.agg #[.string sQk, .slice AQk nQk cQk, .slice BQk mQk dQk, .slice MQk qQk eQk, .int .i64 spQk, .int .i64 wQk, .int .i64 tQk, .int .i64 kQk, .slice LQk lQk lcQk, .slice TQk rQk tcQk]) (keyRX Y t)) := hK
   clear hK hKR
   obtain ⟨nk, hnk⟩ : ∃ x, keyRN Y t = x := ⟨_, rfl⟩
   have HNK := Lib.hid hnk
   rw [hnk]
   clear hnk
   go_wp2_with fail
   obtain ⟨w7, hw, hb7, hz, hX⟩ := mxWorld w6 #[.string sQk, .slice AQk nQk cQk, .slice BQk mQk dQk, .slice MQk qQk eQk, .int .i64 spQk, .int .i64 wQk, .int .i64 tQk, .int .i64 kQk, .slice LQk lQk lcQk, .slice TQk rQk tcQk] 37
   rw [hw]
   clear hw
   have hzl7 : w6.heap.size < w7.heap.size := by omega
   clear hz
   have P7 := Lib.hid (P6.out.below hb7 (by omega))
   have R7 := Lib.hid (R6.out.below hb7 (by omega))
   have T7 := Lib.hid (T6.out.trans (hb7.mono (by omega)))
   have O7 := Lib.hid (O6.out.below hb7)
   have K7 := Lib.hid (K6.out.below (by omega) hb7)
   have sz7 : w6.heap.size ≤ w7.heap.size := hb7.size
   clear P6 R6 T6 O6 K6
   have Bk7 := Lib.hid hX
   clear hX hb7
   refine (specCast_any _ _ _ (keyRX Y t) true w7 K7.out (by omega) (keyRX_small Y t)).mono ?_
   rintro e w8 ⟨v', vp, rfl, hX, -, hb8⟩
   obtain ⟨sQc, AQc, nQc, cQc, BQc, mQc, dQc, MQc, qQc, eQc, spQc, wQc, tQc, kQc, LQc, lQc, lcQc, TQc, rQc, tcQc, rfl⟩ := hX.reads.form
   have P8 := Lib.hid (P7.out.below hb8 (by omega))
   have R8 := Lib.hid (R7.out.below hb8 (by omega))
   have T8 := Lib.hid (T7.out.trans (hb8.mono (by omega)))
   have O8 := Lib.hid (O7.out.below hb8)
   have sz8 : w7.heap.size ≤ w8.heap.size := hb8.size
   clear P7 R7 T7 O7 K7 Bk7
   have C8 : Hid (MchV w8 w7.heap.size w8.heap.size (.agg #[.string sQc, .slice AQc nQc cQc, .slice BQc mQc dQc, .slice MQc qQc eQc, .int .i64 spQc, .int .i64 wQc, .int .i64 tQc, .int .i64 kQc, .slice LQc lQc lcQc, .slice TQc rQc tcQc]) (castX (keyRX Y t) true)) := hX.reads
   clear hX
   obtain ⟨ok, hok⟩ : ∃ x, castOk (keyRX Y t) true = x := ⟨_, rfl⟩
   have HOK := Lib.hid hok
   obtain ⟨bq, hbq⟩ : ∃ x, decide (nk < (t.size : Int)) = x := ⟨_, rfl⟩
   have HBQ := Lib.hid hbq
   have HSO : Hid (setOk Y t = (!bq && ok)) := by show _ = _; unfold setOk; rw [HNK.out, hbq, hok]
   rw [hok]
   clear hok
   cases bq
   ·cases ok
    ·have HNON := Lib.hid ((setGo_next ht.out HGO.out).2 (by rw [HSO.out]; rfl))
     obtain ⟨w9, hw9, hb9, hz9, hX9⟩ := mxWorld w8 #[.string sQc, .slice AQc nQc cQc, .slice BQc mQc dQc, .slice MQc qQc eQc, .int .i64 spQc, .int .i64 wQc, .int .i64 tQc, .int .i64 kQc, .slice LQc lQc lcQc, .slice TQc rQc tcQc] 37
     have P9 := Lib.hid (P8.out.below hb9 (by omega))
     have R9 := Lib.hid (R8.out.below hb9 (by omega))
     have T9 := Lib.hid (T8.out.trans (hb9.mono (by omega)))
     have O9 := Lib.hid (O8.out.below hb9)
     have C9 := Lib.hid (C8.out.below (by omega) hb9)
     have sz9 : w8.heap.size ≤ w9.heap.size := hb9.size
     clear P8 R8 T8 O8 C8
     have Bc9 := Lib.hid hX9
     obtain ⟨r0, r1, r2, r3, r4, r5, r6, r7, r8, r9⟩ := R9.out.ten
     have ff := R9.out.warm
     go_wp2
     obtain ⟨w9, hw9, hc9, hR⟩ := R9.out.put10 (.string ⟨#[]⟩) (.slice none 0 0) (.slice none 0 0) (.slice none 0 0) (.int .i64 0) (.int .i64 0) (.int .i64 0) (.int .i64 0) (.slice none 0 0) (.slice none 0 0)
     (try rw [hw9])
     clear hw9 r0 r1 r2 r3 r4 r5 r6 r7 r8 r9
     obtain ⟨r0, r1, r2, r3, r4, r5, r6, r7, r8, r9⟩ := hR.ten
     (try simp only [Exit.inBlock, Exit.then])
     refine bodyPost_ret (v := .tuple #[.agg #[.string ⟨#[]⟩, .slice none 0 0, .slice none 0 0, .slice none 0 0, .int .i64 0, .int .i64 0, .int .i64 0, .int .i64 0, .slice none 0 0, .slice none 0 0], .slice none 0 0, .bool false]) (by simp [results, Tryz.results22, go_sem, r0, r1, r2, r3, r4, r5, r6, r7, r8, r9]) rfl ?_
     obtain ⟨z1, z2, z3⟩ := sets_none (X := X) HNON.out
     rw [z1, z2, z3]
     exact ⟨_, _, rfl, ((zeroX_own w9 w0.heap.size).wide (Nat.le_refl _) (by have := hc9.size; omega) : MchX w9 w0.heap.size w9.heap.size _ _).reads, ⟨rfl, .inl ⟨rfl, rfl⟩⟩, T9.out.trans ((hc9.below (by omega)).mono (by omega))⟩
    ·go_wp2_with fail
     obtain ⟨w9, hw, hb9, hz, hX⟩ := mxWorld w8 #[.string sQc, .slice AQc nQc cQc, .slice BQc mQc dQc, .slice MQc qQc eQc, .int .i64 spQc, .int .i64 wQc, .int .i64 tQc, .int .i64 kQc, .slice LQc lQc lcQc, .slice TQc rQc tcQc] 37
     rw [hw]
     clear hw
     have hzl9 : w8.heap.size < w9.heap.size := by omega
     clear hz
     have P9 := Lib.hid (P8.out.below hb9 (by omega))
     have R9 := Lib.hid (R8.out.below hb9 (by omega))
     have T9 := Lib.hid (T8.out.trans (hb9.mono (by omega)))
     have O9 := Lib.hid (O8.out.below hb9)
     have C9 := Lib.hid (C8.out.below (by omega) hb9)
     have sz9 : w8.heap.size ≤ w9.heap.size := hb9.size
     clear P8 R8 T8 O8 C8
     have Bc9 := Lib.hid hX
     clear hX hb9
     have HRB : Hid (∀ x, (Value.slice U mu cu).ownBlock = some x → x < w9.heap.size) := fun x hx => ((World.ownsRow.lt O9.out) x hx).2
     have hcm := castX_mach HOK.out
     have HCM := Lib.hid hcm.2
     have hcs : SmallX (castX (keyRX Y t) true) := by rw [hcm.1]; exact mach_smallX hcm.2
     have hcw : WfX (castX (keyRX Y t) true) := by rw [hcm.1]; exact clearX_wf (keyRX_wf t HYM.out HYW.out)
     clear hcm
     refine (specDropW_any _ _ _ (castX (keyRX Y t) true) 240 w9 C9.out (by omega) hcs hcw (by decide)).mono ?_
     rintro e w10 ⟨v', rfl, hD, hb10⟩
     obtain ⟨sQd, AQd, nQd, cQd, BQd, mQd, dQd, MQd, qQd, eQd, spQd, wQd, tQd, kQd, LQd, lQd, lcQd, TQd, rQd, tcQd, rfl⟩ := hD.form
     have P10 := Lib.hid (P9.out.below hb10 (by omega))
     have R10 := Lib.hid (R9.out.below hb10 (by omega))
     have T10 := Lib.hid (T9.out.trans (hb10.mono (by omega)))
     have O10 := Lib.hid (O9.out.below hb10)
     have sz10 : w9.heap.size ≤ w10.heap.size := hb10.size
     clear P9 R9 T9 O9 C9 Bc9
     have D10 : Hid (MchV w10 w9.heap.size w10.heap.size (.agg #[.string sQd, .slice AQd nQd cQd, .slice BQd mQd dQd, .slice MQd qQd eQd, .int .i64 spQd, .int .i64 wQd, .int .i64 tQd, .int .i64 kQd, .slice LQd lQd lcQd, .slice TQd rQd tcQd]) (setY Y t)) := hD
     clear hD hcs hcw
     obtain ⟨p0, p1, p2, p3, p4, p5, p6, p7, p8, p9⟩ := P10.out.ten
     have fp := P10.out.warm
     go_upto_region 13 with fail
     clear fp p0 p1 p2 p3 p4 p5 p6 p7 p8 p9
     obtain ⟨w11, hu3, hc9, hP⟩ := P10.out.put10 (.string sQd) (.slice AQd nQd cQd) (.slice BQd mQd dQd) (.slice MQd qQd eQd) (.int .i64 spQd) (.int .i64 wQd) (.int .i64 tQd) (.int .i64 kQd) (.slice LQd lQd lcQd) (.slice TQd rQd tcQd)
     (try rw [hu3])
     clear hu3
     have hzu3 := hc9.size
     have hO9 := O10.out.stay (fun g hg => hc9.block g ((World.ownsRow.lt O10.out) g hg).2 (by have := ((World.ownsRow.lt O10.out) g hg).1; omega))
     have HO9 := Lib.hid hO9
     have HP9 := Lib.hid hP
     have R9 := Lib.hid (R10.out.chg hc9 (by omega))
     have T9 := Lib.hid (T10.out.trans ((hc9.below (by omega)).mono (by omega)))
     have D9 := Lib.hid (D10.out.chg hc9 (by omega) (by omega))
     have hUl := World.ownsRow.lt O10.out
     clear hP hc9 hO9 P10 R10 T10 O10 D10
     have HGO2 := Lib.hid ((setGo_next ht.out HGO.out).1 (by rw [HSO.out]; rfl))
     have hbw9 : b ≤ w11.heap.size := by omega
     have hl20 : ts.length ≤ 1048576 := by omega
     go_wp2_with (at_builtin; refine wpls_push2 w11 rfl (.tmp 56) (.tmp 58) rfl b (.slice U mu cu) ts (setT Y t) rfl rfl HO9.out hbw9 hl20 ?_; intro v4 w12 hO4 hg4 hv4; obtain ⟨A4, c4, rfl, -⟩ := hO4.form; have hl4 : (ts ++ [setT Y t]).length = j + 1 := (by rw [List.length_append, hlt]; rfl); rw [hl4] at hO4 hv4 ⊢; have HO4 := Lib.hid hO4; have HG4 := Lib.hid hg4; have HV4 := Lib.hid hv4; clear hO4 hg4 hv4)
     have hbl : Below b w11 w12 := (Below.refl b w11).grown HG4.out hbw9 (fun x hx => ((World.ownsRow.lt HO9.out) x hx).1)
     have hc4 : Chg b w9.heap.size w11 w12 := Chg.of_grown HG4.out (fun x hx => ⟨((World.ownsRow.lt HO9.out) x hx).1, HRB.out x hx⟩)
     have hsz9 := hbl.size
     exact ⟨⟨sQd, AQd, nQd, cQd, BQd, mQd, dQd, MQd, qQd, eQd, spQd, wQd, tQd, kQd, LQd, lQd, lcQd, TQd, rQd, tcQd, w9.heap.size, w10.heap.size, j + 1, setY Y t, ts ++ [setT Y t], A4, j + 1, c4, by omega, by go_num, rfl, hl4, HGO2, Lib.hid (HP9.out.chg hc4 (by omega)), Lib.hid (R9.out.chg hc4 (by omega)), Lib.hid (T9.out.trans (hbl.mono (by omega))), Lib.hid (D9.out.chg hc4 (by omega) (by omega)), HO4, by omega, by omega, by omega⟩, by simp [intOf]; omega⟩
   ·cases ok
    ·have HNON := Lib.hid ((setGo_next ht.out HGO.out).2 (by rw [HSO.out]; rfl))
     obtain ⟨w9, hw9, hb9, hz9, hX9⟩ := mxWorld w8 #[.string sQc, .slice AQc nQc cQc, .slice BQc mQc dQc, .slice MQc qQc eQc, .int .i64 spQc, .int .i64 wQc, .int .i64 tQc, .int .i64 kQc, .slice LQc lQc lcQc, .slice TQc rQc tcQc] 37
     have P9 := Lib.hid (P8.out.below hb9 (by omega))
     have R9 := Lib.hid (R8.out.below hb9 (by omega))
     have T9 := Lib.hid (T8.out.trans (hb9.mono (by omega)))
     have O9 := Lib.hid (O8.out.below hb9)
     have C9 := Lib.hid (C8.out.below (by omega) hb9)
     have sz9 : w8.heap.size ≤ w9.heap.size := hb9.size
     clear P8 R8 T8 O8 C8
     have Bc9 := Lib.hid hX9
     obtain ⟨r0, r1, r2, r3, r4, r5, r6, r7, r8, r9⟩ := R9.out.ten
     have ff := R9.out.warm
     go_wp2
     obtain ⟨w9, hw9, hc9, hR⟩ := R9.out.put10 (.string ⟨#[]⟩) (.slice none 0 0) (.slice none 0 0) (.slice none 0 0) (.int .i64 0) (.int .i64 0) (.int .i64 0) (.int .i64 0) (.slice none 0 0) (.slice none 0 0)
     (try rw [hw9])
     clear hw9 r0 r1 r2 r3 r4 r5 r6 r7 r8 r9
     obtain ⟨r0, r1, r2, r3, r4, r5, r6, r7, r8, r9⟩ := hR.ten
     (try simp only [Exit.inBlock, Exit.then])
     refine bodyPost_ret (v := .tuple #[.agg #[.string ⟨#[]⟩, .slice none 0 0, .slice none 0 0, .slice none 0 0, .int .i64 0, .int .i64 0, .int .i64 0, .int .i64 0, .slice none 0 0, .slice none 0 0], .slice none 0 0, .bool false]) (by simp [results, Tryz.results22, go_sem, r0, r1, r2, r3, r4, r5, r6, r7, r8, r9]) rfl ?_
     obtain ⟨z1, z2, z3⟩ := sets_none (X := X) HNON.out
     rw [z1, z2, z3]
     exact ⟨_, _, rfl, ((zeroX_own w9 w0.heap.size).wide (Nat.le_refl _) (by have := hc9.size; omega) : MchX w9 w0.heap.size w9.heap.size _ _).reads, ⟨rfl, .inl ⟨rfl, rfl⟩⟩, T9.out.trans ((hc9.below (by omega)).mono (by omega))⟩
    ·have HNON := Lib.hid ((setGo_next ht.out HGO.out).2 (by rw [HSO.out]; rfl))
     obtain ⟨w9, hw9, hb9, hz9, hX9⟩ := mxWorld w8 #[.string sQc, .slice AQc nQc cQc, .slice BQc mQc dQc, .slice MQc qQc eQc, .int .i64 spQc, .int .i64 wQc, .int .i64 tQc, .int .i64 kQc, .slice LQc lQc lcQc, .slice TQc rQc tcQc] 37
     have P9 := Lib.hid (P8.out.below hb9 (by omega))
     have R9 := Lib.hid (R8.out.below hb9 (by omega))
     have T9 := Lib.hid (T8.out.trans (hb9.mono (by omega)))
     have O9 := Lib.hid (O8.out.below hb9)
     have C9 := Lib.hid (C8.out.below (by omega) hb9)
     have sz9 : w8.heap.size ≤ w9.heap.size := hb9.size
     clear P8 R8 T8 O8 C8
     have Bc9 := Lib.hid hX9
     obtain ⟨r0, r1, r2, r3, r4, r5, r6, r7, r8, r9⟩ := R9.out.ten
     have ff := R9.out.warm
     go_wp2
     obtain ⟨w9, hw9, hc9, hR⟩ := R9.out.put10 (.string ⟨#[]⟩) (.slice none 0 0) (.slice none 0 0) (.slice none 0 0) (.int .i64 0) (.int .i64 0) (.int .i64 0) (.int .i64 0) (.slice none 0 0) (.slice none 0 0)
     (try rw [hw9])
     clear hw9 r0 r1 r2 r3 r4 r5 r6 r7 r8 r9
     obtain ⟨r0, r1, r2, r3, r4, r5, r6, r7, r8, r9⟩ := hR.ten
     (try simp only [Exit.inBlock, Exit.then])
     refine bodyPost_ret (v := .tuple #[.agg #[.string ⟨#[]⟩, .slice none 0 0, .slice none 0 0, .slice none 0 0, .int .i64 0, .int .i64 0, .int .i64 0, .int .i64 0, .slice none 0 0, .slice none 0 0], .slice none 0 0, .bool false]) (by simp [results, Tryz.results22, go_sem, r0, r1, r2, r3, r4, r5, r6, r7, r8, r9]) rfl ?_
     obtain ⟨z1, z2, z3⟩ := sets_none (X := X) HNON.out
     rw [z1, z2, z3]
     exact ⟨_, _, rfl, ((zeroX_own w9 w0.heap.size).wide (Nat.le_refl _) (by have := hc9.size; omega) : MchX w9 w0.heap.size w9.heap.size _ _).reads, ⟨rfl, .inl ⟨rfl, rfl⟩⟩, T9.out.trans ((hc9.below (by omega)).mono (by omega))⟩
  ·have hjn : n9 = j := by omega
   have hji : decide ((j : Int) < (n9 : Int)) = false := by simp; omega
   have hgo2 : setGo ss X = some (Y, ts) := by
    have h9 := HGO.out
    rwa [List.take_of_length_le (by rw [HN9.out]; omega)] at h9
   have HG2 := Lib.hid hgo2
   clear hgo2 hjn
   obtain ⟨p0, p1, p2, p3, p4, p5, p6, p7, p8, p9⟩ := P5.out.ten
   obtain ⟨r0, r1, r2, r3, r4, r5, r6, r7, r8, r9⟩ := R5.out.ten
   have ff := R5.out.warm
   go_wp2
   obtain ⟨w9, hw9, hc9, hR⟩ := R5.out.put10 (.string sQ) (.slice AQ nQ cQ) (.slice BQ mQ dQ) (.slice MQ qQ eQ) (.int .i64 spQ) (.int .i64 wQ) (.int .i64 tQ) (.int .i64 kQ) (.slice LQ lQ lcQ) (.slice TQ rQ tcQ)
   (try rw [hw9])
   clear hw9 r0 r1 r2 r3 r4 r5 r6 r7 r8 r9
   obtain ⟨r0, r1, r2, r3, r4, r5, r6, r7, r8, r9⟩ := hR.ten
   (try simp only [Exit.inBlock, Exit.then])
   clear p0 p1 p2 p3 p4 p5 p6 p7 p8 p9
   refine bodyPost_ret (v := .tuple #[.agg #[.string sQ, .slice AQ nQ cQ, .slice BQ mQ dQ, .slice MQ qQ eQ, .int .i64 spQ, .int .i64 wQ, .int .i64 tQ, .int .i64 kQ, .slice LQ lQ lcQ, .slice TQ rQ tcQ], .slice U mu cu, .bool true]) (by simp [results, Tryz.results22, go_sem, r0, r1, r2, r3, r4, r5, r6, r7, r8, r9]) rfl ?_
   obtain ⟨z1, z2, z3⟩ := sets_some HYES.out HG2.out
   rw [z1, z2, z3]
   exact ⟨_, _, rfl, (V5.out.chg hc9 (by omega) (by omega)).wide (by omega) (by have := hc9.size; omega), OwnS.baseQ (OwnS.stay O5.out (fun g hg => hc9.block g (((World.ownsRow.lt O5.out) g hg).2) (by have := ((World.ownsRow.lt O5.out) g hg).1; omega))) (by omega), T5.out.trans ((hc9.below (by omega)).mono (by omega))⟩
theorem specSet_any (lo hi0 : Nat) (v : Value) (X : Mch) (A9 : Option Addr) (n9 c9 : Nat) (ss : List ByteArray) (w : World) (h : MchV w lo hi0 v X) (hhi : hi0 ≤ w.heap.size) (hs : SmallX X) (wf : WfX X) (hn9 : ss.length = n9) (hm9 : n9 ≤ 1048576) (h9 : Strs w A9 ss) (wf9 : ∀ s ∈ ss, s.size ≤ maxLen) :
  Calls Tryz.prog 22 #[v, .slice A9 n9 c9] w fun e w' => ∃ v' u, e = .returned (.tuple #[v', u, .bool (setsOk X ss)]) ∧ MchV w' w.heap.size w'.heap.size v' (setsX X ss) ∧ OwnS w' w.heap.size u (setsT X ss) ∧ Below w.heap.size w w' := by
 cases hm : machB X
 ·exact specSet_no lo hi0 v X A9 n9 c9 ss w h hhi hs wf hn9 hm9 h9 wf9 hm
 ·exact specSet_yes lo hi0 v X A9 n9 c9 ss w h hhi hs wf hn9 hm9 h9 wf9 hm
end Go.Proofs.YtimhnkpccbcohaaGreatDoor
