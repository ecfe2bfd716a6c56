/-
 KeyText of the reference model by contract. Conditions: lengths of at most 2^20.
-/
import Derived.Test.YtimhnkpccbcohaaGreatDoorZReadMG
import Derived.Test.YtimhnkpccbcohaaGreatDoorZL5K
namespace Go.Proofs.YtimhnkpccbcohaaGreatDoor
open Go.RowKit Go.Conc
set_option linter.unusedVariables false
set_option linter.unusedSimpArgs false

set_option maxRecDepth 100000 in
set_option maxHeartbeats 6400000 in
theorem specKey_no (lo hi0 : Nat) (v : Value) (X : Mch) (sx : ByteArray) (w : World) (h : MchV w lo hi0 v X) (hhi : hi0 ≤ w.heap.size) (hs : SmallX X) (wf : WfX X) (hsx : sx.size ≤ maxLen) (hm : machB X = false) :
  Calls Tryz.prog 19 #[v, .string sx] w fun e w' => ∃ v' n Y, e = .returned (.tuple #[v', .int .i64 n]) ∧ KeyRes X sx n Y ∧ MchV w' w.heap.size w'.heap.size v' Y ∧ Below w.heap.size w w' := by
 have HNO := Lib.hid hm
 obtain ⟨s, A, n, c, A2, m, d, M, q, e0, L, l, lc, T, r, tc, hv, -⟩ := h.parts
 rw [hv] at h ⊢
 clear hv
 obtain ⟨w0, hw0⟩ : ∃ x, w = x := ⟨_, rfl⟩
 have hww : w.heap.size = w0.heap.size := by rw [hw0]
 have HS := Lib.hid hs; have HWF := Lib.hid wf
 have T0 : Hid (Below w0.heap.size w0 w0) := Below.refl _ _
 have V0 : Hid (MchV w0 lo hi0 (.agg #[.string s, .slice A n c, .slice A2 m d, .slice M q e0, .int .i64 X.sp, .int .i64 X.w, .int .i64 X.t, .int .i64 X.k, .slice L l lc, .slice T r tc]) X) := by rw [← hw0]; exact h
 clear h hs wf
 obtain ⟨w1, hw1, hb1, hz1, hX1⟩ := mxWorld w0 #[.string s, .slice A n c, .slice A2 m d, .slice M q e0, .int .i64 X.sp, .int .i64 X.w, .int .i64 X.t, .int .i64 X.k, .slice L l lc, .slice T r tc] 37
 have T1 := Lib.hid (T0.out.trans (hb1.mono (by omega)))
 have V1 := Lib.hid (V0.out.below (by omega) hb1)
 have sz1 : w0.heap.size ≤ w1.heap.size := hb1.size
 clear T0 V0
 have P1 := Lib.hid hX1
 obtain ⟨w2, hw2, hb2, hz2, hX2⟩ := mxWorld w1 #[.string ⟨#[]⟩, .slice none 0 0, .slice none 0 0, .slice none 0 0, .int .i64 0, .int .i64 0, .int .i64 0, .int .i64 0, .slice none 0 0, .slice none 0 0] 37
 have T2 := Lib.hid (T1.out.trans (hb2.mono (by omega)))
 have V2 := Lib.hid (V1.out.below (by omega) hb2)
 have P2 := Lib.hid (P1.out.below hb2 (by omega))
 have sz2 : w1.heap.size ≤ w2.heap.size := hb2.size
 clear T1 V1 P1
 rw [hz1] at hX2
 have R2 := Lib.hid hX2
 rw [hz1] at hz2
 obtain ⟨p0, p1, p2, p3, p4, p5, p6, p7, p8, p9⟩ := P2.out.ten
 rw [hw0]
 go_enter Tryz.func19, Tryz.ntmps19
 go_wp2_with fail
 clear p0 p1 p2 p3 p4 p5 p6 p7 p8 p9
 refine (specMachine_any lo hi0 _ X w2 V2.out (by omega) HS.out).mono ?_
 rintro e w3 ⟨rfl, hb3⟩
 have T3 := Lib.hid (T2.out.trans (hb3.mono (by omega)))
 have V3 := Lib.hid (V2.out.below (by omega) hb3)
 have P3 := Lib.hid (P2.out.below hb3 (by omega))
 have R3 := Lib.hid (R2.out.below hb3 (by omega))
 have sz3 : w2.heap.size ≤ w3.heap.size := hb3.size
 clear T2 V2 P2 R2
 rw [hm]
 obtain ⟨r0, r1, r2, r3, r4, r5, r6, r7, r8, r9⟩ := R3.out.ten
 have ff := R3.out.warm
 go_wp2
 obtain ⟨w9, hw9, hc9, hR⟩ := R3.out.put10 (.string ⟨#[]⟩) (.slice none 0 0) (.slice none 0 0) (.slice none 0 0) (.int .i64 0) (.int .i64 0) (.int .i64 0) (.int .i64 0) (.slice none 0 0) (.slice none 0 0)
 (try rw [hw9])
 clear hw9 r0 r1 r2 r3 r4 r5 r6 r7 r8 r9
 obtain ⟨r0, r1, r2, r3, r4, r5, r6, r7, r8, r9⟩ := hR.ten
 (try simp only [Exit.inBlock, Exit.then])
 refine bodyPost_ret (v := .tuple #[.agg #[.string ⟨#[]⟩, .slice none 0 0, .slice none 0 0, .slice none 0 0, .int .i64 0, .int .i64 0, .int .i64 0, .int .i64 0, .slice none 0 0, .slice none 0 0], .int .i64 (-1)]) (by simp [results, Tryz.results19, go_sem, r0, r1, r2, r3, r4, r5, r6, r7, r8, r9]) rfl ?_
 exact ⟨_, _, _, rfl, .inl ⟨HNO.out, rfl, rfl⟩, ((zeroX_own w9 w0.heap.size).wide (Nat.le_refl _) (by have := hc9.size; omega) : MchX w9 w0.heap.size w9.heap.size _ _).reads, T3.out.trans ((hc9.below (by omega)).mono (by omega))⟩
set_option maxRecDepth 100000 in
set_option maxHeartbeats 12800000 in
theorem specKey_yes (lo hi0 : Nat) (v : Value) (X : Mch) (sx : ByteArray) (w : World) (h : MchV w lo hi0 v X) (hhi : hi0 ≤ w.heap.size) (hs : SmallX X) (wf : WfX X) (hsx : sx.size ≤ maxLen) (hm : machB X = true) :
  Calls Tryz.prog 19 #[v, .string sx] w fun e w' => ∃ v' n Y, e = .returned (.tuple #[v', .int .i64 n]) ∧ KeyRes X sx n Y ∧ MchV w' w.heap.size w'.heap.size v' Y ∧ Below w.heap.size w w' := by
 have HYES := Lib.hid hm
 obtain ⟨s, A, n, c, A2, m, d, M, q, e0, L, l, lc, T, r, tc, hv, -⟩ := h.parts
 rw [hv] at h ⊢
 clear hv
 obtain ⟨w0, hw0⟩ : ∃ x, w = x := ⟨_, rfl⟩
 have hww : w.heap.size = w0.heap.size := by rw [hw0]
 have HS := Lib.hid hs; have HWF := Lib.hid wf
 have T0 : Hid (Below w0.heap.size w0 w0) := Below.refl _ _
 have V0 : Hid (MchV w0 lo hi0 (.agg #[.string s, .slice A n c, .slice A2 m d, .slice M q e0, .int .i64 X.sp, .int .i64 X.w, .int .i64 X.t, .int .i64 X.k, .slice L l lc, .slice T r tc]) X) := by rw [← hw0]; exact h
 clear h hs wf
 obtain ⟨w1, hw1, hb1, hz1, hX1⟩ := mxWorld w0 #[.string s, .slice A n c, .slice A2 m d, .slice M q e0, .int .i64 X.sp, .int .i64 X.w, .int .i64 X.t, .int .i64 X.k, .slice L l lc, .slice T r tc] 37
 have T1 := Lib.hid (T0.out.trans (hb1.mono (by omega)))
 have V1 := Lib.hid (V0.out.below (by omega) hb1)
 have sz1 : w0.heap.size ≤ w1.heap.size := hb1.size
 clear T0 V0
 have P1 := Lib.hid hX1
 obtain ⟨w2, hw2, hb2, hz2, hX2⟩ := mxWorld w1 #[.string ⟨#[]⟩, .slice none 0 0, .slice none 0 0, .slice none 0 0, .int .i64 0, .int .i64 0, .int .i64 0, .int .i64 0, .slice none 0 0, .slice none 0 0] 37
 have T2 := Lib.hid (T1.out.trans (hb2.mono (by omega)))
 have V2 := Lib.hid (V1.out.below (by omega) hb2)
 have P2 := Lib.hid (P1.out.below hb2 (by omega))
 have sz2 : w1.heap.size ≤ w2.heap.size := hb2.size
 clear T1 V1 P1
 rw [hz1] at hX2
 have R2 := Lib.hid hX2
 rw [hz1] at hz2
 obtain ⟨p0, p1, p2, p3, p4, p5, p6, p7, p8, p9⟩ := P2.out.ten
 rw [hw0]
 go_enter Tryz.func19, Tryz.ntmps19
 go_wp2_with fail
 clear p0 p1 p2 p3 p4 p5 p6 p7 p8 p9
 refine (specMachine_any lo hi0 _ X w2 V2.out (by omega) HS.out).mono ?_
 rintro e w3 ⟨rfl, hb3⟩
 have T3 := Lib.hid (T2.out.trans (hb3.mono (by omega)))
 have V3 := Lib.hid (V2.out.below (by omega) hb3)
 have P3 := Lib.hid (P2.out.below hb3 (by omega))
 have R3 := Lib.hid (R2.out.below hb3 (by omega))
 have sz3 : w2.heap.size ≤ w3.heap.size := hb3.size
 clear T2 V2 P2 R2
 rw [hm]
 obtain ⟨p0, p1, p2, p3, p4, p5, p6, p7, p8, p9⟩ := P3.out.ten
 have fp := P3.out.warm
 go_wp2_with fail
 refine (l5Copy_any lo hi0 _ X w3 V3.out (by omega) HS.out).mono ?_
 rintro e w4 ⟨vC, rfl, hC, hb4⟩
 obtain ⟨sQ0, AQ0, nQ0, cQ0, BQ0, mQ0, dQ0, MQ0, qQ0, eQ0, spQ0, wQ0, tQ0, kQ0, LQ0, lQ0, lcQ0, TQ0, rQ0, tcQ0, rfl⟩ := hC.reads.form
 clear fp p0 p1 p2 p3 p4 p5 p6 p7 p8 p9
 have HC := Lib.hid hC.reads
 clear hC
 have T4 := Lib.hid (T3.out.trans (hb4.mono (by omega)))
 have P4 := Lib.hid (P3.out.below hb4 (by omega))
 have R4 := Lib.hid (R3.out.below hb4 (by omega))
 have sz4 : w3.heap.size ≤ w4.heap.size := hb4.size
 clear T3 V3 P3 R3
 obtain ⟨p0, p1, p2, p3, p4, p5, p6, p7, p8, p9⟩ := P4.out.ten
 have fp := P4.out.warm
 go_upto_region 4 with fail
 clear fp p0 p1 p2 p3 p4 p5 p6 p7 p8 p9
 obtain ⟨u3, hu3, hc9, hP⟩ := P4.out.put10 (.string sQ0) (.slice AQ0 nQ0 cQ0) (.slice BQ0 mQ0 dQ0) (.slice MQ0 qQ0 eQ0) (.int .i64 spQ0) (.int .i64 wQ0) (.int .i64 tQ0) (.int .i64 kQ0) (.slice LQ0 lQ0 lcQ0) (.slice TQ0 rQ0 tcQ0)
 (try rw [hu3])
 clear hu3
 have hzu3 := hc9.size
 have R3 : Hid (Blk u3 (w0.heap.size + 1) #[.string ⟨#[]⟩, .slice none 0 0, .slice none 0 0, .slice none 0 0, .int .i64 0, .int .i64 0, .int .i64 0, .int .i64 0, .slice none 0 0, .slice none 0 0] 37) := R4.out.chg hc9 (by omega)
 have T3 := Lib.hid (T4.out.trans ((hc9.below (by omega)).mono (by omega)))
 have V3 : Hid (MchV u3 w3.heap.size w4.heap.size (.agg #[.string sQ0, .slice AQ0 nQ0 cQ0, .slice BQ0 mQ0 dQ0, .slice MQ0 qQ0 eQ0, .int .i64 spQ0, .int .i64 wQ0, .int .i64 tQ0, .int .i64 kQ0, .slice LQ0 lQ0 lcQ0, .slice TQ0 rQ0 tcQ0]) (keyN X sx 0)) := HC.out.chg hc9 (by omega) (by omega)
 have P3 := Lib.hid hP
 have K3 : Hid (KeyAt X sx 0) := ⟨Nat.zero_le _, fun i hi => absurd hi (by omega)⟩
 have hz0 : w0.heap.size + 2 ≤ w3.heap.size := by omega
 clear hP hc9 HC R4 T4 P4
 go_wp2
 go_loopw [6] (fun jv wr => ∃ (sQ : ByteArray) (AQ : Option Addr) (nQ cQ : Nat) (BQ : Option Addr) (mQ dQ : Nat) (MQ : Option Addr) (qQ eQ : Nat) (spQ wQ tQ kQ : Int) (LQ : Option Addr) (lQ lcQ : Nat) (TQ : Option Addr) (rQ tcQ : Nat) (g0 g1 : Nat) (j : Nat), j ≤ sx.size ∧ jv = .int .i64 j ∧ Hid (Blk wr w0.heap.size #[.string sQ, .slice AQ nQ cQ, .slice BQ mQ dQ, .slice MQ qQ eQ, .int .i64 spQ, .int .i64 wQ, .int .i64 tQ, .int .i64 kQ, .slice LQ lQ lcQ, .slice TQ rQ tcQ] 37) ∧ Hid (Blk wr (w0.heap.size + 1) #[.string ⟨#[]⟩, .slice none 0 0, .slice none 0 0, .slice none 0 0, .int .i64 0, .int .i64 0, .int .i64 0, .int .i64 0, .slice none 0 0, .slice none 0 0] 37) ∧ Hid (Below w0.heap.size w0 wr) ∧ Hid (MchV wr g0 g1 (.agg #[.string sQ, .slice AQ nQ cQ, .slice BQ mQ dQ, .slice MQ qQ eQ, .int .i64 spQ, .int .i64 wQ, .int .i64 tQ, .int .i64 kQ, .slice LQ lQ lcQ, .slice TQ rQ tcQ]) (keyN X sx j)) ∧ Hid (KeyAt X sx j) ∧ w0.heap.size + 2 ≤ g0 ∧ g1 ≤ wr.heap.size) (fun jv _ => sx.size - (intOf jv).toNat)
 case atStart => exact ⟨sQ0, AQ0, nQ0, cQ0, BQ0, mQ0, dQ0, MQ0, qQ0, eQ0, spQ0, wQ0, tQ0, kQ0, LQ0, lQ0, lcQ0, TQ0, rQ0, tcQ0, w3.heap.size, w4.heap.size, 0, Nat.zero_le _, rfl, P3, R3, T3, V3, K3, hz0, hzu3⟩
 case round =>
  clear P3 R3 T3 V3 K3 hz0 hzu3
  obtain ⟨sQ, AQ, nQ, cQ, BQ, mQ, dQ, MQ, qQ, eQ, spQ, wQ, tQ, kQ, LQ, lQ, lcQ, TQ, rQ, tcQ, g0, g1, j, hjl, rfl, P3, R3, T3, V3, K3, hg0, hg1⟩ := hrel
  obtain ⟨w5, hwq⟩ : ∃ x, x = wr := ⟨_, rfl⟩
  subst hwq
  have P5 : Hid (Blk w5 w0.heap.size #[.string sQ, .slice AQ nQ cQ, .slice BQ mQ dQ, .slice MQ qQ eQ, .int .i64 spQ, .int .i64 wQ, .int .i64 tQ, .int .i64 kQ, .slice LQ lQ lcQ, .slice TQ rQ tcQ] 37) := P3.out
  have R5 : Hid (Blk w5 (w0.heap.size + 1) #[.string ⟨#[]⟩, .slice none 0 0, .slice none 0 0, .slice none 0 0, .int .i64 0, .int .i64 0, .int .i64 0, .int .i64 0, .slice none 0 0, .slice none 0 0] 37) := R3.out
  have T5 : Hid (Below w0.heap.size w0 w5) := T3.out
  have V5 : Hid (MchV w5 g0 g1 (.agg #[.string sQ, .slice AQ nQ cQ, .slice BQ mQ dQ, .slice MQ qQ eQ, .int .i64 spQ, .int .i64 wQ, .int .i64 tQ, .int .i64 kQ, .slice LQ lQ lcQ, .slice TQ rQ tcQ]) (keyN X sx j)) := V3.out
  clear P3 R3 T3 V3
  have hpl : w0.heap.size + 2 ≤ w5.heap.size := R5.out.lt
  have HMJ := Lib.hid (keyN_mach HYES.out j K3.out)
  by_cases hlt : j < sx.size
  ·have hsz := hsx
   unfold maxLen at hsz
   have hji : decide ((j : Int) < (sx.size : Int)) = true := by simp; omega
   have HB8 := Lib.hid (byt_eq hlt)
   go_upto_region 7 with fail
   have hwb : wrap64 ((sx[j]'hlt).toNat : Int) = ((byt sx j : Nat) : Int) := by rw [wrap64_byte, HB8.out]
   have hwi : Hid (IntKind.i64.wrap ((sx[j]'hlt).toNat : Int) = ((byt sx j : Nat) : Int)) := by show _ = _; rw [wrap_small _ (by have := UInt8.toNat_lt (sx[j]'hlt); omega) (by have := UInt8.toNat_lt (sx[j]'hlt); omega), HB8.out]
   clear hwb
   refine region_post (fun a a' w' => ∃ (sQn : ByteArray) (AQn : Option Addr) (nQn cQn : Nat) (BQn : Option Addr) (mQn dQn : Nat) (MQn : Option Addr) (qQn eQn : Nat) (spQn wQn tQn kQn : Int) (LQn : Option Addr) (lQn lcQn : Nat) (TQn : Option Addr) (rQn tcQn : Nat) (zb x9 z9 : Nat), a' = (((((((((((a.put (some 22) (.agg #[.string sQ, .slice AQ nQ cQ, .slice BQ mQ dQ, .slice MQ qQ eQ, .int .i64 spQ, .int .i64 wQ, .int .i64 tQ, .int .i64 kQ, .slice LQ lQ lcQ, .slice TQ rQ tcQ])).put (some 23) (.string sx)).put (some 24) (.int .i64 j)).put (some 25) (.int .u8 ((sx[j]'hlt).toNat : Int))).put (some 26) (.int .i64 (byt sx j : Nat))).put (some 27) (.tuple #[.agg #[.string sQn, .slice AQn nQn cQn, .slice BQn mQn dQn, .slice MQn qQn eQn, .int .i64 spQn, .int .i64 wQn, .int .i64 tQn, .int .i64 kQn, .slice LQn lQn lcQn, .slice TQn rQn tcQn], .bool (keyYes (keyN X sx j) (byt sx j))])).put (some 21) (.tuple #[.agg #[.string sQn, .slice AQn nQn cQn, .slice BQn mQn dQn, .slice MQn qQn eQn, .int .i64 spQn, .int .i64 wQn, .int .i64 tQn, .int .i64 kQn, .slice LQn lQn lcQn, .slice TQn rQn tcQn], .bool (keyYes (keyN X sx j) (byt sx j))])).put (some 28) (.agg #[.string sQn, .slice AQn nQn cQn, .slice BQn mQn dQn, .slice MQn qQn eQn, .int .i64 spQn, .int .i64 wQn, .int .i64 tQn, .int .i64 kQn, .slice LQn lQn lcQn, .slice TQn rQn tcQn])).put (some 29) (.bool (keyYes (keyN X sx j) (byt sx j)))).put (some 7) (.pointer (some ⟨zb, 0, none⟩))).put (some 8) (.bool (keyYes (keyN X sx j) (byt sx j)))) ∧ Blk w' zb #[.string sQn, .slice AQn nQn cQn, .slice BQn mQn dQn, .slice MQn qQn eQn, .int .i64 spQn, .int .i64 wQn, .int .i64 tQn, .int .i64 kQn, .slice LQn lQn lcQn, .slice TQn rQn tcQn] 37 ∧ (keyYes (keyN X sx j) (byt sx j) = true → MchV w' x9 z9 (.agg #[.string sQn, .slice AQn nQn cQn, .slice BQn mQn dQn, .slice MQn qQn eQn, .int .i64 spQn, .int .i64 wQn, .int .i64 tQn, .int .i64 kQn, .slice LQn lQn lcQn, .slice TQn rQn tcQn]) (keyX (keyN X sx j) (byt sx j))) ∧ w5.heap.size ≤ x9 ∧ z9 ≤ w'.heap.size ∧ w5.heap.size ≤ zb ∧ Below w5.heap.size w5 w') ?_ ?_
   ·have D5 : Hid (Below w5.heap.size w5 w5) := Below.refl _ _
    refine wp_region_plan (.take 0 (.take 1 (.take 2 (.take 3 (.take 4 (.two 5 9 (.take 6 (.take 7 (.take 8 (.one 9 (.one 10 (.one 11 .done)))))) (.one 5 (.take 6 (.take 7 (.take 8 (.one 10 (.one 11 .done)))))))))))) (fun w' => w'.cell? ⟨w0.heap.size, 0, none⟩ = some (.string sQ) ∧ w'.cell? ⟨w0.heap.size, 1, none⟩ = some (.slice AQ nQ cQ) ∧ w'.cell? ⟨w0.heap.size, 2, none⟩ = some (.slice BQ mQ dQ) ∧ w'.cell? ⟨w0.heap.size, 3, none⟩ = some (.slice MQ qQ eQ) ∧ w'.cell? ⟨w0.heap.size, 4, none⟩ = some (.int .i64 spQ) ∧ w'.cell? ⟨w0.heap.size, 5, none⟩ = some (.int .i64 wQ) ∧ w'.cell? ⟨w0.heap.size, 6, none⟩ = some (.int .i64 tQ) ∧ w'.cell? ⟨w0.heap.size, 7, none⟩ = some (.int .i64 kQ) ∧ w'.cell? ⟨w0.heap.size, 8, none⟩ = some (.slice LQ lQ lcQ) ∧ w'.cell? ⟨w0.heap.size, 9, none⟩ = some (.slice TQ rQ tcQ)) (by kernel_rfl) (by kernel_rfl) (by kernel_rfl) (by intro c a d v w h; exact absurd h.1 (by simp)) P5.out.ten ?_
    obtain ⟨w6, hwd⟩ : ∃ x, w5.drew = x := ⟨_, rfl⟩
    have hb6 : Below w5.heap.size w5 w6 := by rw [← hwd]; exact (Below.refl _ _).drew
    have hsz6 : w6.heap.size = w5.heap.size := by rw [← hwd]; rfl
    have P6 := Lib.hid (P5.out.below hb6 (by omega))
    have V6 := Lib.hid (V5.out.below (by omega) hb6)
    have D6 := Lib.hid (D5.out.trans (hb6.mono (by omega)))
    have sz6 : w5.heap.size ≤ w6.heap.size := hb6.size
    clear P5 V5 D5
    rw [hwd]
    clear hwd
    clear hsz6
    iterate 5 (refine plan_quiet rfl (by rfl) (v := ?_) ?_ ?_; rotate_left; (intro w1 hSw; obtain ⟨hs0, hs1, hs2, hs3, hs4, hs5, hs6, hs7, hs8, hs9⟩ := hSw; go_simp; try (with_reducible rfl)); (try simp only [Act.put, List.setIfInBounds_toArray, List.set_cons_zero, List.set_cons_succ]))
    refine plan_fork rfl rfl (fun Kc hK => ?_) (fun Kc hK => ?_)
    ·rw [if_pos (by rfl)]
     go_simp
     rw [hwi.out]
     refine (specL5K_any g0 g1 _ (keyN X sx j) (byt sx j) w6 V6.out (by omega) HMJ.out (keyN_wf HWF.out j)).mono ?_
     rintro e w7 ⟨v', rfl, hno, hyy, hb7⟩
     obtain ⟨sQn, AQn, nQn, cQn, BQn, mQn, dQn, MQn, qQn, eQn, spQn, wQn, tQn, kQn, LQn, lQn, lcQn, TQn, rQn, tcQn, rfl⟩ : ∃ (sQn : ByteArray) (AQn : Option Addr) (nQn cQn : Nat) (BQn : Option Addr) (mQn dQn : Nat) (MQn : Option Addr) (qQn eQn : Nat) (spQn wQn tQn kQn : Int) (LQn : Option Addr) (lQn lcQn : Nat) (TQn : Option Addr) (rQn tcQn : Nat), v' = .agg #[.string sQn, .slice AQn nQn cQn, .slice BQn mQn dQn, .slice MQn qQn eQn, .int .i64 spQn, .int .i64 wQn, .int .i64 tQn, .int .i64 kQn, .slice LQn lQn lcQn, .slice TQn rQn tcQn] := by
      cases hq : keyYes (keyN X sx j) (byt sx j)
      ·exact ⟨sQ, AQ, nQ, cQ, BQ, mQ, dQ, MQ, qQ, eQ, spQ, wQ, tQ, kQ, LQ, lQ, lcQ, TQ, rQ, tcQ, hno hq⟩
      ·exact (hyy hq).form
     have P7 := Lib.hid (P6.out.below hb7 (by omega))
     have D7 := Lib.hid (D6.out.trans (hb7.mono (by omega)))
     have sz7 : w6.heap.size ≤ w7.heap.size := hb7.size
     clear P6 V6 D6
     have M7 : Hid ((keyYes (keyN X sx j) (byt sx j) = true → MchV w7 w6.heap.size w7.heap.size (.agg #[.string sQn, .slice AQn nQn cQn, .slice BQn mQn dQn, .slice MQn qQn eQn, .int .i64 spQn, .int .i64 wQn, .int .i64 tQn, .int .i64 kQn, .slice LQn lQn lcQn, .slice TQn rQn tcQn]) (keyX (keyN X sx j) (byt sx j)))) := hyy
     clear hyy hno
     refine hK.out _ _ P7.out.ten ?_
     clear hK Kc
     iterate 3 (refine plan_quiet rfl (by rfl) (v := ?_) ?_ ?_; rotate_left; (intro w1 hSw; obtain ⟨hs0, hs1, hs2, hs3, hs4, hs5, hs6, hs7, hs8, hs9⟩ := hSw; go_simp; try (with_reducible rfl)); (try simp only [Act.put, List.setIfInBounds_toArray, List.set_cons_zero, List.set_cons_succ]))
     refine plan_step rfl (fun Kc hK => ?_)
     rw [if_pos (by rfl)]
     go_simp
     obtain ⟨w8, hw8, hb8, hz8, hX8⟩ := mxWorld w7 #[.string ⟨#[]⟩, .slice none 0 0, .slice none 0 0, .slice none 0 0, .int .i64 0, .int .i64 0, .int .i64 0, .int .i64 0, .slice none 0 0, .slice none 0 0] 37
     have P8 := Lib.hid (P7.out.below hb8 (by omega))
     have D8 := Lib.hid (D7.out.trans (hb8.mono (by omega)))
     have M8 := Lib.hid (fun h9 => (M7.out h9).below (by omega) hb8)
     have sz8 : w7.heap.size ≤ w8.heap.size := hb8.size
     clear P7 D7 M7
     have Z8 := Lib.hid hX8
     have hzl : w7.heap.size < w8.heap.size := by omega
     rw [hw8]
     clear hw8 hz8 hX8 hb8
     refine hK.out _ _ P8.out.ten ?_
     clear hK Kc
     obtain ⟨z0, z1, z2, z3, z4, z5, z6, z7, z8, z9⟩ := Z8.out.ten
     have fz := Z8.out.warm
     refine plan_step rfl (fun Kc hK => ?_)
     rw [if_pos (by rfl)]
     go_simp
     clear fz z0 z1 z2 z3 z4 z5 z6 z7 z8 z9
     obtain ⟨w9, hw9, hc9, hZ9⟩ := Z8.out.put10 (.string sQn) (.slice AQn nQn cQn) (.slice BQn mQn dQn) (.slice MQn qQn eQn) (.int .i64 spQn) (.int .i64 wQn) (.int .i64 tQn) (.int .i64 kQn) (.slice LQn lQn lcQn) (.slice TQn rQn tcQn)
     rw [hw9]
     clear hw9
     have P9 := Lib.hid (P8.out.chg hc9 (by omega))
     have D9 := Lib.hid (D8.out.trans ((hc9.below (by omega)).mono (by omega)))
     have M9 : Hid (keyYes (keyN X sx j) (byt sx j) = true → MchV w9 w6.heap.size w7.heap.size (.agg #[.string sQn, .slice AQn nQn cQn, .slice BQn mQn dQn, .slice MQn qQn eQn, .int .i64 spQn, .int .i64 wQn, .int .i64 tQn, .int .i64 kQn, .slice LQn lQn lcQn, .slice TQn rQn tcQn]) (keyX (keyN X sx j) (byt sx j))) := fun h9 => (M8.out h9).chg hc9 (by omega) (by omega)
     have sz9 := hc9.size
     refine hK.out _ _ P9.out.ten ?_
     clear hK Kc
     refine plan_step rfl (fun Kc hK => ?_)
     rw [if_pos (by rfl)]
     go_simp
     refine hK.out _ _ P9.out.ten ?_
     clear hK Kc
     refine plan_end ?_
     refine ⟨rfl, sQn, AQn, nQn, cQn, BQn, mQn, dQn, MQn, qQn, eQn, spQn, wQn, tQn, kQn, LQn, lQn, lcQn, TQn, rQn, tcQn, w7.heap.size, w6.heap.size, w7.heap.size, ?_, hZ9, M9.out, by omega, by omega, by omega, D9.out⟩
     first | rfl | (simp only [Act.put, List.setIfInBounds_toArray, List.set_cons_zero, List.set_cons_succ])
    ·rw [if_pos (by rfl)]
     go_simp
     obtain ⟨w7, hw7, hb7, hz7, hX7⟩ := mxWorld w6 #[.string ⟨#[]⟩, .slice none 0 0, .slice none 0 0, .slice none 0 0, .int .i64 0, .int .i64 0, .int .i64 0, .int .i64 0, .slice none 0 0, .slice none 0 0] 37
     have P7 := Lib.hid (P6.out.below hb7 (by omega))
     have V7 := Lib.hid (V6.out.below (by omega) hb7)
     have D7 := Lib.hid (D6.out.trans (hb7.mono (by omega)))
     have sz7 : w6.heap.size ≤ w7.heap.size := hb7.size
     clear P6 V6 D6
     have Z7 := Lib.hid hX7
     have hzl : w6.heap.size < w7.heap.size := by omega
     rw [hw7]
     clear hw7 hz7 hX7 hb7
     refine hK.out _ _ P7.out.ten ?_
     clear hK Kc
     refine plan_step rfl (fun Kc hK => ?_)
     rw [if_pos (by rfl)]
     go_simp
     rw [hwi.out]
     refine (specL5K_any g0 g1 _ (keyN X sx j) (byt sx j) w7 V7.out (by omega) HMJ.out (keyN_wf HWF.out j)).mono ?_
     rintro e w8 ⟨v', rfl, hno, hyy, hb8⟩
     obtain ⟨sQn, AQn, nQn, cQn, BQn, mQn, dQn, MQn, qQn, eQn, spQn, wQn, tQn, kQn, LQn, lQn, lcQn, TQn, rQn, tcQn, rfl⟩ : ∃ (sQn : ByteArray) (AQn : Option Addr) (nQn cQn : Nat) (BQn : Option Addr) (mQn dQn : Nat) (MQn : Option Addr) (qQn eQn : Nat) (spQn wQn tQn kQn : Int) (LQn : Option Addr) (lQn lcQn : Nat) (TQn : Option Addr) (rQn tcQn : Nat), v' = .agg #[.string sQn, .slice AQn nQn cQn, .slice BQn mQn dQn, .slice MQn qQn eQn, .int .i64 spQn, .int .i64 wQn, .int .i64 tQn, .int .i64 kQn, .slice LQn lQn lcQn, .slice TQn rQn tcQn] := by
      cases hq : keyYes (keyN X sx j) (byt sx j)
      ·exact ⟨sQ, AQ, nQ, cQ, BQ, mQ, dQ, MQ, qQ, eQ, spQ, wQ, tQ, kQ, LQ, lQ, lcQ, TQ, rQ, tcQ, hno hq⟩
      ·exact (hyy hq).form
     have P8 := Lib.hid (P7.out.below hb8 (by omega))
     have D8 := Lib.hid (D7.out.trans (hb8.mono (by omega)))
     have Z8 := Lib.hid (Z7.out.below hb8 (by omega))
     have sz8 : w7.heap.size ≤ w8.heap.size := hb8.size
     clear P7 V7 D7 Z7
     have M8 : Hid ((keyYes (keyN X sx j) (byt sx j) = true → MchV w8 w7.heap.size w8.heap.size (.agg #[.string sQn, .slice AQn nQn cQn, .slice BQn mQn dQn, .slice MQn qQn eQn, .int .i64 spQn, .int .i64 wQn, .int .i64 tQn, .int .i64 kQn, .slice LQn lQn lcQn, .slice TQn rQn tcQn]) (keyX (keyN X sx j) (byt sx j)))) := hyy
     clear hyy hno
     refine hK.out _ _ P8.out.ten ?_
     clear hK Kc
     iterate 3 (refine plan_quiet rfl (by rfl) (v := ?_) ?_ ?_; rotate_left; (intro w1 hSw; obtain ⟨hs0, hs1, hs2, hs3, hs4, hs5, hs6, hs7, hs8, hs9⟩ := hSw; go_simp; try (with_reducible rfl)); (try simp only [Act.put, List.setIfInBounds_toArray, List.set_cons_zero, List.set_cons_succ]))
     obtain ⟨z0, z1, z2, z3, z4, z5, z6, z7, z8, z9⟩ := Z8.out.ten
     have fz := Z8.out.warm
     refine plan_step rfl (fun Kc hK => ?_)
     rw [if_pos (by rfl)]
     go_simp
     clear fz z0 z1 z2 z3 z4 z5 z6 z7 z8 z9
     obtain ⟨w9, hw9, hc9, hZ9⟩ := Z8.out.put10 (.string sQn) (.slice AQn nQn cQn) (.slice BQn mQn dQn) (.slice MQn qQn eQn) (.int .i64 spQn) (.int .i64 wQn) (.int .i64 tQn) (.int .i64 kQn) (.slice LQn lQn lcQn) (.slice TQn rQn tcQn)
     rw [hw9]
     clear hw9
     have P9 := Lib.hid (P8.out.chg hc9 (by omega))
     have D9 := Lib.hid (D8.out.trans ((hc9.below (by omega)).mono (by omega)))
     have M9 : Hid (keyYes (keyN X sx j) (byt sx j) = true → MchV w9 w7.heap.size w8.heap.size (.agg #[.string sQn, .slice AQn nQn cQn, .slice BQn mQn dQn, .slice MQn qQn eQn, .int .i64 spQn, .int .i64 wQn, .int .i64 tQn, .int .i64 kQn, .slice LQn lQn lcQn, .slice TQn rQn tcQn]) (keyX (keyN X sx j) (byt sx j))) := fun h9 => (M8.out h9).chg hc9 (by omega) (by omega)
     have sz9 := hc9.size
     refine hK.out _ _ P9.out.ten ?_
     clear hK Kc
     refine plan_step rfl (fun Kc hK => ?_)
     rw [if_pos (by rfl)]
     go_simp
     refine hK.out _ _ P9.out.ten ?_
     clear hK Kc
     refine plan_end ?_
     refine ⟨rfl, sQn, AQn, nQn, cQn, BQn, mQn, dQn, MQn, qQn, eQn, spQn, wQn, tQn, kQn, LQn, lQn, lcQn, TQn, rQn, tcQn, w6.heap.size, w7.heap.size, w8.heap.size, ?_, hZ9, M9.out, by omega, by omega, by omega, D9.out⟩
     first | rfl | (simp only [Act.put, List.setIfInBounds_toArray, List.set_cons_zero, List.set_cons_succ])
   rintro a' w6 ⟨sQn, AQn, nQn, cQn, BQn, mQn, dQn, MQn, qQn, eQn, spQn, wQn, tQn, kQn, LQn, lQn, lcQn, TQn, rQn, tcQn, zb, x9, z9, rfl, hZ, hM9, hx1, hx2, hx3, hb6⟩
   simp only [Act.put, List.setIfInBounds_toArray, List.set_cons_zero, List.set_cons_succ]
   have HZ := Lib.hid hZ; have HM9 := Lib.hid hM9
   clear hZ hM9
   have P6 := Lib.hid (P5.out.below hb6 (by omega))
   have R6 := Lib.hid (R5.out.below hb6 (by omega))
   have T6 := Lib.hid (T5.out.trans (hb6.mono (by omega)))
   have V6 := Lib.hid (V5.out.below (by omega) hb6)
   have sz6 : w5.heap.size ≤ w6.heap.size := hb6.size
   clear P5 R5 T5 V5
   cases hyes : keyYes (keyN X sx j) (byt sx j)
   ·obtain ⟨p0, p1, p2, p3, p4, p5, p6, p7, p8, p9⟩ := P6.out.ten
    obtain ⟨r0, r1, r2, r3, r4, r5, r6, r7, r8, r9⟩ := R6.out.ten
    have ff := R6.out.warm
    go_wp2
    obtain ⟨w9, hw9, hc9, hR⟩ := R6.out.put10 (.string sQ) (.slice AQ nQ cQ) (.slice BQ mQ dQ) (.slice MQ qQ eQ) (.int .i64 spQ) (.int .i64 wQ) (.int .i64 tQ) (.int .i64 kQ) (.slice LQ lQ lcQ) (.slice TQ rQ tcQ)
    (try rw [hw9])
    clear hw9 r0 r1 r2 r3 r4 r5 r6 r7 r8 r9
    obtain ⟨r0, r1, r2, r3, r4, r5, r6, r7, r8, r9⟩ := hR.ten
    (try simp only [Exit.inBlock, Exit.then])
    clear p0 p1 p2 p3 p4 p5 p6 p7 p8 p9
    refine bodyPost_ret (v := .tuple #[.agg #[.string sQ, .slice AQ nQ cQ, .slice BQ mQ dQ, .slice MQ qQ eQ, .int .i64 spQ, .int .i64 wQ, .int .i64 tQ, .int .i64 kQ, .slice LQ lQ lcQ, .slice TQ rQ tcQ], .int .i64 ((j : Int))]) (by simp [results, Tryz.results19, go_sem, r0, r1, r2, r3, r4, r5, r6, r7, r8, r9]) rfl ?_
    exact ⟨_, _, _, rfl, .inr ⟨HYES.out, j, ⟨K3.out, .inr hyes⟩, rfl, rfl⟩, (V6.out.chg hc9 (by omega) (by omega)).wide (by omega) (by have := hc9.size; omega), T6.out.trans ((hc9.below (by omega)).mono (by omega))⟩
   ·obtain ⟨p0, p1, p2, p3, p4, p5, p6, p7, p8, p9⟩ := P6.out.ten
    have fp := P6.out.warm
    obtain ⟨z0, z1, z2, z3, z4, z5, z6, z7, z8, z9⟩ := HZ.out.ten
    go_wp2
    clear fp p0 z0 p1 z1 p2 z2 p3 z3 p4 z4 p5 z5 p6 z6 p7 z7 p8 z8 p9 z9
    obtain ⟨u3, hu3, hc9, hP⟩ := P6.out.put10 (.string sQn) (.slice AQn nQn cQn) (.slice BQn mQn dQn) (.slice MQn qQn eQn) (.int .i64 spQn) (.int .i64 wQn) (.int .i64 tQn) (.int .i64 kQn) (.slice LQn lQn lcQn) (.slice TQn rQn tcQn)
    (try rw [hu3])
    clear hu3
    have hzu3 := hc9.size
    have hK9 : KeyAt X sx (j + 1) := ⟨by omega, fun i hi => by
     by_cases e : i = j
     ·subst e; exact hyes
     ·exact K3.out.2 i (by omega)⟩
    exact ⟨⟨sQn, AQn, nQn, cQn, BQn, mQn, dQn, MQn, qQn, eQn, spQn, wQn, tQn, kQn, LQn, lQn, lcQn, TQn, rQn, tcQn, x9, z9, j + 1, by omega, by go_num, Lib.hid hP, Lib.hid (R6.out.chg hc9 (by omega)), Lib.hid (T6.out.trans ((hc9.below (by omega)).mono (by omega))), Lib.hid ((HM9.out hyes).chg hc9 (by omega) (by omega)), Lib.hid hK9, by omega, by omega⟩, by simp [intOf]; omega⟩
  ·have hji : decide ((j : Int) < (sx.size : Int)) = false := by simp; omega
   have hjn : sx.size = j := by omega
   obtain ⟨p0, p1, p2, p3, p4, p5, p6, p7, p8, p9⟩ := P5.out.ten
   obtain ⟨r0, r1, r2, r3, r4, r5, r6, r7, r8, r9⟩ := R5.out.ten
   have HJN := Lib.hid hjn
   clear hjn
   have ff := R5.out.warm
   go_wp2
   obtain ⟨w9, hw9, hc9, hR⟩ := R5.out.put10 (.string sQ) (.slice AQ nQ cQ) (.slice BQ mQ dQ) (.slice MQ qQ eQ) (.int .i64 spQ) (.int .i64 wQ) (.int .i64 tQ) (.int .i64 kQ) (.slice LQ lQ lcQ) (.slice TQ rQ tcQ)
   (try rw [hw9])
   clear hw9 r0 r1 r2 r3 r4 r5 r6 r7 r8 r9
   obtain ⟨r0, r1, r2, r3, r4, r5, r6, r7, r8, r9⟩ := hR.ten
   (try simp only [Exit.inBlock, Exit.then])
   clear p0 p1 p2 p3 p4 p5 p6 p7 p8 p9
   refine bodyPost_ret (v := .tuple #[.agg #[.string sQ, .slice AQ nQ cQ, .slice BQ mQ dQ, .slice MQ qQ eQ, .int .i64 spQ, .int .i64 wQ, .int .i64 tQ, .int .i64 kQ, .slice LQ lQ lcQ, .slice TQ rQ tcQ], .int .i64 (sx.size : Int)]) (by simp [results, Tryz.results19, go_sem, r0, r1, r2, r3, r4, r5, r6, r7, r8, r9]) rfl ?_
   exact ⟨_, _, _, rfl, .inr ⟨HYES.out, j, ⟨K3.out, .inl HJN.out.symm⟩, by rw [HJN.out], rfl⟩, (V5.out.chg hc9 (by omega) (by omega)).wide (by omega) (by have := hc9.size; omega), T5.out.trans ((hc9.below (by omega)).mono (by omega))⟩
theorem specKey_any (lo hi0 : Nat) (v : Value) (X : Mch) (sx : ByteArray) (w : World) (h : MchV w lo hi0 v X) (hhi : hi0 ≤ w.heap.size) (hs : SmallX X) (wf : WfX X) (hsx : sx.size ≤ maxLen) :
  Calls Tryz.prog 19 #[v, .string sx] w fun e w' => ∃ v' n Y, e = .returned (.tuple #[v', .int .i64 n]) ∧ KeyRes X sx n Y ∧ MchV w' w.heap.size w'.heap.size v' Y ∧ Below w.heap.size w w' := by
 cases hm : machB X
 ·exact specKey_no lo hi0 v X sx w h hhi hs wf hsx hm
 ·exact specKey_yes lo hi0 v X sx w h hhi hs wf hsx hm
end Go.Proofs.YtimhnkpccbcohaaGreatDoor
