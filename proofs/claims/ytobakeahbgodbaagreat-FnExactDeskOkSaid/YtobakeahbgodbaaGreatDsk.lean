/-
  Desks with a galley: the laws' helpers szDesk, toDesk, eqDesk, and DeskOk of model and program, by contract. Conditions: sizes of at most 2^20.
-/
import Derived.Test.YtobakeahbgodbaaGreatMchC
import Derived.Test.YtobakeahbgodbaaGreatPkI
import Derived.Test.YtobakeahbgodbaaGreatPkH
namespace Go.Proofs.YtobakeahbgodbaaGreat
open Go.RowKit
set_option linter.unusedVariables false

theorem Blk.fillD {w : World} {B : Nat} {a0 a1 a2 a3 a4 a5 a6 a7 a8 a9 a10 : Value} {T : TypeId} (h : Blk w B #[a0, a1, a2, a3, a4, a5, a6, a7, a8, a9, a10] T) (u0 u1 u2 u3 u4 u5 u6 u7 u8 u9 u10 : Value) :
    Blk (((((((((((w.setCell ⟨B, 0, none⟩ u0).setCell ⟨B, 1, none⟩ u1).setCell ⟨B, 2, none⟩ u2).setCell ⟨B, 3, none⟩ u3).setCell ⟨B, 4, none⟩ u4).setCell ⟨B, 5, none⟩ u5).setCell ⟨B, 6, none⟩ u6).setCell ⟨B, 7, none⟩ u7).setCell ⟨B, 8, none⟩ u8).setCell ⟨B, 9, none⟩ u9).setCell ⟨B, 10, none⟩ u10) B #[u0, u1, u2, u3, u4, u5, u6, u7, u8, u9, u10] T := by
  have h0 : Blk (w.setCell ⟨B, 0, none⟩ u0) B #[u0, a1, a2, a3, a4, a5, a6, a7, a8, a9, a10] T := heapSet (i := 0) h u0
  have h1 : Blk ((w.setCell ⟨B, 0, none⟩ u0).setCell ⟨B, 1, none⟩ u1) B #[u0, u1, a2, a3, a4, a5, a6, a7, a8, a9, a10] T := heapSet (i := 1) h0 u1
  have h2 : Blk (((w.setCell ⟨B, 0, none⟩ u0).setCell ⟨B, 1, none⟩ u1).setCell ⟨B, 2, none⟩ u2) B #[u0, u1, u2, a3, a4, a5, a6, a7, a8, a9, a10] T := heapSet (i := 2) h1 u2
  have h3 : Blk ((((w.setCell ⟨B, 0, none⟩ u0).setCell ⟨B, 1, none⟩ u1).setCell ⟨B, 2, none⟩ u2).setCell ⟨B, 3, none⟩ u3) B #[u0, u1, u2, u3, a4, a5, a6, a7, a8, a9, a10] T := heapSet (i := 3) h2 u3
  have h4 : Blk (((((w.setCell ⟨B, 0, none⟩ u0).setCell ⟨B, 1, none⟩ u1).setCell ⟨B, 2, none⟩ u2).setCell ⟨B, 3, none⟩ u3).setCell ⟨B, 4, none⟩ u4) B #[u0, u1, u2, u3, u4, a5, a6, a7, a8, a9, a10] T := heapSet (i := 4) h3 u4
  have h5 : Blk ((((((w.setCell ⟨B, 0, none⟩ u0).setCell ⟨B, 1, none⟩ u1).setCell ⟨B, 2, none⟩ u2).setCell ⟨B, 3, none⟩ u3).setCell ⟨B, 4, none⟩ u4).setCell ⟨B, 5, none⟩ u5) B #[u0, u1, u2, u3, u4, u5, a6, a7, a8, a9, a10] T := heapSet (i := 5) h4 u5
  have h6 : Blk (((((((w.setCell ⟨B, 0, none⟩ u0).setCell ⟨B, 1, none⟩ u1).setCell ⟨B, 2, none⟩ u2).setCell ⟨B, 3, none⟩ u3).setCell ⟨B, 4, none⟩ u4).setCell ⟨B, 5, none⟩ u5).setCell ⟨B, 6, none⟩ u6) B #[u0, u1, u2, u3, u4, u5, u6, a7, a8, a9, a10] T := heapSet (i := 6) h5 u6
  have h7 : Blk ((((((((w.setCell ⟨B, 0, none⟩ u0).setCell ⟨B, 1, none⟩ u1).setCell ⟨B, 2, none⟩ u2).setCell ⟨B, 3, none⟩ u3).setCell ⟨B, 4, none⟩ u4).setCell ⟨B, 5, none⟩ u5).setCell ⟨B, 6, none⟩ u6).setCell ⟨B, 7, none⟩ u7) B #[u0, u1, u2, u3, u4, u5, u6, u7, a8, a9, a10] T := heapSet (i := 7) h6 u7
  have h8 : Blk (((((((((w.setCell ⟨B, 0, none⟩ u0).setCell ⟨B, 1, none⟩ u1).setCell ⟨B, 2, none⟩ u2).setCell ⟨B, 3, none⟩ u3).setCell ⟨B, 4, none⟩ u4).setCell ⟨B, 5, none⟩ u5).setCell ⟨B, 6, none⟩ u6).setCell ⟨B, 7, none⟩ u7).setCell ⟨B, 8, none⟩ u8) B #[u0, u1, u2, u3, u4, u5, u6, u7, u8, a9, a10] T := heapSet (i := 8) h7 u8
  have h9 : Blk ((((((((((w.setCell ⟨B, 0, none⟩ u0).setCell ⟨B, 1, none⟩ u1).setCell ⟨B, 2, none⟩ u2).setCell ⟨B, 3, none⟩ u3).setCell ⟨B, 4, none⟩ u4).setCell ⟨B, 5, none⟩ u5).setCell ⟨B, 6, none⟩ u6).setCell ⟨B, 7, none⟩ u7).setCell ⟨B, 8, none⟩ u8).setCell ⟨B, 9, none⟩ u9) B #[u0, u1, u2, u3, u4, u5, u6, u7, u8, u9, a10] T := heapSet (i := 9) h8 u9
  have h10 : Blk (((((((((((w.setCell ⟨B, 0, none⟩ u0).setCell ⟨B, 1, none⟩ u1).setCell ⟨B, 2, none⟩ u2).setCell ⟨B, 3, none⟩ u3).setCell ⟨B, 4, none⟩ u4).setCell ⟨B, 5, none⟩ u5).setCell ⟨B, 6, none⟩ u6).setCell ⟨B, 7, none⟩ u7).setCell ⟨B, 8, none⟩ u8).setCell ⟨B, 9, none⟩ u9).setCell ⟨B, 10, none⟩ u10) B #[u0, u1, u2, u3, u4, u5, u6, u7, u8, u9, u10] T := heapSet (i := 10) h9 u10
  exact h10
theorem Blk.fillE {w : World} {B : Nat} {a0 a1 a2 a3 a4 a5 a6 a7 a8 a9 a10 : Value} {T : TypeId} (h : Blk w B #[a0, a1, a2, a3, a4, a5, a6, a7, a8, a9, a10] T) (u0 u1 u2 u3 u4 u5 u6 u7 u8 u9 : Value) :
    Blk ((((((((((w.setCell ⟨B, 0, none⟩ u0).setCell ⟨B, 1, none⟩ u1).setCell ⟨B, 2, none⟩ u2).setCell ⟨B, 3, none⟩ u3).setCell ⟨B, 4, none⟩ u4).setCell ⟨B, 5, none⟩ u5).setCell ⟨B, 6, none⟩ u6).setCell ⟨B, 7, none⟩ u7).setCell ⟨B, 8, none⟩ u8).setCell ⟨B, 9, none⟩ u9) B #[u0, u1, u2, u3, u4, u5, u6, u7, u8, u9, a10] T := by
  have h0 : Blk (w.setCell ⟨B, 0, none⟩ u0) B #[u0, a1, a2, a3, a4, a5, a6, a7, a8, a9, a10] T := heapSet (i := 0) h u0
  have h1 : Blk ((w.setCell ⟨B, 0, none⟩ u0).setCell ⟨B, 1, none⟩ u1) B #[u0, u1, a2, a3, a4, a5, a6, a7, a8, a9, a10] T := heapSet (i := 1) h0 u1
  have h2 : Blk (((w.setCell ⟨B, 0, none⟩ u0).setCell ⟨B, 1, none⟩ u1).setCell ⟨B, 2, none⟩ u2) B #[u0, u1, u2, a3, a4, a5, a6, a7, a8, a9, a10] T := heapSet (i := 2) h1 u2
  have h3 : Blk ((((w.setCell ⟨B, 0, none⟩ u0).setCell ⟨B, 1, none⟩ u1).setCell ⟨B, 2, none⟩ u2).setCell ⟨B, 3, none⟩ u3) B #[u0, u1, u2, u3, a4, a5, a6, a7, a8, a9, a10] T := heapSet (i := 3) h2 u3
  have h4 : Blk (((((w.setCell ⟨B, 0, none⟩ u0).setCell ⟨B, 1, none⟩ u1).setCell ⟨B, 2, none⟩ u2).setCell ⟨B, 3, none⟩ u3).setCell ⟨B, 4, none⟩ u4) B #[u0, u1, u2, u3, u4, a5, a6, a7, a8, a9, a10] T := heapSet (i := 4) h3 u4
  have h5 : Blk ((((((w.setCell ⟨B, 0, none⟩ u0).setCell ⟨B, 1, none⟩ u1).setCell ⟨B, 2, none⟩ u2).setCell ⟨B, 3, none⟩ u3).setCell ⟨B, 4, none⟩ u4).setCell ⟨B, 5, none⟩ u5) B #[u0, u1, u2, u3, u4, u5, a6, a7, a8, a9, a10] T := heapSet (i := 5) h4 u5
  have h6 : Blk (((((((w.setCell ⟨B, 0, none⟩ u0).setCell ⟨B, 1, none⟩ u1).setCell ⟨B, 2, none⟩ u2).setCell ⟨B, 3, none⟩ u3).setCell ⟨B, 4, none⟩ u4).setCell ⟨B, 5, none⟩ u5).setCell ⟨B, 6, none⟩ u6) B #[u0, u1, u2, u3, u4, u5, u6, a7, a8, a9, a10] T := heapSet (i := 6) h5 u6
  have h7 : Blk ((((((((w.setCell ⟨B, 0, none⟩ u0).setCell ⟨B, 1, none⟩ u1).setCell ⟨B, 2, none⟩ u2).setCell ⟨B, 3, none⟩ u3).setCell ⟨B, 4, none⟩ u4).setCell ⟨B, 5, none⟩ u5).setCell ⟨B, 6, none⟩ u6).setCell ⟨B, 7, none⟩ u7) B #[u0, u1, u2, u3, u4, u5, u6, u7, a8, a9, a10] T := heapSet (i := 7) h6 u7
  have h8 : Blk (((((((((w.setCell ⟨B, 0, none⟩ u0).setCell ⟨B, 1, none⟩ u1).setCell ⟨B, 2, none⟩ u2).setCell ⟨B, 3, none⟩ u3).setCell ⟨B, 4, none⟩ u4).setCell ⟨B, 5, none⟩ u5).setCell ⟨B, 6, none⟩ u6).setCell ⟨B, 7, none⟩ u7).setCell ⟨B, 8, none⟩ u8) B #[u0, u1, u2, u3, u4, u5, u6, u7, u8, a9, a10] T := heapSet (i := 8) h7 u8
  have h9 : Blk ((((((((((w.setCell ⟨B, 0, none⟩ u0).setCell ⟨B, 1, none⟩ u1).setCell ⟨B, 2, none⟩ u2).setCell ⟨B, 3, none⟩ u3).setCell ⟨B, 4, none⟩ u4).setCell ⟨B, 5, none⟩ u5).setCell ⟨B, 6, none⟩ u6).setCell ⟨B, 7, none⟩ u7).setCell ⟨B, 8, none⟩ u8).setCell ⟨B, 9, none⟩ u9) B #[u0, u1, u2, u3, u4, u5, u6, u7, u8, u9, a10] T := heapSet (i := 9) h8 u9
  exact h9
theorem Blk.elev {w : World} {B : Nat} {a0 a1 a2 a3 a4 a5 a6 a7 a8 a9 a10 : Value} {T : TypeId} (h : Blk w B #[a0, a1, a2, a3, a4, a5, a6, a7, a8, a9, a10] T) :
    w.cell? ⟨B, 0, none⟩ = some a0 ∧ w.cell? ⟨B, 1, none⟩ = some a1 ∧ w.cell? ⟨B, 2, none⟩ = some a2 ∧ w.cell? ⟨B, 3, none⟩ = some a3 ∧ w.cell? ⟨B, 4, none⟩ = some a4 ∧ w.cell? ⟨B, 5, none⟩ = some a5 ∧ w.cell? ⟨B, 6, none⟩ = some a6 ∧ w.cell? ⟨B, 7, none⟩ = some a7 ∧ w.cell? ⟨B, 8, none⟩ = some a8 ∧ w.cell? ⟨B, 9, none⟩ = some a9 ∧ w.cell? ⟨B, 10, none⟩ = some a10 :=
  ⟨cellOfBlk h 0, cellOfBlk h 1, cellOfBlk h 2, cellOfBlk h 3, cellOfBlk h 4, cellOfBlk h 5, cellOfBlk h 6, cellOfBlk h 7, cellOfBlk h 8, cellOfBlk h 9, cellOfBlk h 10⟩
/-- a machine's value with a galley behind it -/
def dvg : Value → Value → Value
  | .agg cs, s => .agg (cs.push s)
  | v, _ => v
theorem dvg_eq (a0 a1 a2 a3 a4 a5 a6 a7 a8 a9 s : Value) : dvg (.agg #[a0, a1, a2, a3, a4, a5, a6, a7, a8, a9]) s = .agg #[a0, a1, a2, a3, a4, a5, a6, a7, a8, a9, s] := rfl
def dszI (X : Mch) (g : List ByteArray) : Int := if (1048576 : Int) < X.big then -1 else szI (1048576 - X.big) g
theorem MchV.formD {w : World} {lo hi : Nat} {X : Mch} {v : Value} (h : MchV w lo hi v X) : ∃ s A n c A2 m d M q e sp W t k L l lc T r tc, v = .agg #[.string s, .slice A n c, .slice A2 m d, .slice M q e, .int .i64 sp, .int .i64 W, .int .i64 t, .int .i64 k, .slice L l lc, .slice T r tc] := h.form
set_option maxRecDepth 100000 in
set_option maxHeartbeats 3200000 in
theorem szDesk_any (lo hi : Nat) (v : Value) (X : Mch) (G : Option Addr) (ng cg : Nat) (gs : List ByteArray) (w : World) (h : MchV w lo hi v X) (hhi : hi ≤ w.heap.size) (hn : gs.length = ng) (hm : ng ≤ maxLen) (hg : Strs w G gs) (wf : ∀ s ∈ gs, s.size ≤ maxLen) :
    Calls Tryz.prog 23 #[dvg v (.slice G ng cg), .int .i64 1048576] w fun e w' => e = .returned (.int .i64 (dszI X gs)) ∧ Below w.heap.size w w' := by
  obtain ⟨sa, Aa, na, ca, Ba, ma, da, Ma, qa, ea, spa, Wa, ta, ka, La, la, fa, Ta, ra, ga, rfl⟩ := h.formD
  show Calls _ _ #[.agg #[.string sa, .slice Aa na ca, .slice Ba ma da, .slice Ma qa ea, .int .i64 spa, .int .i64 Wa, .int .i64 ta, .int .i64 ka, .slice La la fa, .slice Ta ra ga, .slice G ng cg], .int .i64 1048576] _ _
  obtain ⟨w0, hA, hb0, hzA, KA⟩ := mxWorld w #[.string sa, .slice Aa na ca, .slice Ba ma da, .slice Ma qa ea, .int .i64 spa, .int .i64 Wa, .int .i64 ta, .int .i64 ka, .slice La la fa, .slice Ta ra ga, .slice G ng cg] 55
  have K0 := Lib.hid KA; have T0 := Lib.hid hb0; have V0 := Lib.hid (h.below hhi hb0); have G0 := Lib.hid (hg.below hb0)
  have Hn := Lib.hid hn; have WF := Lib.hid wf
  have z0 : w.heap.size + 1 ≤ w0.heap.size := by omega
  clear h hb0 hzA KA hg hn wf
  obtain ⟨kc0, kc1, kc2, kc3, kc4, kc5, kc6, kc7, kc8, kc9, kc10⟩ := K0.out.elev
  by_cases hbig : (1048576 : Int) < X.big
  · have HR : Hid (dszI X gs = -1) := by show _ = _; unfold dszI; rw [if_pos hbig]
    have Hk := Lib.hid (takeOff_bad hbig)
    go_enter Tryz.func23, Tryz.ntmps23
    go_wp2_with fail
    clear hA
    refine (szMachine_any _ _ _ X 1048576 w0 V0.out (by omega) (by omega) (by omega)).mono ?_
    rintro e w1 ⟨rfl, hb⟩
    rw [Hk.out]
    have T1 := Lib.hid (T0.out.trans (hb.mono (by omega)))
    clear hb kc0 kc1 kc2 kc3 kc4 kc5 kc6 kc7 kc8 kc9 kc10
    go_wp2
    go_ret
    exact ⟨ret_int HR.out.symm, T1.out⟩
  have HR : Hid (dszI X gs = szI (1048576 - X.big) gs) := by show _ = _; unfold dszI; rw [if_neg hbig]
  have Hk := Lib.hid (takeOff_good hbig)
  have hk0 : decide (1048576 - (X.big : Int) < 0) = false := decide_eq_false (by omega)
  have hl0 : 0 ≤ 1048576 - (X.big : Int) := by omega
  have hl1 : 1048576 - (X.big : Int) ≤ 1048576 := by omega
  obtain ⟨left, hleft⟩ : ∃ x, 1048576 - (X.big : Int) = x := ⟨_, rfl⟩
  rw [hleft] at Hk hk0 hl0 hl1 HR
  clear hleft
  obtain ⟨q, hq⟩ : ∃ x, szI left gs = x := ⟨_, rfl⟩
  have HQ := Lib.hid hq
  rw [hq] at HR
  clear hq
  by_cases hq0 : q < 0
  · have hq1 : q = -1 := by
      have h := HQ.out
      unfold szI at h
      split at h <;> omega
    subst hq1
    go_enter Tryz.func23, Tryz.ntmps23
    go_wp2_with fail
    clear hA
    refine (szMachine_any _ _ _ X 1048576 w0 V0.out (by omega) (by omega) (by omega)).mono ?_
    rintro e w1 ⟨rfl, hb⟩
    rw [Hk.out]
    have T1 := Lib.hid (T0.out.trans (hb.mono (by omega))); have K1 := Lib.hid (K0.out.below hb (by omega)); have G1 := Lib.hid (G0.out.below hb)
    clear hb kc0 kc1 kc2 kc3 kc4 kc5 kc6 kc7 kc8 kc9 kc10
    obtain ⟨kc0, kc1, kc2, kc3, kc4, kc5, kc6, kc7, kc8, kc9, kc10⟩ := K1.out.elev
    go_wp2_with fail
    refine (szStringS_any _ _ _ gs left _ Hn.out hm G1.out WF.out hl0 hl1).mono ?_
    rintro e w' ⟨rfl, rfl⟩
    rw [HQ.out]
    go_wp2
    go_ret
    exact ⟨ret_int HR.out.symm, T1.out⟩
  go_enter Tryz.func23, Tryz.ntmps23
  go_wp2_with fail
  clear hA
  refine (szMachine_any _ _ _ X 1048576 w0 V0.out (by omega) (by omega) (by omega)).mono ?_
  rintro e w1 ⟨rfl, hb⟩
  rw [Hk.out]
  have T1 := Lib.hid (T0.out.trans (hb.mono (by omega))); have K1 := Lib.hid (K0.out.below hb (by omega)); have G1 := Lib.hid (G0.out.below hb)
  clear hb kc0 kc1 kc2 kc3 kc4 kc5 kc6 kc7 kc8 kc9 kc10
  obtain ⟨kc0, kc1, kc2, kc3, kc4, kc5, kc6, kc7, kc8, kc9, kc10⟩ := K1.out.elev
  go_wp2_with fail
  refine (szStringS_any _ _ _ gs left _ Hn.out hm G1.out WF.out hl0 hl1).mono ?_
  rintro e w' ⟨rfl, rfl⟩
  rw [HQ.out]
  go_wp2
  go_ret
  exact ⟨ret_int HR.out.symm, T1.out⟩
set_option maxRecDepth 100000 in
set_option maxHeartbeats 3200000 in
theorem eqDeskG_same (lo hi lo2 hi2 : Nat) (v u : Value) (X : Mch) (Ga Gb : Option Addr) (ng ca9 cb9 : Nat) (gs : List ByteArray) (w : World) (h : MchV w lo hi v X) (h2 : MchV w lo2 hi2 u X) (hhi : hi ≤ w.heap.size) (hhi2 : hi2 ≤ w.heap.size) (hs : SmallX X) (hn : gs.length = ng) (hn2 : ng ≤ 1048576) (hg : Strs w Ga gs) (hg2 : Strs w Gb gs) :
    Calls Tryz.prog 27 #[dvg v (.slice Ga ng ca9), dvg u (.slice Gb ng cb9)] w fun e w' => e = .returned (.bool true) ∧ Below w.heap.size w w' := by
  obtain ⟨sa, Aa, na, ca, Ba, ma, da, Ma, qa, ea, spa, Wa, ta, ka, La, la, fa, Ta, ra, ga, rfl⟩ := h.formD
  obtain ⟨sb, Ab, nb, cb, Bb, mb, db, Mb, qb, eb, spb, Wb, tb, kb, Lb, lb, fb, Tb, rb, gb, rfl⟩ := h2.formD
  show Calls _ _ #[.agg #[.string sa, .slice Aa na ca, .slice Ba ma da, .slice Ma qa ea, .int .i64 spa, .int .i64 Wa, .int .i64 ta, .int .i64 ka, .slice La la fa, .slice Ta ra ga, .slice Ga ng ca9], .agg #[.string sb, .slice Ab nb cb, .slice Bb mb db, .slice Mb qb eb, .int .i64 spb, .int .i64 Wb, .int .i64 tb, .int .i64 kb, .slice Lb lb fb, .slice Tb rb gb, .slice Gb ng cb9]] _ _
  obtain ⟨wA, hA, hbA, hzA, KA⟩ := mxWorld w #[.string sa, .slice Aa na ca, .slice Ba ma da, .slice Ma qa ea, .int .i64 spa, .int .i64 Wa, .int .i64 ta, .int .i64 ka, .slice La la fa, .slice Ta ra ga, .slice Ga ng ca9] 63
  obtain ⟨w0, hB, hbB, hzB, JB⟩ := mxWorld wA #[.string sb, .slice Ab nb cb, .slice Bb mb db, .slice Mb qb eb, .int .i64 spb, .int .i64 Wb, .int .i64 tb, .int .i64 kb, .slice Lb lb fb, .slice Tb rb gb, .slice Gb ng cb9] 63
  rw [hzA] at JB
  have K0 := Lib.hid (KA.below hbB (by omega)); have J0 := Lib.hid JB
  have hb0 : Below w.heap.size w w0 := hbA.trans (hbB.mono (by omega))
  have T0 := Lib.hid hb0; have V0 := Lib.hid (h.below hhi hb0); have U0 := Lib.hid (h2.below hhi2 hb0); have G0 := Lib.hid (hg.below hb0); have D0 := Lib.hid (hg2.below hb0)
  have Hn := Lib.hid hn
  have z0 : w.heap.size + 2 ≤ w0.heap.size := by omega
  have HA : Hid ((w.alloc (.cells #[.string sa, .slice Aa na ca, .slice Ba ma da, .slice Ma qa ea, .int .i64 spa, .int .i64 Wa, .int .i64 ta, .int .i64 ka, .slice La la fa, .slice Ta ra ga, .slice Ga ng ca9] 63)).alloc (.cells #[.string sb, .slice Ab nb cb, .slice Bb mb db, .slice Mb qb eb, .int .i64 spb, .int .i64 Wb, .int .i64 tb, .int .i64 kb, .slice Lb lb fb, .slice Tb rb gb, .slice Gb ng cb9] 63) = w0) := by show _ = _; rw [hA, hB]
  clear h h2 hb0 hA hB hbA hbB hzA hzB KA JB hg hg2 hn
  obtain ⟨kc0, kc1, kc2, kc3, kc4, kc5, kc6, kc7, kc8, kc9, kc10⟩ := K0.out.elev
  obtain ⟨jc0, jc1, jc2, jc3, jc4, jc5, jc6, jc7, jc8, jc9, jc10⟩ := J0.out.elev
  go_enter Tryz.func27, Tryz.ntmps27
  go_wp2_with fail
  rw [HA.out]
  refine (eqMachine_same _ _ _ _ _ _ X w0 V0.out U0.out (by omega) (by omega) hs).mono ?_
  rintro e w1 ⟨rfl, hb⟩
  have K1 := Lib.hid (K0.out.below hb (by omega)); have J1 := Lib.hid (J0.out.below hb (by omega)); have T1 := Lib.hid (T0.out.trans (hb.mono (by omega))); have G1 := Lib.hid (G0.out.below hb); have D1 := Lib.hid (D0.out.below hb)
  have z1 : w.heap.size + 2 ≤ w1.heap.size := by have := hb.size; omega
  clear hb kc0 kc1 kc2 kc3 kc4 kc5 kc6 kc7 kc8 kc9 kc10 jc0 jc1 jc2 jc3 jc4 jc5 jc6 jc7 jc8 jc9 jc10
  obtain ⟨kc0, kc1, kc2, kc3, kc4, kc5, kc6, kc7, kc8, kc9, kc10⟩ := K1.out.elev
  obtain ⟨jc0, jc1, jc2, jc3, jc4, jc5, jc6, jc7, jc8, jc9, jc10⟩ := J1.out.elev
  go_wp2_with fail
  refine (eqStringS_t _ _ _ _ _ gs w1 Hn.out hn2 G1.out D1.out).mono ?_
  rintro e w2 ⟨rfl, hb⟩
  have T2 := Lib.hid (T1.out.trans (hb.mono (by omega)))
  clear hb kc0 kc1 kc2 kc3 kc4 kc5 kc6 kc7 kc8 kc9 kc10 jc0 jc1 jc2 jc3 jc4 jc5 jc6 jc7 jc8 jc9 jc10
  go_wp2
  go_ret
  exact ⟨rfl, T2.out⟩
set_option maxRecDepth 100000 in
set_option maxHeartbeats 6400000 in
theorem toDesk_any (lo hi : Nat) (v : Value) (X : Mch) (G : Option Addr) (ng cg : Nat) (gs : List ByteArray) (w : World) (h : MchV w lo hi v X) (hhi : hi ≤ w.heap.size) (hs : SmallX X) (hn : gs.length = ng) (hn2 : ng ≤ 1048576) (hg : Strs w G gs) :
    Calls Tryz.prog 25 #[dvg v (.slice G ng cg)] w fun e w' => ∃ v' G' c' b, e = .returned (dvg v' (.slice G' ng c')) ∧ MchX w' w.heap.size b v' X ∧ OwnS w' b (.slice G' ng c') gs ∧ w.heap.size ≤ b ∧ b ≤ w'.heap.size ∧ ng ≤ c' ∧ c' ≤ maxLen ∧ Below w.heap.size w w' := by
  obtain ⟨sa, Aa, na, ca, Ba, ma, da, Ma, qa, ea, spa, Wa, ta, ka, La, la, fa, Ta, ra, ga, rfl⟩ := h.formD
  show Calls _ _ #[.agg #[.string sa, .slice Aa na ca, .slice Ba ma da, .slice Ma qa ea, .int .i64 spa, .int .i64 Wa, .int .i64 ta, .int .i64 ka, .slice La la fa, .slice Ta ra ga, .slice G ng cg]] _ _
  obtain ⟨wA, hA, hbA, hzA, KA⟩ := mxWorld w #[.string sa, .slice Aa na ca, .slice Ba ma da, .slice Ma qa ea, .int .i64 spa, .int .i64 Wa, .int .i64 ta, .int .i64 ka, .slice La la fa, .slice Ta ra ga, .slice G ng cg] 55
  obtain ⟨wB, hB, hbB, hzB, RB⟩ := mxWorld wA #[.string ⟨#[]⟩, .slice none 0 0, .slice none 0 0, .slice none 0 0, .int .i64 0, .int .i64 0, .int .i64 0, .int .i64 0, .slice none 0 0, .slice none 0 0, .slice none 0 0] 63
  obtain ⟨w0, hC, hbC, hzC, SC⟩ := mxWorld wB #[.string ⟨#[]⟩, .slice none 0 0, .slice none 0 0, .slice none 0 0, .int .i64 0, .int .i64 0, .int .i64 0, .int .i64 0, .slice none 0 0, .slice none 0 0, .slice none 0 0] 63
  rw [hzA] at RB
  rw [hzB, hzA] at SC
  have hb0 : Below w.heap.size w w0 := (hbA.trans (hbB.mono (by omega))).trans (hbC.mono (by omega))
  have K0 := Lib.hid ((KA.below hbB (by omega)).below hbC (by omega)); have R0 := Lib.hid (RB.below hbC (by omega)); have S0 := Lib.hid SC
  have T0 := Lib.hid hb0; have V0 := Lib.hid (h.below hhi hb0); have G0 := Lib.hid ((StrsB.of hg).keep (Nat.le_refl _) hb0)
  have Hn := Lib.hid hn
  have z0 : w.heap.size + 3 ≤ w0.heap.size := by omega
  have HA : Hid (((w.alloc (.cells #[.string sa, .slice Aa na ca, .slice Ba ma da, .slice Ma qa ea, .int .i64 spa, .int .i64 Wa, .int .i64 ta, .int .i64 ka, .slice La la fa, .slice Ta ra ga, .slice G ng cg] 55)).alloc (.cells #[.string ⟨#[]⟩, .slice none 0 0, .slice none 0 0, .slice none 0 0, .int .i64 0, .int .i64 0, .int .i64 0, .int .i64 0, .slice none 0 0, .slice none 0 0, .slice none 0 0] 63)).alloc (.cells #[.string ⟨#[]⟩, .slice none 0 0, .slice none 0 0, .slice none 0 0, .int .i64 0, .int .i64 0, .int .i64 0, .int .i64 0, .slice none 0 0, .slice none 0 0, .slice none 0 0] 63) = w0) := by show _ = _; rw [hA, hB, hC]
  clear h hb0 hA hB hC hbA hbB hbC hzA hzB hzC KA RB SC hg hn
  obtain ⟨kc0, kc1, kc2, kc3, kc4, kc5, kc6, kc7, kc8, kc9, kc10⟩ := K0.out.elev
  go_enter Tryz.func25, Tryz.ntmps25
  go_wp2_with fail
  rw [HA.out]
  refine (toMachine_any lo hi _ X w0 V0.out (by omega) hs).mono ?_
  rintro e w1 ⟨u, rfl, hX, hb⟩
  obtain ⟨sz, Az, nz, cz, Bz, mz, dz, Mz, qz, ez, spz, Wz, tz, kz, Lz, lz, fz, Tz, rz, gz, rfl⟩ := hX.reads.form
  have K1 := Lib.hid (K0.out.below hb (by omega)); have R1 := Lib.hid (R0.out.below hb (by omega)); have S1 := Lib.hid (S0.out.below hb (by omega)); have T1 := Lib.hid (T0.out.trans (hb.mono (by omega))); have G1 := Lib.hid (G0.out.keep (by omega) hb); have X1 := Lib.hid hX
  have z1 : w0.heap.size ≤ w1.heap.size := hb.size
  clear hb hX kc0 kc1 kc2 kc3 kc4 kc5 kc6 kc7 kc8 kc9 kc10
  obtain ⟨kc0, kc1, kc2, kc3, kc4, kc5, kc6, kc7, kc8, kc9, kc10⟩ := K1.out.elev
  obtain ⟨rc0, rc1, rc2, rc3, rc4, rc5, rc6, rc7, rc8, rc9, rc10⟩ := S1.out.elev
  have fr := S1.out.warm
  have hk1 : (∀ i, w1.cell? ⟨w.heap.size, i, none⟩ = #[.string sa, .slice Aa na ca, .slice Ba ma da, .slice Ma qa ea, .int .i64 spa, .int .i64 Wa, .int .i64 ta, .int .i64 ka, .slice La la fa, .slice Ta ra ga, .slice G ng cg][i]?) := fun i => cellOfBlk K1.out i
  obtain ⟨y, hy⟩ : ∃ x, ((((((((((w1.setCell ⟨w.heap.size + 1 + 1, 0, none⟩ (.string sz)).setCell ⟨w.heap.size + 1 + 1, 1, none⟩ (.slice Az nz cz)).setCell ⟨w.heap.size + 1 + 1, 2, none⟩ (.slice Bz mz dz)).setCell ⟨w.heap.size + 1 + 1, 3, none⟩ (.slice Mz qz ez)).setCell ⟨w.heap.size + 1 + 1, 4, none⟩ (.int .i64 spz)).setCell ⟨w.heap.size + 1 + 1, 5, none⟩ (.int .i64 Wz)).setCell ⟨w.heap.size + 1 + 1, 6, none⟩ (.int .i64 tz)).setCell ⟨w.heap.size + 1 + 1, 7, none⟩ (.int .i64 kz)).setCell ⟨w.heap.size + 1 + 1, 8, none⟩ (.slice Lz lz fz)).setCell ⟨w.heap.size + 1 + 1, 9, none⟩ (.slice Tz rz gz)) = x := ⟨_, rfl⟩
  have ry : Blk y (w.heap.size + 1 + 1) #[.string sz, .slice Az nz cz, .slice Bz mz dz, .slice Mz qz ez, .int .i64 spz, .int .i64 Wz, .int .i64 tz, .int .i64 kz, .slice Lz lz fz, .slice Tz rz gz, .slice none 0 0] 63 := by
    rw [← hy]
    exact Blk.fillE S1.out (.string sz) (.slice Az nz cz) (.slice Bz mz dz) (.slice Mz qz ez) (.int .i64 spz) (.int .i64 Wz) (.int .i64 tz) (.int .i64 kz) (.slice Lz lz fz) (.slice Tz rz gz)
  have hc : Chg (w.heap.size + 1 + 1) (w.heap.size + 1 + 1 + 1) w1 y := by rw [← hy]; exact (((((((((((Chg.refl (w.heap.size + 1 + 1) (w.heap.size + 1 + 1 + 1) w1).trans (chg_set w1 (w.heap.size + 1 + 1) 0 (.string sz))).trans (chg_set (w1.setCell ⟨w.heap.size + 1 + 1, 0, none⟩ (.string sz)) (w.heap.size + 1 + 1) 1 (.slice Az nz cz))).trans (chg_set ((w1.setCell ⟨w.heap.size + 1 + 1, 0, none⟩ (.string sz)).setCell ⟨w.heap.size + 1 + 1, 1, none⟩ (.slice Az nz cz)) (w.heap.size + 1 + 1) 2 (.slice Bz mz dz))).trans (chg_set (((w1.setCell ⟨w.heap.size + 1 + 1, 0, none⟩ (.string sz)).setCell ⟨w.heap.size + 1 + 1, 1, none⟩ (.slice Az nz cz)).setCell ⟨w.heap.size + 1 + 1, 2, none⟩ (.slice Bz mz dz)) (w.heap.size + 1 + 1) 3 (.slice Mz qz ez))).trans (chg_set ((((w1.setCell ⟨w.heap.size + 1 + 1, 0, none⟩ (.string sz)).setCell ⟨w.heap.size + 1 + 1, 1, none⟩ (.slice Az nz cz)).setCell ⟨w.heap.size + 1 + 1, 2, none⟩ (.slice Bz mz dz)).setCell ⟨w.heap.size + 1 + 1, 3, none⟩ (.slice Mz qz ez)) (w.heap.size + 1 + 1) 4 (.int .i64 spz))).trans (chg_set (((((w1.setCell ⟨w.heap.size + 1 + 1, 0, none⟩ (.string sz)).setCell ⟨w.heap.size + 1 + 1, 1, none⟩ (.slice Az nz cz)).setCell ⟨w.heap.size + 1 + 1, 2, none⟩ (.slice Bz mz dz)).setCell ⟨w.heap.size + 1 + 1, 3, none⟩ (.slice Mz qz ez)).setCell ⟨w.heap.size + 1 + 1, 4, none⟩ (.int .i64 spz)) (w.heap.size + 1 + 1) 5 (.int .i64 Wz))).trans (chg_set ((((((w1.setCell ⟨w.heap.size + 1 + 1, 0, none⟩ (.string sz)).setCell ⟨w.heap.size + 1 + 1, 1, none⟩ (.slice Az nz cz)).setCell ⟨w.heap.size + 1 + 1, 2, none⟩ (.slice Bz mz dz)).setCell ⟨w.heap.size + 1 + 1, 3, none⟩ (.slice Mz qz ez)).setCell ⟨w.heap.size + 1 + 1, 4, none⟩ (.int .i64 spz)).setCell ⟨w.heap.size + 1 + 1, 5, none⟩ (.int .i64 Wz)) (w.heap.size + 1 + 1) 6 (.int .i64 tz))).trans (chg_set (((((((w1.setCell ⟨w.heap.size + 1 + 1, 0, none⟩ (.string sz)).setCell ⟨w.heap.size + 1 + 1, 1, none⟩ (.slice Az nz cz)).setCell ⟨w.heap.size + 1 + 1, 2, none⟩ (.slice Bz mz dz)).setCell ⟨w.heap.size + 1 + 1, 3, none⟩ (.slice Mz qz ez)).setCell ⟨w.heap.size + 1 + 1, 4, none⟩ (.int .i64 spz)).setCell ⟨w.heap.size + 1 + 1, 5, none⟩ (.int .i64 Wz)).setCell ⟨w.heap.size + 1 + 1, 6, none⟩ (.int .i64 tz)) (w.heap.size + 1 + 1) 7 (.int .i64 kz))).trans (chg_set ((((((((w1.setCell ⟨w.heap.size + 1 + 1, 0, none⟩ (.string sz)).setCell ⟨w.heap.size + 1 + 1, 1, none⟩ (.slice Az nz cz)).setCell ⟨w.heap.size + 1 + 1, 2, none⟩ (.slice Bz mz dz)).setCell ⟨w.heap.size + 1 + 1, 3, none⟩ (.slice Mz qz ez)).setCell ⟨w.heap.size + 1 + 1, 4, none⟩ (.int .i64 spz)).setCell ⟨w.heap.size + 1 + 1, 5, none⟩ (.int .i64 Wz)).setCell ⟨w.heap.size + 1 + 1, 6, none⟩ (.int .i64 tz)).setCell ⟨w.heap.size + 1 + 1, 7, none⟩ (.int .i64 kz)) (w.heap.size + 1 + 1) 8 (.slice Lz lz fz))).trans (chg_set (((((((((w1.setCell ⟨w.heap.size + 1 + 1, 0, none⟩ (.string sz)).setCell ⟨w.heap.size + 1 + 1, 1, none⟩ (.slice Az nz cz)).setCell ⟨w.heap.size + 1 + 1, 2, none⟩ (.slice Bz mz dz)).setCell ⟨w.heap.size + 1 + 1, 3, none⟩ (.slice Mz qz ez)).setCell ⟨w.heap.size + 1 + 1, 4, none⟩ (.int .i64 spz)).setCell ⟨w.heap.size + 1 + 1, 5, none⟩ (.int .i64 Wz)).setCell ⟨w.heap.size + 1 + 1, 6, none⟩ (.int .i64 tz)).setCell ⟨w.heap.size + 1 + 1, 7, none⟩ (.int .i64 kz)).setCell ⟨w.heap.size + 1 + 1, 8, none⟩ (.slice Lz lz fz)) (w.heap.size + 1 + 1) 9 (.slice Tz rz gz)))
  have sy : w1.heap.size ≤ y.heap.size := hc.size
  have Ky := Lib.hid (K1.out.chg hc (by omega)); have Ry := Lib.hid (R1.out.chg hc (by omega)); have Sy := Lib.hid ry; have Ty := Lib.hid (T1.out.trans ((hc.below (by omega)).mono (by omega))); have Xy := Lib.hid (X1.out.chg hc (by unfold Off; omega))
  have Gy := Lib.hid (G1.out.keep (by omega) (hc.below (by omega)))
  have kd := cellOfBlk Ky.out 10
  change y.cell? ⟨w.heap.size, 10, none⟩ = some (.slice G ng cg) at kd
  go_wp2_with fail
  clear hy kc0 kc1 kc2 kc3 kc4 kc5 kc6 kc7 kc8 kc9 kc10 rc0 rc1 rc2 rc3 rc4 rc5 rc6 rc7 rc8 rc9 rc10 fr hk1 kd
  refine (toStringS_o _ _ _ gs y Hn.out hn2 Gy.out.ints).mono ?_
  rintro e w2 ⟨Gz, cz9, rfl, hO, h1, h2, hb⟩
  have K2 := Lib.hid (Ky.out.below hb (by omega)); have R2 := Lib.hid (Ry.out.below hb (by omega)); have S2 := Lib.hid (Sy.out.below hb (by omega)); have T2 := Lib.hid (Ty.out.trans (hb.mono (by omega))); have X2 := Lib.hid (Xy.out.below hb); have O2 := Lib.hid hO
  have z2 : y.heap.size ≤ w2.heap.size := hb.size
  have Ot := fun k hk => World.ownsRow.lt hO k hk
  clear hb hO K1 R1 S1 T1 X1 G1 Ky Ry Sy Ty Xy Gy hc ry
  have HW2 : Hid (Blk (w2.setCell ⟨w.heap.size + 1 + 1, 10, none⟩ (.slice Gz ng cz9)) (w.heap.size + 1 + 1) #[.string sz, .slice Az nz cz, .slice Bz mz dz, .slice Mz qz ez, .int .i64 spz, .int .i64 Wz, .int .i64 tz, .int .i64 kz, .slice Lz lz fz, .slice Tz rz gz, .slice Gz ng cz9] 63) := heapSet (i := 10) S2.out (.slice Gz ng cz9)
  obtain ⟨rc0, rc1, rc2, rc3, rc4, rc5, rc6, rc7, rc8, rc9, rc10⟩ := S2.out.elev
  have fr := S2.out.warm
  obtain ⟨y2, hy2⟩ : ∃ x, (w2.setCell ⟨w.heap.size + 1 + 1, 10, none⟩ (.slice Gz ng cz9)) = x := ⟨_, rfl⟩
  have hc2 : Chg (w.heap.size + 1 + 1) (w.heap.size + 1 + 1 + 1) w2 y2 := by rw [← hy2]; exact ((Chg.refl (w.heap.size + 1 + 1) (w.heap.size + 1 + 1 + 1) w2).trans (chg_set w2 (w.heap.size + 1 + 1) 10 (.slice Gz ng cz9)))
  rw [hy2] at HW2
  have sy2 : w2.heap.size ≤ y2.heap.size := hc2.size
  have R3 := Lib.hid (R2.out.chg hc2 (by omega)); have T3 := Lib.hid (T2.out.trans ((hc2.below (by omega)).mono (by omega))); have X3 := Lib.hid (X2.out.chg hc2 (by unfold Off; omega)); have O3 := Lib.hid (chg_ownS hc2 O2.out (fun x hx => by have := Ot x hx; omega))
  clear K2 R2 S2 T2 X2 O2 hc2
  have yc := HW2.out.elev
  obtain ⟨yc0, yc1, yc2, yc3, yc4, yc5, yc6, yc7, yc8, yc9, yc10⟩ := yc
  obtain ⟨xc0, xc1, xc2, xc3, xc4, xc5, xc6, xc7, xc8, xc9, xc10⟩ := R3.out.elev
  have fx := R3.out.warm
  obtain ⟨y3, hy3⟩ : ∃ x, (((((((((((y2.setCell ⟨w.heap.size + 1, 0, none⟩ (.string sz)).setCell ⟨w.heap.size + 1, 1, none⟩ (.slice Az nz cz)).setCell ⟨w.heap.size + 1, 2, none⟩ (.slice Bz mz dz)).setCell ⟨w.heap.size + 1, 3, none⟩ (.slice Mz qz ez)).setCell ⟨w.heap.size + 1, 4, none⟩ (.int .i64 spz)).setCell ⟨w.heap.size + 1, 5, none⟩ (.int .i64 Wz)).setCell ⟨w.heap.size + 1, 6, none⟩ (.int .i64 tz)).setCell ⟨w.heap.size + 1, 7, none⟩ (.int .i64 kz)).setCell ⟨w.heap.size + 1, 8, none⟩ (.slice Lz lz fz)).setCell ⟨w.heap.size + 1, 9, none⟩ (.slice Tz rz gz)).setCell ⟨w.heap.size + 1, 10, none⟩ (.slice Gz ng cz9)) = x := ⟨_, rfl⟩
  have hc3 : Chg (w.heap.size + 1) (w.heap.size + 1 + 1) y2 y3 := by rw [← hy3]; exact ((((((((((((Chg.refl (w.heap.size + 1) (w.heap.size + 1 + 1) y2).trans (chg_set y2 (w.heap.size + 1) 0 (.string sz))).trans (chg_set (y2.setCell ⟨w.heap.size + 1, 0, none⟩ (.string sz)) (w.heap.size + 1) 1 (.slice Az nz cz))).trans (chg_set ((y2.setCell ⟨w.heap.size + 1, 0, none⟩ (.string sz)).setCell ⟨w.heap.size + 1, 1, none⟩ (.slice Az nz cz)) (w.heap.size + 1) 2 (.slice Bz mz dz))).trans (chg_set (((y2.setCell ⟨w.heap.size + 1, 0, none⟩ (.string sz)).setCell ⟨w.heap.size + 1, 1, none⟩ (.slice Az nz cz)).setCell ⟨w.heap.size + 1, 2, none⟩ (.slice Bz mz dz)) (w.heap.size + 1) 3 (.slice Mz qz ez))).trans (chg_set ((((y2.setCell ⟨w.heap.size + 1, 0, none⟩ (.string sz)).setCell ⟨w.heap.size + 1, 1, none⟩ (.slice Az nz cz)).setCell ⟨w.heap.size + 1, 2, none⟩ (.slice Bz mz dz)).setCell ⟨w.heap.size + 1, 3, none⟩ (.slice Mz qz ez)) (w.heap.size + 1) 4 (.int .i64 spz))).trans (chg_set (((((y2.setCell ⟨w.heap.size + 1, 0, none⟩ (.string sz)).setCell ⟨w.heap.size + 1, 1, none⟩ (.slice Az nz cz)).setCell ⟨w.heap.size + 1, 2, none⟩ (.slice Bz mz dz)).setCell ⟨w.heap.size + 1, 3, none⟩ (.slice Mz qz ez)).setCell ⟨w.heap.size + 1, 4, none⟩ (.int .i64 spz)) (w.heap.size + 1) 5 (.int .i64 Wz))).trans (chg_set ((((((y2.setCell ⟨w.heap.size + 1, 0, none⟩ (.string sz)).setCell ⟨w.heap.size + 1, 1, none⟩ (.slice Az nz cz)).setCell ⟨w.heap.size + 1, 2, none⟩ (.slice Bz mz dz)).setCell ⟨w.heap.size + 1, 3, none⟩ (.slice Mz qz ez)).setCell ⟨w.heap.size + 1, 4, none⟩ (.int .i64 spz)).setCell ⟨w.heap.size + 1, 5, none⟩ (.int .i64 Wz)) (w.heap.size + 1) 6 (.int .i64 tz))).trans (chg_set (((((((y2.setCell ⟨w.heap.size + 1, 0, none⟩ (.string sz)).setCell ⟨w.heap.size + 1, 1, none⟩ (.slice Az nz cz)).setCell ⟨w.heap.size + 1, 2, none⟩ (.slice Bz mz dz)).setCell ⟨w.heap.size + 1, 3, none⟩ (.slice Mz qz ez)).setCell ⟨w.heap.size + 1, 4, none⟩ (.int .i64 spz)).setCell ⟨w.heap.size + 1, 5, none⟩ (.int .i64 Wz)).setCell ⟨w.heap.size + 1, 6, none⟩ (.int .i64 tz)) (w.heap.size + 1) 7 (.int .i64 kz))).trans (chg_set ((((((((y2.setCell ⟨w.heap.size + 1, 0, none⟩ (.string sz)).setCell ⟨w.heap.size + 1, 1, none⟩ (.slice Az nz cz)).setCell ⟨w.heap.size + 1, 2, none⟩ (.slice Bz mz dz)).setCell ⟨w.heap.size + 1, 3, none⟩ (.slice Mz qz ez)).setCell ⟨w.heap.size + 1, 4, none⟩ (.int .i64 spz)).setCell ⟨w.heap.size + 1, 5, none⟩ (.int .i64 Wz)).setCell ⟨w.heap.size + 1, 6, none⟩ (.int .i64 tz)).setCell ⟨w.heap.size + 1, 7, none⟩ (.int .i64 kz)) (w.heap.size + 1) 8 (.slice Lz lz fz))).trans (chg_set (((((((((y2.setCell ⟨w.heap.size + 1, 0, none⟩ (.string sz)).setCell ⟨w.heap.size + 1, 1, none⟩ (.slice Az nz cz)).setCell ⟨w.heap.size + 1, 2, none⟩ (.slice Bz mz dz)).setCell ⟨w.heap.size + 1, 3, none⟩ (.slice Mz qz ez)).setCell ⟨w.heap.size + 1, 4, none⟩ (.int .i64 spz)).setCell ⟨w.heap.size + 1, 5, none⟩ (.int .i64 Wz)).setCell ⟨w.heap.size + 1, 6, none⟩ (.int .i64 tz)).setCell ⟨w.heap.size + 1, 7, none⟩ (.int .i64 kz)).setCell ⟨w.heap.size + 1, 8, none⟩ (.slice Lz lz fz)) (w.heap.size + 1) 9 (.slice Tz rz gz))).trans (chg_set ((((((((((y2.setCell ⟨w.heap.size + 1, 0, none⟩ (.string sz)).setCell ⟨w.heap.size + 1, 1, none⟩ (.slice Az nz cz)).setCell ⟨w.heap.size + 1, 2, none⟩ (.slice Bz mz dz)).setCell ⟨w.heap.size + 1, 3, none⟩ (.slice Mz qz ez)).setCell ⟨w.heap.size + 1, 4, none⟩ (.int .i64 spz)).setCell ⟨w.heap.size + 1, 5, none⟩ (.int .i64 Wz)).setCell ⟨w.heap.size + 1, 6, none⟩ (.int .i64 tz)).setCell ⟨w.heap.size + 1, 7, none⟩ (.int .i64 kz)).setCell ⟨w.heap.size + 1, 8, none⟩ (.slice Lz lz fz)).setCell ⟨w.heap.size + 1, 9, none⟩ (.slice Tz rz gz)) (w.heap.size + 1) 10 (.slice Gz ng cz9)))
  have R4 : Blk y3 (w.heap.size + 1) #[.string sz, .slice Az nz cz, .slice Bz mz dz, .slice Mz qz ez, .int .i64 spz, .int .i64 Wz, .int .i64 tz, .int .i64 kz, .slice Lz lz fz, .slice Tz rz gz, .slice Gz ng cz9] 63 := by
    rw [← hy3]
    exact Blk.fillD R3.out (.string sz) (.slice Az nz cz) (.slice Bz mz dz) (.slice Mz qz ez) (.int .i64 spz) (.int .i64 Wz) (.int .i64 tz) (.int .i64 kz) (.slice Lz lz fz) (.slice Tz rz gz) (.slice Gz ng cz9)
  have sy3 : y2.heap.size ≤ y3.heap.size := hc3.size
  have T4 := Lib.hid (T3.out.trans ((hc3.below (by omega)).mono (by omega))); have X4 := Lib.hid (X3.out.chg hc3 (by unfold Off; omega)); have O4 := Lib.hid (chg_ownS hc3 O3.out (fun x hx => by have := Ot x hx; omega))
  have R5 := Lib.hid R4
  clear R3 T3 X3 O3 hc3 R4
  go_wp2
  clear hy2 hy3 rc0 rc1 rc2 rc3 rc4 rc5 rc6 rc7 rc8 rc9 rc10 fr yc0 yc1 yc2 yc3 yc4 yc5 yc6 yc7 yc8 yc9 yc10 xc0 xc1 xc2 xc3 xc4 xc5 xc6 xc7 xc8 xc9 xc10 fx
  obtain ⟨uc0, uc1, uc2, uc3, uc4, uc5, uc6, uc7, uc8, uc9, uc10⟩ := R5.out.elev
  refine bodyPost_ret (v := .agg #[.string sz, .slice Az nz cz, .slice Bz mz dz, .slice Mz qz ez, .int .i64 spz, .int .i64 Wz, .int .i64 tz, .int .i64 kz, .slice Lz lz fz, .slice Tz rz gz, .slice Gz ng cz9]) (by simp [results, Tryz.results25, go_sem, uc0, uc1, uc2, uc3, uc4, uc5, uc6, uc7, uc8, uc9, uc10]) rfl ?_
  exact ⟨.agg #[.string sz, .slice Az nz cz, .slice Bz mz dz, .slice Mz qz ez, .int .i64 spz, .int .i64 Wz, .int .i64 tz, .int .i64 kz, .slice Lz lz fz, .slice Tz rz gz], Gz, cz9, y.heap.size, rfl, X4.out.wide (by omega) (by omega), O4.out, by omega, by omega, h1, h2, T4.out⟩
end Go.Proofs.YtobakeahbgodbaaGreat
