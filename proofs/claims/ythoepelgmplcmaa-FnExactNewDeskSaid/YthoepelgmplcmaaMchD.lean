/-
  NewDesk of the model and the program by contract, and the laws' helpers over desks without a galley. Conditions: sizes of at most 2^20.
-/
import Derived.Test.YthoepelgmplcmaaMchN
namespace Go.Proofs.Ythoepelgmplcmaa
open Go.RowKit
set_option linter.unusedVariables false

theorem MchV.formX {w : World} {lo hi : Nat} {X : Mch} {v : Value} (h : MchV w lo hi v X) : ∃ s A n c A2 m d M q e sp W t k L l lc T r tc, v = .agg #[.string s, .slice A n c, .slice A2 m d, .slice M q e, .int .i64 sp, .int .i64 W, .int .i64 t, .int .i64 k, .slice L l lc, .slice T r tc] := h.form
theorem Blk.fill11 {w : World} {B : Nat} {a0 a1 a2 a3 a4 a5 a6 a7 a8 a9 a10 : Value} {T : TypeId} (h : Blk w B #[a0, a1, a2, a3, a4, a5, a6, a7, a8, a9, a10] T) (u0 u1 u2 u3 u4 u5 u6 u7 u8 u9 u10 : Value) :
    Blk ((((((((((((w.setCell ⟨B, 0, none⟩ u0).setCell ⟨B, 1, none⟩ u1).setCell ⟨B, 2, none⟩ u2).setCell ⟨B, 3, none⟩ u3).setCell ⟨B, 4, none⟩ u4).setCell ⟨B, 5, none⟩ u5).setCell ⟨B, 6, none⟩ u6).setCell ⟨B, 7, none⟩ u7).setCell ⟨B, 8, none⟩ u8).setCell ⟨B, 9, none⟩ u9).setCell ⟨B, 10, none⟩ u10)) B #[u0, u1, u2, u3, u4, u5, u6, u7, u8, u9, u10] T := by
  have h0 : Blk (w.setCell ⟨B, 0, none⟩ u0) B #[u0, a1, a2, a3, a4, a5, a6, a7, a8, a9, a10] T := heapSet (i := 0) h u0
  have h1 : Blk ((w.setCell ⟨B, 0, none⟩ u0).setCell ⟨B, 1, none⟩ u1) B #[u0, u1, a2, a3, a4, a5, a6, a7, a8, a9, a10] T := heapSet (i := 1) h0 u1
  have h2 : Blk (((w.setCell ⟨B, 0, none⟩ u0).setCell ⟨B, 1, none⟩ u1).setCell ⟨B, 2, none⟩ u2) B #[u0, u1, u2, a3, a4, a5, a6, a7, a8, a9, a10] T := heapSet (i := 2) h1 u2
  have h3 : Blk ((((w.setCell ⟨B, 0, none⟩ u0).setCell ⟨B, 1, none⟩ u1).setCell ⟨B, 2, none⟩ u2).setCell ⟨B, 3, none⟩ u3) B #[u0, u1, u2, u3, a4, a5, a6, a7, a8, a9, a10] T := heapSet (i := 3) h2 u3
  have h4 : Blk (((((w.setCell ⟨B, 0, none⟩ u0).setCell ⟨B, 1, none⟩ u1).setCell ⟨B, 2, none⟩ u2).setCell ⟨B, 3, none⟩ u3).setCell ⟨B, 4, none⟩ u4) B #[u0, u1, u2, u3, u4, a5, a6, a7, a8, a9, a10] T := heapSet (i := 4) h3 u4
  have h5 : Blk ((((((w.setCell ⟨B, 0, none⟩ u0).setCell ⟨B, 1, none⟩ u1).setCell ⟨B, 2, none⟩ u2).setCell ⟨B, 3, none⟩ u3).setCell ⟨B, 4, none⟩ u4).setCell ⟨B, 5, none⟩ u5) B #[u0, u1, u2, u3, u4, u5, a6, a7, a8, a9, a10] T := heapSet (i := 5) h4 u5
  have h6 : Blk (((((((w.setCell ⟨B, 0, none⟩ u0).setCell ⟨B, 1, none⟩ u1).setCell ⟨B, 2, none⟩ u2).setCell ⟨B, 3, none⟩ u3).setCell ⟨B, 4, none⟩ u4).setCell ⟨B, 5, none⟩ u5).setCell ⟨B, 6, none⟩ u6) B #[u0, u1, u2, u3, u4, u5, u6, a7, a8, a9, a10] T := heapSet (i := 6) h5 u6
  have h7 : Blk ((((((((w.setCell ⟨B, 0, none⟩ u0).setCell ⟨B, 1, none⟩ u1).setCell ⟨B, 2, none⟩ u2).setCell ⟨B, 3, none⟩ u3).setCell ⟨B, 4, none⟩ u4).setCell ⟨B, 5, none⟩ u5).setCell ⟨B, 6, none⟩ u6).setCell ⟨B, 7, none⟩ u7) B #[u0, u1, u2, u3, u4, u5, u6, u7, a8, a9, a10] T := heapSet (i := 7) h6 u7
  have h8 : Blk (((((((((w.setCell ⟨B, 0, none⟩ u0).setCell ⟨B, 1, none⟩ u1).setCell ⟨B, 2, none⟩ u2).setCell ⟨B, 3, none⟩ u3).setCell ⟨B, 4, none⟩ u4).setCell ⟨B, 5, none⟩ u5).setCell ⟨B, 6, none⟩ u6).setCell ⟨B, 7, none⟩ u7).setCell ⟨B, 8, none⟩ u8) B #[u0, u1, u2, u3, u4, u5, u6, u7, u8, a9, a10] T := heapSet (i := 8) h7 u8
  have h9 : Blk ((((((((((w.setCell ⟨B, 0, none⟩ u0).setCell ⟨B, 1, none⟩ u1).setCell ⟨B, 2, none⟩ u2).setCell ⟨B, 3, none⟩ u3).setCell ⟨B, 4, none⟩ u4).setCell ⟨B, 5, none⟩ u5).setCell ⟨B, 6, none⟩ u6).setCell ⟨B, 7, none⟩ u7).setCell ⟨B, 8, none⟩ u8).setCell ⟨B, 9, none⟩ u9) B #[u0, u1, u2, u3, u4, u5, u6, u7, u8, u9, a10] T := heapSet (i := 9) h8 u9
  have h10 : Blk (((((((((((w.setCell ⟨B, 0, none⟩ u0).setCell ⟨B, 1, none⟩ u1).setCell ⟨B, 2, none⟩ u2).setCell ⟨B, 3, none⟩ u3).setCell ⟨B, 4, none⟩ u4).setCell ⟨B, 5, none⟩ u5).setCell ⟨B, 6, none⟩ u6).setCell ⟨B, 7, none⟩ u7).setCell ⟨B, 8, none⟩ u8).setCell ⟨B, 9, none⟩ u9).setCell ⟨B, 10, none⟩ u10) B #[u0, u1, u2, u3, u4, u5, u6, u7, u8, u9, u10] T := heapSet (i := 10) h9 u10
  exact h10
/-- a machine's value with no galley behind it -/
def dv : Value → Value
  | .agg cs => .agg (cs.push (.slice none 0 0))
  | v => v
theorem blk11 {w : World} {B : Nat} {a0 a1 a2 a3 a4 a5 a6 a7 a8 a9 a10 : Value} {T : TypeId} (h : Blk w B #[a0, a1, a2, a3, a4, a5, a6, a7, a8, a9, a10] T) :
    w.cell? ⟨B, 0, none⟩ = some a0 ∧ w.cell? ⟨B, 1, none⟩ = some a1 ∧ w.cell? ⟨B, 2, none⟩ = some a2 ∧ w.cell? ⟨B, 3, none⟩ = some a3 ∧ w.cell? ⟨B, 4, none⟩ = some a4 ∧ w.cell? ⟨B, 5, none⟩ = some a5 ∧ w.cell? ⟨B, 6, none⟩ = some a6 ∧ w.cell? ⟨B, 7, none⟩ = some a7 ∧ w.cell? ⟨B, 8, none⟩ = some a8 ∧ w.cell? ⟨B, 9, none⟩ = some a9 ∧ w.cell? ⟨B, 10, none⟩ = some a10 :=
  ⟨cellOfBlk h 0, cellOfBlk h 1, cellOfBlk h 2, cellOfBlk h 3, cellOfBlk h 4, cellOfBlk h 5, cellOfBlk h 6, cellOfBlk h 7, cellOfBlk h 8, cellOfBlk h 9, cellOfBlk h 10⟩
theorem eqStr0_any (w : World) : Calls Try.prog 63 #[.slice none 0 0, .slice none 0 0] w fun e w' => e = .returned (.bool true) ∧ w = w' := by
  go_enter Try.func63, Try.ntmps63
  go_wp2
  refine wp_loop_rounds 1 ?_
  rw [rounds_succ]
  go_wp2
  go_ret
  exact ⟨rfl, rfl⟩
theorem markStr0_any (k : Int) (w : World) : Calls Try.prog 71 #[.slice none 0 0, .int .i64 k] w fun e w' => e = .returned (.int .i64 k) ∧ w = w' := by
  go_enter Try.func71, Try.ntmps71
  go_wp2
  refine wp_loop_rounds 1 ?_
  rw [rounds_succ]
  go_wp2
  go_ret
  exact ⟨rfl, rfl⟩
theorem heldStr0_any (k : Int) (w : World) : Calls Try.prog 72 #[.slice none 0 0, .int .i64 k] w fun e w' => e = .returned (.int .i64 k) ∧ w = w' := by
  go_enter Try.func72, Try.ntmps72
  go_wp2
  refine wp_loop_rounds 1 ?_
  rw [rounds_succ]
  go_wp2
  go_ret
  exact ⟨rfl, rfl⟩
set_option maxRecDepth 100000 in
set_option maxHeartbeats 3200000 in
theorem eqDesk_same (lo hi lo2 hi2 : Nat) (v u : Value) (X : Mch) (w : World) (h : MchV w lo hi v X) (h2 : MchV w lo2 hi2 u X) (hhi : hi ≤ w.heap.size) (hhi2 : hi2 ≤ w.heap.size) (hs : SmallX X) :
    Calls Try.prog 66 #[dv v, dv u] w fun e w' => e = .returned (.bool true) ∧ Below w.heap.size w w' := by
  obtain ⟨sa, Aa, na, ca, Ba, ma, da, Ma, qa, ea, spa, Wa, ta, ka, La, la, fa, Ta, ra, ga, rfl⟩ := h.formX
  obtain ⟨sb, Ab, nb, cb, Bb, mb, db, Mb, qb, eb, spb, Wb, tb, kb, Lb, lb, fb, Tb, rb, gb, rfl⟩ := h2.formX
  show Calls _ _ #[.agg #[.string sa, .slice Aa na ca, .slice Ba ma da, .slice Ma qa ea, .int .i64 spa, .int .i64 Wa, .int .i64 ta, .int .i64 ka, .slice La la fa, .slice Ta ra ga, .slice none 0 0], .agg #[.string sb, .slice Ab nb cb, .slice Bb mb db, .slice Mb qb eb, .int .i64 spb, .int .i64 Wb, .int .i64 tb, .int .i64 kb, .slice Lb lb fb, .slice Tb rb gb, .slice none 0 0]] _ _
  obtain ⟨wA, hA, hbA, hzA, KA⟩ := mxWorld w #[.string sa, .slice Aa na ca, .slice Ba ma da, .slice Ma qa ea, .int .i64 spa, .int .i64 Wa, .int .i64 ta, .int .i64 ka, .slice La la fa, .slice Ta ra ga, .slice none 0 0] 86
  obtain ⟨w0, hB, hbB, hzB, JB⟩ := mxWorld wA #[.string sb, .slice Ab nb cb, .slice Bb mb db, .slice Mb qb eb, .int .i64 spb, .int .i64 Wb, .int .i64 tb, .int .i64 kb, .slice Lb lb fb, .slice Tb rb gb, .slice none 0 0] 86
  rw [hzA] at JB
  have K0 := Lib.hid (KA.below hbB (by omega)); have J0 := Lib.hid JB
  have hb0 : Below w.heap.size w w0 := hbA.trans (hbB.mono (by omega))
  have T0 := Lib.hid hb0; have V0 := Lib.hid (h.below hhi hb0); have U0 := Lib.hid (h2.below hhi2 hb0)
  have z0 : w.heap.size + 2 ≤ w0.heap.size := by omega
  have HA : Hid ((w.alloc (.cells #[.string sa, .slice Aa na ca, .slice Ba ma da, .slice Ma qa ea, .int .i64 spa, .int .i64 Wa, .int .i64 ta, .int .i64 ka, .slice La la fa, .slice Ta ra ga, .slice none 0 0] 86)).alloc (.cells #[.string sb, .slice Ab nb cb, .slice Bb mb db, .slice Mb qb eb, .int .i64 spb, .int .i64 Wb, .int .i64 tb, .int .i64 kb, .slice Lb lb fb, .slice Tb rb gb, .slice none 0 0] 86) = w0) := by show _ = _; rw [hA, hB]
  clear h h2 hb0 hA hB hbA hbB hzA hzB KA JB
  obtain ⟨kc0, kc1, kc2, kc3, kc4, kc5, kc6, kc7, kc8, kc9, kc10⟩ := blk11 K0.out
  obtain ⟨jc0, jc1, jc2, jc3, jc4, jc5, jc6, jc7, jc8, jc9, jc10⟩ := blk11 J0.out
  go_enter Try.func66, Try.ntmps66
  go_wp2_with fail
  rw [HA.out]
  refine (eqMachine_same _ _ _ _ _ _ X w0 V0.out U0.out (by omega) (by omega) hs).mono ?_
  rintro e w1 ⟨rfl, hb⟩
  have K1 := Lib.hid (K0.out.below hb (by omega)); have J1 := Lib.hid (J0.out.below hb (by omega)); have T1 := Lib.hid (T0.out.trans (hb.mono (by omega)))
  clear hb kc0 kc1 kc2 kc3 kc4 kc5 kc6 kc7 kc8 kc9 kc10 jc0 jc1 jc2 jc3 jc4 jc5 jc6 jc7 jc8 jc9 jc10
  obtain ⟨kc0, kc1, kc2, kc3, kc4, kc5, kc6, kc7, kc8, kc9, kc10⟩ := blk11 K1.out
  obtain ⟨jc0, jc1, jc2, jc3, jc4, jc5, jc6, jc7, jc8, jc9, jc10⟩ := blk11 J1.out
  go_wp2_with fail
  refine (eqStr0_any w1).mono ?_
  rintro e w1' ⟨rfl, rfl⟩
  go_wp2
  go_ret
  exact ⟨rfl, T1.out⟩
set_option maxRecDepth 100000 in
set_option maxHeartbeats 3200000 in
theorem markDesk_any (B hi : Nat) (v : Value) (X : Mch) (w : World) (h : MchX w B hi v X) (hhi : hi ≤ w.heap.size) (hs : X.big ≤ 1048576) (hB : B ≤ w.heap.size) :
    Calls Try.prog 67 #[dv v, .int .i64 1] w fun e w' => e = .returned (.int .i64 (1 + X.marks)) ∧ MchX w' B hi v (markX 1 X) ∧ Chg B hi w w' := by
  obtain ⟨sa, Aa, na, ca, Ba, ma, da, Ma, qa, ea, spa, Wa, ta, ka, La, la, fa, Ta, ra, ga, rfl⟩ := h.reads.formX
  show Calls _ _ #[.agg #[.string sa, .slice Aa na ca, .slice Ba ma da, .slice Ma qa ea, .int .i64 spa, .int .i64 Wa, .int .i64 ta, .int .i64 ka, .slice La la fa, .slice Ta ra ga, .slice none 0 0], .int .i64 1] _ _
  obtain ⟨w0, hA, hb0, hzA, KA⟩ := mxWorld w #[.string sa, .slice Aa na ca, .slice Ba ma da, .slice Ma qa ea, .int .i64 spa, .int .i64 Wa, .int .i64 ta, .int .i64 ka, .slice La la fa, .slice Ta ra ga, .slice none 0 0] 86
  have K0 := Lib.hid KA
  have T0 := Lib.hid hb0; have V0 := Lib.hid (h.below hb0)
  have z0 : w.heap.size + 1 ≤ w0.heap.size := by omega
  have HA : Hid (w.alloc (.cells #[.string sa, .slice Aa na ca, .slice Ba ma da, .slice Ma qa ea, .int .i64 spa, .int .i64 Wa, .int .i64 ta, .int .i64 ka, .slice La la fa, .slice Ta ra ga, .slice none 0 0] 86) = w0) := hA
  have v1 : decide (1 + (X.marks : Int) < 0) = false := decide_eq_false (by omega)
  clear h hb0 hA hzA KA
  obtain ⟨kc0, kc1, kc2, kc3, kc4, kc5, kc6, kc7, kc8, kc9, kc10⟩ := blk11 K0.out
  go_enter Try.func67, Try.ntmps67
  go_wp2_with fail
  rw [HA.out]
  refine (markMachine_any _ _ _ X 1 w0 V0.out (by omega) hs (by omega) (by omega)).mono ?_
  rintro e w1 ⟨rfl, hX, hc⟩
  have K1 := Lib.hid (K0.out.chg hc (by omega)); have C1 := Lib.hid ((Chg.of_below T0.out).trans hc); have X1 := Lib.hid hX
  clear hc hX kc0 kc1 kc2 kc3 kc4 kc5 kc6 kc7 kc8 kc9 kc10
  obtain ⟨kc0, kc1, kc2, kc3, kc4, kc5, kc6, kc7, kc8, kc9, kc10⟩ := blk11 K1.out
  go_wp2_with fail
  refine (markStr0_any (1 + X.marks) w1).mono ?_
  rintro e w1' ⟨rfl, rfl⟩
  go_wp2
  go_ret
  exact ⟨rfl, X1.out, C1.out⟩
set_option maxRecDepth 100000 in
set_option maxHeartbeats 3200000 in
theorem heldDesk_any (B hi : Nat) (v : Value) (X : Mch) (w : World) (h : MchV w B hi v (markX 1 X)) (hhi : hi ≤ w.heap.size) (hs : X.big ≤ 1048575) :
    Calls Try.prog 68 #[dv v, .int .i64 1] w fun e w' => e = .returned (.int .i64 (1 + X.marks)) ∧ Below w.heap.size w w' := by
  obtain ⟨sa, Aa, na, ca, Ba, ma, da, Ma, qa, ea, spa, Wa, ta, ka, La, la, fa, Ta, ra, ga, rfl⟩ := h.formX
  show Calls _ _ #[.agg #[.string sa, .slice Aa na ca, .slice Ba ma da, .slice Ma qa ea, .int .i64 spa, .int .i64 Wa, .int .i64 ta, .int .i64 ka, .slice La la fa, .slice Ta ra ga, .slice none 0 0], .int .i64 1] _ _
  obtain ⟨w0, hA, hb0, hzA, KA⟩ := mxWorld w #[.string sa, .slice Aa na ca, .slice Ba ma da, .slice Ma qa ea, .int .i64 spa, .int .i64 Wa, .int .i64 ta, .int .i64 ka, .slice La la fa, .slice Ta ra ga, .slice none 0 0] 86
  have K0 := Lib.hid KA
  have T0 := Lib.hid hb0; have V0 := Lib.hid (h.below hhi hb0)
  have z0 : w.heap.size + 1 ≤ w0.heap.size := by omega
  have HA : Hid (w.alloc (.cells #[.string sa, .slice Aa na ca, .slice Ba ma da, .slice Ma qa ea, .int .i64 spa, .int .i64 Wa, .int .i64 ta, .int .i64 ka, .slice La la fa, .slice Ta ra ga, .slice none 0 0] 86) = w0) := hA
  have v1 : decide (1 + (X.marks : Int) < 0) = false := decide_eq_false (by omega)
  clear h hb0 hA hzA KA
  obtain ⟨kc0, kc1, kc2, kc3, kc4, kc5, kc6, kc7, kc8, kc9, kc10⟩ := blk11 K0.out
  go_enter Try.func68, Try.ntmps68
  go_wp2_with fail
  rw [HA.out]
  refine (heldMachine_any _ _ _ X 1 w0 V0.out (by omega) hs (by omega) (by omega)).mono ?_
  rintro e w1 ⟨rfl, hb⟩
  have K1 := Lib.hid (K0.out.below hb (by omega)); have T1 := Lib.hid (T0.out.trans (hb.mono (by omega)))
  clear hb kc0 kc1 kc2 kc3 kc4 kc5 kc6 kc7 kc8 kc9 kc10
  obtain ⟨kc0, kc1, kc2, kc3, kc4, kc5, kc6, kc7, kc8, kc9, kc10⟩ := blk11 K1.out
  go_wp2_with fail
  refine (heldStr0_any (1 + X.marks) w1).mono ?_
  rintro e w1' ⟨rfl, rfl⟩
  go_wp2
  go_ret
  exact ⟨rfl, T1.out⟩
/-- the font of a new desk, and its machine -/
def dfont : Fnt := ⟨⟨#[97, 101, 105, 110, 111, 115, 116]⟩, [5, 5, 3, 6, 6, 5, 4], [3, 5, 6, 9, 10, 12, 17]⟩
def deskX : Mch := newX dfont 10 20 60 2 8
theorem deskX_big : deskX.big ≤ 1048575 := by
  unfold deskX
  cases h : newB dfont 10 20 60 2 8
  · rw [newX_no h]; exact zeroX_big
  · rw [newX_yes h]
    obtain ⟨b1, b2, b3, b4, b5⟩ := mach_big (X := rawX dfont 10 20 60 2 8) h
    exact big_lim b1 b2 b3 b4 b5
set_option maxRecDepth 100000 in
set_option maxHeartbeats 6400000 in
theorem specDesk_any (w : World) :
    Calls Try.prog 64 #[] w fun e w' => ∃ v, e = .returned (dv v) ∧ MchX w' w.heap.size w'.heap.size v deskX ∧ Below w.heap.size w w' := by
  obtain ⟨wA, hA, hbA, hzA, RA⟩ := mxWorld w #[.string ⟨#[]⟩, .slice none 0 0, .slice none 0 0, .slice none 0 0, .int .i64 0, .int .i64 0, .int .i64 0, .int .i64 0, .slice none 0 0, .slice none 0 0, .slice none 0 0] 86
  obtain ⟨wB, hB, hbB, hzB, IB⟩ := mxWorld wA #[.int .i64 5, .int .i64 5, .int .i64 3, .int .i64 6, .int .i64 6, .int .i64 5, .int .i64 4] 3
  obtain ⟨wC, hC, hbC, hzC, IC⟩ := mxWorld wB #[.int .i64 3, .int .i64 5, .int .i64 6, .int .i64 9, .int .i64 10, .int .i64 12, .int .i64 17] 3
  obtain ⟨w4, hD, hbD, hzD, KD⟩ := mxWorld wC #[.string ⟨#[97, 101, 105, 110, 111, 115, 116]⟩, .slice (some ⟨w.heap.size + 1, 0, none⟩) 7 7, .slice (some ⟨w.heap.size + 1 + 1, 0, none⟩) 7 7] 25
  have o1 : Own wB wA.heap.size (.slice (some ⟨wA.heap.size, 0, none⟩) 7 7) [5, 5, 3, 6, 6, 5, 4] := by rw [← hB]; exact World.ownsRow_lit wA #[.int .i64 5, .int .i64 5, .int .i64 3, .int .i64 6, .int .i64 6, .int .i64 5, .int .i64 4] 7 (Nat.le_refl _) (by decide) rfl
  have o2 : Own wC wB.heap.size (.slice (some ⟨wB.heap.size, 0, none⟩) 7 7) [3, 5, 6, 9, 10, 12, 17] := by rw [← hC]; exact World.ownsRow_lit wB #[.int .i64 3, .int .i64 5, .int .i64 6, .int .i64 9, .int .i64 10, .int .i64 12, .int .i64 17] 7 (Nat.le_refl _) (by decide) rfl
  have o1' := (o1.below hbC).below hbD
  have o2' := o2.below hbD
  rw [hzA] at o1'
  rw [hzB, hzA] at o2'
  have hF : FontV w4 0 w4.heap.size (.agg #[.string ⟨#[97, 101, 105, 110, 111, 115, 116]⟩, .slice (some ⟨w.heap.size + 1, 0, none⟩) 7 7, .slice (some ⟨w.heap.size + 1 + 1, 0, none⟩) 7 7]) dfont :=
    ⟨_, 7, _, 7, rfl, (IntsI.of_own o1').wide (Nat.zero_le _) (Nat.le_refl _), (IntsI.of_own o2').wide (Nat.zero_le _) (Nat.le_refl _), by decide, by unfold maxLen; decide, by decide, by unfold maxLen; decide, by unfold maxLen; decide⟩
  rw [hzC, hzB, hzA] at KD
  have F4 := Lib.hid hF
  have R4 := Lib.hid (((RA.below hbB (by omega)).below hbC (by omega)).below hbD (by omega))
  have hb4 : Below w.heap.size w w4 := ((hbA.trans (hbB.mono (by omega))).trans (hbC.mono (by omega))).trans (hbD.mono (by omega))
  have T4 := Lib.hid hb4
  have z4 : w.heap.size + 4 ≤ w4.heap.size := by omega
  have HA : Hid ((((w.alloc (.cells #[.string ⟨#[]⟩, .slice none 0 0, .slice none 0 0, .slice none 0 0, .int .i64 0, .int .i64 0, .int .i64 0, .int .i64 0, .slice none 0 0, .slice none 0 0, .slice none 0 0] 86)).alloc (.cells #[.int .i64 5, .int .i64 5, .int .i64 3, .int .i64 6, .int .i64 6, .int .i64 5, .int .i64 4] 3)).alloc (.cells #[.int .i64 3, .int .i64 5, .int .i64 6, .int .i64 9, .int .i64 10, .int .i64 12, .int .i64 17] 3)).alloc (.cells #[.string ⟨#[97, 101, 105, 110, 111, 115, 116]⟩, .slice (some ⟨w.heap.size + 1, 0, none⟩) 7 7, .slice (some ⟨w.heap.size + 1 + 1, 0, none⟩) 7 7] 25) = w4) := by show _ = _; rw [hA, hB, hC, hD]
  clear hA hB hC hD hbA hbB hbC hbD hzA hzB hzC hzD RA IB IC KD o1 o2 o1' o2' hF hb4
  go_enter Try.func64, Try.ntmps64
  go_wp2_with fail
  rw [HA.out]
  refine (specNew_any 0 w4.heap.size _ dfont 10 20 60 2 8 w4 F4.out (Nat.le_refl _) ⟨by decide, by decide, by decide⟩).mono ?_
  rintro e w5 ⟨u, rfl, hX, hb⟩
  obtain ⟨sz, Az, nz, cz, Bz, mz, dz, Mz, qz, ez, spz, Wz, tz, kz, Lz, lz, fz, Tz, rz, gz, rfl⟩ := hX.reads.formX
  have R5 := Lib.hid (R4.out.below hb (by omega)); have T5 := Lib.hid (T4.out.trans (hb.mono (by omega))); have s5 : w4.heap.size ≤ w5.heap.size := hb.size
  have zw : w.heap.size < w5.heap.size := by omega
  clear hb
  obtain ⟨rc0, rc1, rc2, rc3, rc4, rc5, rc6, rc7, rc8, rc9, rc10⟩ := blk11 R5.out
  have fr := R5.out.warm
  go_wp2
  clear rc0 rc1 rc2 rc3 rc4 rc5 rc6 rc7 rc8 rc9 rc10 fr
  obtain ⟨y, hy⟩ : ∃ x, (((((((((((w5.setCell ⟨w.heap.size, 0, none⟩ (.string sz)).setCell ⟨w.heap.size, 1, none⟩ (.slice Az nz cz)).setCell ⟨w.heap.size, 2, none⟩ (.slice Bz mz dz)).setCell ⟨w.heap.size, 3, none⟩ (.slice Mz qz ez)).setCell ⟨w.heap.size, 4, none⟩ (.int .i64 spz)).setCell ⟨w.heap.size, 5, none⟩ (.int .i64 Wz)).setCell ⟨w.heap.size, 6, none⟩ (.int .i64 tz)).setCell ⟨w.heap.size, 7, none⟩ (.int .i64 kz)).setCell ⟨w.heap.size, 8, none⟩ (.slice Lz lz fz)).setCell ⟨w.heap.size, 9, none⟩ (.slice Tz rz gz)).setCell ⟨w.heap.size, 10, none⟩ (.slice none 0 0)) = x := ⟨_, rfl⟩
  have ry : Blk y w.heap.size #[.string sz, .slice Az nz cz, .slice Bz mz dz, .slice Mz qz ez, .int .i64 spz, .int .i64 Wz, .int .i64 tz, .int .i64 kz, .slice Lz lz fz, .slice Tz rz gz, .slice none 0 0] 86 := by rw [← hy]; exact Blk.fill11 R5.out (.string sz) (.slice Az nz cz) (.slice Bz mz dz) (.slice Mz qz ez) (.int .i64 spz) (.int .i64 Wz) (.int .i64 tz) (.int .i64 kz) (.slice Lz lz fz) (.slice Tz rz gz) (.slice none 0 0)
  have hc : Chg w.heap.size (w.heap.size + 1) w5 y := by rw [← hy]; exact ((((((((((((Chg.refl w.heap.size (w.heap.size + 1) w5).trans (chg_set w5 w.heap.size 0 (.string sz))).trans (chg_set (w5.setCell ⟨w.heap.size, 0, none⟩ (.string sz)) w.heap.size 1 (.slice Az nz cz))).trans (chg_set ((w5.setCell ⟨w.heap.size, 0, none⟩ (.string sz)).setCell ⟨w.heap.size, 1, none⟩ (.slice Az nz cz)) w.heap.size 2 (.slice Bz mz dz))).trans (chg_set (((w5.setCell ⟨w.heap.size, 0, none⟩ (.string sz)).setCell ⟨w.heap.size, 1, none⟩ (.slice Az nz cz)).setCell ⟨w.heap.size, 2, none⟩ (.slice Bz mz dz)) w.heap.size 3 (.slice Mz qz ez))).trans (chg_set ((((w5.setCell ⟨w.heap.size, 0, none⟩ (.string sz)).setCell ⟨w.heap.size, 1, none⟩ (.slice Az nz cz)).setCell ⟨w.heap.size, 2, none⟩ (.slice Bz mz dz)).setCell ⟨w.heap.size, 3, none⟩ (.slice Mz qz ez)) w.heap.size 4 (.int .i64 spz))).trans (chg_set (((((w5.setCell ⟨w.heap.size, 0, none⟩ (.string sz)).setCell ⟨w.heap.size, 1, none⟩ (.slice Az nz cz)).setCell ⟨w.heap.size, 2, none⟩ (.slice Bz mz dz)).setCell ⟨w.heap.size, 3, none⟩ (.slice Mz qz ez)).setCell ⟨w.heap.size, 4, none⟩ (.int .i64 spz)) w.heap.size 5 (.int .i64 Wz))).trans (chg_set ((((((w5.setCell ⟨w.heap.size, 0, none⟩ (.string sz)).setCell ⟨w.heap.size, 1, none⟩ (.slice Az nz cz)).setCell ⟨w.heap.size, 2, none⟩ (.slice Bz mz dz)).setCell ⟨w.heap.size, 3, none⟩ (.slice Mz qz ez)).setCell ⟨w.heap.size, 4, none⟩ (.int .i64 spz)).setCell ⟨w.heap.size, 5, none⟩ (.int .i64 Wz)) w.heap.size 6 (.int .i64 tz))).trans (chg_set (((((((w5.setCell ⟨w.heap.size, 0, none⟩ (.string sz)).setCell ⟨w.heap.size, 1, none⟩ (.slice Az nz cz)).setCell ⟨w.heap.size, 2, none⟩ (.slice Bz mz dz)).setCell ⟨w.heap.size, 3, none⟩ (.slice Mz qz ez)).setCell ⟨w.heap.size, 4, none⟩ (.int .i64 spz)).setCell ⟨w.heap.size, 5, none⟩ (.int .i64 Wz)).setCell ⟨w.heap.size, 6, none⟩ (.int .i64 tz)) w.heap.size 7 (.int .i64 kz))).trans (chg_set ((((((((w5.setCell ⟨w.heap.size, 0, none⟩ (.string sz)).setCell ⟨w.heap.size, 1, none⟩ (.slice Az nz cz)).setCell ⟨w.heap.size, 2, none⟩ (.slice Bz mz dz)).setCell ⟨w.heap.size, 3, none⟩ (.slice Mz qz ez)).setCell ⟨w.heap.size, 4, none⟩ (.int .i64 spz)).setCell ⟨w.heap.size, 5, none⟩ (.int .i64 Wz)).setCell ⟨w.heap.size, 6, none⟩ (.int .i64 tz)).setCell ⟨w.heap.size, 7, none⟩ (.int .i64 kz)) w.heap.size 8 (.slice Lz lz fz))).trans (chg_set (((((((((w5.setCell ⟨w.heap.size, 0, none⟩ (.string sz)).setCell ⟨w.heap.size, 1, none⟩ (.slice Az nz cz)).setCell ⟨w.heap.size, 2, none⟩ (.slice Bz mz dz)).setCell ⟨w.heap.size, 3, none⟩ (.slice Mz qz ez)).setCell ⟨w.heap.size, 4, none⟩ (.int .i64 spz)).setCell ⟨w.heap.size, 5, none⟩ (.int .i64 Wz)).setCell ⟨w.heap.size, 6, none⟩ (.int .i64 tz)).setCell ⟨w.heap.size, 7, none⟩ (.int .i64 kz)).setCell ⟨w.heap.size, 8, none⟩ (.slice Lz lz fz)) w.heap.size 9 (.slice Tz rz gz))).trans (chg_set ((((((((((w5.setCell ⟨w.heap.size, 0, none⟩ (.string sz)).setCell ⟨w.heap.size, 1, none⟩ (.slice Az nz cz)).setCell ⟨w.heap.size, 2, none⟩ (.slice Bz mz dz)).setCell ⟨w.heap.size, 3, none⟩ (.slice Mz qz ez)).setCell ⟨w.heap.size, 4, none⟩ (.int .i64 spz)).setCell ⟨w.heap.size, 5, none⟩ (.int .i64 Wz)).setCell ⟨w.heap.size, 6, none⟩ (.int .i64 tz)).setCell ⟨w.heap.size, 7, none⟩ (.int .i64 kz)).setCell ⟨w.heap.size, 8, none⟩ (.slice Lz lz fz)).setCell ⟨w.heap.size, 9, none⟩ (.slice Tz rz gz)) w.heap.size 10 (.slice none 0 0)))
  have sy : w5.heap.size ≤ y.heap.size := hc.size
  rw [hy]
  clear hy
  obtain ⟨y2, hy2, hb2, hz2, -⟩ := mxWorld y #[.string sz, .slice Az nz cz, .slice Bz mz dz, .slice Mz qz ez, .int .i64 spz, .int .i64 Wz, .int .i64 tz, .int .i64 kz, .slice Lz lz fz, .slice Tz rz gz] 61
  rw [hy2]
  clear hy2
  obtain ⟨yc0, yc1, yc2, yc3, yc4, yc5, yc6, yc7, yc8, yc9, yc10⟩ := blk11 (ry.below hb2 (by omega))
  refine bodyPost_ret (v := .agg #[.string sz, .slice Az nz cz, .slice Bz mz dz, .slice Mz qz ez, .int .i64 spz, .int .i64 Wz, .int .i64 tz, .int .i64 kz, .slice Lz lz fz, .slice Tz rz gz, .slice none 0 0]) (by simp [results, Try.results64, go_sem, yc0, yc1, yc2, yc3, yc4, yc5, yc6, yc7, yc8, yc9, yc10]) rfl ?_
  exact ⟨.agg #[.string sz, .slice Az nz cz, .slice Bz mz dz, .slice Mz qz ez, .int .i64 spz, .int .i64 Wz, .int .i64 tz, .int .i64 kz, .slice Lz lz fz, .slice Tz rz gz], rfl, ((hX.chg hc (by unfold Off; omega)).below hb2).wide (by omega) (by have := hb2.size; omega), (T5.out.trans (hc.below (by omega) |>.mono (by omega))).trans (hb2.mono (by omega))⟩
set_option maxRecDepth 100000 in
set_option maxHeartbeats 6400000 in
theorem implDesk_any (w : World) :
    Calls Try.prog 65 #[] w fun e w' => ∃ v, e = .returned (dv v) ∧ MchX w' w.heap.size w'.heap.size v deskX ∧ Below w.heap.size w w' := by
  obtain ⟨wA, hA, hbA, hzA, RA⟩ := mxWorld w #[.string ⟨#[]⟩, .slice none 0 0, .slice none 0 0, .slice none 0 0, .int .i64 0, .int .i64 0, .int .i64 0, .int .i64 0, .slice none 0 0, .slice none 0 0, .slice none 0 0] 86
  obtain ⟨wB, hB, hbB, hzB, IB⟩ := mxWorld wA #[.int .i64 5, .int .i64 5, .int .i64 3, .int .i64 6, .int .i64 6, .int .i64 5, .int .i64 4] 3
  obtain ⟨wC, hC, hbC, hzC, IC⟩ := mxWorld wB #[.int .i64 3, .int .i64 5, .int .i64 6, .int .i64 9, .int .i64 10, .int .i64 12, .int .i64 17] 3
  obtain ⟨w4, hD, hbD, hzD, KD⟩ := mxWorld wC #[.string ⟨#[97, 101, 105, 110, 111, 115, 116]⟩, .slice (some ⟨w.heap.size + 1, 0, none⟩) 7 7, .slice (some ⟨w.heap.size + 1 + 1, 0, none⟩) 7 7] 25
  have o1 : Own wB wA.heap.size (.slice (some ⟨wA.heap.size, 0, none⟩) 7 7) [5, 5, 3, 6, 6, 5, 4] := by rw [← hB]; exact World.ownsRow_lit wA #[.int .i64 5, .int .i64 5, .int .i64 3, .int .i64 6, .int .i64 6, .int .i64 5, .int .i64 4] 7 (Nat.le_refl _) (by decide) rfl
  have o2 : Own wC wB.heap.size (.slice (some ⟨wB.heap.size, 0, none⟩) 7 7) [3, 5, 6, 9, 10, 12, 17] := by rw [← hC]; exact World.ownsRow_lit wB #[.int .i64 3, .int .i64 5, .int .i64 6, .int .i64 9, .int .i64 10, .int .i64 12, .int .i64 17] 7 (Nat.le_refl _) (by decide) rfl
  have o1' := (o1.below hbC).below hbD
  have o2' := o2.below hbD
  rw [hzA] at o1'
  rw [hzB, hzA] at o2'
  have hF : FontV w4 0 w4.heap.size (.agg #[.string ⟨#[97, 101, 105, 110, 111, 115, 116]⟩, .slice (some ⟨w.heap.size + 1, 0, none⟩) 7 7, .slice (some ⟨w.heap.size + 1 + 1, 0, none⟩) 7 7]) dfont :=
    ⟨_, 7, _, 7, rfl, (IntsI.of_own o1').wide (Nat.zero_le _) (Nat.le_refl _), (IntsI.of_own o2').wide (Nat.zero_le _) (Nat.le_refl _), by decide, by unfold maxLen; decide, by decide, by unfold maxLen; decide, by unfold maxLen; decide⟩
  rw [hzC, hzB, hzA] at KD
  have F4 := Lib.hid hF
  have R4 := Lib.hid (((RA.below hbB (by omega)).below hbC (by omega)).below hbD (by omega))
  have hb4 : Below w.heap.size w w4 := ((hbA.trans (hbB.mono (by omega))).trans (hbC.mono (by omega))).trans (hbD.mono (by omega))
  have T4 := Lib.hid hb4
  have z4 : w.heap.size + 4 ≤ w4.heap.size := by omega
  have HA : Hid ((((w.alloc (.cells #[.string ⟨#[]⟩, .slice none 0 0, .slice none 0 0, .slice none 0 0, .int .i64 0, .int .i64 0, .int .i64 0, .int .i64 0, .slice none 0 0, .slice none 0 0, .slice none 0 0] 86)).alloc (.cells #[.int .i64 5, .int .i64 5, .int .i64 3, .int .i64 6, .int .i64 6, .int .i64 5, .int .i64 4] 3)).alloc (.cells #[.int .i64 3, .int .i64 5, .int .i64 6, .int .i64 9, .int .i64 10, .int .i64 12, .int .i64 17] 3)).alloc (.cells #[.string ⟨#[97, 101, 105, 110, 111, 115, 116]⟩, .slice (some ⟨w.heap.size + 1, 0, none⟩) 7 7, .slice (some ⟨w.heap.size + 1 + 1, 0, none⟩) 7 7] 25) = w4) := by show _ = _; rw [hA, hB, hC, hD]
  clear hA hB hC hD hbA hbB hbC hbD hzA hzB hzC hzD RA IB IC KD o1 o2 o1' o2' hF hb4
  go_enter Try.func65, Try.ntmps65
  go_wp2_with fail
  rw [HA.out]
  refine (implNew_any 0 w4.heap.size _ dfont 10 20 60 2 8 w4 F4.out (Nat.le_refl _) ⟨by decide, by decide, by decide⟩).mono ?_
  rintro e w5 ⟨u, rfl, hX, hb⟩
  obtain ⟨sz, Az, nz, cz, Bz, mz, dz, Mz, qz, ez, spz, Wz, tz, kz, Lz, lz, fz, Tz, rz, gz, rfl⟩ := hX.reads.formX
  have R5 := Lib.hid (R4.out.below hb (by omega)); have T5 := Lib.hid (T4.out.trans (hb.mono (by omega))); have s5 : w4.heap.size ≤ w5.heap.size := hb.size
  have zw : w.heap.size < w5.heap.size := by omega
  clear hb
  obtain ⟨rc0, rc1, rc2, rc3, rc4, rc5, rc6, rc7, rc8, rc9, rc10⟩ := blk11 R5.out
  have fr := R5.out.warm
  go_wp2
  clear rc0 rc1 rc2 rc3 rc4 rc5 rc6 rc7 rc8 rc9 rc10 fr
  obtain ⟨y, hy⟩ : ∃ x, (((((((((((w5.setCell ⟨w.heap.size, 0, none⟩ (.string sz)).setCell ⟨w.heap.size, 1, none⟩ (.slice Az nz cz)).setCell ⟨w.heap.size, 2, none⟩ (.slice Bz mz dz)).setCell ⟨w.heap.size, 3, none⟩ (.slice Mz qz ez)).setCell ⟨w.heap.size, 4, none⟩ (.int .i64 spz)).setCell ⟨w.heap.size, 5, none⟩ (.int .i64 Wz)).setCell ⟨w.heap.size, 6, none⟩ (.int .i64 tz)).setCell ⟨w.heap.size, 7, none⟩ (.int .i64 kz)).setCell ⟨w.heap.size, 8, none⟩ (.slice Lz lz fz)).setCell ⟨w.heap.size, 9, none⟩ (.slice Tz rz gz)).setCell ⟨w.heap.size, 10, none⟩ (.slice none 0 0)) = x := ⟨_, rfl⟩
  have ry : Blk y w.heap.size #[.string sz, .slice Az nz cz, .slice Bz mz dz, .slice Mz qz ez, .int .i64 spz, .int .i64 Wz, .int .i64 tz, .int .i64 kz, .slice Lz lz fz, .slice Tz rz gz, .slice none 0 0] 86 := by rw [← hy]; exact Blk.fill11 R5.out (.string sz) (.slice Az nz cz) (.slice Bz mz dz) (.slice Mz qz ez) (.int .i64 spz) (.int .i64 Wz) (.int .i64 tz) (.int .i64 kz) (.slice Lz lz fz) (.slice Tz rz gz) (.slice none 0 0)
  have hc : Chg w.heap.size (w.heap.size + 1) w5 y := by rw [← hy]; exact ((((((((((((Chg.refl w.heap.size (w.heap.size + 1) w5).trans (chg_set w5 w.heap.size 0 (.string sz))).trans (chg_set (w5.setCell ⟨w.heap.size, 0, none⟩ (.string sz)) w.heap.size 1 (.slice Az nz cz))).trans (chg_set ((w5.setCell ⟨w.heap.size, 0, none⟩ (.string sz)).setCell ⟨w.heap.size, 1, none⟩ (.slice Az nz cz)) w.heap.size 2 (.slice Bz mz dz))).trans (chg_set (((w5.setCell ⟨w.heap.size, 0, none⟩ (.string sz)).setCell ⟨w.heap.size, 1, none⟩ (.slice Az nz cz)).setCell ⟨w.heap.size, 2, none⟩ (.slice Bz mz dz)) w.heap.size 3 (.slice Mz qz ez))).trans (chg_set ((((w5.setCell ⟨w.heap.size, 0, none⟩ (.string sz)).setCell ⟨w.heap.size, 1, none⟩ (.slice Az nz cz)).setCell ⟨w.heap.size, 2, none⟩ (.slice Bz mz dz)).setCell ⟨w.heap.size, 3, none⟩ (.slice Mz qz ez)) w.heap.size 4 (.int .i64 spz))).trans (chg_set (((((w5.setCell ⟨w.heap.size, 0, none⟩ (.string sz)).setCell ⟨w.heap.size, 1, none⟩ (.slice Az nz cz)).setCell ⟨w.heap.size, 2, none⟩ (.slice Bz mz dz)).setCell ⟨w.heap.size, 3, none⟩ (.slice Mz qz ez)).setCell ⟨w.heap.size, 4, none⟩ (.int .i64 spz)) w.heap.size 5 (.int .i64 Wz))).trans (chg_set ((((((w5.setCell ⟨w.heap.size, 0, none⟩ (.string sz)).setCell ⟨w.heap.size, 1, none⟩ (.slice Az nz cz)).setCell ⟨w.heap.size, 2, none⟩ (.slice Bz mz dz)).setCell ⟨w.heap.size, 3, none⟩ (.slice Mz qz ez)).setCell ⟨w.heap.size, 4, none⟩ (.int .i64 spz)).setCell ⟨w.heap.size, 5, none⟩ (.int .i64 Wz)) w.heap.size 6 (.int .i64 tz))).trans (chg_set (((((((w5.setCell ⟨w.heap.size, 0, none⟩ (.string sz)).setCell ⟨w.heap.size, 1, none⟩ (.slice Az nz cz)).setCell ⟨w.heap.size, 2, none⟩ (.slice Bz mz dz)).setCell ⟨w.heap.size, 3, none⟩ (.slice Mz qz ez)).setCell ⟨w.heap.size, 4, none⟩ (.int .i64 spz)).setCell ⟨w.heap.size, 5, none⟩ (.int .i64 Wz)).setCell ⟨w.heap.size, 6, none⟩ (.int .i64 tz)) w.heap.size 7 (.int .i64 kz))).trans (chg_set ((((((((w5.setCell ⟨w.heap.size, 0, none⟩ (.string sz)).setCell ⟨w.heap.size, 1, none⟩ (.slice Az nz cz)).setCell ⟨w.heap.size, 2, none⟩ (.slice Bz mz dz)).setCell ⟨w.heap.size, 3, none⟩ (.slice Mz qz ez)).setCell ⟨w.heap.size, 4, none⟩ (.int .i64 spz)).setCell ⟨w.heap.size, 5, none⟩ (.int .i64 Wz)).setCell ⟨w.heap.size, 6, none⟩ (.int .i64 tz)).setCell ⟨w.heap.size, 7, none⟩ (.int .i64 kz)) w.heap.size 8 (.slice Lz lz fz))).trans (chg_set (((((((((w5.setCell ⟨w.heap.size, 0, none⟩ (.string sz)).setCell ⟨w.heap.size, 1, none⟩ (.slice Az nz cz)).setCell ⟨w.heap.size, 2, none⟩ (.slice Bz mz dz)).setCell ⟨w.heap.size, 3, none⟩ (.slice Mz qz ez)).setCell ⟨w.heap.size, 4, none⟩ (.int .i64 spz)).setCell ⟨w.heap.size, 5, none⟩ (.int .i64 Wz)).setCell ⟨w.heap.size, 6, none⟩ (.int .i64 tz)).setCell ⟨w.heap.size, 7, none⟩ (.int .i64 kz)).setCell ⟨w.heap.size, 8, none⟩ (.slice Lz lz fz)) w.heap.size 9 (.slice Tz rz gz))).trans (chg_set ((((((((((w5.setCell ⟨w.heap.size, 0, none⟩ (.string sz)).setCell ⟨w.heap.size, 1, none⟩ (.slice Az nz cz)).setCell ⟨w.heap.size, 2, none⟩ (.slice Bz mz dz)).setCell ⟨w.heap.size, 3, none⟩ (.slice Mz qz ez)).setCell ⟨w.heap.size, 4, none⟩ (.int .i64 spz)).setCell ⟨w.heap.size, 5, none⟩ (.int .i64 Wz)).setCell ⟨w.heap.size, 6, none⟩ (.int .i64 tz)).setCell ⟨w.heap.size, 7, none⟩ (.int .i64 kz)).setCell ⟨w.heap.size, 8, none⟩ (.slice Lz lz fz)).setCell ⟨w.heap.size, 9, none⟩ (.slice Tz rz gz)) w.heap.size 10 (.slice none 0 0)))
  have sy : w5.heap.size ≤ y.heap.size := hc.size
  rw [hy]
  clear hy
  obtain ⟨y2, hy2, hb2, hz2, -⟩ := mxWorld y #[.string sz, .slice Az nz cz, .slice Bz mz dz, .slice Mz qz ez, .int .i64 spz, .int .i64 Wz, .int .i64 tz, .int .i64 kz, .slice Lz lz fz, .slice Tz rz gz] 61
  rw [hy2]
  clear hy2
  obtain ⟨yc0, yc1, yc2, yc3, yc4, yc5, yc6, yc7, yc8, yc9, yc10⟩ := blk11 (ry.below hb2 (by omega))
  refine bodyPost_ret (v := .agg #[.string sz, .slice Az nz cz, .slice Bz mz dz, .slice Mz qz ez, .int .i64 spz, .int .i64 Wz, .int .i64 tz, .int .i64 kz, .slice Lz lz fz, .slice Tz rz gz, .slice none 0 0]) (by simp [results, Try.results65, go_sem, yc0, yc1, yc2, yc3, yc4, yc5, yc6, yc7, yc8, yc9, yc10]) rfl ?_
  exact ⟨.agg #[.string sz, .slice Az nz cz, .slice Bz mz dz, .slice Mz qz ez, .int .i64 spz, .int .i64 Wz, .int .i64 tz, .int .i64 kz, .slice Lz lz fz, .slice Tz rz gz], rfl, ((hX.chg hc (by unfold Off; omega)).below hb2).wide (by omega) (by have := hb2.size; omega), (T5.out.trans (hc.below (by omega) |>.mono (by omega))).trans (hb2.mono (by omega))⟩
end Go.Proofs.Ythoepelgmplcmaa
