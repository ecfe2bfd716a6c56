/-
  The exact law of NewDesk: its walk. No condition.
-/
import Derived.Test.YthoepelgmplcmaaMchD
namespace Go.Proofs.Ythoepelgmplcmaa
open Go.RowKit
set_option linter.unusedVariables false

set_option maxRecDepth 100000 in
set_option maxHeartbeats 6400000 in
theorem fnExactNewDesk_walk (w0 : World) :
    Calls Try.prog 14 #[] w0 fun e w' => e = .returned (.bool true) ∧ Below w0.heap.size w0 w' := by
  have HSY := Lib.hid (big_smallX (X := deskX) (by have := deskX_big; omega))
  have T0 := Lib.hid (Below.refl w0.heap.size w0)
  have s0 : w0.heap.size ≤ w0.heap.size := Nat.le_refl _
  have hm2 : decide (1 + (deskX.marks : Int) < 0) = false := decide_eq_false (by omega)
  have hne2 : ((1 + (deskX.marks : Int)) != (1 + (deskX.marks : Int))) = false := by simp
  go_enter Try.func14, Try.ntmps14
  go_wp2_with fail
  refine (specDesk_any w0).mono ?_
  rintro e w1 ⟨u, rfl, hO, hb⟩
  obtain ⟨su, Au, nu, cu, Bu, mu, du, Mu, qu, eu, spu, Wu, tu, ku, Lu, lu, fu, Tu, ru, gu, rfl⟩ := hO.reads.formX
  rw [show dv (.agg #[.string su, .slice Au nu cu, .slice Bu mu du, .slice Mu qu eu, .int .i64 spu, .int .i64 Wu, .int .i64 tu, .int .i64 ku, .slice Lu lu fu, .slice Tu ru gu]) = .agg #[.string su, .slice Au nu cu, .slice Bu mu du, .slice Mu qu eu, .int .i64 spu, .int .i64 Wu, .int .i64 tu, .int .i64 ku, .slice Lu lu fu, .slice Tu ru gu, .slice none 0 0] from rfl]
  have s1 : w0.heap.size ≤ w1.heap.size := hb.size
  have T1 := Lib.hid (T0.out.trans (hb.mono (by omega)))
  clear T0
  clear hb
  have U1 := Lib.hid (hO)
  clear hO
  go_wp2_with fail
  obtain ⟨w2, hw, hb, hz, hK⟩ := mxWorld w1 #[.string su, .slice Au nu cu, .slice Bu mu du, .slice Mu qu eu, .int .i64 spu, .int .i64 Wu, .int .i64 tu, .int .i64 ku, .slice Lu lu fu, .slice Tu ru gu, .slice none 0 0] 86
  rw [hw]
  clear hw hz
  have s2 : w1.heap.size ≤ w2.heap.size := hb.size
  have T2 := Lib.hid (T1.out.trans (hb.mono (by omega)))
  have U2 := Lib.hid (U1.out.below hb)
  clear T1 U1
  clear hb
  have BU2 := Lib.hid (hK)
  have yBU : w1.heap.size < w2.heap.size := hK.lt
  clear hK
  obtain ⟨BUc0, BUc1, BUc2, BUc3, BUc4, BUc5, BUc6, BUc7, BUc8, BUc9, BUc10⟩ := blk11 BU2.out
  refine (implDesk_any w2).mono ?_
  rintro e w3 ⟨u, rfl, hO, hb⟩
  obtain ⟨sg, Ag, ng, cg, Bg, mg, dg, Mg, qg, eg, spg, Wg, tg, kg, Lg, lg, fg, Tg, rg, gg, rfl⟩ := hO.reads.formX
  rw [show dv (.agg #[.string sg, .slice Ag ng cg, .slice Bg mg dg, .slice Mg qg eg, .int .i64 spg, .int .i64 Wg, .int .i64 tg, .int .i64 kg, .slice Lg lg fg, .slice Tg rg gg]) = .agg #[.string sg, .slice Ag ng cg, .slice Bg mg dg, .slice Mg qg eg, .int .i64 spg, .int .i64 Wg, .int .i64 tg, .int .i64 kg, .slice Lg lg fg, .slice Tg rg gg, .slice none 0 0] from rfl]
  clear BUc0 BUc1 BUc2 BUc3 BUc4 BUc5 BUc6 BUc7 BUc8 BUc9 BUc10
  have s3 : w2.heap.size ≤ w3.heap.size := hb.size
  have T3 := Lib.hid (T2.out.trans (hb.mono (by omega)))
  have U3 := Lib.hid (U2.out.below hb)
  have BU3 := Lib.hid (BU2.out.below hb (by omega))
  clear T2 U2 BU2
  clear hb
  have yBU_3 : w1.heap.size < w3.heap.size := by omega
  have G3 := Lib.hid (hO)
  obtain ⟨BUc0, BUc1, BUc2, BUc3, BUc4, BUc5, BUc6, BUc7, BUc8, BUc9, BUc10⟩ := blk11 BU3.out
  clear hO
  go_wp2_with fail
  obtain ⟨w4, hw, hb, hz, hK⟩ := mxWorld w3 #[.string sg, .slice Ag ng cg, .slice Bg mg dg, .slice Mg qg eg, .int .i64 spg, .int .i64 Wg, .int .i64 tg, .int .i64 kg, .slice Lg lg fg, .slice Tg rg gg, .slice none 0 0] 86
  rw [hw]
  clear hw hz
  clear BUc0 BUc1 BUc2 BUc3 BUc4 BUc5 BUc6 BUc7 BUc8 BUc9 BUc10
  have s4 : w3.heap.size ≤ w4.heap.size := hb.size
  have T4 := Lib.hid (T3.out.trans (hb.mono (by omega)))
  have U4 := Lib.hid (U3.out.below hb)
  have BU4 := Lib.hid (BU3.out.below hb (by omega))
  have G4 := Lib.hid (G3.out.below hb)
  clear T3 U3 BU3 G3
  clear hb
  have yBU_4 : w1.heap.size < w4.heap.size := by omega
  have BG4 := Lib.hid (hK)
  have yBG : w3.heap.size < w4.heap.size := hK.lt
  clear hK
  obtain ⟨BUc0, BUc1, BUc2, BUc3, BUc4, BUc5, BUc6, BUc7, BUc8, BUc9, BUc10⟩ := blk11 BU4.out
  obtain ⟨BGc0, BGc1, BGc2, BGc3, BGc4, BGc5, BGc6, BGc7, BGc8, BGc9, BGc10⟩ := blk11 BG4.out
  refine (eqDesk_same _ _ _ _ (.agg #[.string sg, .slice Ag ng cg, .slice Bg mg dg, .slice Mg qg eg, .int .i64 spg, .int .i64 Wg, .int .i64 tg, .int .i64 kg, .slice Lg lg fg, .slice Tg rg gg]) (.agg #[.string su, .slice Au nu cu, .slice Bu mu du, .slice Mu qu eu, .int .i64 spu, .int .i64 Wu, .int .i64 tu, .int .i64 ku, .slice Lu lu fu, .slice Tu ru gu]) deskX w4 G4.out.reads U4.out.reads (by omega) (by omega) HSY.out).mono ?_
  rintro e w5 ⟨rfl, hb⟩
  clear BUc0 BUc1 BUc2 BUc3 BUc4 BUc5 BUc6 BUc7 BUc8 BUc9 BUc10
  clear BGc0 BGc1 BGc2 BGc3 BGc4 BGc5 BGc6 BGc7 BGc8 BGc9 BGc10
  have s5 : w4.heap.size ≤ w5.heap.size := hb.size
  have T5 := Lib.hid (T4.out.trans (hb.mono (by omega)))
  have U5 := Lib.hid (U4.out.below hb)
  have BU5 := Lib.hid (BU4.out.below hb (by omega))
  have G5 := Lib.hid (G4.out.below hb)
  have BG5 := Lib.hid (BG4.out.below hb (by omega))
  clear T4 U4 BU4 G4 BG4
  clear hb
  have yBU_5 : w1.heap.size < w5.heap.size := by omega
  have yBG_5 : w3.heap.size < w5.heap.size := by omega
  obtain ⟨BUc0, BUc1, BUc2, BUc3, BUc4, BUc5, BUc6, BUc7, BUc8, BUc9, BUc10⟩ := blk11 BU5.out
  obtain ⟨BGc0, BGc1, BGc2, BGc3, BGc4, BGc5, BGc6, BGc7, BGc8, BGc9, BGc10⟩ := blk11 BG5.out
  go_wp2_with fail
  refine (markDesk_any _ _ (.agg #[.string sg, .slice Ag ng cg, .slice Bg mg dg, .slice Mg qg eg, .int .i64 spg, .int .i64 Wg, .int .i64 tg, .int .i64 kg, .slice Lg lg fg, .slice Tg rg gg]) deskX w5 G5.out (by omega) (by have := deskX_big; omega) (by omega)).mono ?_
  rintro e w6 ⟨rfl, hX, hc⟩
  clear G5
  clear BUc0 BUc1 BUc2 BUc3 BUc4 BUc5 BUc6 BUc7 BUc8 BUc9 BUc10
  clear BGc0 BGc1 BGc2 BGc3 BGc4 BGc5 BGc6 BGc7 BGc8 BGc9 BGc10
  have s6 : w5.heap.size ≤ w6.heap.size := hc.size
  have T6 := Lib.hid (T5.out.trans ((hc.below (by omega)).mono (by omega)))
  have U6 := Lib.hid (U5.out.chg hc (by unfold Off; omega))
  have BU6 := Lib.hid (BU5.out.chg hc (by omega))
  have BG6 := Lib.hid (BG5.out.chg hc (by omega))
  clear T5 U5 BU5 BG5
  clear hc
  have yBU_6 : w1.heap.size < w6.heap.size := by omega
  have yBG_6 : w3.heap.size < w6.heap.size := by omega
  have H6 := Lib.hid (hX)
  clear hX
  obtain ⟨BUc0, BUc1, BUc2, BUc3, BUc4, BUc5, BUc6, BUc7, BUc8, BUc9, BUc10⟩ := blk11 BU6.out
  obtain ⟨BGc0, BGc1, BGc2, BGc3, BGc4, BGc5, BGc6, BGc7, BGc8, BGc9, BGc10⟩ := blk11 BG6.out
  go_wp2_with fail
  refine (heldDesk_any _ _ (.agg #[.string sg, .slice Ag ng cg, .slice Bg mg dg, .slice Mg qg eg, .int .i64 spg, .int .i64 Wg, .int .i64 tg, .int .i64 kg, .slice Lg lg fg, .slice Tg rg gg]) deskX w6 H6.out.reads (by omega) deskX_big).mono ?_
  rintro e w7 ⟨rfl, hb⟩
  clear BUc0 BUc1 BUc2 BUc3 BUc4 BUc5 BUc6 BUc7 BUc8 BUc9 BUc10
  clear BGc0 BGc1 BGc2 BGc3 BGc4 BGc5 BGc6 BGc7 BGc8 BGc9 BGc10
  have s7 : w6.heap.size ≤ w7.heap.size := hb.size
  have T7 := Lib.hid (T6.out.trans (hb.mono (by omega)))
  have U7 := Lib.hid (U6.out.below hb)
  have BU7 := Lib.hid (BU6.out.below hb (by omega))
  have BG7 := Lib.hid (BG6.out.below hb (by omega))
  have H7 := Lib.hid (H6.out.below hb)
  clear T6 U6 BU6 BG6 H6
  clear hb
  have yBU_7 : w1.heap.size < w7.heap.size := by omega
  have yBG_7 : w3.heap.size < w7.heap.size := by omega
  obtain ⟨BUc0, BUc1, BUc2, BUc3, BUc4, BUc5, BUc6, BUc7, BUc8, BUc9, BUc10⟩ := blk11 BU7.out
  obtain ⟨BGc0, BGc1, BGc2, BGc3, BGc4, BGc5, BGc6, BGc7, BGc8, BGc9, BGc10⟩ := blk11 BG7.out
  go_wp2_with fail
  refine (implDesk_any w7).mono ?_
  rintro e w8 ⟨u, rfl, hO, hb⟩
  obtain ⟨sh, Ah, nh, ch, Bh, mh, dh, Mh, qh, eh, sph, Wh, th, kh, Lh, lh, fh, Th, rh, gh, rfl⟩ := hO.reads.formX
  rw [show dv (.agg #[.string sh, .slice Ah nh ch, .slice Bh mh dh, .slice Mh qh eh, .int .i64 sph, .int .i64 Wh, .int .i64 th, .int .i64 kh, .slice Lh lh fh, .slice Th rh gh]) = .agg #[.string sh, .slice Ah nh ch, .slice Bh mh dh, .slice Mh qh eh, .int .i64 sph, .int .i64 Wh, .int .i64 th, .int .i64 kh, .slice Lh lh fh, .slice Th rh gh, .slice none 0 0] from rfl]
  clear BUc0 BUc1 BUc2 BUc3 BUc4 BUc5 BUc6 BUc7 BUc8 BUc9 BUc10
  clear BGc0 BGc1 BGc2 BGc3 BGc4 BGc5 BGc6 BGc7 BGc8 BGc9 BGc10
  have s8 : w7.heap.size ≤ w8.heap.size := hb.size
  have T8 := Lib.hid (T7.out.trans (hb.mono (by omega)))
  have U8 := Lib.hid (U7.out.below hb)
  have BU8 := Lib.hid (BU7.out.below hb (by omega))
  have BG8 := Lib.hid (BG7.out.below hb (by omega))
  have H8 := Lib.hid (H7.out.below hb)
  clear T7 U7 BU7 BG7 H7
  clear hb
  have yBU_8 : w1.heap.size < w8.heap.size := by omega
  have yBG_8 : w3.heap.size < w8.heap.size := by omega
  have E8 := Lib.hid (hO)
  obtain ⟨BUc0, BUc1, BUc2, BUc3, BUc4, BUc5, BUc6, BUc7, BUc8, BUc9, BUc10⟩ := blk11 BU8.out
  obtain ⟨BGc0, BGc1, BGc2, BGc3, BGc4, BGc5, BGc6, BGc7, BGc8, BGc9, BGc10⟩ := blk11 BG8.out
  clear hO
  go_wp2_with fail
  obtain ⟨w9, hw, hb, hz, hK⟩ := mxWorld w8 #[.string sh, .slice Ah nh ch, .slice Bh mh dh, .slice Mh qh eh, .int .i64 sph, .int .i64 Wh, .int .i64 th, .int .i64 kh, .slice Lh lh fh, .slice Th rh gh, .slice none 0 0] 86
  rw [hw]
  clear hw hz
  clear BUc0 BUc1 BUc2 BUc3 BUc4 BUc5 BUc6 BUc7 BUc8 BUc9 BUc10
  clear BGc0 BGc1 BGc2 BGc3 BGc4 BGc5 BGc6 BGc7 BGc8 BGc9 BGc10
  have s9 : w8.heap.size ≤ w9.heap.size := hb.size
  have T9 := Lib.hid (T8.out.trans (hb.mono (by omega)))
  have U9 := Lib.hid (U8.out.below hb)
  have BU9 := Lib.hid (BU8.out.below hb (by omega))
  have BG9 := Lib.hid (BG8.out.below hb (by omega))
  have H9 := Lib.hid (H8.out.below hb)
  have E9 := Lib.hid (E8.out.below hb)
  clear T8 U8 BU8 BG8 H8 E8
  clear hb
  have yBU_9 : w1.heap.size < w9.heap.size := by omega
  have yBG_9 : w3.heap.size < w9.heap.size := by omega
  have BE9 := Lib.hid (hK)
  have yBE : w8.heap.size < w9.heap.size := hK.lt
  clear hK
  obtain ⟨BUc0, BUc1, BUc2, BUc3, BUc4, BUc5, BUc6, BUc7, BUc8, BUc9, BUc10⟩ := blk11 BU9.out
  obtain ⟨BGc0, BGc1, BGc2, BGc3, BGc4, BGc5, BGc6, BGc7, BGc8, BGc9, BGc10⟩ := blk11 BG9.out
  obtain ⟨BEc0, BEc1, BEc2, BEc3, BEc4, BEc5, BEc6, BEc7, BEc8, BEc9, BEc10⟩ := blk11 BE9.out
  refine (eqDesk_same _ _ _ _ (.agg #[.string sh, .slice Ah nh ch, .slice Bh mh dh, .slice Mh qh eh, .int .i64 sph, .int .i64 Wh, .int .i64 th, .int .i64 kh, .slice Lh lh fh, .slice Th rh gh]) (.agg #[.string su, .slice Au nu cu, .slice Bu mu du, .slice Mu qu eu, .int .i64 spu, .int .i64 Wu, .int .i64 tu, .int .i64 ku, .slice Lu lu fu, .slice Tu ru gu]) deskX w9 E9.out.reads U9.out.reads (by omega) (by omega) HSY.out).mono ?_
  rintro e w10 ⟨rfl, hb⟩
  clear BUc0 BUc1 BUc2 BUc3 BUc4 BUc5 BUc6 BUc7 BUc8 BUc9 BUc10
  clear BGc0 BGc1 BGc2 BGc3 BGc4 BGc5 BGc6 BGc7 BGc8 BGc9 BGc10
  clear BEc0 BEc1 BEc2 BEc3 BEc4 BEc5 BEc6 BEc7 BEc8 BEc9 BEc10
  have s10 : w9.heap.size ≤ w10.heap.size := hb.size
  have T10 := Lib.hid (T9.out.trans (hb.mono (by omega)))
  have U10 := Lib.hid (U9.out.below hb)
  have BU10 := Lib.hid (BU9.out.below hb (by omega))
  have BG10 := Lib.hid (BG9.out.below hb (by omega))
  have H10 := Lib.hid (H9.out.below hb)
  have E10 := Lib.hid (E9.out.below hb)
  have BE10 := Lib.hid (BE9.out.below hb (by omega))
  clear T9 U9 BU9 BG9 H9 E9 BE9
  clear hb
  have yBU_10 : w1.heap.size < w10.heap.size := by omega
  have yBG_10 : w3.heap.size < w10.heap.size := by omega
  have yBE_10 : w8.heap.size < w10.heap.size := by omega
  obtain ⟨BUc0, BUc1, BUc2, BUc3, BUc4, BUc5, BUc6, BUc7, BUc8, BUc9, BUc10⟩ := blk11 BU10.out
  obtain ⟨BGc0, BGc1, BGc2, BGc3, BGc4, BGc5, BGc6, BGc7, BGc8, BGc9, BGc10⟩ := blk11 BG10.out
  obtain ⟨BEc0, BEc1, BEc2, BEc3, BEc4, BEc5, BEc6, BEc7, BEc8, BEc9, BEc10⟩ := blk11 BE10.out
  go_wp2_with fail
  refine (heldDesk_any _ _ (.agg #[.string sg, .slice Ag ng cg, .slice Bg mg dg, .slice Mg qg eg, .int .i64 spg, .int .i64 Wg, .int .i64 tg, .int .i64 kg, .slice Lg lg fg, .slice Tg rg gg]) deskX w10 H10.out.reads (by omega) deskX_big).mono ?_
  rintro e w11 ⟨rfl, hb⟩
  clear BUc0 BUc1 BUc2 BUc3 BUc4 BUc5 BUc6 BUc7 BUc8 BUc9 BUc10
  clear BGc0 BGc1 BGc2 BGc3 BGc4 BGc5 BGc6 BGc7 BGc8 BGc9 BGc10
  clear BEc0 BEc1 BEc2 BEc3 BEc4 BEc5 BEc6 BEc7 BEc8 BEc9 BEc10
  have s11 : w10.heap.size ≤ w11.heap.size := hb.size
  have T11 := Lib.hid (T10.out.trans (hb.mono (by omega)))
  have U11 := Lib.hid (U10.out.below hb)
  have BU11 := Lib.hid (BU10.out.below hb (by omega))
  have BG11 := Lib.hid (BG10.out.below hb (by omega))
  have H11 := Lib.hid (H10.out.below hb)
  have E11 := Lib.hid (E10.out.below hb)
  have BE11 := Lib.hid (BE10.out.below hb (by omega))
  clear T10 U10 BU10 BG10 H10 E10 BE10
  clear hb
  have yBU_11 : w1.heap.size < w11.heap.size := by omega
  have yBG_11 : w3.heap.size < w11.heap.size := by omega
  have yBE_11 : w8.heap.size < w11.heap.size := by omega
  obtain ⟨BUc0, BUc1, BUc2, BUc3, BUc4, BUc5, BUc6, BUc7, BUc8, BUc9, BUc10⟩ := blk11 BU11.out
  obtain ⟨BGc0, BGc1, BGc2, BGc3, BGc4, BGc5, BGc6, BGc7, BGc8, BGc9, BGc10⟩ := blk11 BG11.out
  obtain ⟨BEc0, BEc1, BEc2, BEc3, BEc4, BEc5, BEc6, BEc7, BEc8, BEc9, BEc10⟩ := blk11 BE11.out
  go_wp2
  go_ret
  exact ⟨rfl, T11.out⟩
end Go.Proofs.Ythoepelgmplcmaa
