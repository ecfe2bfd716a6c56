/-
  The exact law of BreakingIndex: its walk. No condition.
-/
import Derived.Test.YtddkedinkgnboaaKeep
import Derived.Test.YtddkedinkgnboaaLnKit
import Derived.Test.YtddkedinkgnboaaIdxI
import Derived.Test.YtddkedinkgnboaaIdxS
namespace Go.Proofs.Ytddkedinkgnboaa
open Go.RowKit
set_option linter.unusedVariables false

set_option maxRecDepth 100000 in
set_option maxHeartbeats 1600000 in
theorem fnExactBreakingIndex_walk (m : Msr) (A : Option Addr) (n c : Nat) (zs : List Int) (Al : Option Addr) (q d : Nat) (ls : List Int) (w : World) (hn : zs.length = n) (hm : n ≤ maxLen) (h : Ints w A zs) (wf : ∀ z ∈ zs, (Lit.int .i64 z).wf = true) (hq : ls.length = q) (hqm : q ≤ maxLen) (hl : Ints w Al ls) (wfl : ∀ z ∈ ls, (Lit.int .i64 z).wf = true) :
    Calls Try.prog 11 #[.agg #[.int .i64 m.w, .int .i64 m.t, .int .i64 m.k], .slice A n c, .slice Al q d] w fun e w' => e = .returned (.bool true) ∧ Below w.heap.size w w' := by
  obtain ⟨W, t, k⟩ := m
  simp only
  have Hn := Lib.hid hn; clear hn
  have hm0 := hm
  unfold maxLen at hm
  have Hq := Lib.hid hq; clear hq
  have hqm0 := hqm
  unfold maxLen at hqm
  obtain ⟨w0, hw0, hb0, hz0, P⟩ := lmWorld w W t k
  have T0 := Lib.hid hb0; have P0 := Lib.hid P; have Z0 := Lib.hid hz0
  obtain ⟨p0, p1, p2⟩ := P0.out
  have hz := Z0.out
  have I0 := Lib.hid ((IntsB.of h).keep (Nat.le_refl _) hb0)
  have L0 := Lib.hid ((IntsB.of hl).keep (Nat.le_refl _) hb0)
  clear hb0 h hl
  by_cases hbign : 1048576 < n
  · go_enter Try.func11, Try.ntmps11
    go_wp2_with fail
    go_ret
    exact ⟨rfl, by first | exact T0.out | (rw [hw0]; exact T0.out)⟩
  have hs : n ≤ 1048576 := by omega
  by_cases hbigq : 1048576 < q
  · go_enter Try.func11, Try.ntmps11
    go_wp2_with fail
    go_ret
    exact ⟨rfl, by first | exact T0.out | (rw [hw0]; exact T0.out)⟩
  have hsq : q ≤ 1048576 := by omega
  have hb1x : (idxA ⟨W, t, k⟩ zs ls != idxA ⟨W, t, k⟩ zs ls) = false := by simp
  go_enter Try.func11, Try.ntmps11
  go_wp2_with fail
  clear hw0
  refine (toMeasure_any W t k _).mono ?_
  rintro e w1 ⟨rfl, hb1⟩
  have T1 := Lib.hid (T0.out.trans (hb1.mono (by omega)))
  have P1 := Lib.hid (hold3 hb1 (by omega) P0.out)
  have I1 := Lib.hid (I0.out.keep (by omega) hb1)
  have L1 := Lib.hid (L0.out.keep (by omega) hb1)
  have z1 := hb1.size
  clear hb1 T0 P0 I0 L0 p0 p1 p2
  obtain ⟨pc0, pc1, pc2⟩ := P1.out
  go_wp2_with fail
  refine (toIntS_call _ _ _ zs _ Hn.out hs I1.out.ints).mono ?_
  rintro e w2 ⟨Aa, ca, rfl, hIa, hOa, hb2, hca, hxa⟩
  have T2 := Lib.hid (T1.out.trans (hb2.mono (by omega)))
  have P2 := Lib.hid (hold3 hb2 (by omega) P1.out)
  have I2 := Lib.hid (I1.out.keep (by omega) hb2)
  have L2 := Lib.hid (L1.out.keep (by omega) hb2)
  have z2 := hb2.size
  clear hb2 T1 P1 I1 L1 pc0 pc1 pc2
  obtain ⟨pc0, pc1, pc2⟩ := P2.out
  have Ca2 := Lib.hid (IntsB.of hIa)
  have Oa2 := Lib.hid (hOa)
  clear hIa hOa
  go_wp2_with fail
  refine (toIntS_call _ _ _ ls _ Hq.out hsq L2.out.ints).mono ?_
  rintro e w3 ⟨Ae, ce, rfl, hIe, hOe, hb3, hce, hxe⟩
  have T3 := Lib.hid (T2.out.trans (hb3.mono (by omega)))
  have P3 := Lib.hid (hold3 hb3 (by omega) P2.out)
  have I3 := Lib.hid (I2.out.keep (by omega) hb3)
  have L3 := Lib.hid (L2.out.keep (by omega) hb3)
  have Ca3 := Lib.hid (Ca2.out.keep (by omega) hb3)
  have Oa3 := Lib.hid (Oa2.out.below hb3)
  have z3 := hb3.size
  clear hb3 T2 P2 I2 L2 Ca2 Oa2 pc0 pc1 pc2
  obtain ⟨pc0, pc1, pc2⟩ := P3.out
  have Ce3 := Lib.hid (IntsB.of hIe)
  have Oe3 := Lib.hid (hOe)
  clear hIe hOe
  go_wp2_with fail
  refine (specIndex_any W t k _ _ _ zs _ _ _ ls _ Hn.out hca hxa Ca3.out.ints Hq.out hqm0 Ce3.out.ints).mono ?_
  rintro e w4 ⟨rfl, hb4⟩
  have T4 := Lib.hid (T3.out.trans (hb4.mono (by omega)))
  have P4 := Lib.hid (hold3 hb4 (by omega) P3.out)
  have I4 := Lib.hid (I3.out.keep (by omega) hb4)
  have L4 := Lib.hid (L3.out.keep (by omega) hb4)
  have Ca4 := Lib.hid (Ca3.out.keep (by omega) hb4)
  have Oa4 := Lib.hid (Oa3.out.below hb4)
  have Ce4 := Lib.hid (Ce3.out.keep (by omega) hb4)
  have Oe4 := Lib.hid (Oe3.out.below hb4)
  have z4 := hb4.size
  clear hb4 T3 P3 I3 L3 Ca3 Oa3 Ce3 Oe3 pc0 pc1 pc2
  obtain ⟨pc0, pc1, pc2⟩ := P4.out
  clear Ca4
  clear Oa4
  clear Ce4
  clear Oe4
  go_wp2_with fail
  refine (toIntS_call _ _ _ zs _ Hn.out hs I4.out.ints).mono ?_
  rintro e w5 ⟨Ab, cb, rfl, hIb, hOb, hb5, hcb, hxb⟩
  have T5 := Lib.hid (T4.out.trans (hb5.mono (by omega)))
  have P5 := Lib.hid (hold3 hb5 (by omega) P4.out)
  have I5 := Lib.hid (I4.out.keep (by omega) hb5)
  have L5 := Lib.hid (L4.out.keep (by omega) hb5)
  have z5 := hb5.size
  clear hb5 T4 P4 I4 L4 pc0 pc1 pc2
  obtain ⟨pc0, pc1, pc2⟩ := P5.out
  have Cb5 := Lib.hid (IntsB.of hIb)
  have Ob5 := Lib.hid (hOb)
  clear hIb hOb
  go_wp2_with fail
  refine (toIntS_call _ _ _ ls _ Hq.out hsq L5.out.ints).mono ?_
  rintro e w6 ⟨Af, cf, rfl, hIf, hOf, hb6, hcf, hxf⟩
  have T6 := Lib.hid (T5.out.trans (hb6.mono (by omega)))
  have P6 := Lib.hid (hold3 hb6 (by omega) P5.out)
  have I6 := Lib.hid (I5.out.keep (by omega) hb6)
  have L6 := Lib.hid (L5.out.keep (by omega) hb6)
  have Cb6 := Lib.hid (Cb5.out.keep (by omega) hb6)
  have Ob6 := Lib.hid (Ob5.out.below hb6)
  have z6 := hb6.size
  clear hb6 T5 P5 I5 L5 Cb5 Ob5 pc0 pc1 pc2
  obtain ⟨pc0, pc1, pc2⟩ := P6.out
  have Cf6 := Lib.hid (IntsB.of hIf)
  have Of6 := Lib.hid (hOf)
  clear hIf hOf
  go_wp2_with fail
  refine (toMeasure_any W t k _).mono ?_
  rintro e w7 ⟨rfl, hb7⟩
  have T7 := Lib.hid (T6.out.trans (hb7.mono (by omega)))
  have P7 := Lib.hid (hold3 hb7 (by omega) P6.out)
  have I7 := Lib.hid (I6.out.keep (by omega) hb7)
  have L7 := Lib.hid (L6.out.keep (by omega) hb7)
  have Cb7 := Lib.hid (Cb6.out.keep (by omega) hb7)
  have Ob7 := Lib.hid (Ob6.out.below hb7)
  have Cf7 := Lib.hid (Cf6.out.keep (by omega) hb7)
  have Of7 := Lib.hid (Of6.out.below hb7)
  have z7 := hb7.size
  clear hb7 T6 P6 I6 L6 Cb6 Ob6 Cf6 Of6 pc0 pc1 pc2
  obtain ⟨pc0, pc1, pc2⟩ := P7.out
  go_wp2_with fail
  refine (implIndex_any W t k _ _ _ zs _ _ _ ls _ Hn.out hcb hxb Cb7.out.ints Hq.out hqm0 Cf7.out.ints).mono ?_
  rintro e w8 ⟨rfl, hb8⟩
  have T8 := Lib.hid (T7.out.trans (hb8.mono (by omega)))
  have P8 := Lib.hid (hold3 hb8 (by omega) P7.out)
  have I8 := Lib.hid (I7.out.keep (by omega) hb8)
  have L8 := Lib.hid (L7.out.keep (by omega) hb8)
  have Cb8 := Lib.hid (Cb7.out.keep (by omega) hb8)
  have Ob8 := Lib.hid (Ob7.out.below hb8)
  have Cf8 := Lib.hid (Cf7.out.keep (by omega) hb8)
  have Of8 := Lib.hid (Of7.out.below hb8)
  have z8 := hb8.size
  clear hb8 T7 P7 I7 L7 Cb7 Ob7 Cf7 Of7 pc0 pc1 pc2
  obtain ⟨pc0, pc1, pc2⟩ := P8.out
  go_wp2_with fail
  refine (toIntS_call _ _ _ zs _ Hn.out hs I8.out.ints).mono ?_
  rintro e w9 ⟨Ad, cd, rfl, hId, hOd, hb9, hcd, hxd⟩
  have T9 := Lib.hid (T8.out.trans (hb9.mono (by omega)))
  have P9 := Lib.hid (hold3 hb9 (by omega) P8.out)
  have I9 := Lib.hid (I8.out.keep (by omega) hb9)
  have L9 := Lib.hid (L8.out.keep (by omega) hb9)
  have Cb9 := Lib.hid (Cb8.out.keep (by omega) hb9)
  have Ob9 := Lib.hid (Ob8.out.below hb9)
  have Cf9 := Lib.hid (Cf8.out.keep (by omega) hb9)
  have Of9 := Lib.hid (Of8.out.below hb9)
  have z9 := hb9.size
  clear hb9 T8 P8 I8 L8 Cb8 Ob8 Cf8 Of8 pc0 pc1 pc2
  obtain ⟨pc0, pc1, pc2⟩ := P9.out
  have Cd9 := Lib.hid (IntsB.of hId)
  have Od9 := Lib.hid (hOd)
  clear hId hOd
  go_wp2_with fail
  refine (eqIntS_t _ _ _ _ _ zs _ Hn.out hs Cb9.out.ints Cd9.out.ints).mono ?_
  rintro e w10 ⟨rfl, hb10⟩
  have T10 := Lib.hid (T9.out.trans (hb10.mono (by omega)))
  have P10 := Lib.hid (hold3 hb10 (by omega) P9.out)
  have I10 := Lib.hid (I9.out.keep (by omega) hb10)
  have L10 := Lib.hid (L9.out.keep (by omega) hb10)
  have Cb10 := Lib.hid (Cb9.out.keep (by omega) hb10)
  have Ob10 := Lib.hid (Ob9.out.below hb10)
  have Cf10 := Lib.hid (Cf9.out.keep (by omega) hb10)
  have Of10 := Lib.hid (Of9.out.below hb10)
  have Cd10 := Lib.hid (Cd9.out.keep (by omega) hb10)
  have Od10 := Lib.hid (Od9.out.below hb10)
  have z10 := hb10.size
  clear hb10 T9 P9 I9 L9 Cb9 Ob9 Cf9 Of9 Cd9 Od9 pc0 pc1 pc2
  obtain ⟨pc0, pc1, pc2⟩ := P10.out
  clear Cd10
  clear Od10
  go_wp2_with fail
  refine (toIntS_call _ _ _ ls _ Hq.out hsq L10.out.ints).mono ?_
  rintro e w11 ⟨Ag, cg, rfl, hIg, hOg, hb11, hcg, hxg⟩
  have T11 := Lib.hid (T10.out.trans (hb11.mono (by omega)))
  have P11 := Lib.hid (hold3 hb11 (by omega) P10.out)
  have I11 := Lib.hid (I10.out.keep (by omega) hb11)
  have L11 := Lib.hid (L10.out.keep (by omega) hb11)
  have Cb11 := Lib.hid (Cb10.out.keep (by omega) hb11)
  have Ob11 := Lib.hid (Ob10.out.below hb11)
  have Cf11 := Lib.hid (Cf10.out.keep (by omega) hb11)
  have Of11 := Lib.hid (Of10.out.below hb11)
  have z11 := hb11.size
  clear hb11 T10 P10 I10 L10 Cb10 Ob10 Cf10 Of10 pc0 pc1 pc2
  obtain ⟨pc0, pc1, pc2⟩ := P11.out
  have Cg11 := Lib.hid (IntsB.of hIg)
  have Og11 := Lib.hid (hOg)
  clear hIg hOg
  go_wp2_with fail
  refine (eqIntS_t _ _ _ _ _ ls _ Hq.out hsq Cf11.out.ints Cg11.out.ints).mono ?_
  rintro e w12 ⟨rfl, hb12⟩
  have T12 := Lib.hid (T11.out.trans (hb12.mono (by omega)))
  have P12 := Lib.hid (hold3 hb12 (by omega) P11.out)
  have I12 := Lib.hid (I11.out.keep (by omega) hb12)
  have L12 := Lib.hid (L11.out.keep (by omega) hb12)
  have Cb12 := Lib.hid (Cb11.out.keep (by omega) hb12)
  have Ob12 := Lib.hid (Ob11.out.below hb12)
  have Cf12 := Lib.hid (Cf11.out.keep (by omega) hb12)
  have Of12 := Lib.hid (Of11.out.below hb12)
  have Cg12 := Lib.hid (Cg11.out.keep (by omega) hb12)
  have Og12 := Lib.hid (Og11.out.below hb12)
  have z12 := hb12.size
  clear hb12 T11 P11 I11 L11 Cb11 Ob11 Cf11 Of11 Cg11 Og11 pc0 pc1 pc2
  obtain ⟨pc0, pc1, pc2⟩ := P12.out
  go_wp2
  go_ret
  exact ⟨rfl, T12.out⟩

end Go.Proofs.Ytddkedinkgnboaa
