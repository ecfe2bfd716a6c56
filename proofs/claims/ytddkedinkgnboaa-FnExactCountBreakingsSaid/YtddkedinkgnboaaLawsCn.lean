/-
  The exact law of CountBreakings: its walk. No condition.
-/
import Derived.Test.YtddkedinkgnboaaKeep
import Derived.Test.YtddkedinkgnboaaLnKit
import Derived.Test.YtddkedinkgnboaaCnt
import Derived.Test.YtddkedinkgnboaaWaysS
namespace Go.Proofs.Ytddkedinkgnboaa
open Go.RowKit
set_option linter.unusedVariables false

set_option maxRecDepth 100000 in
set_option maxHeartbeats 1600000 in
theorem fnExactCountBreakings_walk (m : Msr) (A : Option Addr) (n c : Nat) (zs : List Int) (w : World) (hn : zs.length = n) (hm : n ≤ maxLen) (h : Ints w A zs) (wf : ∀ z ∈ zs, (Lit.int .i64 z).wf = true) :
    Calls Try.prog 8 #[.agg #[.int .i64 m.w, .int .i64 m.t, .int .i64 m.k], .slice A n c] w fun e w' => e = .returned (.bool true) ∧ Below w.heap.size w w' := by
  obtain ⟨W, t, k⟩ := m
  simp only
  have Hn := Lib.hid hn; clear hn
  have hm0 := hm
  unfold maxLen at hm
  obtain ⟨w0, hw0, hb0, hz0, P⟩ := lmWorld w W t k
  have T0 := Lib.hid hb0; have P0 := Lib.hid P; have Z0 := Lib.hid hz0
  obtain ⟨p0, p1, p2⟩ := P0.out
  have hz := Z0.out
  have I0 := Lib.hid ((IntsB.of h).keep (Nat.le_refl _) hb0)
  clear hb0 h
  by_cases hbign : 1048576 < n
  · go_enter Try.func8, Try.ntmps8
    go_wp2_with fail
    go_ret
    exact ⟨rfl, by first | exact T0.out | (rw [hw0]; exact T0.out)⟩
  have hs : n ≤ 1048576 := by omega
  have hb1x : (cntA ⟨W, t, k⟩ zs != cntA ⟨W, t, k⟩ zs) = false := by simp
  go_enter Try.func8, Try.ntmps8
  go_wp2_with fail
  clear hw0
  refine (toMeasure_any W t k _).mono ?_
  rintro e w1 ⟨rfl, hb1⟩
  have T1 := Lib.hid (T0.out.trans (hb1.mono (by omega)))
  have P1 := Lib.hid (hold3 hb1 (by omega) P0.out)
  have I1 := Lib.hid (I0.out.keep (by omega) hb1)
  have z1 := hb1.size
  clear hb1 T0 P0 I0 p0 p1 p2
  obtain ⟨pc0, pc1, pc2⟩ := P1.out
  go_wp2_with fail
  refine (toIntS_call _ _ _ zs _ Hn.out hs I1.out.ints).mono ?_
  rintro e w2 ⟨Aa, ca, rfl, hIa, hOa, hb2, hca, hxa⟩
  have T2 := Lib.hid (T1.out.trans (hb2.mono (by omega)))
  have P2 := Lib.hid (hold3 hb2 (by omega) P1.out)
  have I2 := Lib.hid (I1.out.keep (by omega) hb2)
  have z2 := hb2.size
  clear hb2 T1 P1 I1 pc0 pc1 pc2
  obtain ⟨pc0, pc1, pc2⟩ := P2.out
  have Ca2 := Lib.hid (IntsB.of hIa)
  have Oa2 := Lib.hid (hOa)
  clear hIa hOa
  go_wp2_with fail
  refine (specCount_any W t k _ _ _ zs _ Hn.out hca hxa Ca2.out.ints).mono ?_
  rintro e w3 ⟨rfl, hb3⟩
  have T3 := Lib.hid (T2.out.trans (hb3.mono (by omega)))
  have P3 := Lib.hid (hold3 hb3 (by omega) P2.out)
  have I3 := Lib.hid (I2.out.keep (by omega) hb3)
  have Ca3 := Lib.hid (Ca2.out.keep (by omega) hb3)
  have Oa3 := Lib.hid (Oa2.out.below hb3)
  have z3 := hb3.size
  clear hb3 T2 P2 I2 Ca2 Oa2 pc0 pc1 pc2
  obtain ⟨pc0, pc1, pc2⟩ := P3.out
  clear Ca3
  clear Oa3
  go_wp2_with fail
  refine (toIntS_call _ _ _ zs _ Hn.out hs I3.out.ints).mono ?_
  rintro e w4 ⟨Ab, cb, rfl, hIb, hOb, hb4, hcb, hxb⟩
  have T4 := Lib.hid (T3.out.trans (hb4.mono (by omega)))
  have P4 := Lib.hid (hold3 hb4 (by omega) P3.out)
  have I4 := Lib.hid (I3.out.keep (by omega) hb4)
  have z4 := hb4.size
  clear hb4 T3 P3 I3 pc0 pc1 pc2
  obtain ⟨pc0, pc1, pc2⟩ := P4.out
  have Cb4 := Lib.hid (IntsB.of hIb)
  have Ob4 := Lib.hid (hOb)
  clear hIb hOb
  go_wp2_with fail
  refine (toMeasure_any W t k _).mono ?_
  rintro e w5 ⟨rfl, hb5⟩
  have T5 := Lib.hid (T4.out.trans (hb5.mono (by omega)))
  have P5 := Lib.hid (hold3 hb5 (by omega) P4.out)
  have I5 := Lib.hid (I4.out.keep (by omega) hb5)
  have Cb5 := Lib.hid (Cb4.out.keep (by omega) hb5)
  have Ob5 := Lib.hid (Ob4.out.below hb5)
  have z5 := hb5.size
  clear hb5 T4 P4 I4 Cb4 Ob4 pc0 pc1 pc2
  obtain ⟨pc0, pc1, pc2⟩ := P5.out
  go_wp2_with fail
  refine (implCount_any W t k _ _ _ zs _ Hn.out hcb hxb Cb5.out.ints).mono ?_
  rintro e w6 ⟨rfl, hb6⟩
  have T6 := Lib.hid (T5.out.trans (hb6.mono (by omega)))
  have P6 := Lib.hid (hold3 hb6 (by omega) P5.out)
  have I6 := Lib.hid (I5.out.keep (by omega) hb6)
  have Cb6 := Lib.hid (Cb5.out.keep (by omega) hb6)
  have Ob6 := Lib.hid (Ob5.out.below hb6)
  have z6 := hb6.size
  clear hb6 T5 P5 I5 Cb5 Ob5 pc0 pc1 pc2
  obtain ⟨pc0, pc1, pc2⟩ := P6.out
  go_wp2_with fail
  refine (toIntS_call _ _ _ zs _ Hn.out hs I6.out.ints).mono ?_
  rintro e w7 ⟨Ad, cd, rfl, hId, hOd, hb7, hcd, hxd⟩
  have T7 := Lib.hid (T6.out.trans (hb7.mono (by omega)))
  have P7 := Lib.hid (hold3 hb7 (by omega) P6.out)
  have I7 := Lib.hid (I6.out.keep (by omega) hb7)
  have Cb7 := Lib.hid (Cb6.out.keep (by omega) hb7)
  have Ob7 := Lib.hid (Ob6.out.below hb7)
  have z7 := hb7.size
  clear hb7 T6 P6 I6 Cb6 Ob6 pc0 pc1 pc2
  obtain ⟨pc0, pc1, pc2⟩ := P7.out
  have Cd7 := Lib.hid (IntsB.of hId)
  have Od7 := Lib.hid (hOd)
  clear hId hOd
  go_wp2_with fail
  refine (eqIntS_t _ _ _ _ _ zs _ Hn.out hs Cb7.out.ints Cd7.out.ints).mono ?_
  rintro e w8 ⟨rfl, hb8⟩
  have T8 := Lib.hid (T7.out.trans (hb8.mono (by omega)))
  have P8 := Lib.hid (hold3 hb8 (by omega) P7.out)
  have I8 := Lib.hid (I7.out.keep (by omega) hb8)
  have Cb8 := Lib.hid (Cb7.out.keep (by omega) hb8)
  have Ob8 := Lib.hid (Ob7.out.below hb8)
  have Cd8 := Lib.hid (Cd7.out.keep (by omega) hb8)
  have Od8 := Lib.hid (Od7.out.below hb8)
  have z8 := hb8.size
  clear hb8 T7 P7 I7 Cb7 Ob7 Cd7 Od7 pc0 pc1 pc2
  obtain ⟨pc0, pc1, pc2⟩ := P8.out
  go_wp2
  go_ret
  exact ⟨rfl, T8.out⟩

end Go.Proofs.Ytddkedinkgnboaa
