/-
  The exact law of CountFitting: its walk. No condition.
-/
import Derived.Test.YtjfckplogjekaaaFitNS
import Derived.Test.YtjfckplogjekaaaLnKit
namespace Go.Proofs.Ytjfckplogjekaaa
open Go.RowKit
set_option linter.unusedVariables false

set_option maxRecDepth 100000 in
set_option maxHeartbeats 1600000 in
theorem fnExactCountFitting_walk (m : Msr) (A : Option Addr) (n c : Nat) (zs : List Int) (A2 : Option Addr) (n2 c2 : Nat) (ys : List Int) (w : World) (hn0 : zs.length = n) (hm0 : n ≤ maxLen) (h0 : Ints w A zs) (wf0 : ∀ z ∈ zs, (Lit.int .i64 z).wf = true) (hn1 : ys.length = n2) (hm1 : n2 ≤ maxLen) (h1 : Ints w A2 ys) (wf1 : ∀ z ∈ ys, (Lit.int .i64 z).wf = true) :
    Calls Try.prog 16 #[.agg #[.int .i64 m.w, .int .i64 m.t, .int .i64 m.k], .slice A n c, .slice A2 n2 c2] w fun e w' => e = .returned (.bool true) ∧ Below w.heap.size w w' := by
  obtain ⟨W, t, k⟩ := m
  simp only
  have Hn0 := Lib.hid hn0; clear hn0
  have Hn1 := Lib.hid hn1; clear hn1
  unfold maxLen at hm0 hm1
  obtain ⟨w0, hw0, hb0, hz0, P⟩ := lmWorld w W t k
  have T0 := Lib.hid hb0; have P0 := Lib.hid P; have Z0 := Lib.hid hz0
  obtain ⟨p0, p1, p2⟩ := P0.out
  have hz := Z0.out
  have Ia0 := Lib.hid ((IntsB.of h0).keep (Nat.le_refl _) hb0)
  have Ib0 := Lib.hid ((IntsB.of h1).keep (Nat.le_refl _) hb0)
  clear hb0 h0 h1
  by_cases hbig0 : 1048576 < n
  · go_enter Try.func16, Try.ntmps16
    go_wp2_with fail
    go_ret
    exact ⟨rfl, by first | exact T0.out | (rw [hw0]; exact T0.out)⟩
  have hs0 : n ≤ 1048576 := by omega
  by_cases hbig1 : 1048576 < n2
  · go_enter Try.func16, Try.ntmps16
    go_wp2_with fail
    go_ret
    exact ⟨rfl, by first | exact T0.out | (rw [hw0]; exact T0.out)⟩
  have hs1 : n2 ≤ 1048576 := by omega
  have hbb : (cfI ⟨W, t, k⟩ zs ys != cfI ⟨W, t, k⟩ zs ys) = false := by simp
  go_enter Try.func16, Try.ntmps16
  go_wp2_with fail
  clear hw0
  refine (toMeasure_any W t k _).mono ?_
  rintro e w1 ⟨rfl, hb1⟩
  have T1 := Lib.hid (T0.out.trans (hb1.mono (by omega)))
  have P1 := Lib.hid (hold3 hb1 (by omega) P0.out)
  have Ia1 := Lib.hid (Ia0.out.keep (by omega) hb1)
  have Ib1 := Lib.hid (Ib0.out.keep (by omega) hb1)
  have z1 := hb1.size
  clear hb1 T0 P0 Ia0 Ib0 p0 p1 p2
  obtain ⟨pc0, pc1, pc2⟩ := P1.out
  go_wp2_with fail
  refine (toIntS_call _ _ _ zs _ Hn0.out hs0 Ia1.out.ints).mono ?_
  rintro e w2 ⟨As, cs, rfl, hIs, hOs, hb2, hcs, hxs⟩
  have T2 := Lib.hid (T1.out.trans (hb2.mono (by omega)))
  have P2 := Lib.hid (hold3 hb2 (by omega) P1.out)
  have Ia2 := Lib.hid (Ia1.out.keep (by omega) hb2)
  have Ib2 := Lib.hid (Ib1.out.keep (by omega) hb2)
  have z2 := hb2.size
  clear hb2 T1 P1 Ia1 Ib1 pc0 pc1 pc2
  obtain ⟨pc0, pc1, pc2⟩ := P2.out
  have Cs2 := Lib.hid (IntsB.of hIs)
  clear hIs hOs
  go_wp2_with fail
  refine (toIntS_call _ _ _ ys _ Hn1.out hs1 Ib2.out.ints).mono ?_
  rintro e w3 ⟨At, ct, rfl, hIt, hOt, hb3, hct, hxt⟩
  have T3 := Lib.hid (T2.out.trans (hb3.mono (by omega)))
  have P3 := Lib.hid (hold3 hb3 (by omega) P2.out)
  have Ia3 := Lib.hid (Ia2.out.keep (by omega) hb3)
  have Ib3 := Lib.hid (Ib2.out.keep (by omega) hb3)
  have Cs3 := Lib.hid (Cs2.out.keep (by omega) hb3)
  have z3 := hb3.size
  clear hb3 T2 P2 Ia2 Ib2 Cs2 pc0 pc1 pc2
  obtain ⟨pc0, pc1, pc2⟩ := P3.out
  have Ct3 := Lib.hid (IntsB.of hIt)
  clear hIt hOt
  go_wp2_with fail
  refine (specFitN_any W t k _ _ _ zs _ _ _ ys _ Hn0.out hs0 Cs3.out.ints Hn1.out hs1 hct hxt Ct3.out.ints).mono ?_
  rintro e w4 ⟨rfl, hb4⟩
  have T4 := Lib.hid (T3.out.trans (hb4.mono (by omega)))
  have P4 := Lib.hid (hold3 hb4 (by omega) P3.out)
  have Ia4 := Lib.hid (Ia3.out.keep (by omega) hb4)
  have Ib4 := Lib.hid (Ib3.out.keep (by omega) hb4)
  have Cs4 := Lib.hid (Cs3.out.keep (by omega) hb4)
  have Ct4 := Lib.hid (Ct3.out.keep (by omega) hb4)
  have z4 := hb4.size
  clear hb4 T3 P3 Ia3 Ib3 Cs3 Ct3 pc0 pc1 pc2
  obtain ⟨pc0, pc1, pc2⟩ := P4.out
  clear Cs4
  clear Ct4
  go_wp2_with fail
  refine (toIntS_call _ _ _ zs _ Hn0.out hs0 Ia4.out.ints).mono ?_
  rintro e w5 ⟨Ax, cx, rfl, hIx, hOx, hb5, hcx, hxx⟩
  have T5 := Lib.hid (T4.out.trans (hb5.mono (by omega)))
  have P5 := Lib.hid (hold3 hb5 (by omega) P4.out)
  have Ia5 := Lib.hid (Ia4.out.keep (by omega) hb5)
  have Ib5 := Lib.hid (Ib4.out.keep (by omega) hb5)
  have z5 := hb5.size
  clear hb5 T4 P4 Ia4 Ib4 pc0 pc1 pc2
  obtain ⟨pc0, pc1, pc2⟩ := P5.out
  have Cx5 := Lib.hid (IntsB.of hIx)
  clear hIx hOx
  go_wp2_with fail
  refine (toIntS_call _ _ _ ys _ Hn1.out hs1 Ib5.out.ints).mono ?_
  rintro e w6 ⟨Ay, cy, rfl, hIy, hOy, hb6, hcy, hxy⟩
  have T6 := Lib.hid (T5.out.trans (hb6.mono (by omega)))
  have P6 := Lib.hid (hold3 hb6 (by omega) P5.out)
  have Ia6 := Lib.hid (Ia5.out.keep (by omega) hb6)
  have Ib6 := Lib.hid (Ib5.out.keep (by omega) hb6)
  have Cx6 := Lib.hid (Cx5.out.keep (by omega) hb6)
  have z6 := hb6.size
  clear hb6 T5 P5 Ia5 Ib5 Cx5 pc0 pc1 pc2
  obtain ⟨pc0, pc1, pc2⟩ := P6.out
  have Cy6 := Lib.hid (IntsB.of hIy)
  clear hIy hOy
  go_wp2_with fail
  refine (toMeasure_any W t k _).mono ?_
  rintro e w7 ⟨rfl, hb7⟩
  have T7 := Lib.hid (T6.out.trans (hb7.mono (by omega)))
  have P7 := Lib.hid (hold3 hb7 (by omega) P6.out)
  have Ia7 := Lib.hid (Ia6.out.keep (by omega) hb7)
  have Ib7 := Lib.hid (Ib6.out.keep (by omega) hb7)
  have Cx7 := Lib.hid (Cx6.out.keep (by omega) hb7)
  have Cy7 := Lib.hid (Cy6.out.keep (by omega) hb7)
  have z7 := hb7.size
  clear hb7 T6 P6 Ia6 Ib6 Cx6 Cy6 pc0 pc1 pc2
  obtain ⟨pc0, pc1, pc2⟩ := P7.out
  go_wp2_with fail
  refine (implFitN_any W t k _ _ _ zs _ _ _ ys _ Hn0.out hs0 Cx7.out.ints Hn1.out hs1 hcy hxy Cy7.out.ints).mono ?_
  rintro e w8 ⟨rfl, hb8⟩
  have T8 := Lib.hid (T7.out.trans (hb8.mono (by omega)))
  have P8 := Lib.hid (hold3 hb8 (by omega) P7.out)
  have Ia8 := Lib.hid (Ia7.out.keep (by omega) hb8)
  have Ib8 := Lib.hid (Ib7.out.keep (by omega) hb8)
  have Cx8 := Lib.hid (Cx7.out.keep (by omega) hb8)
  have Cy8 := Lib.hid (Cy7.out.keep (by omega) hb8)
  have z8 := hb8.size
  clear hb8 T7 P7 Ia7 Ib7 Cx7 Cy7 pc0 pc1 pc2
  obtain ⟨pc0, pc1, pc2⟩ := P8.out
  go_wp2_with fail
  refine (toIntS_call _ _ _ zs _ Hn0.out hs0 Ia8.out.ints).mono ?_
  rintro e w9 ⟨Au, cu, rfl, hIu, hOu, hb9, hcu, hxu⟩
  have T9 := Lib.hid (T8.out.trans (hb9.mono (by omega)))
  have P9 := Lib.hid (hold3 hb9 (by omega) P8.out)
  have Ia9 := Lib.hid (Ia8.out.keep (by omega) hb9)
  have Ib9 := Lib.hid (Ib8.out.keep (by omega) hb9)
  have Cx9 := Lib.hid (Cx8.out.keep (by omega) hb9)
  have Cy9 := Lib.hid (Cy8.out.keep (by omega) hb9)
  have z9 := hb9.size
  clear hb9 T8 P8 Ia8 Ib8 Cx8 Cy8 pc0 pc1 pc2
  obtain ⟨pc0, pc1, pc2⟩ := P9.out
  have Cu9 := Lib.hid (IntsB.of hIu)
  clear hIu hOu
  go_wp2_with fail
  refine (eqIntS_t _ _ _ _ _ zs _ Hn0.out hs0 Cx9.out.ints Cu9.out.ints).mono ?_
  rintro e w10 ⟨rfl, hb10⟩
  have T10 := Lib.hid (T9.out.trans (hb10.mono (by omega)))
  have P10 := Lib.hid (hold3 hb10 (by omega) P9.out)
  have Ia10 := Lib.hid (Ia9.out.keep (by omega) hb10)
  have Ib10 := Lib.hid (Ib9.out.keep (by omega) hb10)
  have Cx10 := Lib.hid (Cx9.out.keep (by omega) hb10)
  have Cy10 := Lib.hid (Cy9.out.keep (by omega) hb10)
  have Cu10 := Lib.hid (Cu9.out.keep (by omega) hb10)
  have z10 := hb10.size
  clear hb10 T9 P9 Ia9 Ib9 Cx9 Cy9 Cu9 pc0 pc1 pc2
  obtain ⟨pc0, pc1, pc2⟩ := P10.out
  go_wp2_with fail
  refine (toIntS_call _ _ _ ys _ Hn1.out hs1 Ib10.out.ints).mono ?_
  rintro e w11 ⟨Av, cv, rfl, hIv, hOv, hb11, hcv, hxv⟩
  have T11 := Lib.hid (T10.out.trans (hb11.mono (by omega)))
  have P11 := Lib.hid (hold3 hb11 (by omega) P10.out)
  have Ia11 := Lib.hid (Ia10.out.keep (by omega) hb11)
  have Ib11 := Lib.hid (Ib10.out.keep (by omega) hb11)
  have Cx11 := Lib.hid (Cx10.out.keep (by omega) hb11)
  have Cy11 := Lib.hid (Cy10.out.keep (by omega) hb11)
  have Cu11 := Lib.hid (Cu10.out.keep (by omega) hb11)
  have z11 := hb11.size
  clear hb11 T10 P10 Ia10 Ib10 Cx10 Cy10 Cu10 pc0 pc1 pc2
  obtain ⟨pc0, pc1, pc2⟩ := P11.out
  have Cv11 := Lib.hid (IntsB.of hIv)
  clear hIv hOv
  go_wp2_with fail
  refine (eqIntS_t _ _ _ _ _ ys _ Hn1.out hs1 Cy11.out.ints Cv11.out.ints).mono ?_
  rintro e w12 ⟨rfl, hb12⟩
  have T12 := Lib.hid (T11.out.trans (hb12.mono (by omega)))
  have P12 := Lib.hid (hold3 hb12 (by omega) P11.out)
  have Ia12 := Lib.hid (Ia11.out.keep (by omega) hb12)
  have Ib12 := Lib.hid (Ib11.out.keep (by omega) hb12)
  have Cx12 := Lib.hid (Cx11.out.keep (by omega) hb12)
  have Cy12 := Lib.hid (Cy11.out.keep (by omega) hb12)
  have Cu12 := Lib.hid (Cu11.out.keep (by omega) hb12)
  have Cv12 := Lib.hid (Cv11.out.keep (by omega) hb12)
  have z12 := hb12.size
  clear hb12 T11 P11 Ia11 Ib11 Cx11 Cy11 Cu11 Cv11 pc0 pc1 pc2
  obtain ⟨pc0, pc1, pc2⟩ := P12.out
  go_wp2
  go_ret
  exact ⟨rfl, T12.out⟩

end Go.Proofs.Ytjfckplogjekaaa
