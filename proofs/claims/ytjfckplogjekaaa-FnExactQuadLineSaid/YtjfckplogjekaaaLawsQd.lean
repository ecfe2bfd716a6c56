/-
  The exact laws of QuadLine and CenterLine: their walks. No condition.
-/
import Derived.Test.YtjfckplogjekaaaQuadS
import Derived.Test.YtjfckplogjekaaaLnKit
import Derived.Test.YtjfckplogjekaaaMarkG
namespace Go.Proofs.Ytjfckplogjekaaa
open Go.RowKit
set_option linter.unusedVariables false

set_option maxRecDepth 100000 in
set_option maxHeartbeats 3200000 in
theorem fnExactQuadLine_walk (m : Msr) (A : Option Addr) (n c : Nat) (zs : List Int) (A2 : Option Addr) (n2 c2 : Nat) (qs : List Int) (w : World) (hn0 : zs.length = n) (hm0 : n ≤ maxLen) (h0 : Ints w A zs) (wf0 : ∀ z ∈ zs, (Lit.int .i64 z).wf = true) (hn1 : qs.length = n2) (hm1 : n2 ≤ maxLen) (h1 : Ints w A2 qs) (wf1 : ∀ z ∈ qs, (Lit.int .i64 z).wf = true) :
    Calls Try.prog 17 #[.agg #[.int .i64 m.w, .int .i64 m.t, .int .i64 m.k], .slice A n c, .slice A2 n2 c2] w fun e w' => e = .returned (.bool true) ∧ Below w.heap.size w w' := by
  obtain ⟨W, t, k⟩ := m
  simp only
  have Hn0 := Lib.hid hn0; clear hn0
  have hmm0 := hm0
  unfold maxLen at hm0
  have Hn1 := Lib.hid hn1; clear hn1
  have hmm1 := hm1
  unfold maxLen at hm1
  obtain ⟨w0, hw0, hb0, hz0, P⟩ := lmWorld w W t k
  have T0 := Lib.hid hb0; have P0 := Lib.hid P; have Z0 := Lib.hid hz0
  obtain ⟨p0, p1, p2⟩ := P0.out
  have hz := Z0.out
  have Ia0 := Lib.hid ((IntsB.of h0).keep (Nat.le_refl _) hb0)
  have Ib0 := Lib.hid ((IntsB.of h1).keep (Nat.le_refl _) hb0)
  clear hb0 h0 h1
  by_cases hbig0 : 1048576 < n
  · go_enter Try.func17, Try.ntmps17
    go_wp2_with fail
    go_ret
    exact ⟨rfl, by first | exact T0.out | (rw [hw0]; exact T0.out)⟩
  have hs0 : n ≤ 1048576 := by omega
  by_cases hbig1 : 1048576 < n2
  · go_enter Try.func17, Try.ntmps17
    go_wp2_with fail
    go_ret
    exact ⟨rfl, by first | exact T0.out | (rw [hw0]; exact T0.out)⟩
  have hs1 : n2 ≤ 1048576 := by omega
  obtain ⟨L, hL⟩ := qdRes_ex ⟨W, t, k⟩ false zs qs
  have hL3 : L.length ≤ 120 := hL.2.2
  have HRes := Lib.hid hL
  clear hL
  obtain ⟨m, hm1⟩ : ∃ m, (L).length = m := ⟨_, rfl⟩
  have hms : m ≤ 1048576 := by rw [← hm1]; omega
  have Hm := Lib.hid hm1; clear hm1
  have hfl : (qdB ⟨W, t, k⟩ zs qs != qdB ⟨W, t, k⟩ zs qs) = false := by simp
  go_enter Try.func17, Try.ntmps17
  go_wp2_with fail
  clear hw0
  refine (toMeasure_any W t k _).mono ?_
  rintro e w1 ⟨rfl, hb1⟩
  have T1 := Lib.hid (T0.out.trans (hb1.mono (by omega)))
  have P1 := Lib.hid (hold3 hb1 (by omega) P0.out)
  have Ia1 := Lib.hid (Ia0.out.keep (by omega) hb1)
  have Ib1 := Lib.hid (Ib0.out.keep (by omega) hb1)
  have z1 := hb1.size
  clear hb1 T0 P0 Ia0 Ib0 p0 p1 p2
  obtain ⟨pc0, pc1, pc2⟩ := P1.out
  go_wp2_with fail
  refine (toIntS_call _ _ _ zs _ Hn0.out hs0 Ia1.out.ints).mono ?_
  rintro e w2 ⟨As0, cs0, rfl, hIs0, hOs0, hb2, hcs0, hxs0⟩
  have T2 := Lib.hid (T1.out.trans (hb2.mono (by omega)))
  have P2 := Lib.hid (hold3 hb2 (by omega) P1.out)
  have Ia2 := Lib.hid (Ia1.out.keep (by omega) hb2)
  have Ib2 := Lib.hid (Ib1.out.keep (by omega) hb2)
  have z2 := hb2.size
  clear hb2 T1 P1 Ia1 Ib1 pc0 pc1 pc2
  obtain ⟨pc0, pc1, pc2⟩ := P2.out
  have Cs02 := Lib.hid (IntsB.of hIs0)
  clear hIs0 hOs0
  go_wp2_with fail
  refine (toIntS_call _ _ _ qs _ Hn1.out hs1 Ib2.out.ints).mono ?_
  rintro e w3 ⟨As1, cs1, rfl, hIs1, hOs1, hb3, hcs1, hxs1⟩
  have T3 := Lib.hid (T2.out.trans (hb3.mono (by omega)))
  have P3 := Lib.hid (hold3 hb3 (by omega) P2.out)
  have Ia3 := Lib.hid (Ia2.out.keep (by omega) hb3)
  have Ib3 := Lib.hid (Ib2.out.keep (by omega) hb3)
  have Cs03 := Lib.hid (Cs02.out.keep (by omega) hb3)
  have z3 := hb3.size
  clear hb3 T2 P2 Ia2 Ib2 Cs02 pc0 pc1 pc2
  obtain ⟨pc0, pc1, pc2⟩ := P3.out
  have Cs13 := Lib.hid (IntsB.of hIs1)
  clear hIs1 hOs1
  go_wp2_with fail
  refine (specQuad_any W t k _ _ _ zs _ _ _ qs L _ Hn0.out hs0 Cs03.out.ints Hn1.out hs1 Cs13.out.ints HRes.out).mono ?_
  rintro e w4 ⟨vv, rfl, hOv, hb4⟩
  obtain ⟨Av, cv, rfl, hIv, _⟩ := hOv.form
  rw [Hm.out] at hOv ⊢
  have T4 := Lib.hid (T3.out.trans (hb4.mono (by omega)))
  have P4 := Lib.hid (hold3 hb4 (by omega) P3.out)
  have Ia4 := Lib.hid (Ia3.out.keep (by omega) hb4)
  have Ib4 := Lib.hid (Ib3.out.keep (by omega) hb4)
  have Cs04 := Lib.hid (Cs03.out.keep (by omega) hb4)
  have Cs14 := Lib.hid (Cs13.out.keep (by omega) hb4)
  have z4 := hb4.size
  clear hb4 T3 P3 Ia3 Ib3 Cs03 Cs13 pc0 pc1 pc2
  obtain ⟨pc0, pc1, pc2⟩ := P4.out
  have Cv4 := Lib.hid (IntsB.of hIv)
  have Ov4 := Lib.hid (hOv)
  have Lv := Lib.hid (fun k hk => (World.ownsRow.lt hOv k hk).2)
  clear hIv hOv
  clear Ov4
  clear Lv
  clear Cs04
  clear Cs14
  go_wp2_with fail
  refine (toIntS_call _ _ _ zs _ Hn0.out hs0 Ia4.out.ints).mono ?_
  rintro e w5 ⟨Ax0, cx0, rfl, hIx0, hOx0, hb5, hcx0, hxx0⟩
  have T5 := Lib.hid (T4.out.trans (hb5.mono (by omega)))
  have P5 := Lib.hid (hold3 hb5 (by omega) P4.out)
  have Ia5 := Lib.hid (Ia4.out.keep (by omega) hb5)
  have Ib5 := Lib.hid (Ib4.out.keep (by omega) hb5)
  have Cv5 := Lib.hid (Cv4.out.keep (by omega) hb5)
  have z5 := hb5.size
  clear hb5 T4 P4 Ia4 Ib4 Cv4 pc0 pc1 pc2
  obtain ⟨pc0, pc1, pc2⟩ := P5.out
  have Cx05 := Lib.hid (IntsB.of hIx0)
  have Ox05 := Lib.hid (hOx0)
  have Lx0 := Lib.hid (fun k hk => (World.ownsRow.lt hOx0 k hk).2)
  clear hIx0 hOx0
  go_wp2_with fail
  refine (toIntS_call _ _ _ qs _ Hn1.out hs1 Ib5.out.ints).mono ?_
  rintro e w6 ⟨Ax1, cx1, rfl, hIx1, hOx1, hb6, hcx1, hxx1⟩
  have T6 := Lib.hid (T5.out.trans (hb6.mono (by omega)))
  have P6 := Lib.hid (hold3 hb6 (by omega) P5.out)
  have Ia6 := Lib.hid (Ia5.out.keep (by omega) hb6)
  have Ib6 := Lib.hid (Ib5.out.keep (by omega) hb6)
  have Cv6 := Lib.hid (Cv5.out.keep (by omega) hb6)
  have Cx06 := Lib.hid (Cx05.out.keep (by omega) hb6)
  have Ox06 := Lib.hid (Ox05.out.below hb6)
  have z6 := hb6.size
  clear hb6 T5 P5 Ia5 Ib5 Cv5 Cx05 Ox05 pc0 pc1 pc2
  obtain ⟨pc0, pc1, pc2⟩ := P6.out
  have Cx16 := Lib.hid (IntsB.of hIx1)
  have Ox16 := Lib.hid (hOx1)
  have Lx1 := Lib.hid (fun k hk => (World.ownsRow.lt hOx1 k hk).2)
  clear hIx1 hOx1
  go_wp2_with fail
  refine (toMeasure_any W t k _).mono ?_
  rintro e w7 ⟨rfl, hb7⟩
  have T7 := Lib.hid (T6.out.trans (hb7.mono (by omega)))
  have P7 := Lib.hid (hold3 hb7 (by omega) P6.out)
  have Ia7 := Lib.hid (Ia6.out.keep (by omega) hb7)
  have Ib7 := Lib.hid (Ib6.out.keep (by omega) hb7)
  have Cv7 := Lib.hid (Cv6.out.keep (by omega) hb7)
  have Cx07 := Lib.hid (Cx06.out.keep (by omega) hb7)
  have Ox07 := Lib.hid (Ox06.out.below hb7)
  have Cx17 := Lib.hid (Cx16.out.keep (by omega) hb7)
  have Ox17 := Lib.hid (Ox16.out.below hb7)
  have z7 := hb7.size
  clear hb7 T6 P6 Ia6 Ib6 Cv6 Cx06 Ox06 Cx16 Ox16 pc0 pc1 pc2
  obtain ⟨pc0, pc1, pc2⟩ := P7.out
  go_wp2_with fail
  refine (implQuad_any W t k _ _ _ zs _ _ _ qs L _ Hn0.out hs0 Cx07.out.ints Hn1.out hs1 Cx17.out.ints HRes.out).mono ?_
  rintro e w8 ⟨vg, rfl, hOg, hb8⟩
  obtain ⟨Ag, cg, rfl, hIg, _⟩ := hOg.form
  rw [Hm.out] at hOg ⊢
  have T8 := Lib.hid (T7.out.trans (hb8.mono (by omega)))
  have P8 := Lib.hid (hold3 hb8 (by omega) P7.out)
  have Ia8 := Lib.hid (Ia7.out.keep (by omega) hb8)
  have Ib8 := Lib.hid (Ib7.out.keep (by omega) hb8)
  have Cv8 := Lib.hid (Cv7.out.keep (by omega) hb8)
  have Cx08 := Lib.hid (Cx07.out.keep (by omega) hb8)
  have Ox08 := Lib.hid (Ox07.out.below hb8)
  have Cx18 := Lib.hid (Cx17.out.keep (by omega) hb8)
  have Ox18 := Lib.hid (Ox17.out.below hb8)
  have z8 := hb8.size
  clear hb8 T7 P7 Ia7 Ib7 Cv7 Cx07 Ox07 Cx17 Ox17 pc0 pc1 pc2
  obtain ⟨pc0, pc1, pc2⟩ := P8.out
  have Cg8 := Lib.hid (IntsB.of hIg)
  have Og8 := Lib.hid (hOg)
  have Lg := Lib.hid (fun k hk => (World.ownsRow.lt hOg k hk).2)
  clear hIg hOg
  go_wp2_with fail
  refine (eqIntS_t _ _ _ _ _ (L) _ Hm.out hms Cg8.out.ints Cv8.out.ints).mono ?_
  rintro e w9 ⟨rfl, hb9⟩
  have T9 := Lib.hid (T8.out.trans (hb9.mono (by omega)))
  have P9 := Lib.hid (hold3 hb9 (by omega) P8.out)
  have Ia9 := Lib.hid (Ia8.out.keep (by omega) hb9)
  have Ib9 := Lib.hid (Ib8.out.keep (by omega) hb9)
  have Cv9 := Lib.hid (Cv8.out.keep (by omega) hb9)
  have Cx09 := Lib.hid (Cx08.out.keep (by omega) hb9)
  have Ox09 := Lib.hid (Ox08.out.below hb9)
  have Cx19 := Lib.hid (Cx18.out.keep (by omega) hb9)
  have Ox19 := Lib.hid (Ox18.out.below hb9)
  have Cg9 := Lib.hid (Cg8.out.keep (by omega) hb9)
  have Og9 := Lib.hid (Og8.out.below hb9)
  have z9 := hb9.size
  clear hb9 T8 P8 Ia8 Ib8 Cv8 Cx08 Ox08 Cx18 Ox18 Cg8 Og8 pc0 pc1 pc2
  obtain ⟨pc0, pc1, pc2⟩ := P9.out
  go_wp2_with fail
  refine (toIntS_call _ _ _ zs _ Hn0.out hs0 Ia9.out.ints).mono ?_
  rintro e w10 ⟨Ay0, cy0, rfl, hIy0, hOy0, hb10, hcy0, hxy0⟩
  have T10 := Lib.hid (T9.out.trans (hb10.mono (by omega)))
  have P10 := Lib.hid (hold3 hb10 (by omega) P9.out)
  have Ia10 := Lib.hid (Ia9.out.keep (by omega) hb10)
  have Ib10 := Lib.hid (Ib9.out.keep (by omega) hb10)
  have Cv10 := Lib.hid (Cv9.out.keep (by omega) hb10)
  have Cx010 := Lib.hid (Cx09.out.keep (by omega) hb10)
  have Ox010 := Lib.hid (Ox09.out.below hb10)
  have Cx110 := Lib.hid (Cx19.out.keep (by omega) hb10)
  have Ox110 := Lib.hid (Ox19.out.below hb10)
  have Cg10 := Lib.hid (Cg9.out.keep (by omega) hb10)
  have Og10 := Lib.hid (Og9.out.below hb10)
  have z10 := hb10.size
  clear hb10 T9 P9 Ia9 Ib9 Cv9 Cx09 Ox09 Cx19 Ox19 Cg9 Og9 pc0 pc1 pc2
  obtain ⟨pc0, pc1, pc2⟩ := P10.out
  have Cy010 := Lib.hid (IntsB.of hIy0)
  clear hIy0 hOy0
  go_wp2_with fail
  refine (eqIntS_t _ _ _ _ _ (zs) _ Hn0.out hs0 Cx010.out.ints Cy010.out.ints).mono ?_
  rintro e w11 ⟨rfl, hb11⟩
  have T11 := Lib.hid (T10.out.trans (hb11.mono (by omega)))
  have P11 := Lib.hid (hold3 hb11 (by omega) P10.out)
  have Ia11 := Lib.hid (Ia10.out.keep (by omega) hb11)
  have Ib11 := Lib.hid (Ib10.out.keep (by omega) hb11)
  have Cv11 := Lib.hid (Cv10.out.keep (by omega) hb11)
  have Cx011 := Lib.hid (Cx010.out.keep (by omega) hb11)
  have Ox011 := Lib.hid (Ox010.out.below hb11)
  have Cx111 := Lib.hid (Cx110.out.keep (by omega) hb11)
  have Ox111 := Lib.hid (Ox110.out.below hb11)
  have Cg11 := Lib.hid (Cg10.out.keep (by omega) hb11)
  have Og11 := Lib.hid (Og10.out.below hb11)
  have Cy011 := Lib.hid (Cy010.out.keep (by omega) hb11)
  have z11 := hb11.size
  clear hb11 T10 P10 Ia10 Ib10 Cv10 Cx010 Ox010 Cx110 Ox110 Cg10 Og10 Cy010 pc0 pc1 pc2
  obtain ⟨pc0, pc1, pc2⟩ := P11.out
  clear Cy011
  go_wp2_with fail
  refine (toIntS_call _ _ _ qs _ Hn1.out hs1 Ib11.out.ints).mono ?_
  rintro e w12 ⟨Ay1, cy1, rfl, hIy1, hOy1, hb12, hcy1, hxy1⟩
  have T12 := Lib.hid (T11.out.trans (hb12.mono (by omega)))
  have P12 := Lib.hid (hold3 hb12 (by omega) P11.out)
  have Ia12 := Lib.hid (Ia11.out.keep (by omega) hb12)
  have Ib12 := Lib.hid (Ib11.out.keep (by omega) hb12)
  have Cv12 := Lib.hid (Cv11.out.keep (by omega) hb12)
  have Cx012 := Lib.hid (Cx011.out.keep (by omega) hb12)
  have Ox012 := Lib.hid (Ox011.out.below hb12)
  have Cx112 := Lib.hid (Cx111.out.keep (by omega) hb12)
  have Ox112 := Lib.hid (Ox111.out.below hb12)
  have Cg12 := Lib.hid (Cg11.out.keep (by omega) hb12)
  have Og12 := Lib.hid (Og11.out.below hb12)
  have z12 := hb12.size
  clear hb12 T11 P11 Ia11 Ib11 Cv11 Cx011 Ox011 Cx111 Ox111 Cg11 Og11 pc0 pc1 pc2
  obtain ⟨pc0, pc1, pc2⟩ := P12.out
  have Cy112 := Lib.hid (IntsB.of hIy1)
  clear hIy1 hOy1
  go_wp2_with fail
  refine (eqIntS_t _ _ _ _ _ (qs) _ Hn1.out hs1 Cx112.out.ints Cy112.out.ints).mono ?_
  rintro e w13 ⟨rfl, hb13⟩
  have T13 := Lib.hid (T12.out.trans (hb13.mono (by omega)))
  have P13 := Lib.hid (hold3 hb13 (by omega) P12.out)
  have Ia13 := Lib.hid (Ia12.out.keep (by omega) hb13)
  have Ib13 := Lib.hid (Ib12.out.keep (by omega) hb13)
  have Cv13 := Lib.hid (Cv12.out.keep (by omega) hb13)
  have Cx013 := Lib.hid (Cx012.out.keep (by omega) hb13)
  have Ox013 := Lib.hid (Ox012.out.below hb13)
  have Cx113 := Lib.hid (Cx112.out.keep (by omega) hb13)
  have Ox113 := Lib.hid (Ox112.out.below hb13)
  have Cg13 := Lib.hid (Cg12.out.keep (by omega) hb13)
  have Og13 := Lib.hid (Og12.out.below hb13)
  have Cy113 := Lib.hid (Cy112.out.keep (by omega) hb13)
  have z13 := hb13.size
  clear hb13 T12 P12 Ia12 Ib12 Cv12 Cx012 Ox012 Cx112 Ox112 Cg12 Og12 Cy112 pc0 pc1 pc2
  obtain ⟨pc0, pc1, pc2⟩ := P13.out
  clear Cy113
  go_wp2_with fail
  refine (markIntS_g _ _ _ w4.heap.size zs (1) _ (by omega) (by omega) Hn0.out hs0 (by omega) Ox013.out).mono ?_
  rintro e w14 ⟨rfl, hO14, hg14, hI14, hb14⟩
  have T14 := Lib.hid (T13.out.trans (hb14.mono (by omega)))
  have P14 := Lib.hid (hold3 hb14 (by omega) P13.out)
  have Ia14 := Lib.hid (Ia13.out.keep (by omega) hb14)
  have Ib14 := Lib.hid (Ib13.out.keep (by omega) hb14)
  have Cv14 := Lib.hid (Cv13.out.keep (by omega) hb14)
  have Ox114 := Lib.hid (Ox113.out.grown_lt hg14 (fun k hk => Nat.lt_of_lt_of_le (Lx0.out k hk) (by omega)))
  have Og14 := Lib.hid (Og13.out.grown_lt hg14 (fun k hk => Nat.lt_of_lt_of_le (Lx0.out k hk) (by omega)))
  have z14 := hb14.size
  clear hb14 hg14 hO14 hI14 Lx0 T13 P13 Ia13 Ib13 Cv13 Cx013 Ox013 Cx113 Ox113 Cg13 Og13 pc0 pc1 pc2
  obtain ⟨pc0, pc1, pc2⟩ := P14.out
  go_wp2_with fail
  refine (markIntS_g _ _ _ w5.heap.size qs (1 + (n : Int)) _ (by omega) (by omega) Hn1.out hs1 (by omega) Ox114.out).mono ?_
  rintro e w15 ⟨rfl, hO15, hg15, hI15, hb15⟩
  have T15 := Lib.hid (T14.out.trans (hb15.mono (by omega)))
  have P15 := Lib.hid (hold3 hb15 (by omega) P14.out)
  have Ia15 := Lib.hid (Ia14.out.keep (by omega) hb15)
  have Ib15 := Lib.hid (Ib14.out.keep (by omega) hb15)
  have Cv15 := Lib.hid (Cv14.out.keep (by omega) hb15)
  have Og15 := Lib.hid (Og14.out.grown_lt hg15 (fun k hk => Nat.lt_of_lt_of_le (Lx1.out k hk) (by omega)))
  have z15 := hb15.size
  clear hb15 hg15 hO15 hI15 Lx1 T14 P14 Ia14 Ib14 Cv14 Ox114 Og14 pc0 pc1 pc2
  obtain ⟨pc0, pc1, pc2⟩ := P15.out
  obtain ⟨Ag8, cg8, hv8, hIg8, _⟩ := Og15.out.form
  obtain rfl : Ag8 = Ag := by injection hv8 with h1; exact h1.symm
  clear hv8
  have Cg15 := Lib.hid (IntsB.of hIg8)
  clear hIg8
  go_wp2_with fail
  refine (eqIntS_t _ _ _ _ _ (L) _ Hm.out hms Cg15.out.ints Cv15.out.ints).mono ?_
  rintro e w16 ⟨rfl, hb16⟩
  have T16 := Lib.hid (T15.out.trans (hb16.mono (by omega)))
  have P16 := Lib.hid (hold3 hb16 (by omega) P15.out)
  have Ia16 := Lib.hid (Ia15.out.keep (by omega) hb16)
  have Ib16 := Lib.hid (Ib15.out.keep (by omega) hb16)
  have Cv16 := Lib.hid (Cv15.out.keep (by omega) hb16)
  have Og16 := Lib.hid (Og15.out.below hb16)
  have Cg16 := Lib.hid (Cg15.out.keep (by omega) hb16)
  have z16 := hb16.size
  clear hb16 T15 P15 Ia15 Ib15 Cv15 Og15 Cg15 pc0 pc1 pc2
  obtain ⟨pc0, pc1, pc2⟩ := P16.out
  go_wp2_with fail
  refine (markIntS_g _ _ _ w7.heap.size (L) 1 _ (by omega) (by omega) Hm.out hms (by omega) Og16.out).mono ?_
  rintro e w17 ⟨rfl, hO17, hg17, hI17, hb17⟩
  have T17 := Lib.hid (T16.out.trans (hb17.mono (by omega)))
  have P17 := Lib.hid (hold3 hb17 (by omega) P16.out)
  have Ia17 := Lib.hid (Ia16.out.keep (by omega) hb17)
  have Ib17 := Lib.hid (Ib16.out.keep (by omega) hb17)
  have Cv17 := Lib.hid (Cv16.out.keep (by omega) hb17)
  have z17 := hb17.size
  have Mg17 := Lib.hid hI17
  clear hb17 hg17 hO17 hI17 T16 P16 Ia16 Ib16 Cv16 Og16 Cg16 pc0 pc1 pc2
  obtain ⟨pc0, pc1, pc2⟩ := P17.out
  go_wp2_with fail
  refine (heldIntS_any _ _ _ 1 _ (by omega) (by omega) hms Mg17.out).mono ?_
  rintro e w' ⟨rfl, rfl⟩
  go_wp2_with fail
  refine (toMeasure_any W t k _).mono ?_
  rintro e w18 ⟨rfl, hb18⟩
  have T18 := Lib.hid (T17.out.trans (hb18.mono (by omega)))
  have P18 := Lib.hid (hold3 hb18 (by omega) P17.out)
  have Ia18 := Lib.hid (Ia17.out.keep (by omega) hb18)
  have Ib18 := Lib.hid (Ib17.out.keep (by omega) hb18)
  have Cv18 := Lib.hid (Cv17.out.keep (by omega) hb18)
  have Mg18 := Lib.hid (Mg17.out.below hb18)
  have z18 := hb18.size
  clear hb18 T17 P17 Ia17 Ib17 Cv17 Mg17 pc0 pc1 pc2
  obtain ⟨pc0, pc1, pc2⟩ := P18.out
  go_wp2_with fail
  refine (toIntS_call _ _ _ zs _ Hn0.out hs0 Ia18.out.ints).mono ?_
  rintro e w19 ⟨Au0, cu0, rfl, hIu0, hOu0, hb19, hcu0, hxu0⟩
  have T19 := Lib.hid (T18.out.trans (hb19.mono (by omega)))
  have P19 := Lib.hid (hold3 hb19 (by omega) P18.out)
  have Ia19 := Lib.hid (Ia18.out.keep (by omega) hb19)
  have Ib19 := Lib.hid (Ib18.out.keep (by omega) hb19)
  have Cv19 := Lib.hid (Cv18.out.keep (by omega) hb19)
  have Mg19 := Lib.hid (Mg18.out.below hb19)
  have z19 := hb19.size
  clear hb19 T18 P18 Ia18 Ib18 Cv18 Mg18 pc0 pc1 pc2
  obtain ⟨pc0, pc1, pc2⟩ := P19.out
  have Cu019 := Lib.hid (IntsB.of hIu0)
  clear hIu0 hOu0
  go_wp2_with fail
  refine (toIntS_call _ _ _ qs _ Hn1.out hs1 Ib19.out.ints).mono ?_
  rintro e w20 ⟨Au1, cu1, rfl, hIu1, hOu1, hb20, hcu1, hxu1⟩
  have T20 := Lib.hid (T19.out.trans (hb20.mono (by omega)))
  have P20 := Lib.hid (hold3 hb20 (by omega) P19.out)
  have Ia20 := Lib.hid (Ia19.out.keep (by omega) hb20)
  have Ib20 := Lib.hid (Ib19.out.keep (by omega) hb20)
  have Cv20 := Lib.hid (Cv19.out.keep (by omega) hb20)
  have Mg20 := Lib.hid (Mg19.out.below hb20)
  have Cu020 := Lib.hid (Cu019.out.keep (by omega) hb20)
  have z20 := hb20.size
  clear hb20 T19 P19 Ia19 Ib19 Cv19 Mg19 Cu019 pc0 pc1 pc2
  obtain ⟨pc0, pc1, pc2⟩ := P20.out
  have Cu120 := Lib.hid (IntsB.of hIu1)
  clear hIu1 hOu1
  go_wp2_with fail
  refine (implQuad_any W t k _ _ _ zs _ _ _ qs L _ Hn0.out hs0 Cu020.out.ints Hn1.out hs1 Cu120.out.ints HRes.out).mono ?_
  rintro e w21 ⟨vh, rfl, hOh, hb21⟩
  obtain ⟨Ah, ch, rfl, hIh, _⟩ := hOh.form
  rw [Hm.out] at hOh ⊢
  have T21 := Lib.hid (T20.out.trans (hb21.mono (by omega)))
  have P21 := Lib.hid (hold3 hb21 (by omega) P20.out)
  have Ia21 := Lib.hid (Ia20.out.keep (by omega) hb21)
  have Ib21 := Lib.hid (Ib20.out.keep (by omega) hb21)
  have Cv21 := Lib.hid (Cv20.out.keep (by omega) hb21)
  have Mg21 := Lib.hid (Mg20.out.below hb21)
  have Cu021 := Lib.hid (Cu020.out.keep (by omega) hb21)
  have Cu121 := Lib.hid (Cu120.out.keep (by omega) hb21)
  have z21 := hb21.size
  clear hb21 T20 P20 Ia20 Ib20 Cv20 Mg20 Cu020 Cu120 pc0 pc1 pc2
  obtain ⟨pc0, pc1, pc2⟩ := P21.out
  have Ch21 := Lib.hid (IntsB.of hIh)
  have Oh21 := Lib.hid (hOh)
  have Lh := Lib.hid (fun k hk => (World.ownsRow.lt hOh k hk).2)
  clear hIh hOh
  clear Oh21
  clear Lh
  go_wp2_with fail
  refine (eqIntS_t _ _ _ _ _ (L) _ Hm.out hms Ch21.out.ints Cv21.out.ints).mono ?_
  rintro e w22 ⟨rfl, hb22⟩
  have T22 := Lib.hid (T21.out.trans (hb22.mono (by omega)))
  have P22 := Lib.hid (hold3 hb22 (by omega) P21.out)
  have Ia22 := Lib.hid (Ia21.out.keep (by omega) hb22)
  have Ib22 := Lib.hid (Ib21.out.keep (by omega) hb22)
  have Cv22 := Lib.hid (Cv21.out.keep (by omega) hb22)
  have Mg22 := Lib.hid (Mg21.out.below hb22)
  have Cu022 := Lib.hid (Cu021.out.keep (by omega) hb22)
  have Cu122 := Lib.hid (Cu121.out.keep (by omega) hb22)
  have Ch22 := Lib.hid (Ch21.out.keep (by omega) hb22)
  have z22 := hb22.size
  clear hb22 T21 P21 Ia21 Ib21 Cv21 Mg21 Cu021 Cu121 Ch21 pc0 pc1 pc2
  obtain ⟨pc0, pc1, pc2⟩ := P22.out
  go_wp2_with fail
  refine (heldIntS_any _ _ _ 1 _ (by omega) (by omega) hms Mg22.out).mono ?_
  rintro e w' ⟨rfl, rfl⟩
  go_wp2
  go_ret
  exact ⟨rfl, T22.out⟩

set_option maxRecDepth 100000 in
set_option maxHeartbeats 3200000 in
theorem fnExactCenterLine_walk (m : Msr) (A : Option Addr) (n c : Nat) (zs : List Int) (A2 : Option Addr) (n2 c2 : Nat) (qs : List Int) (w : World) (hn0 : zs.length = n) (hm0 : n ≤ maxLen) (h0 : Ints w A zs) (wf0 : ∀ z ∈ zs, (Lit.int .i64 z).wf = true) (hn1 : qs.length = n2) (hm1 : n2 ≤ maxLen) (h1 : Ints w A2 qs) (wf1 : ∀ z ∈ qs, (Lit.int .i64 z).wf = true) :
    Calls Try.prog 18 #[.agg #[.int .i64 m.w, .int .i64 m.t, .int .i64 m.k], .slice A n c, .slice A2 n2 c2] w fun e w' => e = .returned (.bool true) ∧ Below w.heap.size w w' := by
  obtain ⟨W, t, k⟩ := m
  simp only
  have Hn0 := Lib.hid hn0; clear hn0
  have hmm0 := hm0
  unfold maxLen at hm0
  have Hn1 := Lib.hid hn1; clear hn1
  have hmm1 := hm1
  unfold maxLen at hm1
  obtain ⟨w0, hw0, hb0, hz0, P⟩ := lmWorld w W t k
  have T0 := Lib.hid hb0; have P0 := Lib.hid P; have Z0 := Lib.hid hz0
  obtain ⟨p0, p1, p2⟩ := P0.out
  have hz := Z0.out
  have Ia0 := Lib.hid ((IntsB.of h0).keep (Nat.le_refl _) hb0)
  have Ib0 := Lib.hid ((IntsB.of h1).keep (Nat.le_refl _) hb0)
  clear hb0 h0 h1
  by_cases hbig0 : 1048576 < n
  · go_enter Try.func18, Try.ntmps18
    go_wp2_with fail
    go_ret
    exact ⟨rfl, by first | exact T0.out | (rw [hw0]; exact T0.out)⟩
  have hs0 : n ≤ 1048576 := by omega
  by_cases hbig1 : 1048576 < n2
  · go_enter Try.func18, Try.ntmps18
    go_wp2_with fail
    go_ret
    exact ⟨rfl, by first | exact T0.out | (rw [hw0]; exact T0.out)⟩
  have hs1 : n2 ≤ 1048576 := by omega
  obtain ⟨L, hL⟩ := qdRes_ex ⟨W, t, k⟩ true zs qs
  have hL3 : L.length ≤ 120 := hL.2.2
  have HRes := Lib.hid hL
  clear hL
  obtain ⟨m, hm1⟩ : ∃ m, (L).length = m := ⟨_, rfl⟩
  have hms : m ≤ 1048576 := by rw [← hm1]; omega
  have Hm := Lib.hid hm1; clear hm1
  have hfl : (qdB ⟨W, t, k⟩ zs qs != qdB ⟨W, t, k⟩ zs qs) = false := by simp
  go_enter Try.func18, Try.ntmps18
  go_wp2_with fail
  clear hw0
  refine (toMeasure_any W t k _).mono ?_
  rintro e w1 ⟨rfl, hb1⟩
  have T1 := Lib.hid (T0.out.trans (hb1.mono (by omega)))
  have P1 := Lib.hid (hold3 hb1 (by omega) P0.out)
  have Ia1 := Lib.hid (Ia0.out.keep (by omega) hb1)
  have Ib1 := Lib.hid (Ib0.out.keep (by omega) hb1)
  have z1 := hb1.size
  clear hb1 T0 P0 Ia0 Ib0 p0 p1 p2
  obtain ⟨pc0, pc1, pc2⟩ := P1.out
  go_wp2_with fail
  refine (toIntS_call _ _ _ zs _ Hn0.out hs0 Ia1.out.ints).mono ?_
  rintro e w2 ⟨As0, cs0, rfl, hIs0, hOs0, hb2, hcs0, hxs0⟩
  have T2 := Lib.hid (T1.out.trans (hb2.mono (by omega)))
  have P2 := Lib.hid (hold3 hb2 (by omega) P1.out)
  have Ia2 := Lib.hid (Ia1.out.keep (by omega) hb2)
  have Ib2 := Lib.hid (Ib1.out.keep (by omega) hb2)
  have z2 := hb2.size
  clear hb2 T1 P1 Ia1 Ib1 pc0 pc1 pc2
  obtain ⟨pc0, pc1, pc2⟩ := P2.out
  have Cs02 := Lib.hid (IntsB.of hIs0)
  clear hIs0 hOs0
  go_wp2_with fail
  refine (toIntS_call _ _ _ qs _ Hn1.out hs1 Ib2.out.ints).mono ?_
  rintro e w3 ⟨As1, cs1, rfl, hIs1, hOs1, hb3, hcs1, hxs1⟩
  have T3 := Lib.hid (T2.out.trans (hb3.mono (by omega)))
  have P3 := Lib.hid (hold3 hb3 (by omega) P2.out)
  have Ia3 := Lib.hid (Ia2.out.keep (by omega) hb3)
  have Ib3 := Lib.hid (Ib2.out.keep (by omega) hb3)
  have Cs03 := Lib.hid (Cs02.out.keep (by omega) hb3)
  have z3 := hb3.size
  clear hb3 T2 P2 Ia2 Ib2 Cs02 pc0 pc1 pc2
  obtain ⟨pc0, pc1, pc2⟩ := P3.out
  have Cs13 := Lib.hid (IntsB.of hIs1)
  clear hIs1 hOs1
  go_wp2_with fail
  refine (specCenter_any W t k _ _ _ zs _ _ _ qs L _ Hn0.out hs0 Cs03.out.ints Hn1.out hs1 Cs13.out.ints HRes.out).mono ?_
  rintro e w4 ⟨vv, rfl, hOv, hb4⟩
  obtain ⟨Av, cv, rfl, hIv, _⟩ := hOv.form
  rw [Hm.out] at hOv ⊢
  have T4 := Lib.hid (T3.out.trans (hb4.mono (by omega)))
  have P4 := Lib.hid (hold3 hb4 (by omega) P3.out)
  have Ia4 := Lib.hid (Ia3.out.keep (by omega) hb4)
  have Ib4 := Lib.hid (Ib3.out.keep (by omega) hb4)
  have Cs04 := Lib.hid (Cs03.out.keep (by omega) hb4)
  have Cs14 := Lib.hid (Cs13.out.keep (by omega) hb4)
  have z4 := hb4.size
  clear hb4 T3 P3 Ia3 Ib3 Cs03 Cs13 pc0 pc1 pc2
  obtain ⟨pc0, pc1, pc2⟩ := P4.out
  have Cv4 := Lib.hid (IntsB.of hIv)
  have Ov4 := Lib.hid (hOv)
  have Lv := Lib.hid (fun k hk => (World.ownsRow.lt hOv k hk).2)
  clear hIv hOv
  clear Ov4
  clear Lv
  clear Cs04
  clear Cs14
  go_wp2_with fail
  refine (toIntS_call _ _ _ zs _ Hn0.out hs0 Ia4.out.ints).mono ?_
  rintro e w5 ⟨Ax0, cx0, rfl, hIx0, hOx0, hb5, hcx0, hxx0⟩
  have T5 := Lib.hid (T4.out.trans (hb5.mono (by omega)))
  have P5 := Lib.hid (hold3 hb5 (by omega) P4.out)
  have Ia5 := Lib.hid (Ia4.out.keep (by omega) hb5)
  have Ib5 := Lib.hid (Ib4.out.keep (by omega) hb5)
  have Cv5 := Lib.hid (Cv4.out.keep (by omega) hb5)
  have z5 := hb5.size
  clear hb5 T4 P4 Ia4 Ib4 Cv4 pc0 pc1 pc2
  obtain ⟨pc0, pc1, pc2⟩ := P5.out
  have Cx05 := Lib.hid (IntsB.of hIx0)
  have Ox05 := Lib.hid (hOx0)
  have Lx0 := Lib.hid (fun k hk => (World.ownsRow.lt hOx0 k hk).2)
  clear hIx0 hOx0
  go_wp2_with fail
  refine (toIntS_call _ _ _ qs _ Hn1.out hs1 Ib5.out.ints).mono ?_
  rintro e w6 ⟨Ax1, cx1, rfl, hIx1, hOx1, hb6, hcx1, hxx1⟩
  have T6 := Lib.hid (T5.out.trans (hb6.mono (by omega)))
  have P6 := Lib.hid (hold3 hb6 (by omega) P5.out)
  have Ia6 := Lib.hid (Ia5.out.keep (by omega) hb6)
  have Ib6 := Lib.hid (Ib5.out.keep (by omega) hb6)
  have Cv6 := Lib.hid (Cv5.out.keep (by omega) hb6)
  have Cx06 := Lib.hid (Cx05.out.keep (by omega) hb6)
  have Ox06 := Lib.hid (Ox05.out.below hb6)
  have z6 := hb6.size
  clear hb6 T5 P5 Ia5 Ib5 Cv5 Cx05 Ox05 pc0 pc1 pc2
  obtain ⟨pc0, pc1, pc2⟩ := P6.out
  have Cx16 := Lib.hid (IntsB.of hIx1)
  have Ox16 := Lib.hid (hOx1)
  have Lx1 := Lib.hid (fun k hk => (World.ownsRow.lt hOx1 k hk).2)
  clear hIx1 hOx1
  go_wp2_with fail
  refine (toMeasure_any W t k _).mono ?_
  rintro e w7 ⟨rfl, hb7⟩
  have T7 := Lib.hid (T6.out.trans (hb7.mono (by omega)))
  have P7 := Lib.hid (hold3 hb7 (by omega) P6.out)
  have Ia7 := Lib.hid (Ia6.out.keep (by omega) hb7)
  have Ib7 := Lib.hid (Ib6.out.keep (by omega) hb7)
  have Cv7 := Lib.hid (Cv6.out.keep (by omega) hb7)
  have Cx07 := Lib.hid (Cx06.out.keep (by omega) hb7)
  have Ox07 := Lib.hid (Ox06.out.below hb7)
  have Cx17 := Lib.hid (Cx16.out.keep (by omega) hb7)
  have Ox17 := Lib.hid (Ox16.out.below hb7)
  have z7 := hb7.size
  clear hb7 T6 P6 Ia6 Ib6 Cv6 Cx06 Ox06 Cx16 Ox16 pc0 pc1 pc2
  obtain ⟨pc0, pc1, pc2⟩ := P7.out
  go_wp2_with fail
  refine (implCenter_any W t k _ _ _ zs _ _ _ qs L _ Hn0.out hs0 Cx07.out.ints Hn1.out hs1 Cx17.out.ints HRes.out).mono ?_
  rintro e w8 ⟨vg, rfl, hOg, hb8⟩
  obtain ⟨Ag, cg, rfl, hIg, _⟩ := hOg.form
  rw [Hm.out] at hOg ⊢
  have T8 := Lib.hid (T7.out.trans (hb8.mono (by omega)))
  have P8 := Lib.hid (hold3 hb8 (by omega) P7.out)
  have Ia8 := Lib.hid (Ia7.out.keep (by omega) hb8)
  have Ib8 := Lib.hid (Ib7.out.keep (by omega) hb8)
  have Cv8 := Lib.hid (Cv7.out.keep (by omega) hb8)
  have Cx08 := Lib.hid (Cx07.out.keep (by omega) hb8)
  have Ox08 := Lib.hid (Ox07.out.below hb8)
  have Cx18 := Lib.hid (Cx17.out.keep (by omega) hb8)
  have Ox18 := Lib.hid (Ox17.out.below hb8)
  have z8 := hb8.size
  clear hb8 T7 P7 Ia7 Ib7 Cv7 Cx07 Ox07 Cx17 Ox17 pc0 pc1 pc2
  obtain ⟨pc0, pc1, pc2⟩ := P8.out
  have Cg8 := Lib.hid (IntsB.of hIg)
  have Og8 := Lib.hid (hOg)
  have Lg := Lib.hid (fun k hk => (World.ownsRow.lt hOg k hk).2)
  clear hIg hOg
  go_wp2_with fail
  refine (eqIntS_t _ _ _ _ _ (L) _ Hm.out hms Cg8.out.ints Cv8.out.ints).mono ?_
  rintro e w9 ⟨rfl, hb9⟩
  have T9 := Lib.hid (T8.out.trans (hb9.mono (by omega)))
  have P9 := Lib.hid (hold3 hb9 (by omega) P8.out)
  have Ia9 := Lib.hid (Ia8.out.keep (by omega) hb9)
  have Ib9 := Lib.hid (Ib8.out.keep (by omega) hb9)
  have Cv9 := Lib.hid (Cv8.out.keep (by omega) hb9)
  have Cx09 := Lib.hid (Cx08.out.keep (by omega) hb9)
  have Ox09 := Lib.hid (Ox08.out.below hb9)
  have Cx19 := Lib.hid (Cx18.out.keep (by omega) hb9)
  have Ox19 := Lib.hid (Ox18.out.below hb9)
  have Cg9 := Lib.hid (Cg8.out.keep (by omega) hb9)
  have Og9 := Lib.hid (Og8.out.below hb9)
  have z9 := hb9.size
  clear hb9 T8 P8 Ia8 Ib8 Cv8 Cx08 Ox08 Cx18 Ox18 Cg8 Og8 pc0 pc1 pc2
  obtain ⟨pc0, pc1, pc2⟩ := P9.out
  go_wp2_with fail
  refine (toIntS_call _ _ _ zs _ Hn0.out hs0 Ia9.out.ints).mono ?_
  rintro e w10 ⟨Ay0, cy0, rfl, hIy0, hOy0, hb10, hcy0, hxy0⟩
  have T10 := Lib.hid (T9.out.trans (hb10.mono (by omega)))
  have P10 := Lib.hid (hold3 hb10 (by omega) P9.out)
  have Ia10 := Lib.hid (Ia9.out.keep (by omega) hb10)
  have Ib10 := Lib.hid (Ib9.out.keep (by omega) hb10)
  have Cv10 := Lib.hid (Cv9.out.keep (by omega) hb10)
  have Cx010 := Lib.hid (Cx09.out.keep (by omega) hb10)
  have Ox010 := Lib.hid (Ox09.out.below hb10)
  have Cx110 := Lib.hid (Cx19.out.keep (by omega) hb10)
  have Ox110 := Lib.hid (Ox19.out.below hb10)
  have Cg10 := Lib.hid (Cg9.out.keep (by omega) hb10)
  have Og10 := Lib.hid (Og9.out.below hb10)
  have z10 := hb10.size
  clear hb10 T9 P9 Ia9 Ib9 Cv9 Cx09 Ox09 Cx19 Ox19 Cg9 Og9 pc0 pc1 pc2
  obtain ⟨pc0, pc1, pc2⟩ := P10.out
  have Cy010 := Lib.hid (IntsB.of hIy0)
  clear hIy0 hOy0
  go_wp2_with fail
  refine (eqIntS_t _ _ _ _ _ (zs) _ Hn0.out hs0 Cx010.out.ints Cy010.out.ints).mono ?_
  rintro e w11 ⟨rfl, hb11⟩
  have T11 := Lib.hid (T10.out.trans (hb11.mono (by omega)))
  have P11 := Lib.hid (hold3 hb11 (by omega) P10.out)
  have Ia11 := Lib.hid (Ia10.out.keep (by omega) hb11)
  have Ib11 := Lib.hid (Ib10.out.keep (by omega) hb11)
  have Cv11 := Lib.hid (Cv10.out.keep (by omega) hb11)
  have Cx011 := Lib.hid (Cx010.out.keep (by omega) hb11)
  have Ox011 := Lib.hid (Ox010.out.below hb11)
  have Cx111 := Lib.hid (Cx110.out.keep (by omega) hb11)
  have Ox111 := Lib.hid (Ox110.out.below hb11)
  have Cg11 := Lib.hid (Cg10.out.keep (by omega) hb11)
  have Og11 := Lib.hid (Og10.out.below hb11)
  have Cy011 := Lib.hid (Cy010.out.keep (by omega) hb11)
  have z11 := hb11.size
  clear hb11 T10 P10 Ia10 Ib10 Cv10 Cx010 Ox010 Cx110 Ox110 Cg10 Og10 Cy010 pc0 pc1 pc2
  obtain ⟨pc0, pc1, pc2⟩ := P11.out
  clear Cy011
  go_wp2_with fail
  refine (toIntS_call _ _ _ qs _ Hn1.out hs1 Ib11.out.ints).mono ?_
  rintro e w12 ⟨Ay1, cy1, rfl, hIy1, hOy1, hb12, hcy1, hxy1⟩
  have T12 := Lib.hid (T11.out.trans (hb12.mono (by omega)))
  have P12 := Lib.hid (hold3 hb12 (by omega) P11.out)
  have Ia12 := Lib.hid (Ia11.out.keep (by omega) hb12)
  have Ib12 := Lib.hid (Ib11.out.keep (by omega) hb12)
  have Cv12 := Lib.hid (Cv11.out.keep (by omega) hb12)
  have Cx012 := Lib.hid (Cx011.out.keep (by omega) hb12)
  have Ox012 := Lib.hid (Ox011.out.below hb12)
  have Cx112 := Lib.hid (Cx111.out.keep (by omega) hb12)
  have Ox112 := Lib.hid (Ox111.out.below hb12)
  have Cg12 := Lib.hid (Cg11.out.keep (by omega) hb12)
  have Og12 := Lib.hid (Og11.out.below hb12)
  have z12 := hb12.size
  clear hb12 T11 P11 Ia11 Ib11 Cv11 Cx011 Ox011 Cx111 Ox111 Cg11 Og11 pc0 pc1 pc2
  obtain ⟨pc0, pc1, pc2⟩ := P12.out
  have Cy112 := Lib.hid (IntsB.of hIy1)
  clear hIy1 hOy1
  go_wp2_with fail
  refine (eqIntS_t _ _ _ _ _ (qs) _ Hn1.out hs1 Cx112.out.ints Cy112.out.ints).mono ?_
  rintro e w13 ⟨rfl, hb13⟩
  have T13 := Lib.hid (T12.out.trans (hb13.mono (by omega)))
  have P13 := Lib.hid (hold3 hb13 (by omega) P12.out)
  have Ia13 := Lib.hid (Ia12.out.keep (by omega) hb13)
  have Ib13 := Lib.hid (Ib12.out.keep (by omega) hb13)
  have Cv13 := Lib.hid (Cv12.out.keep (by omega) hb13)
  have Cx013 := Lib.hid (Cx012.out.keep (by omega) hb13)
  have Ox013 := Lib.hid (Ox012.out.below hb13)
  have Cx113 := Lib.hid (Cx112.out.keep (by omega) hb13)
  have Ox113 := Lib.hid (Ox112.out.below hb13)
  have Cg13 := Lib.hid (Cg12.out.keep (by omega) hb13)
  have Og13 := Lib.hid (Og12.out.below hb13)
  have Cy113 := Lib.hid (Cy112.out.keep (by omega) hb13)
  have z13 := hb13.size
  clear hb13 T12 P12 Ia12 Ib12 Cv12 Cx012 Ox012 Cx112 Ox112 Cg12 Og12 Cy112 pc0 pc1 pc2
  obtain ⟨pc0, pc1, pc2⟩ := P13.out
  clear Cy113
  go_wp2_with fail
  refine (markIntS_g _ _ _ w4.heap.size zs (1) _ (by omega) (by omega) Hn0.out hs0 (by omega) Ox013.out).mono ?_
  rintro e w14 ⟨rfl, hO14, hg14, hI14, hb14⟩
  have T14 := Lib.hid (T13.out.trans (hb14.mono (by omega)))
  have P14 := Lib.hid (hold3 hb14 (by omega) P13.out)
  have Ia14 := Lib.hid (Ia13.out.keep (by omega) hb14)
  have Ib14 := Lib.hid (Ib13.out.keep (by omega) hb14)
  have Cv14 := Lib.hid (Cv13.out.keep (by omega) hb14)
  have Ox114 := Lib.hid (Ox113.out.grown_lt hg14 (fun k hk => Nat.lt_of_lt_of_le (Lx0.out k hk) (by omega)))
  have Og14 := Lib.hid (Og13.out.grown_lt hg14 (fun k hk => Nat.lt_of_lt_of_le (Lx0.out k hk) (by omega)))
  have z14 := hb14.size
  clear hb14 hg14 hO14 hI14 Lx0 T13 P13 Ia13 Ib13 Cv13 Cx013 Ox013 Cx113 Ox113 Cg13 Og13 pc0 pc1 pc2
  obtain ⟨pc0, pc1, pc2⟩ := P14.out
  go_wp2_with fail
  refine (markIntS_g _ _ _ w5.heap.size qs (1 + (n : Int)) _ (by omega) (by omega) Hn1.out hs1 (by omega) Ox114.out).mono ?_
  rintro e w15 ⟨rfl, hO15, hg15, hI15, hb15⟩
  have T15 := Lib.hid (T14.out.trans (hb15.mono (by omega)))
  have P15 := Lib.hid (hold3 hb15 (by omega) P14.out)
  have Ia15 := Lib.hid (Ia14.out.keep (by omega) hb15)
  have Ib15 := Lib.hid (Ib14.out.keep (by omega) hb15)
  have Cv15 := Lib.hid (Cv14.out.keep (by omega) hb15)
  have Og15 := Lib.hid (Og14.out.grown_lt hg15 (fun k hk => Nat.lt_of_lt_of_le (Lx1.out k hk) (by omega)))
  have z15 := hb15.size
  clear hb15 hg15 hO15 hI15 Lx1 T14 P14 Ia14 Ib14 Cv14 Ox114 Og14 pc0 pc1 pc2
  obtain ⟨pc0, pc1, pc2⟩ := P15.out
  obtain ⟨Ag8, cg8, hv8, hIg8, _⟩ := Og15.out.form
  obtain rfl : Ag8 = Ag := by injection hv8 with h1; exact h1.symm
  clear hv8
  have Cg15 := Lib.hid (IntsB.of hIg8)
  clear hIg8
  go_wp2_with fail
  refine (eqIntS_t _ _ _ _ _ (L) _ Hm.out hms Cg15.out.ints Cv15.out.ints).mono ?_
  rintro e w16 ⟨rfl, hb16⟩
  have T16 := Lib.hid (T15.out.trans (hb16.mono (by omega)))
  have P16 := Lib.hid (hold3 hb16 (by omega) P15.out)
  have Ia16 := Lib.hid (Ia15.out.keep (by omega) hb16)
  have Ib16 := Lib.hid (Ib15.out.keep (by omega) hb16)
  have Cv16 := Lib.hid (Cv15.out.keep (by omega) hb16)
  have Og16 := Lib.hid (Og15.out.below hb16)
  have Cg16 := Lib.hid (Cg15.out.keep (by omega) hb16)
  have z16 := hb16.size
  clear hb16 T15 P15 Ia15 Ib15 Cv15 Og15 Cg15 pc0 pc1 pc2
  obtain ⟨pc0, pc1, pc2⟩ := P16.out
  go_wp2_with fail
  refine (markIntS_g _ _ _ w7.heap.size (L) 1 _ (by omega) (by omega) Hm.out hms (by omega) Og16.out).mono ?_
  rintro e w17 ⟨rfl, hO17, hg17, hI17, hb17⟩
  have T17 := Lib.hid (T16.out.trans (hb17.mono (by omega)))
  have P17 := Lib.hid (hold3 hb17 (by omega) P16.out)
  have Ia17 := Lib.hid (Ia16.out.keep (by omega) hb17)
  have Ib17 := Lib.hid (Ib16.out.keep (by omega) hb17)
  have Cv17 := Lib.hid (Cv16.out.keep (by omega) hb17)
  have z17 := hb17.size
  have Mg17 := Lib.hid hI17
  clear hb17 hg17 hO17 hI17 T16 P16 Ia16 Ib16 Cv16 Og16 Cg16 pc0 pc1 pc2
  obtain ⟨pc0, pc1, pc2⟩ := P17.out
  go_wp2_with fail
  refine (heldIntS_any _ _ _ 1 _ (by omega) (by omega) hms Mg17.out).mono ?_
  rintro e w' ⟨rfl, rfl⟩
  go_wp2_with fail
  refine (toMeasure_any W t k _).mono ?_
  rintro e w18 ⟨rfl, hb18⟩
  have T18 := Lib.hid (T17.out.trans (hb18.mono (by omega)))
  have P18 := Lib.hid (hold3 hb18 (by omega) P17.out)
  have Ia18 := Lib.hid (Ia17.out.keep (by omega) hb18)
  have Ib18 := Lib.hid (Ib17.out.keep (by omega) hb18)
  have Cv18 := Lib.hid (Cv17.out.keep (by omega) hb18)
  have Mg18 := Lib.hid (Mg17.out.below hb18)
  have z18 := hb18.size
  clear hb18 T17 P17 Ia17 Ib17 Cv17 Mg17 pc0 pc1 pc2
  obtain ⟨pc0, pc1, pc2⟩ := P18.out
  go_wp2_with fail
  refine (toIntS_call _ _ _ zs _ Hn0.out hs0 Ia18.out.ints).mono ?_
  rintro e w19 ⟨Au0, cu0, rfl, hIu0, hOu0, hb19, hcu0, hxu0⟩
  have T19 := Lib.hid (T18.out.trans (hb19.mono (by omega)))
  have P19 := Lib.hid (hold3 hb19 (by omega) P18.out)
  have Ia19 := Lib.hid (Ia18.out.keep (by omega) hb19)
  have Ib19 := Lib.hid (Ib18.out.keep (by omega) hb19)
  have Cv19 := Lib.hid (Cv18.out.keep (by omega) hb19)
  have Mg19 := Lib.hid (Mg18.out.below hb19)
  have z19 := hb19.size
  clear hb19 T18 P18 Ia18 Ib18 Cv18 Mg18 pc0 pc1 pc2
  obtain ⟨pc0, pc1, pc2⟩ := P19.out
  have Cu019 := Lib.hid (IntsB.of hIu0)
  clear hIu0 hOu0
  go_wp2_with fail
  refine (toIntS_call _ _ _ qs _ Hn1.out hs1 Ib19.out.ints).mono ?_
  rintro e w20 ⟨Au1, cu1, rfl, hIu1, hOu1, hb20, hcu1, hxu1⟩
  have T20 := Lib.hid (T19.out.trans (hb20.mono (by omega)))
  have P20 := Lib.hid (hold3 hb20 (by omega) P19.out)
  have Ia20 := Lib.hid (Ia19.out.keep (by omega) hb20)
  have Ib20 := Lib.hid (Ib19.out.keep (by omega) hb20)
  have Cv20 := Lib.hid (Cv19.out.keep (by omega) hb20)
  have Mg20 := Lib.hid (Mg19.out.below hb20)
  have Cu020 := Lib.hid (Cu019.out.keep (by omega) hb20)
  have z20 := hb20.size
  clear hb20 T19 P19 Ia19 Ib19 Cv19 Mg19 Cu019 pc0 pc1 pc2
  obtain ⟨pc0, pc1, pc2⟩ := P20.out
  have Cu120 := Lib.hid (IntsB.of hIu1)
  clear hIu1 hOu1
  go_wp2_with fail
  refine (implCenter_any W t k _ _ _ zs _ _ _ qs L _ Hn0.out hs0 Cu020.out.ints Hn1.out hs1 Cu120.out.ints HRes.out).mono ?_
  rintro e w21 ⟨vh, rfl, hOh, hb21⟩
  obtain ⟨Ah, ch, rfl, hIh, _⟩ := hOh.form
  rw [Hm.out] at hOh ⊢
  have T21 := Lib.hid (T20.out.trans (hb21.mono (by omega)))
  have P21 := Lib.hid (hold3 hb21 (by omega) P20.out)
  have Ia21 := Lib.hid (Ia20.out.keep (by omega) hb21)
  have Ib21 := Lib.hid (Ib20.out.keep (by omega) hb21)
  have Cv21 := Lib.hid (Cv20.out.keep (by omega) hb21)
  have Mg21 := Lib.hid (Mg20.out.below hb21)
  have Cu021 := Lib.hid (Cu020.out.keep (by omega) hb21)
  have Cu121 := Lib.hid (Cu120.out.keep (by omega) hb21)
  have z21 := hb21.size
  clear hb21 T20 P20 Ia20 Ib20 Cv20 Mg20 Cu020 Cu120 pc0 pc1 pc2
  obtain ⟨pc0, pc1, pc2⟩ := P21.out
  have Ch21 := Lib.hid (IntsB.of hIh)
  have Oh21 := Lib.hid (hOh)
  have Lh := Lib.hid (fun k hk => (World.ownsRow.lt hOh k hk).2)
  clear hIh hOh
  clear Oh21
  clear Lh
  go_wp2_with fail
  refine (eqIntS_t _ _ _ _ _ (L) _ Hm.out hms Ch21.out.ints Cv21.out.ints).mono ?_
  rintro e w22 ⟨rfl, hb22⟩
  have T22 := Lib.hid (T21.out.trans (hb22.mono (by omega)))
  have P22 := Lib.hid (hold3 hb22 (by omega) P21.out)
  have Ia22 := Lib.hid (Ia21.out.keep (by omega) hb22)
  have Ib22 := Lib.hid (Ib21.out.keep (by omega) hb22)
  have Cv22 := Lib.hid (Cv21.out.keep (by omega) hb22)
  have Mg22 := Lib.hid (Mg21.out.below hb22)
  have Cu022 := Lib.hid (Cu021.out.keep (by omega) hb22)
  have Cu122 := Lib.hid (Cu121.out.keep (by omega) hb22)
  have Ch22 := Lib.hid (Ch21.out.keep (by omega) hb22)
  have z22 := hb22.size
  clear hb22 T21 P21 Ia21 Ib21 Cv21 Mg21 Cu021 Cu121 Ch21 pc0 pc1 pc2
  obtain ⟨pc0, pc1, pc2⟩ := P22.out
  go_wp2_with fail
  refine (heldIntS_any _ _ _ 1 _ (by omega) (by omega) hms Mg22.out).mono ?_
  rintro e w' ⟨rfl, rfl⟩
  go_wp2
  go_ret
  exact ⟨rfl, T22.out⟩

end Go.Proofs.Ytjfckplogjekaaa
