/-
  The exact law of BestBreaking: its walk. No condition.
-/
import Derived.Test.YtddkedinkgnboaaBestS
import Derived.Test.YtddkedinkgnboaaLnKit
import Derived.Test.YtddkedinkgnboaaMarkG
namespace Go.Proofs.Ytddkedinkgnboaa
open Go.RowKit
set_option linter.unusedVariables false

theorem brkF_lenB {m : Msr} {zs : List Int} : ∀ (ls : List Int) (p : Nat), p ≤ zs.length → brkF m zs p ls = true → ls.length ≤ zs.length - p
  | [], p, hp, hb => Nat.zero_le _
  | x :: r, p, hp, hb => by
    rw [brkF, Bool.and_eq_true, Bool.and_eq_true] at hb
    have hx := inB_true hb.1
    have := brkF_lenB r (p + x.toNat) (by omega) hb.2.2
    simp; omega

theorem bstA_len (m : Msr) (zs : List Int) : ((bstA m zs).getD []).length ≤ 1048576 := by
  unfold bstA
  split
  · rename_i ho
    rw [Bool.and_eq_true, decide_eq_true_eq] at ho
    obtain ⟨-, -, h40⟩ := textB_parts (okW_parts ho.1).2
    have h1 := bstF_brk ho.1 (zs.length + 1) 0 (by omega) (Nat.zero_le _) ho.2
    have h2 := brkF_lenB _ 0 (Nat.zero_le _) h1.1
    show (bstF m zs (zs.length + 1) 0).length ≤ _
    omega
  · simp

set_option maxRecDepth 100000 in
set_option maxHeartbeats 3200000 in
theorem fnExactBestBreaking_walk (m : Msr) (A : Option Addr) (n c : Nat) (zs : List Int) (w : World) (hn0 : zs.length = n) (hm0 : n ≤ maxLen) (h0 : Ints w A zs) (wf0 : ∀ z ∈ zs, (Lit.int .i64 z).wf = true) :
    Calls Try.prog 12 #[.agg #[.int .i64 m.w, .int .i64 m.t, .int .i64 m.k], .slice A n c] w fun e w' => e = .returned (.bool true) ∧ Below w.heap.size w w' := by
  obtain ⟨W, t, k⟩ := m
  simp only
  have Hn0 := Lib.hid hn0; clear hn0
  have hmm0 := hm0
  unfold maxLen at hm0
  obtain ⟨w0, hw0, hb0, hz0, P⟩ := lmWorld w W t k
  have T0 := Lib.hid hb0; have P0 := Lib.hid P; have Z0 := Lib.hid hz0
  obtain ⟨p0, p1, p2⟩ := P0.out
  have hz := Z0.out
  have Ia0 := Lib.hid ((IntsB.of h0).keep (Nat.le_refl _) hb0)
  clear hb0 h0
  by_cases hbig0 : 1048576 < n
  · go_enter Try.func12, Try.ntmps12
    go_wp2_with fail
    go_ret
    exact ⟨rfl, by first | exact T0.out | (rw [hw0]; exact T0.out)⟩
  have hs0 : n ≤ 1048576 := by omega
  obtain ⟨m, hm1⟩ : ∃ m, ((bstA ⟨W, t, k⟩ zs).getD []).length = m := ⟨_, rfl⟩
  have hms : m ≤ 1048576 := by rw [← hm1]; exact bstA_len _ _
  have Hm := Lib.hid hm1; clear hm1
  have hfl0 : (bstC ⟨W, t, k⟩ zs != bstC ⟨W, t, k⟩ zs) = false := by simp
  have hfl1 : ((bstA ⟨W, t, k⟩ zs).isSome != (bstA ⟨W, t, k⟩ zs).isSome) = false := by simp
  go_enter Try.func12, Try.ntmps12
  go_wp2_with fail
  clear hw0
  refine (toMeasure_any W t k _).mono ?_
  rintro e w1 ⟨rfl, hb1⟩
  have T1 := Lib.hid (T0.out.trans (hb1.mono (by omega)))
  have P1 := Lib.hid (hold3 hb1 (by omega) P0.out)
  have Ia1 := Lib.hid (Ia0.out.keep (by omega) hb1)
  have z1 := hb1.size
  clear hb1 T0 P0 Ia0 p0 p1 p2
  obtain ⟨pc0, pc1, pc2⟩ := P1.out
  go_wp2_with fail
  refine (toIntS_call _ _ _ zs _ Hn0.out hs0 Ia1.out.ints).mono ?_
  rintro e w2 ⟨As0, cs0, rfl, hIs0, hOs0, hb2, hcs0, hxs0⟩
  have T2 := Lib.hid (T1.out.trans (hb2.mono (by omega)))
  have P2 := Lib.hid (hold3 hb2 (by omega) P1.out)
  have Ia2 := Lib.hid (Ia1.out.keep (by omega) hb2)
  have z2 := hb2.size
  clear hb2 T1 P1 Ia1 pc0 pc1 pc2
  obtain ⟨pc0, pc1, pc2⟩ := P2.out
  have Cs02 := Lib.hid (IntsB.of hIs0)
  clear hIs0 hOs0
  go_wp2_with fail
  refine (specBest_any W t k _ _ _ zs _ Hn0.out hcs0 hxs0 Cs02.out.ints).mono ?_
  rintro e w3 ⟨vv, rfl, hOv, hb3⟩
  obtain ⟨Av, cv, rfl, hIv, _⟩ := hOv.form
  rw [Hm.out] at hOv ⊢
  have T3 := Lib.hid (T2.out.trans (hb3.mono (by omega)))
  have P3 := Lib.hid (hold3 hb3 (by omega) P2.out)
  have Ia3 := Lib.hid (Ia2.out.keep (by omega) hb3)
  have Cs03 := Lib.hid (Cs02.out.keep (by omega) hb3)
  have z3 := hb3.size
  clear hb3 T2 P2 Ia2 Cs02 pc0 pc1 pc2
  obtain ⟨pc0, pc1, pc2⟩ := P3.out
  have Cv3 := Lib.hid (IntsB.of hIv)
  have Ov3 := Lib.hid (hOv)
  have Lv := Lib.hid (fun k hk => (World.ownsRow.lt hOv k hk).2)
  clear hIv hOv
  clear Ov3
  clear Lv
  clear Cs03
  go_wp2_with fail
  refine (toIntS_call _ _ _ zs _ Hn0.out hs0 Ia3.out.ints).mono ?_
  rintro e w4 ⟨Ax0, cx0, rfl, hIx0, hOx0, hb4, hcx0, hxx0⟩
  have T4 := Lib.hid (T3.out.trans (hb4.mono (by omega)))
  have P4 := Lib.hid (hold3 hb4 (by omega) P3.out)
  have Ia4 := Lib.hid (Ia3.out.keep (by omega) hb4)
  have Cv4 := Lib.hid (Cv3.out.keep (by omega) hb4)
  have z4 := hb4.size
  clear hb4 T3 P3 Ia3 Cv3 pc0 pc1 pc2
  obtain ⟨pc0, pc1, pc2⟩ := P4.out
  have Cx04 := Lib.hid (IntsB.of hIx0)
  have Ox04 := Lib.hid (hOx0)
  have Lx0 := Lib.hid (fun k hk => (World.ownsRow.lt hOx0 k hk).2)
  clear hIx0 hOx0
  go_wp2_with fail
  refine (toMeasure_any W t k _).mono ?_
  rintro e w5 ⟨rfl, hb5⟩
  have T5 := Lib.hid (T4.out.trans (hb5.mono (by omega)))
  have P5 := Lib.hid (hold3 hb5 (by omega) P4.out)
  have Ia5 := Lib.hid (Ia4.out.keep (by omega) hb5)
  have Cv5 := Lib.hid (Cv4.out.keep (by omega) hb5)
  have Cx05 := Lib.hid (Cx04.out.keep (by omega) hb5)
  have Ox05 := Lib.hid (Ox04.out.below hb5)
  have z5 := hb5.size
  clear hb5 T4 P4 Ia4 Cv4 Cx04 Ox04 pc0 pc1 pc2
  obtain ⟨pc0, pc1, pc2⟩ := P5.out
  go_wp2_with fail
  refine (implBest_any W t k _ _ _ zs _ Hn0.out hcx0 hxx0 Cx05.out.ints).mono ?_
  rintro e w6 ⟨vg, rfl, hOg, hb6⟩
  obtain ⟨Ag, cg, rfl, hIg, _⟩ := hOg.form
  rw [Hm.out] at hOg ⊢
  have T6 := Lib.hid (T5.out.trans (hb6.mono (by omega)))
  have P6 := Lib.hid (hold3 hb6 (by omega) P5.out)
  have Ia6 := Lib.hid (Ia5.out.keep (by omega) hb6)
  have Cv6 := Lib.hid (Cv5.out.keep (by omega) hb6)
  have Cx06 := Lib.hid (Cx05.out.keep (by omega) hb6)
  have Ox06 := Lib.hid (Ox05.out.below hb6)
  have z6 := hb6.size
  clear hb6 T5 P5 Ia5 Cv5 Cx05 Ox05 pc0 pc1 pc2
  obtain ⟨pc0, pc1, pc2⟩ := P6.out
  have Cg6 := Lib.hid (IntsB.of hIg)
  have Og6 := Lib.hid (hOg)
  have Lg := Lib.hid (fun k hk => (World.ownsRow.lt hOg k hk).2)
  clear hIg hOg
  go_wp2_with fail
  refine (eqIntS_t _ _ _ _ _ ((bstA ⟨W, t, k⟩ zs).getD []) _ Hm.out hms Cg6.out.ints Cv6.out.ints).mono ?_
  rintro e w7 ⟨rfl, hb7⟩
  have T7 := Lib.hid (T6.out.trans (hb7.mono (by omega)))
  have P7 := Lib.hid (hold3 hb7 (by omega) P6.out)
  have Ia7 := Lib.hid (Ia6.out.keep (by omega) hb7)
  have Cv7 := Lib.hid (Cv6.out.keep (by omega) hb7)
  have Cx07 := Lib.hid (Cx06.out.keep (by omega) hb7)
  have Ox07 := Lib.hid (Ox06.out.below hb7)
  have Cg7 := Lib.hid (Cg6.out.keep (by omega) hb7)
  have Og7 := Lib.hid (Og6.out.below hb7)
  have z7 := hb7.size
  clear hb7 T6 P6 Ia6 Cv6 Cx06 Ox06 Cg6 Og6 pc0 pc1 pc2
  obtain ⟨pc0, pc1, pc2⟩ := P7.out
  go_wp2_with fail
  refine (toIntS_call _ _ _ zs _ Hn0.out hs0 Ia7.out.ints).mono ?_
  rintro e w8 ⟨Ay0, cy0, rfl, hIy0, hOy0, hb8, hcy0, hxy0⟩
  have T8 := Lib.hid (T7.out.trans (hb8.mono (by omega)))
  have P8 := Lib.hid (hold3 hb8 (by omega) P7.out)
  have Ia8 := Lib.hid (Ia7.out.keep (by omega) hb8)
  have Cv8 := Lib.hid (Cv7.out.keep (by omega) hb8)
  have Cx08 := Lib.hid (Cx07.out.keep (by omega) hb8)
  have Ox08 := Lib.hid (Ox07.out.below hb8)
  have Cg8 := Lib.hid (Cg7.out.keep (by omega) hb8)
  have Og8 := Lib.hid (Og7.out.below hb8)
  have z8 := hb8.size
  clear hb8 T7 P7 Ia7 Cv7 Cx07 Ox07 Cg7 Og7 pc0 pc1 pc2
  obtain ⟨pc0, pc1, pc2⟩ := P8.out
  have Cy08 := Lib.hid (IntsB.of hIy0)
  clear hIy0 hOy0
  go_wp2_with fail
  refine (eqIntS_t _ _ _ _ _ (zs) _ Hn0.out hs0 Cx08.out.ints Cy08.out.ints).mono ?_
  rintro e w9 ⟨rfl, hb9⟩
  have T9 := Lib.hid (T8.out.trans (hb9.mono (by omega)))
  have P9 := Lib.hid (hold3 hb9 (by omega) P8.out)
  have Ia9 := Lib.hid (Ia8.out.keep (by omega) hb9)
  have Cv9 := Lib.hid (Cv8.out.keep (by omega) hb9)
  have Cx09 := Lib.hid (Cx08.out.keep (by omega) hb9)
  have Ox09 := Lib.hid (Ox08.out.below hb9)
  have Cg9 := Lib.hid (Cg8.out.keep (by omega) hb9)
  have Og9 := Lib.hid (Og8.out.below hb9)
  have Cy09 := Lib.hid (Cy08.out.keep (by omega) hb9)
  have z9 := hb9.size
  clear hb9 T8 P8 Ia8 Cv8 Cx08 Ox08 Cg8 Og8 Cy08 pc0 pc1 pc2
  obtain ⟨pc0, pc1, pc2⟩ := P9.out
  clear Cy09
  go_wp2_with fail
  refine (markIntS_g _ _ _ w3.heap.size zs (1) _ (by omega) (by omega) Hn0.out hs0 (by omega) Ox09.out).mono ?_
  rintro e w10 ⟨rfl, hO10, hg10, hI10, hb10⟩
  have T10 := Lib.hid (T9.out.trans (hb10.mono (by omega)))
  have P10 := Lib.hid (hold3 hb10 (by omega) P9.out)
  have Ia10 := Lib.hid (Ia9.out.keep (by omega) hb10)
  have Cv10 := Lib.hid (Cv9.out.keep (by omega) hb10)
  have Og10 := Lib.hid (Og9.out.grown_lt hg10 (fun k hk => Nat.lt_of_lt_of_le (Lx0.out k hk) (by omega)))
  have z10 := hb10.size
  clear hb10 hg10 hO10 hI10 Lx0 T9 P9 Ia9 Cv9 Cx09 Ox09 Cg9 Og9 pc0 pc1 pc2
  obtain ⟨pc0, pc1, pc2⟩ := P10.out
  obtain ⟨Ag8, cg8, hv8, hIg8, _⟩ := Og10.out.form
  obtain rfl : Ag8 = Ag := by injection hv8 with h1; exact h1.symm
  clear hv8
  have Cg10 := Lib.hid (IntsB.of hIg8)
  clear hIg8
  go_wp2_with fail
  refine (eqIntS_t _ _ _ _ _ ((bstA ⟨W, t, k⟩ zs).getD []) _ Hm.out hms Cg10.out.ints Cv10.out.ints).mono ?_
  rintro e w11 ⟨rfl, hb11⟩
  have T11 := Lib.hid (T10.out.trans (hb11.mono (by omega)))
  have P11 := Lib.hid (hold3 hb11 (by omega) P10.out)
  have Ia11 := Lib.hid (Ia10.out.keep (by omega) hb11)
  have Cv11 := Lib.hid (Cv10.out.keep (by omega) hb11)
  have Og11 := Lib.hid (Og10.out.below hb11)
  have Cg11 := Lib.hid (Cg10.out.keep (by omega) hb11)
  have z11 := hb11.size
  clear hb11 T10 P10 Ia10 Cv10 Og10 Cg10 pc0 pc1 pc2
  obtain ⟨pc0, pc1, pc2⟩ := P11.out
  go_wp2_with fail
  refine (markIntS_g _ _ _ w5.heap.size ((bstA ⟨W, t, k⟩ zs).getD []) 1 _ (by omega) (by omega) Hm.out hms (by omega) Og11.out).mono ?_
  rintro e w12 ⟨rfl, hO12, hg12, hI12, hb12⟩
  have T12 := Lib.hid (T11.out.trans (hb12.mono (by omega)))
  have P12 := Lib.hid (hold3 hb12 (by omega) P11.out)
  have Ia12 := Lib.hid (Ia11.out.keep (by omega) hb12)
  have Cv12 := Lib.hid (Cv11.out.keep (by omega) hb12)
  have z12 := hb12.size
  have Mg12 := Lib.hid hI12
  clear hb12 hg12 hO12 hI12 T11 P11 Ia11 Cv11 Og11 Cg11 pc0 pc1 pc2
  obtain ⟨pc0, pc1, pc2⟩ := P12.out
  go_wp2_with fail
  refine (heldIntS_any _ _ _ 1 _ (by omega) (by omega) hms Mg12.out).mono ?_
  rintro e w' ⟨rfl, rfl⟩
  go_wp2_with fail
  refine (toMeasure_any W t k _).mono ?_
  rintro e w13 ⟨rfl, hb13⟩
  have T13 := Lib.hid (T12.out.trans (hb13.mono (by omega)))
  have P13 := Lib.hid (hold3 hb13 (by omega) P12.out)
  have Ia13 := Lib.hid (Ia12.out.keep (by omega) hb13)
  have Cv13 := Lib.hid (Cv12.out.keep (by omega) hb13)
  have Mg13 := Lib.hid (Mg12.out.below hb13)
  have z13 := hb13.size
  clear hb13 T12 P12 Ia12 Cv12 Mg12 pc0 pc1 pc2
  obtain ⟨pc0, pc1, pc2⟩ := P13.out
  go_wp2_with fail
  refine (toIntS_call _ _ _ zs _ Hn0.out hs0 Ia13.out.ints).mono ?_
  rintro e w14 ⟨Au0, cu0, rfl, hIu0, hOu0, hb14, hcu0, hxu0⟩
  have T14 := Lib.hid (T13.out.trans (hb14.mono (by omega)))
  have P14 := Lib.hid (hold3 hb14 (by omega) P13.out)
  have Ia14 := Lib.hid (Ia13.out.keep (by omega) hb14)
  have Cv14 := Lib.hid (Cv13.out.keep (by omega) hb14)
  have Mg14 := Lib.hid (Mg13.out.below hb14)
  have z14 := hb14.size
  clear hb14 T13 P13 Ia13 Cv13 Mg13 pc0 pc1 pc2
  obtain ⟨pc0, pc1, pc2⟩ := P14.out
  have Cu014 := Lib.hid (IntsB.of hIu0)
  clear hIu0 hOu0
  go_wp2_with fail
  refine (implBest_any W t k _ _ _ zs _ Hn0.out hcu0 hxu0 Cu014.out.ints).mono ?_
  rintro e w15 ⟨vh, rfl, hOh, hb15⟩
  obtain ⟨Ah, ch, rfl, hIh, _⟩ := hOh.form
  rw [Hm.out] at hOh ⊢
  have T15 := Lib.hid (T14.out.trans (hb15.mono (by omega)))
  have P15 := Lib.hid (hold3 hb15 (by omega) P14.out)
  have Ia15 := Lib.hid (Ia14.out.keep (by omega) hb15)
  have Cv15 := Lib.hid (Cv14.out.keep (by omega) hb15)
  have Mg15 := Lib.hid (Mg14.out.below hb15)
  have Cu015 := Lib.hid (Cu014.out.keep (by omega) hb15)
  have z15 := hb15.size
  clear hb15 T14 P14 Ia14 Cv14 Mg14 Cu014 pc0 pc1 pc2
  obtain ⟨pc0, pc1, pc2⟩ := P15.out
  have Ch15 := Lib.hid (IntsB.of hIh)
  have Oh15 := Lib.hid (hOh)
  have Lh := Lib.hid (fun k hk => (World.ownsRow.lt hOh k hk).2)
  clear hIh hOh
  clear Oh15
  clear Lh
  go_wp2_with fail
  refine (eqIntS_t _ _ _ _ _ ((bstA ⟨W, t, k⟩ zs).getD []) _ Hm.out hms Ch15.out.ints Cv15.out.ints).mono ?_
  rintro e w16 ⟨rfl, hb16⟩
  have T16 := Lib.hid (T15.out.trans (hb16.mono (by omega)))
  have P16 := Lib.hid (hold3 hb16 (by omega) P15.out)
  have Ia16 := Lib.hid (Ia15.out.keep (by omega) hb16)
  have Cv16 := Lib.hid (Cv15.out.keep (by omega) hb16)
  have Mg16 := Lib.hid (Mg15.out.below hb16)
  have Cu016 := Lib.hid (Cu015.out.keep (by omega) hb16)
  have Ch16 := Lib.hid (Ch15.out.keep (by omega) hb16)
  have z16 := hb16.size
  clear hb16 T15 P15 Ia15 Cv15 Mg15 Cu015 Ch15 pc0 pc1 pc2
  obtain ⟨pc0, pc1, pc2⟩ := P16.out
  go_wp2_with fail
  refine (heldIntS_any _ _ _ 1 _ (by omega) (by omega) hms Mg16.out).mono ?_
  rintro e w' ⟨rfl, rfl⟩
  go_wp2
  go_ret
  exact ⟨rfl, T16.out⟩

end Go.Proofs.Ytddkedinkgnboaa
