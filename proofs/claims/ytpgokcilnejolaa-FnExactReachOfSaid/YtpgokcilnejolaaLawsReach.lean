/-
  The exact law of ReachOf: its walk. No condition.
-/
import Derived.Test.YtpgokcilnejolaaKeep
import Derived.Test.YtpgokcilnejolaaReach
namespace Go.Proofs.Ytpgokcilnejolaa
open Go.RowKit
set_option linter.unusedVariables false

set_option maxHeartbeats 1600000 in
theorem fnExactReachOf_walk (A : Option Addr) (n c : Nat) (zs : List Int) (s : Int) (w : World) (hn : zs.length = n) (hm : n ≤ maxLen) (h : Ints w A zs) (wf : ∀ z ∈ zs, (Lit.int .i64 z).wf = true) (wfs : (Lit.int .i64 s).wf = true) :
    Calls Try.prog 17 #[.slice A n c, .int .i64 s] w fun e w' => e = .returned (.bool true) ∧ Below w.heap.size w w' := by
  have Hn := Lib.hid hn; clear hn
  have hm0 := hm
  unfold maxLen at hm
  by_cases hbig : 1048576 < n
  · go_enter Try.func17, Try.ntmps17
    go_wp2
    go_ret
    exact ⟨rfl, Below.refl _ _⟩
  · have hs : n ≤ 1048576 := by omega
    obtain ⟨m, hm1⟩ : ∃ m, (reachL zs s).length = m := ⟨_, rfl⟩
    have hms : m ≤ 1048576 := by rw [← hm1]; exact Nat.le_trans (reachL_small zs s) (by omega)
    have Hm := Lib.hid hm1; clear hm1
    have IA0 := Lib.hid (IntsB.of h)
    have T0 := Lib.hid (Below.refl w.heap.size w)
    clear h
    go_enter Try.func17, Try.ntmps17
    go_wp2_with fail
    refine (toIntS_call _ _ _ zs _ Hn.out hs IA0.out.ints).mono ?_
    rintro e w1 ⟨A1, c1, rfl, hI1, hO1, hb1, hc1, hx1⟩
    have IA1 := Lib.hid (IA0.out.keep (Nat.le_refl _) hb1)
    have T1 := Lib.hid (below_step T0.out hb1 (Nat.le_refl _))
    have s1 := hb1.size
    clear IA0 T0 hb1 hO1
    go_wp2_with fail
    refine (specReach_any _ _ _ zs _ _ Hn.out hs hc1 hx1 hI1).mono ?_
    rintro e w2 ⟨v0, rfl, hO2, hb2⟩
    obtain ⟨A0, c0, rfl, hI0, _⟩ := hO2.form
    rw [Hm.out]
    have I02 := Lib.hid (IntsB.of hI0)
    have IA2 := Lib.hid (IA1.out.keep (by omega) hb2)
    have T2 := Lib.hid (below_step T1.out hb2 (Nat.le_refl _))
    have s2 := hb2.size
    clear IA1 T1 hb2 hO2 hI0 hI1
    go_wp2_with fail
    refine (toIntS_call _ _ _ zs _ Hn.out hs IA2.out.ints).mono ?_
    rintro e w3 ⟨A3, c3, rfl, hI3, hO3, hb3, hc3, hx3⟩
    have IA3 := Lib.hid (IA2.out.keep (by omega) hb3)
    have I03 := Lib.hid (I02.out.keep (by omega) hb3)
    have X3 := Lib.hid hO3
    have X3lt := Lib.hid (fun k hk => (World.ownsRow.lt hO3 k hk).2)
    have T3 := Lib.hid (below_step T2.out hb3 (Nat.le_refl _))
    have s3 := hb3.size
    clear IA2 I02 T2 hb3 hO3
    go_wp2_with fail
    refine (implReach_any _ _ _ zs _ _ Hn.out hs hc3 hx3 hI3).mono ?_
    rintro e w4 ⟨vg, rfl, hO4, hb4⟩
    obtain ⟨Ag, cg, rfl, hIg, _⟩ := hO4.form
    rw [Hm.out] at hO4 ⊢
    have IA4 := Lib.hid (IA3.out.keep (by omega) hb4)
    have I04 := Lib.hid (I03.out.keep (by omega) hb4)
    have X4 := Lib.hid (X3.out.below hb4)
    have IX4 := Lib.hid (hI3.below hb4)
    have G4 := Lib.hid hO4
    have T4 := Lib.hid (below_step T3.out hb4 (Nat.le_refl _))
    have s4 := hb4.size
    clear IA3 I03 X3 T3 hb4 hI3 hO4
    go_wp2_with fail
    refine (eqIntS_t _ _ _ _ _ (reachL zs s) _ Hm.out hms hIg I04.out.ints).mono ?_
    rintro e w5 ⟨rfl, hb5⟩
    have IA5 := Lib.hid (IA4.out.keep (by omega) hb5)
    have I05 := Lib.hid (I04.out.keep (by omega) hb5)
    have X5 := Lib.hid (X4.out.below hb5)
    have IX5 := Lib.hid (IX4.out.below hb5)
    have G5 := Lib.hid (G4.out.below hb5)
    have T5 := Lib.hid (below_step T4.out hb5 (Nat.le_refl _))
    have s5 := hb5.size
    clear IA4 I04 X4 IX4 G4 T4 hb5 hIg
    go_wp2_with fail
    refine (toIntS_call _ _ _ zs _ Hn.out hs IA5.out.ints).mono ?_
    rintro e w6 ⟨A6, c6, rfl, hI6, hO6, hb6, hc6, hx6⟩
    have IA6 := Lib.hid (IA5.out.keep (by omega) hb6)
    have I06 := Lib.hid (I05.out.keep (by omega) hb6)
    have X6 := Lib.hid (X5.out.below hb6)
    have IX6 := Lib.hid (IX5.out.below hb6)
    have G6 := Lib.hid (G5.out.below hb6)
    have T6 := Lib.hid (below_step T5.out hb6 (Nat.le_refl _))
    have s6 := hb6.size
    clear IA5 I05 X5 IX5 G5 T5 hb6 hO6
    go_wp2_with fail
    refine (eqIntS_t _ _ _ _ _ zs _ Hn.out hs IX6.out hI6).mono ?_
    rintro e w7 ⟨rfl, hb7⟩
    have IA7 := Lib.hid (IA6.out.keep (by omega) hb7)
    have I07 := Lib.hid (I06.out.keep (by omega) hb7)
    have X7 := Lib.hid (X6.out.below hb7)
    have G7 := Lib.hid (G6.out.below hb7)
    have T7 := Lib.hid (below_step T6.out hb7 (Nat.le_refl _))
    have s7 := hb7.size
    clear IA6 I06 X6 IX6 G6 T6 hb7 hI6
    go_wp2_with fail
    refine (markIntS_t _ _ _ w2.heap.size zs _ Hn.out hs (by omega) X7.out).mono ?_
    rintro e w8 ⟨rfl, hO8, hg8, hI8, hb8⟩
    have IA8 := Lib.hid (IA7.out.keep (by omega) hb8)
    have I08 := Lib.hid (I07.out.keep (by omega) hb8)
    have G8 := Lib.hid (G7.out.grown_lt hg8 (fun k hk => X3lt.out k hk))
    have T8 := Lib.hid (T7.out.trans (hb8.mono (by omega)))
    have s8 := hb8.size
    clear IA7 I07 X7 G7 T7 hb8 hI8 hO8 hg8 X3lt
    obtain ⟨Ag8, cg8, hv8, hIg8, _⟩ := G8.out.form
    obtain rfl : Ag8 = Ag := by injection hv8 with h1; exact h1.symm
    clear hv8
    go_wp2_with fail
    refine (eqIntS_t _ _ _ _ _ (reachL zs s) _ Hm.out hms hIg8 I08.out.ints).mono ?_
    rintro e w9 ⟨rfl, hb9⟩
    have IA9 := Lib.hid (IA8.out.keep (by omega) hb9)
    have I09 := Lib.hid (I08.out.keep (by omega) hb9)
    have G9 := Lib.hid (G8.out.below hb9)
    have T9 := Lib.hid (below_step T8.out hb9 (Nat.le_refl _))
    have s9 := hb9.size
    clear IA8 I08 G8 T8 hb9 hIg8
    go_wp2_with fail
    refine (markIntS_t _ _ _ w3.heap.size (reachL zs s) _ Hm.out hms (by omega) G9.out).mono ?_
    rintro e w10 ⟨rfl, hO10, hg10, hI10, hb10⟩
    have IA10 := Lib.hid (IA9.out.keep (by omega) hb10)
    have I010 := Lib.hid (I09.out.keep (by omega) hb10)
    have T10 := Lib.hid (T9.out.trans (hb10.mono (by omega)))
    have s10 := hb10.size
    clear IA9 I09 G9 T9 hb10 hO10 hg10
    go_wp2_with fail
    refine (heldIntS_any _ _ _ 1 _ (by omega) (by omega) hms hI10).mono ?_
    rintro e w' ⟨rfl, rfl⟩
    have G10 := Lib.hid hI10
    clear hI10
    go_wp2_with fail
    refine (toIntS_call _ _ _ zs _ Hn.out hs IA10.out.ints).mono ?_
    rintro e w11 ⟨A11, c11, rfl, hI11, hO11, hb11, hc11, hx11⟩
    have I011 := Lib.hid (I010.out.keep (by omega) hb11)
    have G11 := Lib.hid (G10.out.below hb11)
    have T11 := Lib.hid (below_step T10.out hb11 (Nat.le_refl _))
    have s11 := hb11.size
    clear IA10 I010 G10 T10 hb11 hO11
    go_wp2_with fail
    refine (implReach_any _ _ _ zs _ _ Hn.out hs hc11 hx11 hI11).mono ?_
    rintro e w12 ⟨vh, rfl, hO12, hb12⟩
    obtain ⟨Ah, ch, rfl, hIh, _⟩ := hO12.form
    rw [Hm.out]
    have I012 := Lib.hid (I011.out.keep (by omega) hb12)
    have G12 := Lib.hid (G11.out.below hb12)
    have T12 := Lib.hid (below_step T11.out hb12 (Nat.le_refl _))
    have s12 := hb12.size
    clear I011 G11 T11 hb12 hO12 hI11
    go_wp2_with fail
    refine (eqIntS_t _ _ _ _ _ (reachL zs s) _ Hm.out hms hIh I012.out.ints).mono ?_
    rintro e w13 ⟨rfl, hb13⟩
    have G13 := Lib.hid (G12.out.below hb13)
    have T13 := Lib.hid (below_step T12.out hb13 (Nat.le_refl _))
    clear I012 G12 T12 hb13 hIh
    go_wp2_with fail
    refine (heldIntS_any _ _ _ 1 _ (by omega) (by omega) hms G13.out).mono ?_
    rintro e w' ⟨rfl, rfl⟩
    go_wp2
    go_ret
    exact ⟨rfl, T13.out⟩

end Go.Proofs.Ytpgokcilnejolaa
