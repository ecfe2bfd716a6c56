/-
  The exact law of GalleyText: its walk. No condition.
-/
import Derived.Test.YtgngekolnlbddaaGT
namespace Go.Proofs.Ytgngekolnlbddaa
open Go.RowKit
set_option linter.unusedVariables false

theorem toStringS_g (A : Option Addr) (n c : Nat) (zs : List ByteArray) (w : World) (hn : zs.length = n) (hm : n ≤ 1048576) (h : Strs w A zs) :
    Calls Try.prog 26 #[.slice A n c] w fun e w' => ∃ A' c', e = .returned (.slice A' n c') ∧ OwnS w' w.heap.size (.slice A' n c') zs ∧ Strs w' A' zs ∧ Below w.heap.size w w' :=
  (toStringS_call A n c zs w hn hm h).mono fun e w' ⟨A', c', he, hI, hO, hb, h1, h2⟩ => ⟨A', c', he, hO, hI, hb⟩

set_option maxRecDepth 100000 in
set_option maxHeartbeats 1600000 in
theorem fnExactGalleyText_walk (A : Option Addr) (n c : Nat) (ss : List ByteArray) (w : World) (hn : ss.length = n) (hm : n ≤ maxLen) (h : Strs w A ss) (wf : ∀ s ∈ ss, s.size ≤ maxLen) :
    Calls Try.prog 10 #[.slice A n c] w fun e w' => e = .returned (.bool true) ∧ Below w.heap.size w w' := by
  have Hn := Lib.hid hn; have H := Lib.hid h; have Wf := Lib.hid wf
  clear hn h wf
  obtain ⟨q, hq⟩ : ∃ q, szI 1048576 ss = q := ⟨_, rfl⟩
  have HQ := Lib.hid hq
  clear hq
  by_cases hb : q < 0
  · go_enter Try.func10, Try.ntmps10
    go_wp2_with fail
    refine (szStringS_any _ _ _ ss 1048576 _ Hn.out hm H.out Wf.out (by omega) (by omega)).mono ?_
    rintro e w' ⟨rfl, rfl⟩
    rw [HQ.out]
    go_wp2
    go_ret
    exact ⟨rfl, Below.refl _ _⟩
  have HG := szI_good (left := 1048576) (ss := ss) (by rw [HQ.out]; omega)
  have hz : szL ss ≤ 1048576 := by have := HG.1; omega
  have hnb : n ≤ 1048576 := by have h1 := hz; unfold szL at h1; rw [Hn.out] at h1; omega
  have HZ := Lib.hid hz
  clear HG hz
  have T0 := Lib.hid (Below.refl w.heap.size w)
  go_enter Try.func10, Try.ntmps10
  go_wp2_with fail
  refine (szStringS_any _ _ _ ss 1048576 _ Hn.out hm H.out Wf.out (by omega) (by omega)).mono ?_
  rintro e w' ⟨rfl, rfl⟩
  rw [HQ.out]
  go_wp2_with fail
  refine (toStringS_g _ _ _ ss _ Hn.out hnb H.out).mono ?_
  rintro e w1 ⟨A1, c1, rfl, hO1, hI1, hb1⟩
  have I1 := Lib.hid hI1; have H1 := Lib.hid (H.out.below hb1); have T1 := Lib.hid hb1
  have s1 := hb1.size
  clear hO1 hI1 hb1 T0
  go_wp2_with fail
  refine (specGT_any _ _ _ ss _ Hn.out HZ.out I1.out).mono ?_
  rintro e w2 ⟨rfl, hb2⟩
  have H2 := Lib.hid (H1.out.below hb2); have T2 := Lib.hid (T1.out.trans (hb2.mono (by omega)))
  have s2 := hb2.size
  clear hb2 T1 H1 I1
  go_wp2_with fail
  refine (toStringS_g _ _ _ ss _ Hn.out hnb H2.out).mono ?_
  rintro e w3 ⟨A3, c3, rfl, hO3, hI3, hb3⟩
  have O3 := Lib.hid hO3; have I3 := Lib.hid hI3; have H3 := Lib.hid (H2.out.below hb3); have T3 := Lib.hid (T2.out.trans (hb3.mono (by omega)))
  have s3 := hb3.size
  clear hO3 hI3 hb3 T2 H2
  go_wp2_with fail
  refine (implGT_own _ _ _ _ ss _ Hn.out HZ.out O3.out).mono ?_
  rintro e w4 ⟨rfl, hb4⟩
  have I4 := Lib.hid (I3.out.below hb4); have H4 := Lib.hid (H3.out.below hb4); have T4 := Lib.hid (T3.out.trans (hb4.mono (by omega)))
  have s4 := hb4.size
  have hbe := str_eq (gtS ss)
  clear hb4 T3 H3 I3 O3
  go_wp2_with fail
  refine (toStringS_g _ _ _ ss _ Hn.out hnb H4.out).mono ?_
  rintro e w5 ⟨A5, c5, rfl, hO5, hI5, hb5⟩
  have I5 := Lib.hid hI5; have J5 := Lib.hid (I4.out.below hb5); have T5 := Lib.hid (T4.out.trans (hb5.mono (by omega)))
  have s5 := hb5.size
  clear hO5 hI5 hb5 T4 H4 I4
  go_wp2_with fail
  refine (eqStringS_t _ _ _ _ _ ss _ Hn.out hnb J5.out I5.out).mono ?_
  rintro e w6 ⟨rfl, hb6⟩
  have T6 := Lib.hid (T5.out.trans (hb6.mono (by omega)))
  clear hb6
  go_wp2
  go_ret
  exact ⟨rfl, T6.out⟩
end Go.Proofs.Ytgngekolnlbddaa
