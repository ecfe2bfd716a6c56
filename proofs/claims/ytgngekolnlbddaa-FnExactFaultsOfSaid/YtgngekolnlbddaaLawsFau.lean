/-
  The exact law of FaultsOf: its walk. No condition.
-/
import Derived.Test.YtgngekolnlbddaaFau
namespace Go.Proofs.Ytgngekolnlbddaa
open Go.RowKit
set_option linter.unusedVariables false

set_option maxRecDepth 100000 in
set_option maxHeartbeats 1600000 in
theorem fnExactFaultsOf_walk (a b : ByteArray) (w : World) (ha : a.size ≤ maxLen) (hb : b.size ≤ maxLen) :
    Calls Try.prog 6 #[.string a, .string b] w fun e w' => e = .returned (.bool true) ∧ Below w.heap.size w w' := by
  unfold maxLen at ha hb
  by_cases h1 : 1048576 < a.size
  · go_enter Try.func6, Try.ntmps6
    go_wp2
    go_ret
    exact ⟨rfl, Below.refl _ _⟩
  by_cases h2 : 1048576 < b.size
  · go_enter Try.func6, Try.ntmps6
    go_wp2
    go_ret
    exact ⟨rfl, Below.refl _ _⟩
  have ha2 : a.size ≤ 1048576 := by omega
  have hb2 : b.size ≤ 1048576 := by omega
  obtain ⟨L, hL⟩ : ∃ L, fauL a b = L := ⟨_, rfl⟩
  obtain ⟨F, hF⟩ : ∃ F, fauB a b = F := ⟨_, rfl⟩
  obtain ⟨m, hm⟩ : ∃ m, L.length = m := ⟨_, rfl⟩
  have hms : m ≤ 1048576 := by rw [← hm, ← hL]; exact Nat.le_trans (fauL_len a b) ha2
  have Hm := Lib.hid hm; have HL := Lib.hid hL; have HF := Lib.hid hF
  clear hm hL hF
  go_enter Try.func6, Try.ntmps6
  go_wp2_with fail
  refine (specFau_any a b _ ha2 hb2).mono ?_
  rintro e w1 ⟨v0, rfl, hO1, hb1⟩
  rw [HL.out] at hO1
  rw [HF.out]
  obtain ⟨A0, n0, c0, rfl, hn0, hO0, _, _⟩ := own_form5 hO1
  obtain rfl : n0 = m := by rw [← hn0]; exact Hm.out
  have W1 := Lib.hid (IntsB.of (own_intsQ hO0))
  have T1 := Lib.hid hb1
  have s1 := hb1.size
  clear hO1 hO0 hn0 hb1
  go_wp2_with fail
  refine (implFau_any a b _ ha2 hb2).mono ?_
  rintro e w2 ⟨vg, rfl, hO2, hb2'⟩
  rw [HL.out] at hO2
  rw [HF.out]
  obtain ⟨Ag, ng, cg, rfl, hng, hOg, _, _⟩ := own_form5 hO2
  obtain rfl : ng = n0 := by rw [← hng]; exact Hm.out
  have W2 := Lib.hid (W1.out.keep (by omega) hb2')
  have G2 := Lib.hid hOg
  have T2 := Lib.hid (T1.out.trans (hb2'.mono (by omega)))
  have s2 := hb2'.size
  clear W1 T1 hb2' hO2 hOg hng
  go_wp2_with fail
  refine (eqIntS_t _ _ _ _ _ L _ Hm.out hms (own_intsQ G2.out) W2.out.ints).mono ?_
  rintro e w3 ⟨rfl, hb3⟩
  have W3 := Lib.hid (W2.out.keep (by omega) hb3)
  have G3 := Lib.hid (G2.out.below hb3)
  have T3 := Lib.hid (T2.out.trans (hb3.mono (by omega)))
  have s3 := hb3.size
  clear W2 G2 T2 hb3
  cases F
  all_goals
    go_wp2_with fail
    refine (markIntS_t Ag ng cg w1.heap.size L _ Hm.out hms (by omega) G3.out).mono ?_
    rintro e w4 ⟨rfl, hO4, _, hI4, hb4⟩
    have W4 := Lib.hid (W3.out.keep (Nat.le_refl _) hb4)
    have G4 := Lib.hid (IntsB.of hI4)
    have T4 := Lib.hid (T3.out.trans (hb4.mono (by omega)))
    have s4 := hb4.size
    clear hO4 hI4 hb4
    have hq0 : ((1 : Int) + (ng : Int) < 0) = False := by simp; omega
    go_wp2_with fail
    refine (heldIntS_any Ag ng cg 1 _ (by omega) (by omega) hms G4.out.ints).mono ?_
    rintro e w' ⟨rfl, rfl⟩
    go_wp2_with fail
    refine (implFau_any a b _ ha2 hb2).mono ?_
    rintro e w5 ⟨vh, rfl, hO5, hb5⟩
    rw [HL.out] at hO5
    rw [HF.out]
    obtain ⟨Ah, nh, ch, rfl, hnh, hOh, _, _⟩ := own_form5 hO5
    obtain rfl : nh = ng := by rw [← hnh]; exact Hm.out
    have W5 := Lib.hid (W4.out.keep (by omega) hb5)
    have G5 := Lib.hid (G4.out.keep (by omega) hb5)
    have H5 := Lib.hid (own_intsQ hOh)
    have T5 := Lib.hid (T4.out.trans (hb5.mono (by omega)))
    have s5 := hb5.size
    clear hO5 hOh hb5 hnh
    go_wp2_with fail
    refine (eqIntS_t _ _ _ _ _ L _ Hm.out hms H5.out W5.out.ints).mono ?_
    rintro e w6 ⟨rfl, hb6⟩
    have G6 := Lib.hid (G5.out.keep (by omega) hb6)
    have T6 := Lib.hid (T5.out.trans (hb6.mono (by omega)))
    clear hb6
    go_wp2_with fail
    refine (heldIntS_any Ag nh cg 1 _ (by omega) (by omega) hms G6.out.ints).mono ?_
    rintro e w' ⟨rfl, rfl⟩
    go_wp2
    go_ret
    exact ⟨rfl, T6.out⟩
end Go.Proofs.Ytgngekolnlbddaa
