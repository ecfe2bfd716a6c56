/-
  The exact laws of LossBefore: their walks. No condition.
-/
import Derived.Test.YtpgokcilnejolaaKit
import Derived.Test.YtpgokcilnejolaaLoss
namespace Go.Proofs.Ytpgokcilnejolaa
open Go.RowKit
set_option linter.unusedVariables false
set_option maxHeartbeats 400000 in
theorem fnExactLossBefore_walk (A : Option Addr) (n c : Nat) (zs : List Int) (s : Int) (w : World) (hn : zs.length = n) (hm : n ≤ maxLen) (h : Ints w A zs) (wf : ∀ z ∈ zs, (Lit.int .i64 z).wf = true) (wfs : (Lit.int .i64 s).wf = true) :
    Calls Try.prog 16 #[.slice A n c, .int .i64 s] w fun e w' => e = .returned (.bool true) ∧ Below w.heap.size w w' := by
  have Hn := Lib.hid hn; clear hn
  have hm0 := hm
  unfold maxLen at hm
  by_cases hbig : 1048576 < n
  · go_enter Try.func16, Try.ntmps16
    go_wp2
    go_ret
    exact ⟨rfl, Below.refl _ _⟩
  · have hs : n ≤ 1048576 := by omega
    go_enter Try.func16, Try.ntmps16
    go_wp2_with fail
    refine (toIntS_call _ _ _ zs _ Hn.out hs h).mono ?_
    rintro e w1 ⟨A1, c1, rfl, hI1, hO1, hb1, hc1, hx1⟩
    go_wp2_with fail
    refine (specLoss_any _ _ _ zs _ _ Hn.out hm0 hc1 hx1 hI1).mono ?_
    rintro e w' ⟨rfl, rfl⟩
    go_wp2_with fail
    refine (toIntS_call _ _ _ zs _ Hn.out hs (h.below hb1)).mono ?_
    rintro e w2 ⟨A2, c2, rfl, hI2, hO2, hb2, hc2, hx2⟩
    go_wp2_with fail
    refine (implLoss_any _ _ _ zs _ _ Hn.out hm0 hc2 hx2 hI2).mono ?_
    rintro e w' ⟨rfl, rfl⟩
    have hb12 := below_step hb1 hb2 (Nat.le_refl _)
    go_wp2_with fail
    refine (toIntS_call _ _ _ zs _ Hn.out hs (h.below hb12)).mono ?_
    rintro e w3 ⟨A3, c3, rfl, hI3, hO3, hb3, hc3, hx3⟩
    go_wp2_with fail
    refine (eqIntS_same _ _ _ _ _ zs _ Hn.out hs (hI2.below hb3) hI3).mono ?_
    rintro e w' ⟨rfl, q, rfl⟩
    go_wp2
    go_ret
    exact ⟨rfl, below_drewN (below_step hb12 hb3 (Nat.le_refl _)) _⟩

end Go.Proofs.Ytpgokcilnejolaa
