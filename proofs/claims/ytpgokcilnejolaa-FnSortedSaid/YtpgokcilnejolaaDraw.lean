/-
  The draws of chapter 2: whatever the bytes, they return, with a bar of at most 42 numbers in memory of their own, and write into nothing that was there but the cursor. Condition: the cursor is whole.
-/
import Derived.Test.YtpgokcilnejolaaCm
import Derived.Test.YtpgokcilnejolaaOrdS
import Derived.Deep.RegionWith
namespace Go.Proofs.Ytpgokcilnejolaa
open Go.RowKit
set_option linter.unusedVariables false

set_option maxHeartbeats 3200000 in
theorem l1Teeth_cm (w0 : World) (g : Nat) (w : World) (hc : CM w0 w g) :
    Calls Try.prog 63 #[.pointer (some ⟨g, 0, none⟩)] w fun e w' => ∃ x : Int, e = .returned (.int .i64 x) ∧ CM w0 w' g ∧ CM w w' g := by
  have hcc := CM.of hc.1
  suffices hs : Calls Try.prog 63 #[.pointer (some ⟨g, 0, none⟩)] w fun e w' => ∃ x : Int, e = .returned (.int .i64 x) ∧ CM w w' g from
    hs.mono fun e w' ⟨x, he, hw⟩ => ⟨x, he, ⟨hw.1, hc.2.trans hw.2⟩, hw⟩
  clear hc
  have HC := Lib.hid hcc; clear hcc
  go_enter Try.func63, Try.ntmps63
  go_wp2_with fail
  refine (below_cm w g _ _ (by omega) HC.out).mono ?_
  rintro e w1 ⟨k, rfl, hx1, hc1, -⟩
  have HC1 := Lib.hid hc1
  clear hc1
  have hk : k = 0 ∨ k = 1 ∨ k = 2 ∨ k = 3 ∨ 4 ≤ k := by omega
  have HCU : Hid (Cur w1 g) := HC1.out.1
  rcases hk with rfl | rfl | rfl | rfl | hk
  · go_wp2_with fail
    refine (l01Int_any g _ 6 6 (w1.heap.size + 1) [-1, 128, 1099511627776, -9223372036854775808, 0, 127] _ (HCU.out.alloc _) rfl (by unfold maxLen; omega) (by omega) (lit_ints w1 _) (fun ad had => by injection had with had; subst had; have := HCU.out.lt; simp; omega)).mono ?_
    rintro e w2 ⟨x, rfl, hx, hc2, ht2⟩
    go_wp2
    go_ret
    exact ⟨_, rfl, hc2, (HC1.out.2.trans (Moved.alloc _ _ _)).trans ht2.moved⟩
  iterate 3
    · have hcm := HC1.out
      go_wp2
      go_region_with ((go_at_call 65; refine (below_cm w g _ _ (by omega) (by first | assumption | exact CM.drew (by assumption))).mono ?_; rintro e w' ⟨x, rfl, hxl, hcm', -⟩))
      go_wp2
      go_ret
      exact ⟨_, rfl, by assumption⟩
  · go_wp2_with (go_at_call 65; refine (below_cm w g _ _ (by omega) HC1.out).mono ?_; rintro e w' ⟨x, rfl, hxl, hcm', -⟩)
    go_ret
    exact ⟨_, rfl, hcm'⟩

end Go.Proofs.Ytpgokcilnejolaa
