/-
  The draws of chapter 2: whatever the bytes, they return, with a bar of at most 42 numbers in memory of their own, and write into nothing that was there but the cursor. Condition: the cursor is whole.
-/
import Derived.Test.YtgbgajmjejcgjaaCur
import Derived.Test.YtgbgajmjejcgjaaOrdS
import Derived.Deep.RegionWith
namespace Go.Proofs.Ytgbgajmjejcgjaa
open Go.RowKit
set_option linter.unusedVariables false

/-- the cursor's block has turned, and new ones may have come -/
def Moved (w w' : World) (g : Nat) : Prop := w.grownBy w' (some g)
theorem Turned.moved {w w' : World} {g : Nat} (h : Turned w w' g) : Moved w w' g := h.1
theorem Moved.trans {a b c : World} {g : Nat} (h : Moved a b g) (k : Moved b c g) : Moved a c g :=
  ⟨k.os.trans h.os, k.tape.trans h.tape, k.output.trans h.output, Nat.le_trans h.size k.size, fun i hi hne => (k.block i (Nat.lt_of_lt_of_le hi h.size) hne).trans (h.block i hi hne)⟩
theorem Moved.refl (w : World) (g : Nat) : Moved w w g := World.grownBy.refl w _
theorem Moved.alloc (w : World) (o : Obj) (g : Nat) : Moved w (w.alloc o) g := World.grownBy_alloc w o _
theorem Moved.drewN {a w : World} {g : Nat} (h : Moved a w g) (n : Nat) : Moved a (w.drewN n) g := ⟨h.os, h.tape, h.output, h.size, h.block⟩
theorem Moved.drew {a w : World} {g : Nat} (h : Moved a w g) : Moved a w.drew g := ⟨h.os, h.tape, h.output, h.size, h.block⟩
theorem Moved.below {a w : World} {g B : Nat} (h : Moved a w g) (hB : B ≤ g) (hg : g < a.heap.size) : Below B a w :=
  ⟨h.os, h.tape, h.output, h.size, fun k hk => h.block k (by omega) (fun e => by injection e with e; omega)⟩
theorem Cur.alloc {w : World} {g : Nat} (h : Cur w g) (o : Obj) : Cur (w.alloc o) g := by
  obtain ⟨A, n, c, i, hv, bs, hh, hB, rest⟩ := h
  have hg := (Array.getElem?_eq_some_iff.1 hh).1
  exact ⟨A, n, c, i, hv, bs, (Below.heap_alloc w o g hg).trans hh, hB.keep fun p hp => World.cell?_alloc_lt w o p (by omega), rest⟩
theorem Cur.lt {w : World} {g : Nat} (h : Cur w g) : g < w.heap.size := by
  obtain ⟨A, n, c, i, hv, bs, hh, _⟩ := h
  exact (Array.getElem?_eq_some_iff.1 hh).1
theorem Cur.below {w w' : World} {g : Nat} (h : Cur w g) (hb : Below w.heap.size w w') : Cur w' g := by
  have hg := h.lt
  obtain ⟨A, n, c, i, hv, bs, hh, hB, rest⟩ := h
  exact ⟨A, n, c, i, hv, bs, (hb.block g hg).trans hh, hB.keep fun p hp => hb.cell (by omega), rest⟩
theorem Cur.drew {w : World} {g : Nat} (h : Cur w g) : Cur w.drew g := h

/-- the cursor is whole, and since w0 only it has turned -/
def CM (w0 w : World) (g : Nat) : Prop := Cur w g ∧ Moved w0 w g
theorem CM.of {w : World} {g : Nat} (h : Cur w g) : CM w w g := ⟨h, Moved.refl _ _⟩
theorem CM.drew {w0 w : World} {g : Nat} (h : CM w0 w g) : CM w0 w.drew g := ⟨h.1, h.2.drew⟩
theorem CM.alloc {w0 w : World} {g : Nat} (h : CM w0 w g) (o : Obj) : CM w0 (w.alloc o) g := ⟨h.1.alloc o, h.2.trans (Moved.alloc _ _ _)⟩
theorem CM.step {w0 w w' : World} {g : Nat} (h : CM w0 w g) (hb : Below w.heap.size w w') : CM w0 w' g := ⟨h.1.below hb, h.2.trans ⟨hb.os, hb.tape, hb.output, hb.size, fun i hi _ => hb.block i hi⟩⟩
theorem CM.lt {w0 w : World} {g : Nat} (h : CM w0 w g) : g < w.heap.size := h.1.lt
theorem below_cm (w0 : World) (g : Nat) (m : Int) (w : World) (hm : 0 < m) (hc : CM w0 w g) :
    Calls Try.prog 110 #[.pointer (some ⟨g, 0, none⟩), .int .i64 m] w fun e w' => ∃ x : Nat, e = .returned (.int .i64 x) ∧ (x : Int) < m ∧ CM w0 w' g ∧ Moved w w' g := by
  refine (l01Below_any g m w hc.1).mono ?_
  rintro e w' ⟨x, rfl, h0, h1, hc', ht⟩
  obtain ⟨k, rfl⟩ := Int.eq_ofNat_of_zero_le h0
  exact ⟨k, rfl, h1 hm, ⟨hc', hc.2.trans ht.moved⟩, ht.moved⟩
theorem once_cm (w0 : World) (g : Nat) (m : Int) (w : World) (hc : CM w0 w g) :
    Calls Try.prog 109 #[.pointer (some ⟨g, 0, none⟩), .int .i64 m] w fun e w' => ∃ b : Bool, e = .returned (.bool b) ∧ CM w0 w' g ∧ Moved w w' g := by
  refine (l01Once_any g m w hc.1).mono ?_
  rintro e w' ⟨b, rfl, hc', ht⟩
  exact ⟨b, rfl, ⟨hc', hc.2.trans ht.moved⟩, ht.moved⟩

theorem lit_ints (w : World) (zs : List Int) : IntsB (w.alloc (.cells (zs.map (Value.int .i64)).toArray 3)) (w.heap.size + 1) (some ⟨w.heap.size, 0, none⟩) zs := fun _ =>
  ⟨_, rfl, by simp, fun j hj => by
    rw [add_zero_at, World.cell?_alloc_at _ _ _ _ rfl, List.getElem?_toArray, List.getElem?_map, List.getElem?_eq_getElem hj]
    simp [List.getD, hj]⟩

set_option maxHeartbeats 3200000 in
theorem l1Teeth_cm (w0 : World) (g : Nat) (w : World) (hc : CM w0 w g) :
    Calls Try.prog 108 #[.pointer (some ⟨g, 0, none⟩)] w fun e w' => ∃ x : Int, e = .returned (.int .i64 x) ∧ CM w0 w' g ∧ CM w w' g := by
  have hcc := CM.of hc.1
  suffices hs : Calls Try.prog 108 #[.pointer (some ⟨g, 0, none⟩)] w fun e w' => ∃ x : Int, e = .returned (.int .i64 x) ∧ CM w w' g from
    hs.mono fun e w' ⟨x, he, hw⟩ => ⟨x, he, ⟨hw.1, hc.2.trans hw.2⟩, hw⟩
  clear hc
  have HC := Lib.hid hcc; clear hcc
  go_enter Try.func108, Try.ntmps108
  go_wp2_with fail
  refine (below_cm w g _ _ (by omega) HC.out).mono ?_
  rintro e w1 ⟨k, rfl, hx1, hc1, -⟩
  have HC1 := Lib.hid hc1
  clear hc1
  have hk : k = 0 ∨ k = 1 ∨ k = 2 ∨ k = 3 ∨ 4 ≤ k := by omega
  have HCU : Hid (Cur w1 g) := HC1.out.1
  rcases hk with rfl | rfl | rfl | rfl | hk
  · go_wp2_with fail
    refine (l01Int_any g _ 6 6 (w1.heap.size + 1) [-1, 128, 1099511627776, -9223372036854775808, 0, 127] _ (HCU.out.alloc _) rfl (by unfold maxLen; omega) (by omega) (lit_ints w1 _) (fun ad had => by injection had with had; subst had; have := HCU.out.lt; simp; omega)).mono ?_
    rintro e w2 ⟨x, rfl, hx, hc2, ht2⟩
    go_wp2
    go_ret
    exact ⟨_, rfl, hc2, (HC1.out.2.trans (Moved.alloc _ _ _)).trans ht2.moved⟩
  iterate 3
    · have hcm := HC1.out
      go_wp2
      go_region_with ((go_at_call 110; refine (below_cm w g _ _ (by omega) (by first | assumption | exact CM.drew (by assumption))).mono ?_; rintro e w' ⟨x, rfl, hxl, hcm', -⟩))
      go_wp2
      go_ret
      exact ⟨_, rfl, by assumption⟩
  · go_wp2_with (go_at_call 110; refine (below_cm w g _ _ (by omega) HC1.out).mono ?_; rintro e w' ⟨x, rfl, hxl, hcm', -⟩)
    go_ret
    exact ⟨_, rfl, hcm'⟩

end Go.Proofs.Ytgbgajmjejcgjaa
