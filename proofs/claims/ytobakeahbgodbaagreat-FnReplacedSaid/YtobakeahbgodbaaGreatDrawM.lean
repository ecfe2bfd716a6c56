/-
  The draws of chapter 4: whatever the bytes, they return a measure of three numbers and a line of at most 123, in memory of their own, and write into nothing that was there but the cursor. Condition: the cursor is whole.
-/
import Derived.Test.YtobakeahbgodbaaGreatPkB
import Derived.Test.YtobakeahbgodbaaGreatPkA
namespace Go.Proofs.YtobakeahbgodbaaGreat
open Go.RowKit
set_option linter.unusedVariables false

def lenS : Value → Nat
  | .slice _ n _ => n
  | _ => 0
/-- a block that holds a measure -/
def M3 (w : World) (b : Nat) (x y z : Int) : Prop := w.heap[b]? = some (.cells #[.int .i64 x, .int .i64 y, .int .i64 z] 27 (0, 0))
theorem M3.new (w : World) (x y z : Int) : M3 (w.alloc (.cells #[.int .i64 x, .int .i64 y, .int .i64 z] 27)) w.heap.size x y z := heap_alloc_new w _
theorem M3.lt {w : World} {b : Nat} {x y z : Int} (h : M3 w b x y z) : b < w.heap.size := (Array.getElem?_eq_some_iff.1 h).1
theorem M3.cm {w w' : World} {g b : Nat} {x y z : Int} (h : M3 w b x y z) (hc : CM w w' g) (hne : b ≠ g) : M3 w' b x y z := by
  have hl := h.lt
  unfold M3 at *; rw [hc.2.block b hl (by intro e; injection e with e; exact hne e)]; exact h
theorem M3.below {w w' : World} {B b : Nat} {x y z : Int} (h : M3 w b x y z) (hb : Below B w w') (hB : b < B) : M3 w' b x y z := by
  unfold M3 at *; rw [hb.block b hB]; exact h
theorem M3.drewN {w : World} {b : Nat} {x y z : Int} (h : M3 w b x y z) (n : Nat) : M3 (w.drewN n) b x y z := h
theorem M3.other {w : World} {b : Nat} {x y z : Int} (h : M3 w b x y z) (p : Addr) (u : Value) (hne : b ≠ p.block) : M3 (w.setCell p u) b x y z := by
  unfold M3 at *; rw [Below.heap_setCell w p u b hne]; exact h
theorem M3.set0 {w : World} {b : Nat} {x y z : Int} (h : M3 w b x y z) (u : Int) : M3 (w.setCell ⟨b, 0, none⟩ (.int .i64 u)) b u y z := by
  unfold M3 at *; rw [heap_setCell_same w b 0 _ _ _ h]; rfl
theorem M3.set1 {w : World} {b : Nat} {x y z : Int} (h : M3 w b x y z) (u : Int) : M3 (w.setCell ⟨b, 1, none⟩ (.int .i64 u)) b x u z := by
  unfold M3 at *; rw [heap_setCell_same w b 1 _ _ _ h]; rfl
theorem M3.set2 {w : World} {b : Nat} {x y z : Int} (h : M3 w b x y z) (u : Int) : M3 (w.setCell ⟨b, 2, none⟩ (.int .i64 u)) b x y u := by
  unfold M3 at *; rw [heap_setCell_same w b 2 _ _ _ h]; rfl
theorem M3.cells {w : World} {b : Nat} {x y z : Int} (h : M3 w b x y z) : w.cell? ⟨b, 0, none⟩ = some (.int .i64 x) ∧ w.cell? ⟨b, 1, none⟩ = some (.int .i64 y) ∧ w.cell? ⟨b, 2, none⟩ = some (.int .i64 z) ∧ w.frozen? ⟨b, 0, none⟩ = false ∧ w.frozen? ⟨b, 1, none⟩ = false ∧ w.frozen? ⟨b, 2, none⟩ = false := by
  refine ⟨?_, ?_, ?_, frozen_of_row w b 0 _ _ h, frozen_of_row w b 1 _ _ h, frozen_of_row w b 2 _ _ h⟩
  · rw [cell_of_row w b 0 _ _ (0, 0) h]; rfl
  · rw [cell_of_row w b 1 _ _ (0, 0) h]; rfl
  · rw [cell_of_row w b 2 _ _ (0, 0) h]; rfl
/-- a measure stored whole -/
theorem M3.put {w : World} {b : Nat} {x y z : Int} (h : M3 w b x y z) (p q r : Int) : M3 (((w.setCell ⟨b, 0, none⟩ (.int .i64 p)).setCell ⟨b, 1, none⟩ (.int .i64 q)).setCell ⟨b, 2, none⟩ (.int .i64 r)) b p q r := ((h.set0 p).set1 q).set2 r

set_option maxRecDepth 100000 in
set_option maxHeartbeats 3200000 in
theorem l3Measure_any (g : Nat) (w : World) (hc : Cur w g) :
    Calls Tryz.prog 107 #[.pointer (some ⟨g, 0, none⟩)] w fun e w' => ∃ x y z : Int, e = .returned (.agg #[.int .i64 x, .int .i64 y, .int .i64 z]) ∧ 1 ≤ y ∧ y ≤ 6 ∧ CM w w' g := by
  have hgw := hc.lt
  obtain ⟨wa, hwa⟩ : ∃ wa, w.alloc (.cells #[.int .i64 0, .int .i64 0, .int .i64 0] 27) = wa := ⟨_, rfl⟩
  have CA : CM w wa g := by rw [← hwa]; exact (CM.of hc).alloc _
  have RA : M3 wa w.heap.size 0 0 0 := by rw [← hwa]; exact M3.new w 0 0 0
  have CA := Lib.hid CA; have RA := Lib.hid RA
  have za : w.heap.size < wa.heap.size := RA.out.lt
  clear hc
  go_enter Tryz.func107, Tryz.ntmps107
  go_wp2_with fail
  clear hwa
  refine (below_cm wa g _ _ (by omega) (CM.of CA.out.1)).mono ?_
  rintro e w1 ⟨x, rfl, hx, hc1, hm1⟩
  have R1 := Lib.hid (RA.out.cm hc1 (by omega)); have C1 := Lib.hid (CA.out.trans hc1)
  clear hc1 hm1
  go_wp2_with fail
  refine (below_cm w1 g _ _ (by omega) (CM.of C1.out.1)).mono ?_
  rintro e w2 ⟨y, rfl, hy, hc2, hm2⟩
  have R2 := Lib.hid (R1.out.cm hc2 (by omega)); have C2 := Lib.hid (C1.out.trans hc2)
  have z2 : w.heap.size < w2.heap.size := R2.out.lt
  obtain ⟨w3a, hw3a⟩ : ∃ w3, w2.alloc (.cells #[.int .i64 (1 + (x : Int)), .int .i64 (1 + (y : Int)), .int .i64 0] 27) = w3 := ⟨_, rfl⟩
  obtain ⟨w3, hw3⟩ : ∃ w3, w3a.setCell ⟨w2.heap.size, 2, none⟩ (.int .i64 0) = w3 := ⟨_, rfl⟩
  have M3a : M3 w3a w2.heap.size (1 + (x : Int)) (1 + (y : Int)) 0 := by rw [← hw3a]; exact M3.new w2 _ _ _
  have M3' : M3 w3 w2.heap.size (1 + (x : Int)) (1 + (y : Int)) 0 := by rw [← hw3]; exact M3a.set2 0
  have hb3 : Below w2.heap.size w2 w3 := by rw [← hw3, ← hw3a]; exact (below_new _ _).setCell (p := ⟨w2.heap.size, 2, none⟩) (Nat.le_refl _) _
  have R3 := Lib.hid (R2.out.below hb3 R2.out.lt); have C3 : Hid (CM w w3 g) := C2.out.step hb3; have MM := Lib.hid M3'
  have z3 : w2.heap.size < w3.heap.size := M3'.lt
  obtain ⟨m0, m1, m2, f0, f1, f2⟩ := M3'.cells
  obtain ⟨n0, n1, n2, k0, k1, k2⟩ := M3a.cells
  clear hc2 hm2 hb3 M3' R1 C1 RA CA
  go_wp2_with fail
  clear hw3 hw3a M3a n0 n1 n2 k0 k1 k2
  first
    | go_region_held3 (fun w' => w'.cell? ⟨w2.heap.size, 1, none⟩ = some (.int .i64 (1 + (y : Int)))) (first | go_keep | exact m41 | exact m51)
      (first
        | (go_at_call 32; refine (below_cm w3 g _ _ (by omega) (by first | exact CM.of C3.out.1 | exact (CM.of C3.out.1).drew)).mono ?_; rintro e w4 ⟨u, rfl, hu, hc4, -⟩; have R4 := Lib.hid (R3.out.cm hc4 (by omega)); have C4 := Lib.hid (C3.out.trans hc4); have M4 := Lib.hid (MM.out.cm hc4 (by omega)); obtain ⟨m40, m41, m42, f40, f41, f42⟩ := M4.out.cells; have M5 := fun (v : Int) => M4.out.set2 v; have m51 := (M5 (1 + (y : Int) + u)).cells.2.1; have e1 : IntKind.i64.wrap (1 + (y : Int) + (u : Int)) = 1 + (y : Int) + (u : Int) := (by rw [IntKind.wrap_i64]; omega); clear hc4))
    | fail "the region"
  have M5 := Lib.hid (M4.out.set2 (1 + (y : Int) + u)); have R5 := Lib.hid (R4.out.other ⟨w2.heap.size, 2, none⟩ (.int .i64 (1 + (y : Int) + u)) (by show _ ≠ w2.heap.size; omega)); have C5 := Lib.hid (C4.out.set (p := ⟨w2.heap.size, 2, none⟩) (Nat.le_of_lt z2) hgw (.int .i64 (1 + (y : Int) + u)))
  have R6 := Lib.hid (R5.out.put (1 + (x : Int)) (1 + (y : Int)) (1 + (y : Int) + u))
  have C6 : Hid (CM w ((((w4.setCell ⟨w2.heap.size, 2, none⟩ (.int .i64 (1 + (y : Int) + u))).setCell ⟨w.heap.size, 0, none⟩ (.int .i64 (1 + (x : Int)))).setCell ⟨w.heap.size, 1, none⟩ (.int .i64 (1 + (y : Int)))).setCell ⟨w.heap.size, 2, none⟩ (.int .i64 (1 + (y : Int) + u))) g) := ((C5.out.set (Nat.le_refl _) hgw _).set (Nat.le_refl _) hgw _).set (Nat.le_refl _) hgw _
  obtain ⟨a0, a1, a2, _, _, _⟩ := M5.out.cells
  obtain ⟨b0, b1, b2, g0, g1, g2⟩ := R5.out.cells
  obtain ⟨d0, d1, d2, _, _, _⟩ := R6.out.cells
  go_wp2
  exact bodyPost_ret (v := .agg #[.int .i64 (1 + (x : Int)), .int .i64 (1 + (y : Int)), .int .i64 (1 + (y : Int) + u)]) (by simp [results, Tryz.results107, go_sem, d0, d1, d2]) rfl ⟨_, _, _, rfl, by omega, by omega, C6.out⟩
end Go.Proofs.YtobakeahbgodbaaGreat
