/-
  What a line asks of a measure, as the program has it (the type load and its methods), by contract. Conditions: the letters are at most 1000000 wide, the bands at most 120, the measure is one.
-/
import Derived.Test.YtddkedinkgnboaaLineA
import Derived.Test.YtddkedinkgnboaaBox
import Derived.Deep.RegionHeld3
namespace Go.Proofs.Ytddkedinkgnboaa
open Go.RowKit
set_option linter.unusedVariables false


set_option maxHeartbeats 400000 in
theorem ldWidth_any (L B e : Int) (w : World) (h0 : 0 ≤ L) (h1 : L ≤ 1000000) (h2 : 0 ≤ B) (h3 : B ≤ 120) (h4 : -2000100 ≤ e) (h5 : e ≤ 101) :
    Calls Try.prog 89 #[.agg #[.int .i64 L, .int .i64 B], .int .i64 e] w fun r w' => r = .returned (.int .i64 (L + B * e)) ∧ Below w.heap.size w w' := by
  obtain ⟨m0, m1⟩ := mul_wide h2 h3 h4 h5
  have HT := Lib.hid (below_new w (.cells #[.int .i64 L, .int .i64 B] 90))
  go_enter Try.func89, Try.ntmps89
  go_wp2
  go_ret
  exact ⟨rfl, HT.out⟩

def ldCells (w : World) (g : Nat) (a b : Int) : Prop := w.heap[g]? = some (.cells #[.int .i64 a, .int .i64 b] 90 (0, 0))
theorem ldCells.cell {w : World} {g : Nat} {a b : Int} (h : ldCells w g a b) : w.cell? ⟨g, 0, none⟩ = some (.int .i64 a) ∧ w.cell? ⟨g, 1, none⟩ = some (.int .i64 b) ∧ w.frozen? ⟨g, 0, none⟩ = false ∧ w.frozen? ⟨g, 1, none⟩ = false :=
  ⟨by rw [cell_of_row w g 0 _ _ (0, 0) h]; rfl, by rw [cell_of_row w g 1 _ _ (0, 0) h]; rfl, frozen_of_row w g 0 _ _ h, frozen_of_row w g 1 _ _ h⟩
theorem ldCells.set0 {w : World} {g : Nat} {a b : Int} (h : ldCells w g a b) (x : Int) : ldCells (w.setCell ⟨g, 0, none⟩ (.int .i64 x)) g x b := by
  unfold ldCells; rw [heap_setCell_same w g 0 _ _ _ h]; rfl
theorem ldCells.set1 {w : World} {g : Nat} {a b : Int} (h : ldCells w g a b) (x : Int) : ldCells (w.setCell ⟨g, 1, none⟩ (.int .i64 x)) g a x := by
  unfold ldCells; rw [heap_setCell_same w g 1 _ _ _ h]; rfl
theorem ldCells.other {w : World} {g : Nat} {a b : Int} (h : ldCells w g a b) (p : Addr) (u : Value) (hne : g ≠ p.block) : ldCells (w.setCell p u) g a b := by
  unfold ldCells; rw [Below.heap_setCell w p u g hne]; exact h

end Go.Proofs.Ytddkedinkgnboaa
