/-
  bandWidths and BandWidths of the program by contract. Conditions: the letters are at most 1000000 wide, the bands at most 120, the measure is one, the load fits.
-/
import Derived.Test.YtpenmheacpapaaaFitI
import Derived.Test.YtpenmheacpapaaaMemI
namespace Go.Proofs.Ytpenmheacpapaaa
open Go.RowKit
set_option linter.unusedVariables false

def moreF (m : Msr) (L : Int) (B : Nat) : Int := if fullF m L B then restF m L B else 0
theorem mswWorld (w : World) (L B W t k : Int) : ∃ w0, (w.alloc (.cells #[.int .i64 W, .int .i64 t, .int .i64 k] 24)).alloc (.cells #[.int .i64 L, .int .i64 B] 88) = w0 ∧ Below w.heap.size w w0 ∧ w0.heap.size = w.heap.size + 2 ∧
    (w0.cell? ⟨w.heap.size, 0, none⟩ = some (.int .i64 W) ∧ w0.cell? ⟨w.heap.size, 1, none⟩ = some (.int .i64 t) ∧ w0.cell? ⟨w.heap.size, 2, none⟩ = some (.int .i64 k)) ∧
    (w0.cell? ⟨w.heap.size + 1, 0, none⟩ = some (.int .i64 L) ∧ w0.cell? ⟨w.heap.size + 1, 1, none⟩ = some (.int .i64 B)) := by
  refine ⟨_, rfl, (below_new _ _).trans ((below_new _ _).mono (by simp)), by simp, ?_, ?_⟩
  · exact hold3 (below_new _ _) (by simp) (lay3 w (.int .i64 W) (.int .i64 t) (.int .i64 k) 24)
  · have := lay2 (w.alloc (.cells #[.int .i64 W, .int .i64 t, .int .i64 k] 24)) (.int .i64 L) (.int .i64 B) 88
    rw [World.size_alloc] at this
    exact this
theorem own_base0 {w : World} {B B' : Nat} {v : Value} {zs : List Int} (h : Own w B v zs) (hB : B' ≤ B) : Own w B' v zs := by
  refine ⟨h.1, ?_⟩
  rcases h.2 with hn | ⟨g, cap, cur, hv, hg, rest⟩
  · exact .inl hn
  · exact .inr ⟨g, cap, cur, hv, by omega, rest⟩
theorem half_at (zs : List Int) {n k : Nat} (hn : zs.length = n) (hk : k < n) (u v : Value) : ((half zs n k).set k u).set k v = (half zs n k).set k v := by
  rw [List.set_set]

end Go.Proofs.Ytpenmheacpapaaa
