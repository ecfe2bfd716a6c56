/-
  What comes in as a measure reads as three numbers. No condition.
-/
import Derived.Test.YtobakeahbgodbaaGreatPkA
import Derived.ProofKit
import Derived.OpenShut
import Derived.Lib.SmallJoins
namespace Go.Proofs.YtobakeahbgodbaaGreat
open Go.RowKit Go.ChangeShapes Go.WideShapes Go.Deep Go.Joins
set_option linter.unusedVariables false
section
variable {H : Type} {enc : TypeId × Value → H} {W : World}
set_option maxRecDepth 100000 in
theorem openMsr {base : Nat} {v : Value} {d : DataW H} {p : List MemPlace} (hv : Value.okWide Tryz.prog W .any base 40 v) (h : DataW.Trod enc Tryz.prog W 0 (fun _ => true) true 40 v d p) : ∃ m : Msr, v = .agg #[.int .i64 m.w, .int .i64 m.t, .int .i64 m.k] := by
  obtain ⟨v0, v1, v2, y0, y1, y2, n, rfl, _, _, h0, h1, h2⟩ := open_agg3 Tryz.underlying40 (by kernel_rfl) (by kernel_rfl) hv h
  obtain ⟨a, ha, _, _⟩ := DataW.trod_int Tryz.underlying3 h0
  obtain ⟨b, hb, _, _⟩ := DataW.trod_int Tryz.underlying3 h1
  obtain ⟨c, hc, _, _⟩ := DataW.trod_int Tryz.underlying3 h2
  injection ha with e; subst e
  injection hb with e; subst e
  injection hc with e; subst e
  exact ⟨⟨a, b, c⟩, rfl⟩
end
end Go.Proofs.YtobakeahbgodbaaGreat
