/-
  What a tied card of this program wants besides its law's walk: the listed variables read as laid.
-/
import Derived.Test.YtdijlofcgcikjaaDoorAs
import Derived.Test.YtdijlofcgcikjaaDoorTie
import Derived.Test.YtdijlofcgcikjaaDoorCards
import Derived.LaidLaws
import Derived.LaidHandle
import Derived.RowKitTokens
import Derived.ChangeVars
namespace Go.Proofs.YtdijlofcgcikjaaDoor
open Go.ChangeShapes Go.WideShapes Go.RowKit
set_option linter.unusedVariables false
namespace CardK

theorem et : Tryd.prog.globalNamed "errors.errorType" = some 1 := by kernel_rfl
theorem em : Tryd.prog.globalNamed "loop.example/g03230/impl.errEmpty" = some 0 := by kernel_rfl
theorem fu : Tryd.prog.globalNamed "loop.example/g03230/impl.errFull" = some 2 := by kernel_rfl
theorem emType : (Tryd.prog.globals[0]?).map (·.type) = some 72 := by kernel_rfl
theorem fuType : (Tryd.prog.globals[2]?).map (·.type) = some 72 := by kernel_rfl
theorem rt : (Tryd.prog.cutTypes.find? (·.1 == "internal/reflectlite.rtype")).map (·.2) = some 139 := by kernel_rfl
theorem oneRow : ((List.range Tryd.prog.types.size).filter fun t => Tryd.prog.rowNamed t [101, 114, 114, 111, 114]) = [72] := by kernel_rfl
/-- errors.errorType's cell -/
theorem handle {W : World} (h : handlesMet Tryd.prog [("errors.errorType", Rows.laid_errors_errorType)] W) : ErrH W := by
  obtain ⟨name, u, ty, e1, e2, e3, e4, e5⟩ := h _ (List.mem_singleton.2 rfl)
  have en : name = [101, 114, 114, 111, 114] := (Option.some.inj e1).symm
  subst en
  obtain rfl := Option.some.inj (rt.symm.trans e2)
  have hm : ty ∈ (List.range Tryd.prog.types.size).filter fun t => Tryd.prog.rowNamed t [101, 114, 114, 111, 114] := List.mem_filter.2 ⟨List.mem_range.2 e3, e4⟩
  rw [oneRow] at hm
  obtain rfl := List.mem_singleton.1 hm
  have hh : typeHandle Tryd.prog 72 = .pointer (some ⟨3, 72, none⟩) := by kernel_rfl
  rw [hh] at e5
  unfold ErrH
  simpa using World.var?_cell et e5 0
/-- one listed error reads as an interface value -/
theorem sent {W : World} {n nm : String} {g : Nat} {d : DataW Unit} (hg : Tryd.prog.globalNamed n = some g) (ht : (Tryd.prog.globals[g]?).map (·.type) = some 72) (h : laidMet Tryd.prog [(n, .iface nm d)] W) : ∃ u v, W.var? Tryd.prog n = some #[.iface u v] := by
  obtain ⟨ps, ⟨g0, t0, cs0, f0, p0, q0, hg0, ht0, hv0, hd0, -, -⟩, -, -⟩ := h
  obtain rfl := Option.some.inj (hg.symm.trans hg0)
  obtain rfl := Option.some.inj (ht.symm.trans ht0)
  obtain ⟨l0⟩ := cs0
  obtain ⟨_, u, v, hcs, -, -⟩ := iface_of_trod Tryd.underlying72 hd0
  simp only at hcs
  subst hcs
  exact ⟨u, v, hv0⟩
/-- .. two of them -/
theorem sent2 {W : World} {n nm n' nm' : String} {g g' : Nat} {d d' : DataW Unit} (hg : Tryd.prog.globalNamed n = some g) (ht : (Tryd.prog.globals[g]?).map (·.type) = some 72) (hg' : Tryd.prog.globalNamed n' = some g') (ht' : (Tryd.prog.globals[g']?).map (·.type) = some 72)
    (h : laidMet Tryd.prog [(n, .iface nm d), (n', .iface nm' d')] W) : ∃ u v u' v', W.var? Tryd.prog n = some #[.iface u v] ∧ W.var? Tryd.prog n' = some #[.iface u' v'] := by
  obtain ⟨ps, ⟨g0, t0, cs0, f0, p0, q0, hg0, ht0, hv0, hd0, ⟨g1, t1, cs1, f1, p1, q1, hg1, ht1, hv1, hd1, -, -⟩, -⟩, -, -⟩ := h
  obtain rfl := Option.some.inj (hg.symm.trans hg0)
  obtain rfl := Option.some.inj (ht.symm.trans ht0)
  obtain rfl := Option.some.inj (hg'.symm.trans hg1)
  obtain rfl := Option.some.inj (ht'.symm.trans ht1)
  obtain ⟨l0⟩ := cs0
  obtain ⟨l1⟩ := cs1
  obtain ⟨_, u, v, hcs, -, -⟩ := iface_of_trod Tryd.underlying72 hd0
  obtain ⟨_, u', v', hcs', -, -⟩ := iface_of_trod Tryd.underlying72 hd1
  simp only at hcs hcs'
  subst hcs
  subst hcs'
  exact ⟨u, v, u', v', hv0, hv1⟩
theorem var_below {W W' : World} (hb : Below W.heap.size W W') {n : String} {cs : Array Value} (h : W.var? Tryd.prog n = some cs) : W'.var? Tryd.prog n = some cs := by
  unfold World.var? at h ⊢
  cases hg : Tryd.prog.globalNamed n with
  | none => simp [hg] at h
  | some g =>
    simp only [hg, Option.bind_some] at h ⊢
    have hlt : g < W.heap.size := by
      rcases Nat.lt_or_ge g W.heap.size with h' | h'
      · exact h'
      · simp [Array.getElem?_eq_none h'] at h
    rw [hb.block g hlt]
    exact h
theorem read1 {H : Type} (enc : TypeId × Value → H) {W : World} {n : String} {g : Nat} {x : Value} (hg : Tryd.prog.globalNamed n = some g) (ht : (Tryd.prog.globals[g]?).map (·.type) = some 72) (h : W.var? Tryd.prog n = some #[x]) (i : IsIface x) (sp : Nat → Bool) :
    DataW.TrodVars enc Tryd.prog W sp [n] [tok enc x] [.cell g 0] :=
  ⟨g, 72, #[x], 1, [], [], hg, ht, h, trod_held Tryd.underlying72 i 0, rfl, rfl⟩
theorem read2 {H : Type} (enc : TypeId × Value → H) {W : World} {n n' : String} {g g' : Nat} {x x' : Value} (hg : Tryd.prog.globalNamed n = some g) (ht : (Tryd.prog.globals[g]?).map (·.type) = some 72) (h : W.var? Tryd.prog n = some #[x]) (i : IsIface x)
    (hg' : Tryd.prog.globalNamed n' = some g') (ht' : (Tryd.prog.globals[g']?).map (·.type) = some 72) (h' : W.var? Tryd.prog n' = some #[x']) (i' : IsIface x') (sp : Nat → Bool) :
    DataW.TrodVars enc Tryd.prog W sp [n, n'] [tok enc x, tok enc x'] [.cell g 0, .cell g' 0] :=
  ⟨g, 72, #[x], 1, [], [.cell g' 0], hg, ht, h, trod_held Tryd.underlying72 i 0, ⟨g', 72, #[x'], 1, [], [], hg', ht', h', trod_held Tryd.underlying72 i' 0, rfl, rfl⟩, rfl⟩

/-- a world in which all three variables lie as laid -/
noncomputable def low : Nat := (World.holding Tryd.prog default ⟨#[], #[], []⟩).heap.size
abbrev emS : ByteArray := { data := #[110, 111, 32, 109, 97, 116, 114, 105, 120, 32, 105, 115, 32, 108, 101, 102, 116] }
abbrev fuS : ByteArray := { data := #[116, 104, 101, 114, 101, 32, 105, 115, 32, 110, 111, 32, 114, 111, 111, 109] }
noncomputable def laidWorld (os : Os) : World :=
  let w0 := World.holding Tryd.prog os ⟨#[.cells #[.string emS] 176, .cells #[.string fuS] 176], #[], []⟩
  { w0 with heap := ((w0.heap.modify 0 fun
      | .cells _ t frozen => .cells #[.iface 154 (.pointer (some ⟨low, 0, none⟩))] t frozen
      | o => o).modify 2 fun
      | .cells _ t frozen => .cells #[.iface 154 (.pointer (some ⟨low + 1, 0, none⟩))] t frozen
      | o => o).modify 1 fun
      | .cells _ t frozen => .cells #[.iface 139 (.agg #[.pointer (some ⟨3, 72, none⟩)])] t frozen
      | o => o }
theorem metE (os : Os) (args : Array Value) : laidMetH Tryd.prog [("errors.errorType", Rows.laid_errors_errorType), ("loop.example/g03230/impl.errEmpty", Rows.laid_loop_example_g03230_impl_errEmpty)] ((laidWorld os).forCall (fun _ _ => 0) ⟨#[], args, []⟩).memory :=
  laidMetH_of_parts (laidMet_of_run (ps := [.cell 0 0, .cell low 0]) 8 (by kernel_rfl) (by kernel_rfl) (by kernel_rfl)) (by kernel_rfl)
theorem metF (os : Os) (args : Array Value) : laidMetH Tryd.prog [("errors.errorType", Rows.laid_errors_errorType), ("loop.example/g03230/impl.errFull", Rows.laid_loop_example_g03230_impl_errFull)] ((laidWorld os).forCall (fun _ _ => 0) ⟨#[], args, []⟩).memory :=
  laidMetH_of_parts (laidMet_of_run (ps := [.cell 2 0, .cell (low + 1) 0]) 8 (by kernel_rfl) (by kernel_rfl) (by kernel_rfl)) (by kernel_rfl)
theorem metEF (os : Os) (args : Array Value) : laidMetH Tryd.prog [("errors.errorType", Rows.laid_errors_errorType), ("loop.example/g03230/impl.errEmpty", Rows.laid_loop_example_g03230_impl_errEmpty), ("loop.example/g03230/impl.errFull", Rows.laid_loop_example_g03230_impl_errFull)] ((laidWorld os).forCall (fun _ _ => 0) ⟨#[], args, []⟩).memory :=
  laidMetH_of_parts (laidMet_of_run (ps := [.cell 0 0, .cell low 0, .cell 2 0, .cell (low + 1) 0]) 8 (by kernel_rfl) (by kernel_rfl) (by kernel_rfl)) (by kernel_rfl)
end CardK
end Go.Proofs.YtdijlofcgcikjaaDoor
