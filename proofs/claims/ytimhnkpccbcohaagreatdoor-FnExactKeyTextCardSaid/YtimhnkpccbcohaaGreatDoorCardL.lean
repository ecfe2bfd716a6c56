/-
  What a tied card of this program wants besides its law's walk: the listed sentinels read as laid.
-/
import Derived.Test.YtimhnkpccbcohaaGreatDoorTie
import Derived.Test.YtimhnkpccbcohaaGreatDoorCards
import Derived.LaidLaws
import Derived.LaidHandle
import Derived.RowKitTokens
import Derived.ChangeVars
import Derived.Below
import Derived.ProofKit
import Derived.Stop.LaidTwo
namespace Go.Proofs.YtimhnkpccbcohaaGreatDoor
open Go.ChangeShapes Go.WideShapes Go.RowKit
set_option linter.unusedVariables false
namespace CardL

theorem var_below {W W' : World} (hb : Below W.heap.size W W') {n : String} {cs : Array Value} (h : W.var? Tryz.prog n = some cs) : W'.var? Tryz.prog n = some cs := by
  unfold World.var? at h ⊢
  cases hg : Tryz.prog.globalNamed n with
  | none => simp [hg] at h
  | some g =>
    simp only [hg, Option.bind_some] at h ⊢
    have hlt : g < W.heap.size := by
      rcases Nat.lt_or_ge g W.heap.size with h' | h'
      · exact h'
      · simp [Array.getElem?_eq_none h'] at h
    rw [hb.block g hlt]
    exact h
theorem sent {W : World} {n nm : String} {g : Nat} {d : DataW Unit} {r : List (String × DataW Unit)} (hg : Tryz.prog.globalNamed n = some g) (ht : (Tryz.prog.globals[g]?).map (·.type) = some 87) (h : laidMet Tryz.prog ((n, .iface nm d) :: r) W) : ∃ u v, W.var? Tryz.prog n = some #[.iface u v] := by
  obtain ⟨ps, ⟨g0, t0, cs0, f0, p0, q0, hg0, ht0, hv0, hd0, -, -⟩, -, -⟩ := h
  obtain rfl := Option.some.inj (hg.symm.trans hg0)
  obtain rfl := Option.some.inj (ht.symm.trans ht0)
  obtain ⟨l0⟩ := cs0
  obtain ⟨_, u, v, hcs, -, -⟩ := iface_of_trod Tryz.underlying87 hd0
  simp only at hcs
  subst hcs
  exact ⟨u, v, hv0⟩
theorem read0 {H : Type} (enc : TypeId × Value → H) {W : World} (sp : Nat → Bool) : DataW.TrodVars enc Tryz.prog W sp [] [] [] := rfl
theorem readC {H : Type} (enc : TypeId × Value → H) {W : World} {n : String} {ns : List String} {g : Nat} {x : Value} {gs : List (DataW H)} {q : List MemPlace} {sp : Nat → Bool} (hg : Tryz.prog.globalNamed n = some g) (ht : (Tryz.prog.globals[g]?).map (·.type) = some 87) (h : W.var? Tryz.prog n = some #[x]) (i : IsIface x)
    (hr : DataW.TrodVars enc Tryz.prog W sp ns gs q) : DataW.TrodVars enc Tryz.prog W sp (n :: ns) (tok enc x :: gs) (.cell g 0 :: q) :=
  ⟨g, 87, #[x], 1, [], q, hg, ht, h, trod_held Tryz.underlying87 i 0, hr, rfl⟩
theorem strRow (u : TypeId) (h : Tryz.prog.typeName? 3 u = some "*errors.errorString") : u = 192 :=
  typeName_ptr_named (nm := "errors.errorString") (by kernel_rfl) (by kernel_rfl) (by decide) u (h.trans (by decide +kernel))
theorem errFull : Tryz.prog.globalNamed "loop.example/g03230/impl.errFull" = some 0 := by kernel_rfl
theorem errFullT : (Tryz.prog.globals[0]?).map (·.type) = some 87 := by kernel_rfl
theorem errEmpty : Tryz.prog.globalNamed "loop.example/g03230/impl.errEmpty" = some 8 := by kernel_rfl
theorem errEmptyT : (Tryz.prog.globals[8]?).map (·.type) = some 87 := by kernel_rfl
theorem errNoKey : Tryz.prog.globalNamed "loop.example/g03230/impl.errNoKey" = some 5 := by kernel_rfl
theorem errNoKeyT : (Tryz.prog.globals[5]?).map (·.type) = some 87 := by kernel_rfl
theorem errNoBand : Tryz.prog.globalNamed "loop.example/g03230/impl.errNoBand" = some 6 := by kernel_rfl
theorem errNoBandT : (Tryz.prog.globals[6]?).map (·.type) = some 87 := by kernel_rfl
theorem errNoFit : Tryz.prog.globalNamed "loop.example/g03230/impl.errNoFit" = some 7 := by kernel_rfl
theorem errNoFitT : (Tryz.prog.globals[7]?).map (·.type) = some 87 := by kernel_rfl
theorem errNoItems : Tryz.prog.globalNamed "loop.example/g03230/impl.errNoItems" = some 3 := by kernel_rfl
theorem errNoItemsT : (Tryz.prog.globals[3]?).map (·.type) = some 87 := by kernel_rfl
theorem errLoose : Tryz.prog.globalNamed "loop.example/g03230/impl.errLoose" = some 1 := by kernel_rfl
theorem errLooseT : (Tryz.prog.globals[1]?).map (·.type) = some 87 := by kernel_rfl
theorem errTooMany : Tryz.prog.globalNamed "loop.example/g03230/impl.errTooMany" = some 4 := by kernel_rfl
theorem errTooManyT : (Tryz.prog.globals[4]?).map (·.type) = some 87 := by kernel_rfl

/-- a world in which all of them lie as laid -/
noncomputable def low : Nat := (World.holding Tryz.prog default ⟨#[], #[], []⟩).heap.size
abbrev s0 : ByteArray := { data := #[116, 104, 101, 114, 101, 32, 105, 115, 32, 110, 111, 32, 114, 111, 111, 109] }
abbrev s1 : ByteArray := { data := #[110, 111, 32, 109, 97, 116, 114, 105, 120, 32, 105, 115, 32, 108, 101, 102, 116] }
abbrev s2 : ByteArray := { data := #[110, 111, 32, 108, 101, 116, 116, 101, 114, 32, 111, 102, 32, 116, 104, 101, 32, 102, 111, 110, 116, 32, 105, 115, 32, 111, 110, 32, 116, 104, 101, 32, 107, 101, 121] }
abbrev s3 : ByteArray := { data := #[110, 111, 32, 98, 97, 110, 100, 32, 105, 115, 32, 108, 101, 102, 116] }
abbrev s4 : ByteArray := { data := #[116, 104, 101, 32, 108, 105, 110, 101, 32, 104, 97, 115, 32, 110, 111, 32, 114, 111, 111, 109, 32, 102, 111, 114, 32, 105, 116] }
abbrev s5 : ByteArray := { data := #[116, 104, 101, 114, 101, 32, 105, 115, 32, 110, 111, 32, 108, 105, 110, 101, 32, 116, 111, 32, 99, 97, 115, 116] }
abbrev s6 : ByteArray := { data := #[116, 104, 101, 32, 108, 105, 110, 101, 32, 105, 115, 32, 110, 111, 116, 32, 102, 117, 108, 108] }
abbrev s7 : ByteArray := { data := #[109, 111, 114, 101, 32, 99, 111, 109, 101, 32, 98, 97, 99, 107, 32, 116, 104, 97, 110, 32, 116, 104, 101, 114, 101, 32, 105, 115, 32, 114, 111, 111, 109, 32, 102, 111, 114] }
noncomputable def laidWorld (os : Os) : World :=
  let w0 := World.holding Tryz.prog os ⟨#[.cells #[.string s0] 215, .cells #[.string s1] 215, .cells #[.string s2] 215, .cells #[.string s3] 215, .cells #[.string s4] 215, .cells #[.string s5] 215, .cells #[.string s6] 215, .cells #[.string s7] 215], #[], []⟩
  { w0 with heap := ((((((((w0.heap.modify 0 fun
      | .cells _ t frozen => .cells #[.iface 192 (.pointer (some ⟨low + 0, 0, none⟩))] t frozen
      | o => o).modify 8 fun
      | .cells _ t frozen => .cells #[.iface 192 (.pointer (some ⟨low + 1, 0, none⟩))] t frozen
      | o => o).modify 5 fun
      | .cells _ t frozen => .cells #[.iface 192 (.pointer (some ⟨low + 2, 0, none⟩))] t frozen
      | o => o).modify 6 fun
      | .cells _ t frozen => .cells #[.iface 192 (.pointer (some ⟨low + 3, 0, none⟩))] t frozen
      | o => o).modify 7 fun
      | .cells _ t frozen => .cells #[.iface 192 (.pointer (some ⟨low + 4, 0, none⟩))] t frozen
      | o => o).modify 3 fun
      | .cells _ t frozen => .cells #[.iface 192 (.pointer (some ⟨low + 5, 0, none⟩))] t frozen
      | o => o).modify 1 fun
      | .cells _ t frozen => .cells #[.iface 192 (.pointer (some ⟨low + 6, 0, none⟩))] t frozen
      | o => o).modify 4 fun
      | .cells _ t frozen => .cells #[.iface 192 (.pointer (some ⟨low + 7, 0, none⟩))] t frozen
      | o => o) }
theorem metCast (os : Os) (args : Array Value) : laidMetH Tryz.prog [("loop.example/g03230/impl.errNoItems", Rows.laid_loop_example_g03230_impl_errNoItems), ("loop.example/g03230/impl.errLoose", Rows.laid_loop_example_g03230_impl_errLoose), ("loop.example/g03230/impl.errTooMany", Rows.laid_loop_example_g03230_impl_errTooMany)] ((laidWorld os).forCall (fun _ _ => 0) ⟨#[], args, []⟩).memory :=
  laidMetH_of_parts (laidMet_of_run (ps := [.cell 3 0, .cell (low + 5) 0, .cell 1 0, .cell (low + 6) 0, .cell 4 0, .cell (low + 7) 0]) 8 (by kernel_rfl) (by kernel_rfl) (by kernel_rfl)) (by kernel_rfl)
theorem metDrop (os : Os) (args : Array Value) : laidMetH Tryz.prog [("loop.example/g03230/impl.errFull", Rows.laid_loop_example_g03230_impl_errFull)] ((laidWorld os).forCall (fun _ _ => 0) ⟨#[], args, []⟩).memory :=
  laidMetH_of_parts (laidMet_of_run (ps := [.cell 0 0, .cell (low + 0) 0]) 8 (by kernel_rfl) (by kernel_rfl) (by kernel_rfl)) (by kernel_rfl)
theorem metSet (os : Os) (args : Array Value) : laidMetH Tryz.prog [("loop.example/g03230/impl.errEmpty", Rows.laid_loop_example_g03230_impl_errEmpty), ("loop.example/g03230/impl.errFull", Rows.laid_loop_example_g03230_impl_errFull), ("loop.example/g03230/impl.errNoKey", Rows.laid_loop_example_g03230_impl_errNoKey), ("loop.example/g03230/impl.errNoBand", Rows.laid_loop_example_g03230_impl_errNoBand), ("loop.example/g03230/impl.errNoFit", Rows.laid_loop_example_g03230_impl_errNoFit), ("loop.example/g03230/impl.errNoItems", Rows.laid_loop_example_g03230_impl_errNoItems), ("loop.example/g03230/impl.errLoose", Rows.laid_loop_example_g03230_impl_errLoose), ("loop.example/g03230/impl.errTooMany", Rows.laid_loop_example_g03230_impl_errTooMany)] ((laidWorld os).forCall (fun _ _ => 0) ⟨#[], args, []⟩).memory :=
  laidMetH_of_parts (laidMet_of_run (ps := [.cell 8 0, .cell (low + 1) 0, .cell 0 0, .cell (low + 0) 0, .cell 5 0, .cell (low + 2) 0, .cell 6 0, .cell (low + 3) 0, .cell 7 0, .cell (low + 4) 0, .cell 3 0, .cell (low + 5) 0, .cell 1 0, .cell (low + 6) 0, .cell 4 0, .cell (low + 7) 0]) 8 (by kernel_rfl) (by kernel_rfl) (by kernel_rfl)) (by kernel_rfl)
end CardL
end Go.Proofs.YtimhnkpccbcohaaGreatDoor
