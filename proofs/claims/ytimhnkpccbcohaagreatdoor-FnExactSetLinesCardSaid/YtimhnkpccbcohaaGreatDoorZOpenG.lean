/-
 Contracts and plain mathematics (CardL, Head, Open), each with its conditions in its own statement.
-/
import Derived.Test.YtimhnkpccbcohaaGreatDoorTie
import Derived.Test.YtimhnkpccbcohaaGreatDoorCards
import Derived.LaidLaws
import Derived.LaidHandle
import Derived.RowKitTokens
import Derived.ChangeVars
import Derived.Below
import Derived.ProofKit
import Derived.Stop.LaidTwo
import Derived.Test.YtimhnkpccbcohaaGreatDoorRows
import Derived.JoinedOf
import Derived.KernelRfl
import Derived.Test.YtimhnkpccbcohaaGreatDoorZPkB
import Derived.Lib.SmallJoins
import Derived.Deep.SlicePairs
namespace Go.Proofs.YtimhnkpccbcohaaGreatDoor
open Go.ChangeShapes Go.WideShapes Go.RowKit
set_option linter.unusedVariables false
namespace CardL

theorem var_below {W W' : World} (hb : Below W.heap.size W W') {n : String} {cs : Array Value} (h : W.var? Tryz.prog n = some cs) : W'.var? Tryz.prog n = some cs := by
 unfold World.var? at h ⊢
 cases hg : Tryz.prog.globalNamed n with
 | none => simp [hg] at h
 | some g =>
  simp only [hg, Option.bind_some] at h ⊢
  have hlt : g < W.heap.size := by
   rcases Nat.lt_or_ge g W.heap.size with h' | h'
   ·exact h'
   ·simp [Array.getElem?_eq_none h'] at h
  rw [hb.block g hlt]
  exact h
theorem sent {W : World} {n nm : String} {g : Nat} {d : DataW Unit} {r : List (String × DataW Unit)} (hg : Tryz.prog.globalNamed n = some g) (ht : (Tryz.prog.globals[g]?).map (·.type) = some 87) (h : laidMet Tryz.prog ((n, .iface nm d) :: r) W) : ∃ u v, W.var? Tryz.prog n = some #[.iface u v] := by
 obtain ⟨ps, ⟨g0, t0, cs0, f0, p0, q0, hg0, ht0, hv0, hd0, -, -⟩, -, -⟩ := h
 obtain rfl := Option.some.inj (hg.symm.trans hg0)
 obtain rfl := Option.some.inj (ht.symm.trans ht0)
 obtain ⟨l0⟩ := cs0
 obtain ⟨_, u, v, hcs, -, -⟩ := iface_of_trod Tryz.underlying87 hd0
 simp only at hcs
 subst hcs
 exact ⟨u, v, hv0⟩
theorem read0 {H : Type} (enc : TypeId × Value → H) {W : World} (sp : Nat → Bool) : DataW.TrodVars enc Tryz.prog W sp [] [] [] := rfl
theorem readC {H : Type} (enc : TypeId × Value → H) {W : World} {n : String} {ns : List String} {g : Nat} {x : Value} {gs : List (DataW H)} {q : List MemPlace} {sp : Nat → Bool} (hg : Tryz.prog.globalNamed n = some g) (ht : (Tryz.prog.globals[g]?).map (·.type) = some 87) (h : W.var? Tryz.prog n = some #[x]) (i : IsIface x)
  (hr : DataW.TrodVars enc Tryz.prog W sp ns gs q) : DataW.TrodVars enc Tryz.prog W sp (n :: ns) (tok enc x :: gs) (.cell g 0 :: q) :=
 ⟨g, 87, #[x], 1, [], q, hg, ht, h, trod_held Tryz.underlying87 i 0, hr, rfl⟩
theorem strRow (u : TypeId) (h : Tryz.prog.typeName? 3 u = some "*errors.errorString") : u = 192 :=
 typeName_ptr_named (nm := "errors.errorString") (by kernel_rfl) (by kernel_rfl) (by decide) u (h.trans (by decide +kernel))
theorem errFull : Tryz.prog.globalNamed "loop.example/g03230/impl.errFull" = some 0 := by kernel_rfl
theorem errFullT : (Tryz.prog.globals[0]?).map (·.type) = some 87 := by kernel_rfl
theorem errEmpty : Tryz.prog.globalNamed "loop.example/g03230/impl.errEmpty" = some 8 := by kernel_rfl
theorem errEmptyT : (Tryz.prog.globals[8]?).map (·.type) = some 87 := by kernel_rfl
theorem errNoKey : Tryz.prog.globalNamed "loop.example/g03230/impl.errNoKey" = some 5 := by kernel_rfl
theorem errNoKeyT : (Tryz.prog.globals[5]?).map (·.type) = some 87 := by kernel_rfl
theorem errNoBand : Tryz.prog.globalNamed "loop.example/g03230/impl.errNoBand" = some 6 := by kernel_rfl
theorem errNoBandT : (Tryz.prog.globals[6]?).map (·.type) = some 87 := by kernel_rfl
theorem errNoFit : Tryz.prog.globalNamed "loop.example/g03230/impl.errNoFit" = some 7 := by kernel_rfl
theorem errNoFitT : (Tryz.prog.globals[7]?).map (·.type) = some 87 := by kernel_rfl
theorem errNoItems : Tryz.prog.globalNamed "loop.example/g03230/impl.errNoItems" = some 3 := by kernel_rfl
theorem errNoItemsT : (Tryz.prog.globals[3]?).map (·.type) = some 87 := by kernel_rfl
theorem errLoose : Tryz.prog.globalNamed "loop.example/g03230/impl.errLoose" = some 1 := by kernel_rfl
theorem errLooseT : (Tryz.prog.globals[1]?).map (·.type) = some 87 := by kernel_rfl
theorem errTooMany : Tryz.prog.globalNamed "loop.example/g03230/impl.errTooMany" = some 4 := by kernel_rfl
theorem errTooManyT : (Tryz.prog.globals[4]?).map (·.type) = some 87 := by kernel_rfl

/-- a world in which all of them lie as laid -/
noncomputable def low : Nat := (World.holding Tryz.prog default ⟨#[], #[], []⟩).heap.size
abbrev s0 : ByteArray := { data := #[116, 104, 101, 114, 101, 32, 105, 115, 32, 110, 111, 32, 114, 111, 111, 109] }
abbrev s1 : ByteArray := { data := #[110, 111, 32, 109, 97, 116, 114, 105, 120, 32, 105, 115, 32, 108, 101, 102, 116] }
abbrev s2 : ByteArray := { data := #[110, 111, 32, 108, 101, 116, 116, 101, 114, 32, 111, 102, 32, 116, 104, 101, 32, 102, 111, 110, 116, 32, 105, 115, 32, 111, 110, 32, 116, 104, 101, 32, 107, 101, 121] }
abbrev s3 : ByteArray := { data := #[110, 111, 32, 98, 97, 110, 100, 32, 105, 115, 32, 108, 101, 102, 116] }
abbrev s4 : ByteArray := { data := #[116, 104, 101, 32, 108, 105, 110, 101, 32, 104, 97, 115, 32, 110, 111, 32, 114, 111, 111, 109, 32, 102, 111, 114, 32, 105, 116] }
abbrev s5 : ByteArray := { data := #[116, 104, 101, 114, 101, 32, 105, 115, 32, 110, 111, 32, 108, 105, 110, 101, 32, 116, 111, 32, 99, 97, 115, 116] }
abbrev s6 : ByteArray := { data := #[116, 104, 101, 32, 108, 105, 110, 101, 32, 105, 115, 32, 110, 111, 116, 32, 102, 117, 108, 108] }
abbrev s7 : ByteArray := { data := #[109, 111, 114, 101, 32, 99, 111, 109, 101, 32, 98, 97, 99, 107, 32, 116, 104, 97, 110, 32, 116, 104, 101, 114, 101, 32, 105, 115, 32, 114, 111, 111, 109, 32, 102, 111, 114] }
noncomputable def laidWorld (os : Os) : World :=
 let w0 := World.holding Tryz.prog os ⟨#[.cells #[.string s0] 215, .cells #[.string s1] 215, .cells #[.string s2] 215, .cells #[.string s3] 215, .cells #[.string s4] 215, .cells #[.string s5] 215, .cells #[.string s6] 215, .cells #[.string s7] 215], #[], []⟩
 { w0 with heap := ((((((((w0.heap.modify 0 fun
   | .cells _ t frozen => .cells #[.iface 192 (.pointer (some ⟨low + 0, 0, none⟩))] t frozen
   | o => o).modify 8 fun
   | .cells _ t frozen => .cells #[.iface 192 (.pointer (some ⟨low + 1, 0, none⟩))] t frozen
   | o => o).modify 5 fun
   | .cells _ t frozen => .cells #[.iface 192 (.pointer (some ⟨low + 2, 0, none⟩))] t frozen
   | o => o).modify 6 fun
   | .cells _ t frozen => .cells #[.iface 192 (.pointer (some ⟨low + 3, 0, none⟩))] t frozen
   | o => o).modify 7 fun
   | .cells _ t frozen => .cells #[.iface 192 (.pointer (some ⟨low + 4, 0, none⟩))] t frozen
   | o => o).modify 3 fun
   | .cells _ t frozen => .cells #[.iface 192 (.pointer (some ⟨low + 5, 0, none⟩))] t frozen
   | o => o).modify 1 fun
   | .cells _ t frozen => .cells #[.iface 192 (.pointer (some ⟨low + 6, 0, none⟩))] t frozen
   | o => o).modify 4 fun
   | .cells _ t frozen => .cells #[.iface 192 (.pointer (some ⟨low + 7, 0, none⟩))] t frozen
   | o => o) }
theorem metSet (os : Os) (args : Array Value) : laidMetH Tryz.prog [("loop.example/g03230/impl.errEmpty", Rows.laid_loop_example_g03230_impl_errEmpty), ("loop.example/g03230/impl.errFull", Rows.laid_loop_example_g03230_impl_errFull), ("loop.example/g03230/impl.errNoKey", Rows.laid_loop_example_g03230_impl_errNoKey), ("loop.example/g03230/impl.errNoBand", Rows.laid_loop_example_g03230_impl_errNoBand), ("loop.example/g03230/impl.errNoFit", Rows.laid_loop_example_g03230_impl_errNoFit), ("loop.example/g03230/impl.errNoItems", Rows.laid_loop_example_g03230_impl_errNoItems), ("loop.example/g03230/impl.errLoose", Rows.laid_loop_example_g03230_impl_errLoose), ("loop.example/g03230/impl.errTooMany", Rows.laid_loop_example_g03230_impl_errTooMany)] ((laidWorld os).forCall (fun _ _ => 0) ⟨#[], args, []⟩).memory :=
 laidMetH_of_parts (laidMet_of_run (ps := [.cell 8 0, .cell (low + 1) 0, .cell 0 0, .cell (low + 0) 0, .cell 5 0, .cell (low + 2) 0, .cell 6 0, .cell (low + 3) 0, .cell 7 0, .cell (low + 4) 0, .cell 3 0, .cell (low + 5) 0, .cell 1 0, .cell (low + 6) 0, .cell 4 0, .cell (low + 7) 0]) 8 (by kernel_rfl) (by kernel_rfl) (by kernel_rfl)) (by kernel_rfl)
end CardL
end Go.Proofs.YtimhnkpccbcohaaGreatDoor

namespace Go.Proofs.YtimhnkpccbcohaaGreatDoor
open Go
def chars (l : List Nat) : List Char := l.map Char.ofNat
set_option maxRecDepth 100000 in
def head1 : List Nat := [104, 97, 114, 110, 101, 115, 115]
set_option maxRecDepth 100000 in
def head2 : List Nat := [97, 49, 50, 54, 56, 99, 50, 99, 102, 48, 53, 54, 52, 100, 52, 56, 54, 56, 53, 50, 55, 99, 54, 51, 98, 52, 101, 51, 50, 52, 54, 48, 53, 101, 102, 49, 49, 100, 102, 50, 99, 55, 100, 51, 50, 49, 97, 56, 97, 57, 57, 102, 54, 50, 99, 54, 99, 56, 49, 57, 98, 99, 57, 55]
def head3 : List Nat := [99, 117, 116]
set_option maxRecDepth 100000 in
def head4 : List Nat := [97, 116, 32, 108, 111, 111, 112, 46, 101, 120, 97, 109, 112, 108, 101, 47, 103, 48, 51, 50, 51, 48, 47, 108, 97, 119, 115, 46, 70, 110, 69, 120, 97, 99, 116, 68, 114, 111, 112, 87, 97, 105, 116, 105, 110, 103, 32, 108, 111, 111, 112, 46, 101, 120, 97, 109, 112, 108, 101, 47, 103, 48, 51, 50, 51, 48, 47, 108, 97, 119, 115, 46, 70, 110, 69, 120, 97, 99, 116, 67, 97, 115, 116, 76, 105, 110, 101, 32, 108, 111, 111, 112, 46, 101, 120, 97, 109, 112, 108, 101, 47, 103, 48, 51, 50, 51, 48, 47, 108, 97, 119, 115, 46, 70, 110, 69, 120, 97, 99, 116, 75, 101, 121, 84, 101, 120, 116, 32, 108, 111, 111, 112, 46, 101, 120, 97, 109, 112, 108, 101, 47, 103, 48, 51, 50, 51, 48, 47, 108, 97, 119, 115, 46, 70, 110, 69, 120, 97, 99, 116, 83, 101, 116, 76, 105, 110, 101, 115]
theorem word_of : ∀ (w r : List Char), (∀ c ∈ w, c ≠ Char.ofNat 32) → wordsSigns (w ++ Char.ofNat 32 :: r) = w :: wordsSigns r
 | [], r, _ => rfl
 | c :: w, r, h => by
  have ih := word_of w r (fun d hd => h d (List.mem_cons_of_mem _ hd))
  have hc : c ≠ Char.ofNat 32 := h c (List.mem_cons_self)
  show wordsSigns (c :: (w ++ Char.ofNat 32 :: r)) = _
  rw [wordsSigns]
  ·rw [ih]
  ·exact hc
theorem cut_is : "cut".toList = chars [99, 117, 116] := by
 rw [show "cut" = String.ofList (chars [99, 117, 116]) from by kernel_rfl, String.toList_ofList]
theorem harness_is : "harness".toList = chars head1 := by
 rw [show "harness" = String.ofList (chars head1) from by kernel_rfl, String.toList_ofList]
theorem head_is : Tryz.prog.initOrder = String.ofList (chars head1 ++ Char.ofNat 32 :: (chars head2 ++ Char.ofNat 32 :: (chars head3 ++ Char.ofNat 32 :: chars head4))) := by kernel_rfl
theorem noBlank (l : List Nat) (h : (chars l).all (fun c => c != Char.ofNat 32) = true) : ∀ c ∈ chars l, c ≠ Char.ofNat 32 := fun c hc => by
 rw [List.all_eq_true] at h
 simpa using h c hc
theorem head_words : behindMainWord (wordsSigns Tryz.prog.initOrder.toList) = chars head3 :: wordsSigns (chars head4) := by
 rw [head_is, String.toList_ofList, word_of _ _ (noBlank _ (by kernel_rfl)), word_of _ _ (noBlank _ (by kernel_rfl)), word_of _ _ (noBlank _ (by kernel_rfl))]
 generalize wordsSigns (chars head4) = R
 have h : ((chars head1 == "harness".toList || chars head1 == "ownmain".toList) && isSumSigns (chars head2)) = true := by
  rw [harness_is, beq_self_eq_true, Bool.true_or, Bool.true_and]
  kernel_rfl
 show (if ((chars head1 == "harness".toList || chars head1 == "ownmain".toList) && isSumSigns (chars head2)) = true then chars head3 :: R else chars head1 :: chars head2 :: chars head3 :: R) = _
 rw [if_pos h]
def cutW : List Char := chars [99, 117, 116]
theorem cut_a : (cutW == "gc".toList || cutW == "spec".toList) = false := by kernel_rfl
theorem cut_b : (cutW == "carried".toList) = false := by kernel_rfl
theorem cut_c : (cutW == "cut".toList) = true := by rw [cut_is]; exact beq_self_eq_true _
section
variable {P : Program} {R : List (List Char)} (h : behindMainWord (wordsSigns P.initOrder.toList) = cutW :: R)
include h
theorem make_of : P.make = some .cut := by
 unfold Program.make
 rw [h]
 simp only [cut_a, cut_c, Bool.true_or, if_true, Bool.false_eq_true, if_false]
omit h in
theorem strip_of : stripLifts liftWords (cutW :: R) = ([], cutW :: R) := by
 kernel_rfl
theorem lifts_of : P.headLifts = [] := by
 unfold Program.headLifts
 rw [h, strip_of]
 simp
theorem liftsFinal_of : P.liftsFinal = false := by
 unfold Program.liftsFinal
 rw [lifts_of h, h]
 have : ((cutW :: R).head? == some "carried".toList) = false := by
  show (some cutW == some "carried".toList) = false
  kernel_rfl
 simp only [this, Bool.false_and, Bool.false_or]
 rfl
theorem mayEnter_of (h1 : P.laysLater = false) (h2 : P.bearsReflect = false) (h3 : P.doorFits [] = true) : P.mayEnter = true := by
 unfold Program.mayEnter
 rw [h]
 have e : ((cutW :: R).head? == some "cut".toList) = true := by
  rw [← show cutW = "cut".toList from cut_is.symm]
  simp
 simp only [strip_of, h1, h2, h3, cut_a, cut_b, e]
 simp
end
theorem head_cut : behindMainWord (wordsSigns Tryz.prog.initOrder.toList) = cutW :: wordsSigns (chars head4) := head_words
theorem make : Tryz.prog.make = some .cut := make_of head_cut
theorem liftsFinal : Tryz.prog.liftsFinal = false := liftsFinal_of head_cut
theorem p1 : Tryz.prog.laysLater = false := by kernel_rfl
theorem p2 : Tryz.prog.bearsReflect = false := by kernel_rfl
theorem p3 : Tryz.prog.doorFits [] = true := by kernel_rfl
theorem mayEnter : Tryz.prog.mayEnter = true := mayEnter_of head_cut p1 p2 p3
end Go.Proofs.YtimhnkpccbcohaaGreatDoor

namespace Go.Proofs.YtimhnkpccbcohaaGreatDoor
open Go.RowKit Go.ChangeShapes Go.WideShapes Go.Deep Go.Joins
set_option linter.unusedVariables false

theorem list_of {α : Type} {P : Nat → α → Prop} : ∀ n, (∀ i, i < n → ∃ x, P i x) → ∃ l : List α, l.length = n ∧ ∀ (i : Nat) (x : α), l[i]? = some x → P i x
  | 0, _ => ⟨[], rfl, fun i x h => by simp at h⟩
  | n + 1, h => by
    obtain ⟨l, hl, hp⟩ := list_of n (fun i hi => h i (by omega))
    obtain ⟨x, hx⟩ := h n (by omega)
    refine ⟨l ++ [x], by simp [hl], fun i y hy => ?_⟩
    by_cases e : i < n
    · rw [List.getElem?_append_left (by omega)] at hy; exact hp i y hy
    · rw [List.getElem?_append_right (by omega)] at hy
      have : i - l.length = 0 := by
        rcases Nat.eq_zero_or_pos (i - l.length) with h0 | h0
        · exact h0
        · rw [List.getElem?_eq_none (by simp; omega)] at hy; cases hy
      rw [this] at hy
      simp at hy
      subst hy
      have : i = n := by omega
      subst this
      exact hx
section
variable {H : Type} {enc : TypeId × Value → H} {W : World}
set_option maxRecDepth 100000 in
theorem intsF_cell {n : Nat} {x : Value} {y : DataW H × List MemPlace} (h : DataW.trod enc Tryz.prog W 0 (fun _ => true) true n 22 [x] = some y) :
    ∃ A l c zs, x = .slice A l c ∧ zs.length = l ∧ l ≤ c ∧ c ≤ maxLen ∧ IntsI W 0 W.heap.size A zs := by
  rcases open_ints Tryz.underlying22 Tryz.underlying3 (by kernel_rfl) h with ⟨hcs, _⟩ | ⟨a, l, c, zs, hcs, _, hl, hm, hz, _, hcell, _⟩
  · injection hcs with e; subst e
    exact ⟨none, 0, 0, [], rfl, rfl, Nat.le_refl _, Nat.zero_le _, fun h => absurd h (by simp)⟩
  · injection hcs with e; subst e
    have hz' : zs.length = c := by simpa using hz
    exact ⟨some a, l, c, zs.take l, rfl, by rw [List.length_take]; omega, hl, hm, IntsI.of (Ints.of_row (by omega) hcell)⟩
set_option maxRecDepth 100000 in
theorem mats_cell {n : Nat} {x : Value} {y : DataW H × List MemPlace} (h : DataW.trod enc Tryz.prog W 0 (fun _ => true) true n 28 [x] = some y) :
    ∃ A c xs, x = .slice A xs.length c ∧ xs.length ≤ c ∧ c ≤ maxLen ∧ MatsI W 0 W.heap.size A xs ∧ ∀ y ∈ xs, (Lit.int .i64 y.2).wf = true := by
  rcases open_slice_pairs Tryz.underlying28 Tryz.underlying107 (by kernel_rfl) (by kernel_rfl) (by kernel_rfl) (by kernel_rfl) (by kernel_rfl) h with ⟨hcs, _⟩ | ⟨a, l, c, m, k, V0, V1, D0, D1, P0, P1, hcs, _, hl, hm, hmm, _, hx⟩
  · injection hcs with e; subst e
    exact ⟨none, 0, [], rfl, Nat.le_refl _, Nat.zero_le _, fun h => absurd h (by simp), by simp⟩
  · injection hcs with e; subst e
    have hmc : m = c := by simpa using hmm
    obtain ⟨xs, hxl, hp⟩ := list_of (α := Mat) (P := fun i x => (W.cell? (a.add (i * 2)) = some (.int .i64 x.1) ∧ W.cell? (a.add (i * 2 + 1)) = some (.int .i64 x.2)) ∧ (Lit.int .i64 x.2).wf = true) l (fun i hi => by
      obtain ⟨c0, c1, t0, t1⟩ := hx i (by omega)
      obtain ⟨z0, hz0, _, _⟩ := DataW.trod_int Tryz.underlying3 t0
      obtain ⟨z1, hz1, _, hwz⟩ := DataW.trod_int Tryz.underlying3 t1
      injection hz0 with e0
      injection hz1 with e1
      exact ⟨(z0, z1), ⟨by rw [c0, e0], by rw [c1, e1]⟩, hwz⟩)
    subst hxl
    refine ⟨some a, c, xs, rfl, hl, hm, fun hpos => ⟨a, rfl, Nat.zero_le _, ?_, fun j x hj => (hp j x hj).1⟩, fun y hy => ?_⟩
    · have := World.block_lt_of_cell? _ _ (hp 0 xs[0] (List.getElem?_eq_getElem hpos)).1.1
      rwa [block_add] at this
    · obtain ⟨j, hj, rfl⟩ := List.mem_iff_getElem.1 hy
      exact (hp j _ (List.getElem?_eq_getElem hj)).2
end
end Go.Proofs.YtimhnkpccbcohaaGreatDoor
