/-
  slices.Grow at nil, slices.Concat and slices.Clone at whole numbers, by contract. Conditions: lengths of at most 2^20 together.
-/
import Derived.Test.YtdijlofcgcikjaaDoorPush
import Derived.Lib.AppendZeros
import Derived.Lib.SliceRun
import Derived.Test.YtdijlofcgcikjaaDoorPkA
namespace Go.Proofs.YtdijlofcgcikjaaDoor
open Go.RowKit
set_option linter.unusedVariables false

theorem run_append_none_int {w : World} (base : Nat) (ty : TypeId) (v : Value) (zs : List Int) (c : Nat) (hown : Own w base v zs) :
    (Builtin.append_ #[23, 23] ty #[v, .slice none 0 c]).run Tryd.prog w = .ok v w := by
  obtain ⟨i0, hi, hz0, hz1, hz2⟩ := info_parts intInfo
  have hu := Tryd.underlying23
  rcases hown.2 with ⟨rfl, h0⟩ | ⟨g, cap, cur, rfl, _, _, hnc, _⟩
  · simp [Builtin.append_, run_underlying hu, sizeOf, typeInfo, hi, Builtin.lenOf, Builtin.firstCells]
  · simp [Builtin.append_, run_underlying hu, sizeOf, typeInfo, hi, Builtin.lenOf, Builtin.firstCells, hnc, storeCells]

section
variable {ops : Array Oper} {rest : List Oper} {o : Oper} {a : Act} {Q : Exit → Act → World → Prop}
/-- append(s, xs...) onto a row of the call's own, whatever xs -/
theorem wpl_append_any (w : World) (hg : o.guard = none) (s x : Operand) (ho : o.op = .call { callee := .builtin .append, args := #[s, x], argTypes := #[23, 23] })
    (B : Nat) (v : Value) (zs ys : List Int) (A : Option Addr) (m c : Nat) (hs : a.eval s = v) (hx : a.eval x = .slice A m c) (hm : ys.length = m) (hI : Ints w A ys) (hown : Own w B v zs) (hB : B ≤ w.heap.size) (hlen : zs.length + m ≤ 2097152)
    (hK : ∀ v' w', Own w' B v' (zs ++ ys) → w.grownBy w' v.ownBlock → (v'.ownBlock = v.ownBlock ∨ v'.ownBlock = some w.heap.size) → wpList Tryd.prog ops Q rest (a.put o.dst v') w') :
    wpList Tryd.prog ops Q (o :: rest) a w := by
  rcases Nat.eq_zero_or_pos m with h0 | hpos
  · subst h0
    have hy : ys = [] := List.eq_nil_of_length_eq_zero hm
    subst hy
    cases A with
    | none =>
      refine wpList_plain hg fun K hK' => ?_
      have hrun := run_append_none_int (w := w) B o.type v zs c hown
      unfold Oper.wp execOp
      simp only [ho, resolve, invoke, builtin, Sem.run_bind, Sem.run_pure, Result.andThen_ok, List.map_toArray, List.map_cons, List.map_nil, hs, hx, hrun]
      exact hK' _ _ (hK v w (by rw [List.append_nil]; exact hown) (World.grownBy.refl w _) (.inl rfl))
    | some ad =>
      obtain ⟨i0, hi, hz0, hz1, hz2⟩ := info_parts intInfo
      refine wpList_plain hg fun K hK' => ?_
      obtain ⟨v', w', hr, h2, h3, h4⟩ := run_append_own (P := Tryd.prog) w B 23 o.type 3 i0 (.int .i64 0) 1 8 Tryd.underlying23 hi hz0 hz1 hz2 rfl (by decide) v zs.length (zs.map (Value.int .i64)) hown ad 0 c [] rfl (fun j u hj => by simp at hj) (fun u hu => by simp at hu) (by unfold maxLen; omega) (by omega) hB
      have hlie := append_lies i0 hi hz0 hz1 hz2 hown ad 0 c (news := []) rfl (fun j u hj => by simp at hj) (fun u hu => by simp at hu) (by omega) hr
      unfold Oper.wp execOp
      simp only [ho, resolve, invoke, builtin, Sem.run_bind, Sem.run_pure, Result.andThen_ok, List.map_toArray, List.map_cons, List.map_nil, hs, hx, hr]
      refine hK' _ _ (hK v' w' ?_ h3 hlie)
      unfold Own
      rw [List.append_nil]
      simpa using h2
  · exact wpl_append2 w hg s x ho B v zs ys A m c hs hx hm hpos hI hown hB hlen hK
end

/-- one of the slices that are laid one behind the other -/
structure Part where
  A : Option Addr
  n : Nat
  c : Nat
  zs : List Int
def flat (ps : List Part) : List Int := ps.flatMap (·.zs)
theorem flat_at {ps : List Part} {k : Nat} {p : Part} (h : ps[k]? = some p) : flat (ps.take (k + 1)) = flat (ps.take k) ++ p.zs := by
  have : ps.take (k + 1) = ps.take k ++ [p] := by rw [List.take_add_one, h]; rfl
  unfold flat
  rw [this, List.flatMap_append]; simp
theorem flat_le (ps : List Part) (k : Nat) : (flat (ps.take k)).length ≤ (flat ps).length := by
  have := congrArg flat (List.take_append_drop k ps)
  unfold flat at *
  rw [List.flatMap_append] at this
  rw [← this, List.length_append]; omega
def PartsAt (w : World) (G : Addr) (b : Nat) (ps : List Part) : Prop := G.block < b ∧ ∀ j p, ps[j]? = some p → w.cell? (G.add j) = some (.slice p.A p.n p.c) ∧ p.zs.length = p.n ∧ IntsB w b p.A p.zs
theorem PartsAt.keep {w w' : World} {G : Addr} {b B : Nat} {ps : List Part} (h : PartsAt w G b ps) (hb : b ≤ B) (hB : Below B w w') : PartsAt w' G b ps :=
  ⟨h.1, fun j p hp => by
    obtain ⟨h1, h2, h3⟩ := h.2 j p hp
    exact ⟨(hB.cell (p := G.add j) (by rw [block_add]; have := h.1; omega)).trans h1, h2, h3.keep hb hB⟩⟩

end Go.Proofs.YtdijlofcgcikjaaDoor
