/-
  The program's copyOf by contract; appending a list of matrices to an empty row. Condition: lengths of at most 2^20.
-/
import Derived.Test.YtdijlofcgcikjaaDoorMagW
namespace Go.Proofs.YtdijlofcgcikjaaDoor
open Go.RowKit
set_option linter.unusedVariables false

theorem run_append_none_any {P : Program} {w : World} (base : Nat) (t ty e : TypeId) (i : TypeInfo) (size : Nat) (ht : P.underlying t = some (.slice e)) (hi : P.info? e = some i)
    (v : Value) (n c : Nat) (xs : List Value) (hown : w.ownsRow base e size v n xs) :
    (Builtin.append_ #[t, t] ty #[v, .slice none 0 c]).run P w = .ok v w := by
  rcases hown.2 with ⟨rfl, rfl⟩ | ⟨g, cap, cur, rfl, _, _, hnc, _⟩
  · simp [Builtin.append_, run_underlying ht, sizeOf, typeInfo, hi, Builtin.lenOf, Builtin.firstCells]
  · simp [Builtin.append_, run_underlying ht, sizeOf, typeInfo, hi, Builtin.lenOf, Builtin.firstCells, hnc, storeCells]

section
variable {ops : Array Oper} {rest : List Oper} {o : Oper} {a : Act} {Q : Exit → Act → World → Prop}
set_option maxRecDepth 100000 in
/-- append(an empty row, ys...) -/
theorem wpl_copy_mat (w : World) (hg : o.guard = none) (s x : Operand) (ho : o.op = .call { callee := .builtin .append, args := #[s, x], argTypes := #[34, 34] })
    (B lo hi : Nat) (v : Value) (ys : List Mat) (A : Option Addr) (m c : Nat) (hs : a.eval s = v) (hown : OwnM w B v []) (hB : B ≤ w.heap.size) (hx : a.eval x = .slice A m c) (hm : ys.length = m) (hI : MatsI w lo hi A ys) (hlen : m ≤ 1048576)
    (hK : ∀ v' w', OwnM w' B v' ys → w.grownBy w' v.ownBlock → (v'.ownBlock = v.ownBlock ∨ ∀ k, v'.ownBlock = some k → w.heap.size ≤ k) → wpList Tryd.prog ops Q rest (a.put o.dst v') w') :
    wpList Tryd.prog ops Q (o :: rest) a w := by
  obtain ⟨i0, hi, hz0, hz1, hz2⟩ := info_parts matInfo
  cases A with
  | none =>
    have hm0 : m = 0 := by
      rcases Nat.eq_zero_or_pos m with h | h
      · exact h
      · obtain ⟨ad, e, _⟩ := hI (by omega); cases e
    subst hm0
    have hy : ys = [] := List.eq_nil_of_length_eq_zero hm
    subst hy
    refine wpList_plain hg fun K hK' => ?_
    have hrun := run_append_none_any (P := Tryd.prog) (w := w) B 34 o.type 30 i0 2 Tryd.underlying34 hi v 0 c [] hown
    unfold Oper.wp
    simp [execOp, ho, resolve, invoke, builtin, hs, hx, hrun, Result.andThen]
    exact hK' _ _ (hK v w hown (World.grownBy.refl w _) (.inl rfl))
  | some ad =>
    refine wpList_append_own_at _ hg s x 34 ho B 30 i0 (.agg #[.int .i64 0, .int .i64 0]) 2 16 Tryd.underlying34 hi hz0 hz1 hz2 rfl (by decide) v 0 [] hs hown ad m c (mcells ys) hx (by rw [mcells_len, hm]) ?_ ?_ (by unfold maxLen; omega) (by omega) hB ?_
    · intro j u hj
      have hjl : j < m * 2 := by
        have := (List.getElem?_eq_some_iff.1 hj).1
        rw [mcells_len, hm] at this; exact this
      obtain ⟨ad', e, _, _, hc⟩ := hI (by omega)
      obtain rfl := Option.some.inj e
      have hy : ys[j / 2]? = some (ys[j / 2]'(by omega)) := List.getElem?_eq_getElem (by omega)
      obtain ⟨c1, c2⟩ := hc (j / 2) _ hy
      obtain ⟨g1, g2⟩ := mcells_get hy
      rcases Nat.mod_two_eq_zero_or_one j with h0 | h0
      · have e2 : j / 2 * 2 = j := by omega
        rw [e2] at c1 g1
        rw [hj] at g1
        injection g1 with g1
        rw [c1, g1]
      · have e2 : j / 2 * 2 + 1 = j := by omega
        rw [e2] at c2 g2
        rw [hj] at g2
        injection g2 with g2
        rw [c2, g2]
    · intro u hu
      unfold mcells at hu
      rw [List.mem_flatMap] at hu
      obtain ⟨y, _, hu⟩ := hu
      simp at hu
      rcases hu with rfl | rfl <;> rfl
    · intro v' w' h1 h2 _ h4
      refine hK v' w' ?_ h2 ?_
      · unfold OwnM
        rw [hm]
        simpa using h1
      · rcases h4 with h4 | h4
        · exact .inl h4
        · refine .inr fun k hk => ?_
          rw [h4] at hk
          have e2 := Option.some.inj hk
          omega
end

theorem grown_none {w w' : World} (h : w.grownBy w' (Value.slice none 0 0).ownBlock) (row : Option Nat) : w.grownBy w' row := ⟨h.os, h.tape, h.output, h.size, fun b h1 _ => h.block b h1 (fun e => by cases e)⟩
theorem fresh_none {u : Value} {b : Nat} (h : u.ownBlock = (Value.slice none 0 0).ownBlock ∨ ∀ k, u.ownBlock = some k → b ≤ k) : ∀ k, u.ownBlock = some k → b ≤ k := by
  rcases h with e | e
  · intro k hk
    rw [e] at hk
    cases hk
  · exact e

/-- the first k rows, and empty ones -/
def halfMM (ms : List (List Mat)) (n k : Nat) : List (List Mat) := ms.take k ++ List.replicate (n - k) []
theorem halfMM_len {ms : List (List Mat)} {n k : Nat} (hn : ms.length = n) (h : k ≤ n) : (halfMM ms n k).length = n := by unfold halfMM; simp; omega
theorem halfMM_get {ms : List (List Mat)} {n k : Nat} (hn : ms.length = n) (h : k < n) : (halfMM ms n k)[k]? = some [] := by
  unfold halfMM
  rw [List.getElem?_append_right (by simp; omega), List.length_take, List.getElem?_replicate, if_pos (by omega)]
theorem halfMM_set {ms : List (List Mat)} {n k : Nat} {xs : List Mat} (hn : ms.length = n) (hx : ms[k]? = some xs) : (halfMM ms n k).set k xs = halfMM ms n (k + 1) := by
  have h := (List.getElem?_eq_some_iff.1 hx).1
  unfold halfMM
  have hl : (ms.take k).length = k := by rw [List.length_take]; omega
  rw [List.set_append, if_neg (by omega), hl, Nat.sub_self, ttake_at hx, List.append_assoc]
  have : n - k = (n - (k + 1)) + 1 := by omega
  rw [this, List.replicate_succ, List.set_cons_zero]
  rfl

end Go.Proofs.YtdijlofcgcikjaaDoor
