/-
  Arguments of the exact laws over fonts and magazines: what comes in reads as a font, a matrix, a list of matrices, a magazine. No condition.
-/
import Derived.Test.YtimhnkpccbcohaaGreatDoorPkB
import Derived.ProofKit
import Derived.Lib.SmallJoins
import Derived.Deep.SlicePairs
namespace Go.Proofs.YtimhnkpccbcohaaGreatDoor
open Go.RowKit Go.ChangeShapes Go.WideShapes Go.Deep Go.Joins
set_option linter.unusedVariables false

theorem list_of {α : Type} {P : Nat → α → Prop} : ∀ n, (∀ i, i < n → ∃ x, P i x) → ∃ l : List α, l.length = n ∧ ∀ (i : Nat) (x : α), l[i]? = some x → P i x
  | 0, _ => ⟨[], rfl, fun i x h => by simp at h⟩
  | n + 1, h => by
    obtain ⟨l, hl, hp⟩ := list_of n (fun i hi => h i (by omega))
    obtain ⟨x, hx⟩ := h n (by omega)
    refine ⟨l ++ [x], by simp [hl], fun i y hy => ?_⟩
    by_cases e : i < n
    · rw [List.getElem?_append_left (by omega)] at hy; exact hp i y hy
    · rw [List.getElem?_append_right (by omega)] at hy
      have : i - l.length = 0 := by
        rcases Nat.eq_zero_or_pos (i - l.length) with h0 | h0
        · exact h0
        · rw [List.getElem?_eq_none (by simp; omega)] at hy; cases hy
      rw [this] at hy
      simp at hy
      subst hy
      have : i = n := by omega
      subst this
      exact hx
section
variable {H : Type} {enc : TypeId × Value → H} {W : World}
set_option maxRecDepth 100000 in
theorem intsF_cell {n : Nat} {x : Value} {y : DataW H × List MemPlace} (h : DataW.trod enc Tryz.prog W 0 (fun _ => true) true n 22 [x] = some y) :
    ∃ A l c zs, x = .slice A l c ∧ zs.length = l ∧ l ≤ c ∧ c ≤ maxLen ∧ IntsI W 0 W.heap.size A zs := by
  rcases open_ints Tryz.underlying22 Tryz.underlying3 (by kernel_rfl) h with ⟨hcs, _⟩ | ⟨a, l, c, zs, hcs, _, hl, hm, hz, _, hcell, _⟩
  · injection hcs with e; subst e
    exact ⟨none, 0, 0, [], rfl, rfl, Nat.le_refl _, Nat.zero_le _, fun h => absurd h (by simp)⟩
  · injection hcs with e; subst e
    have hz' : zs.length = c := by simpa using hz
    exact ⟨some a, l, c, zs.take l, rfl, by rw [List.length_take]; omega, hl, hm, IntsI.of (Ints.of_row (by omega) hcell)⟩
set_option maxRecDepth 100000 in
theorem openFont {base : Nat} {v : Value} {d : DataW H} {p : List MemPlace} (hv : Value.okWide Tryz.prog W .any base 24 v) (h : DataW.Trod enc Tryz.prog W 0 (fun _ => true) true 24 v d p) : ∃ f, FontV W 0 W.heap.size v f := by
  obtain ⟨v0, v1, v2, y0, y1, y2, n, rfl, _, _, h0, h1, h2⟩ := open_agg3 Tryz.underlying24 (by kernel_rfl) (by kernel_rfl) hv h
  obtain ⟨s, hs, _, hsz⟩ := DataW.trod_string Tryz.underlying9 h0
  injection hs with e; subst e
  obtain ⟨A, l, c, zs, rfl, hl, hc, hm, hI⟩ := intsF_cell h1
  obtain ⟨B, l2, c2, zs2, rfl, hl2, hc2, hm2, hI2⟩ := intsF_cell h2
  exact ⟨⟨s, zs, zs2⟩, A, c, B, c2, by simp only; rw [hl, hl2], hI, hI2, by simp only; omega, hm, by simp only; omega, hm2, hsz⟩
set_option maxRecDepth 100000 in
theorem openMat {base : Nat} {v : Value} {d : DataW H} {p : List MemPlace} (hv : Value.okWide Tryz.prog W .any base 107 v) (h : DataW.Trod enc Tryz.prog W 0 (fun _ => true) true 107 v d p) : ∃ x : Mat, v = .agg #[.int .i64 x.1, .int .i64 x.2] ∧ (Lit.int .i64 x.2).wf = true := by
  obtain ⟨v0, v1, y0, y1, n, rfl, _, _, h0, h1⟩ := open_agg2 Tryz.underlying107 (by kernel_rfl) (by kernel_rfl) hv h
  obtain ⟨a, ha, _, _⟩ := DataW.trod_int Tryz.underlying3 h0
  obtain ⟨b, hb, _, hwb⟩ := DataW.trod_int Tryz.underlying3 h1
  injection ha with e; subst e
  injection hb with e; subst e
  exact ⟨(a, b), rfl, hwb⟩
set_option maxRecDepth 100000 in
theorem mats_cell {n : Nat} {x : Value} {y : DataW H × List MemPlace} (h : DataW.trod enc Tryz.prog W 0 (fun _ => true) true n 28 [x] = some y) :
    ∃ A c xs, x = .slice A xs.length c ∧ xs.length ≤ c ∧ c ≤ maxLen ∧ MatsI W 0 W.heap.size A xs ∧ ∀ y ∈ xs, (Lit.int .i64 y.2).wf = true := by
  rcases open_slice_pairs Tryz.underlying28 Tryz.underlying107 (by kernel_rfl) (by kernel_rfl) (by kernel_rfl) (by kernel_rfl) (by kernel_rfl) h with ⟨hcs, _⟩ | ⟨a, l, c, m, k, V0, V1, D0, D1, P0, P1, hcs, _, hl, hm, hmm, _, hx⟩
  · injection hcs with e; subst e
    exact ⟨none, 0, [], rfl, Nat.le_refl _, Nat.zero_le _, fun h => absurd h (by simp), by simp⟩
  · injection hcs with e; subst e
    have hmc : m = c := by simpa using hmm
    obtain ⟨xs, hxl, hp⟩ := list_of (α := Mat) (P := fun i x => (W.cell? (a.add (i * 2)) = some (.int .i64 x.1) ∧ W.cell? (a.add (i * 2 + 1)) = some (.int .i64 x.2)) ∧ (Lit.int .i64 x.2).wf = true) l (fun i hi => by
      obtain ⟨c0, c1, t0, t1⟩ := hx i (by omega)
      obtain ⟨z0, hz0, _, _⟩ := DataW.trod_int Tryz.underlying3 t0
      obtain ⟨z1, hz1, _, hwz⟩ := DataW.trod_int Tryz.underlying3 t1
      injection hz0 with e0
      injection hz1 with e1
      exact ⟨(z0, z1), ⟨by rw [c0, e0], by rw [c1, e1]⟩, hwz⟩)
    subst hxl
    refine ⟨some a, c, xs, rfl, hl, hm, fun hpos => ⟨a, rfl, Nat.zero_le _, ?_, fun j x hj => (hp j x hj).1⟩, fun y hy => ?_⟩
    · have := World.block_lt_of_cell? _ _ (hp 0 xs[0] (List.getElem?_eq_getElem hpos)).1.1
      rwa [block_add] at this
    · obtain ⟨j, hj, rfl⟩ := List.mem_iff_getElem.1 hy
      exact (hp j _ (List.getElem?_eq_getElem hj)).2
set_option maxRecDepth 100000 in
theorem openMats {v : Value} {d : DataW H} {p : List MemPlace} {base : Nat} (hv : Value.okWide Tryz.prog W .any base 28 v) (h : DataW.Trod enc Tryz.prog W 0 (fun _ => true) true 28 v d p) :
    ∃ A c xs, v = .slice A xs.length c ∧ xs.length ≤ c ∧ c ≤ maxLen ∧ MatsI W 0 W.heap.size A xs ∧ ∀ y ∈ xs, (Lit.int .i64 y.2).wf = true := by
  obtain ⟨a, len, cap, rfl⟩ := okWide_slice Tryz.underlying28 hv
  obtain ⟨fuel, hf⟩ := h
  exact mats_cell (x := .slice a len cap) (by simpa [Value.cells] using hf)
set_option maxRecDepth 100000 in
theorem openMag {v : Value} {d : DataW H} {p : List MemPlace} {base : Nat} (hv : Value.okWide Tryz.prog W .any base 25 v) (h : DataW.Trod enc Tryz.prog W 0 (fun _ => true) true 25 v d p) :
    ∃ A c ms, v = .slice A ms.length c ∧ ms.length ≤ c ∧ c ≤ maxLen ∧ MagI W 0 W.heap.size A ms ∧ wfM ms := by
  obtain ⟨a, len, cap, rfl⟩ := okWide_slice Tryz.underlying25 hv
  obtain ⟨fuel, hf⟩ := h
  rcases open_slice1 Tryz.underlying25 (by kernel_rfl) hf with ⟨hcs, _⟩ | ⟨a, l, c, m, k, V, D, Pl, hcs, _, hl, hm, hmm, _, hx⟩
  · simp [Value.cells] at hcs
    obtain ⟨rfl, rfl, rfl⟩ := hcs
    exact ⟨none, 0, [], rfl, Nat.le_refl _, Nat.zero_le _, fun h => absurd h (by simp), fun xs h => by simp at h⟩
  · simp [Value.cells] at hcs
    obtain ⟨rfl, rfl, rfl⟩ := hcs
    have hmc : m = cap := by simpa using hmm
    obtain ⟨ms, hml, hp⟩ := list_of (α := List Mat) (P := fun i xs => (∃ Aj cj, W.cell? (a.add i) = some (.slice Aj xs.length cj) ∧ xs.length ≤ cj ∧ cj ≤ maxLen ∧ MatsI W 0 W.heap.size Aj xs) ∧ ∀ y ∈ xs, (Lit.int .i64 y.2).wf = true) len (fun i hi => by
      obtain ⟨c0, t0⟩ := hx i (by omega)
      obtain ⟨A, cc, xs, e, h1, h2, h3, h4⟩ := mats_cell t0
      exact ⟨xs, ⟨A, cc, by rw [c0, e], h1, h2, h3⟩, h4⟩)
    subst hml
    refine ⟨some a, cap, ms, rfl, hl, hm, fun hpos => ⟨a, rfl, Nat.zero_le _, ?_, fun j xs hj => (hp j xs hj).1⟩, fun xs hxs => ?_⟩
    · obtain ⟨⟨Aj, cj, h0, _⟩, _⟩ := hp 0 ms[0] (List.getElem?_eq_getElem hpos)
      have := World.block_lt_of_cell? _ _ h0
      rwa [block_add] at this
    · obtain ⟨j, hj, rfl⟩ := List.mem_iff_getElem.1 hxs
      exact (hp j _ (List.getElem?_eq_getElem hj)).2
end
end Go.Proofs.YtimhnkpccbcohaaGreatDoor
