/-
  What comes in as a machine reads as one. No condition.
-/
import Derived.Test.YtimhnkpccbcohaaGreatDoorZOpenG
import Derived.Test.YtimhnkpccbcohaaGreatDoorZPkE
namespace Go.Proofs.YtimhnkpccbcohaaGreatDoor
open Go.RowKit Go.ChangeShapes Go.WideShapes Go.Deep Go.Joins
set_option linter.unusedVariables false
theorem array10 {α : Type} {cs : Array α} (h : cs.size = 10) : ∃ c0 c1 c2 c3 c4 c5 c6 c7 c8 c9, cs = #[c0, c1, c2, c3, c4, c5, c6, c7, c8, c9] := by
  obtain ⟨l⟩ := cs
  match l, h with
  | [c0, c1, c2, c3, c4, c5, c6, c7, c8, c9], _ => exact ⟨c0, c1, c2, c3, c4, c5, c6, c7, c8, c9, rfl⟩
section
variable {H : Type} {enc : TypeId × Value → H} {W : World}
set_option maxRecDepth 100000 in
theorem mag_cell {n : Nat} {x : Value} {y : DataW H × List MemPlace} (h : DataW.trod enc Tryz.prog W 0 (fun _ => true) true n 25 [x] = some y) :
    ∃ A c ms, x = .slice A ms.length c ∧ ms.length ≤ c ∧ c ≤ maxLen ∧ MagI W 0 W.heap.size A ms ∧ wfM ms := by
  rcases open_slice1 Tryz.underlying25 (by kernel_rfl) h with ⟨hcs, _⟩ | ⟨a, l, c, m, k, V, D, Pl, hcs, _, hl, hm, hmm, _, hx⟩
  · injection hcs with e; subst e
    exact ⟨none, 0, [], rfl, Nat.le_refl _, Nat.zero_le _, fun h => absurd h (by simp), fun xs h => by simp at h⟩
  · injection hcs with e; subst e
    have hmc : m = c := by simpa using hmm
    obtain ⟨ms, hml, hp⟩ := list_of (α := List Mat) (P := fun i xs => (∃ Aj cj, W.cell? (a.add i) = some (.slice Aj xs.length cj) ∧ xs.length ≤ cj ∧ cj ≤ maxLen ∧ MatsI W 0 W.heap.size Aj xs) ∧ ∀ y ∈ xs, (Lit.int .i64 y.2).wf = true) l (fun i hi => by
      obtain ⟨c0, t0⟩ := hx i (by omega)
      obtain ⟨A, cc, xs, e, h1, h2, h3, h4⟩ := mats_cell t0
      exact ⟨xs, ⟨A, cc, by rw [c0, e], h1, h2, h3⟩, h4⟩)
    subst hml
    refine ⟨some a, c, ms, rfl, hl, hm, fun hpos => ⟨a, rfl, Nat.zero_le _, ?_, fun j xs hj => (hp j xs hj).1⟩, fun xs hxs => ?_⟩
    · obtain ⟨⟨Aj, cj, h0, _⟩, _⟩ := hp 0 ms[0] (List.getElem?_eq_getElem hpos)
      have := World.block_lt_of_cell? _ _ h0
      rwa [block_add] at this
    · obtain ⟨j, hj, rfl⟩ := List.mem_iff_getElem.1 hxs
      exact (hp j _ (List.getElem?_eq_getElem hj)).2
theorem list6 {α : Type} {l : List α} (h : l.length = 6) : ∃ c0 c1 c2 c3 c4 c5, l = [c0, c1, c2, c3, c4, c5] := by
  match l, h with
  | [c0, c1, c2, c3, c4, c5], _ => exact ⟨c0, c1, c2, c3, c4, c5, rfl⟩
theorem list3 {α : Type} {l : List α} (h : l.length = 3) : ∃ c0 c1 c2, l = [c0, c1, c2] := by
  match l, h with
  | [c0, c1, c2], _ => exact ⟨c0, c1, c2, rfl⟩
set_option maxRecDepth 100000 in
theorem font_cells {n : Nat} {c0 c1 c2 : Value} {y : DataW H × List MemPlace} (h : DataW.trod enc Tryz.prog W 0 (fun _ => true) true n 24 [c0, c1, c2] = some y) : ∃ f, FontV W 0 W.heap.size (.agg #[c0, c1, c2]) f := by
  obtain ⟨xs, m, _, _, _, hlen, hfl⟩ := DataW.trod_struct Tryz.underlying24 h
  obtain ⟨y0, y1, y2, rfl⟩ := list3 (hlen.trans rfl)
  have g0 := hfl 0 _ rfl
  change DataW.trod enc Tryz.prog W 0 (fun _ => true) true m 9 (List.take (Tryz.prog.cellsOf 9) [c0, c1, c2]) = some y0 at g0
  rw [show Tryz.prog.cellsOf 9 = 1 by kernel_rfl] at g0
  change DataW.trod enc Tryz.prog W 0 (fun _ => true) true m 9 [c0] = some y0 at g0
  have g1 := hfl 1 _ rfl
  change DataW.trod enc Tryz.prog W 0 (fun _ => true) true m 22 (List.take (Tryz.prog.cellsOf 22) [c1, c2]) = some y1 at g1
  rw [show Tryz.prog.cellsOf 22 = 1 by kernel_rfl] at g1
  change DataW.trod enc Tryz.prog W 0 (fun _ => true) true m 22 [c1] = some y1 at g1
  have g2 := hfl 2 _ rfl
  change DataW.trod enc Tryz.prog W 0 (fun _ => true) true m 22 (List.take (Tryz.prog.cellsOf 22) [c2]) = some y2 at g2
  rw [show Tryz.prog.cellsOf 22 = 1 by kernel_rfl] at g2
  change DataW.trod enc Tryz.prog W 0 (fun _ => true) true m 22 [c2] = some y2 at g2
  obtain ⟨s, hs, _, hsz⟩ := DataW.trod_string Tryz.underlying9 g0
  injection hs with e; subst e
  obtain ⟨A, l, c, zs, rfl, hl, hc, hm, hI⟩ := intsF_cell g1
  obtain ⟨B, l2, c2, zs2, rfl, hl2, hc2, hm2, hI2⟩ := intsF_cell g2
  exact ⟨⟨s, zs, zs2⟩, A, c, B, c2, by simp only; rw [hl, hl2], hI, hI2, by simp only; omega, hm, by simp only; omega, hm2, hsz⟩
set_option maxRecDepth 100000 in
theorem msr_cells {n : Nat} {c0 c1 c2 : Value} {y : DataW H × List MemPlace} (h : DataW.trod enc Tryz.prog W 0 (fun _ => true) true n 27 [c0, c1, c2] = some y) : ∃ a b c : Int, c0 = .int .i64 a ∧ c1 = .int .i64 b ∧ c2 = .int .i64 c := by
  obtain ⟨xs, m, _, _, _, hlen, hfl⟩ := DataW.trod_struct Tryz.underlying27 h
  obtain ⟨y0, y1, y2, rfl⟩ := list3 (hlen.trans rfl)
  have g0 := hfl 0 _ rfl
  change DataW.trod enc Tryz.prog W 0 (fun _ => true) true m 3 (List.take (Tryz.prog.cellsOf 3) [c0, c1, c2]) = some y0 at g0
  rw [show Tryz.prog.cellsOf 3 = 1 by kernel_rfl] at g0
  have g1 := hfl 1 _ rfl
  change DataW.trod enc Tryz.prog W 0 (fun _ => true) true m 3 (List.take (Tryz.prog.cellsOf 3) [c1, c2]) = some y1 at g1
  rw [show Tryz.prog.cellsOf 3 = 1 by kernel_rfl] at g1
  have g2 := hfl 2 _ rfl
  change DataW.trod enc Tryz.prog W 0 (fun _ => true) true m 3 (List.take (Tryz.prog.cellsOf 3) [c2]) = some y2 at g2
  rw [show Tryz.prog.cellsOf 3 = 1 by kernel_rfl] at g2
  obtain ⟨a, ha, _, _⟩ := DataW.trod_int Tryz.underlying3 g0
  obtain ⟨b, hb, _, _⟩ := DataW.trod_int Tryz.underlying3 g1
  obtain ⟨c, hc, _, _⟩ := DataW.trod_int Tryz.underlying3 g2
  injection ha with ha; injection hb with hb; injection hc with hc
  exact ⟨a, b, c, ha, hb, hc⟩
set_option maxRecDepth 100000 in
theorem openMach {base : Nat} {v : Value} {d : DataW H} {p : List MemPlace} (hv : Value.okWide Tryz.prog W .any base 30 v) (h : DataW.Trod enc Tryz.prog W 0 (fun _ => true) true 30 v d p) : ∃ X, MchV W 0 W.heap.size v X ∧ WfX X := by
  obtain ⟨cs, rfl, hsz⟩ := okWide_struct Tryz.underlying30 hv
  obtain ⟨c0, c1, c2, c3, c4, c5, c6, c7, c8, c9, rfl⟩ := array10 (hsz.trans (by kernel_rfl))
  obtain ⟨fuel, hf⟩ := h
  obtain ⟨xs, n, _, _, _, hlen, hfl⟩ := DataW.trod_struct Tryz.underlying30 hf
  obtain ⟨y0, y1, y2, y3, y4, y5, rfl⟩ := list6 (hlen.trans rfl)
  have g0 := hfl 0 _ rfl
  change DataW.trod enc Tryz.prog W 0 (fun _ => true) true n 24 (List.take (Tryz.prog.cellsOf 24) [c0, c1, c2, c3, c4, c5, c6, c7, c8, c9]) = some y0 at g0
  rw [show Tryz.prog.cellsOf 24 = 3 by kernel_rfl] at g0
  change DataW.trod enc Tryz.prog W 0 (fun _ => true) true n 24 [c0, c1, c2] = some y0 at g0
  have g1 := hfl 1 _ rfl
  change DataW.trod enc Tryz.prog W 0 (fun _ => true) true n 25 (List.take (Tryz.prog.cellsOf 25) [c3, c4, c5, c6, c7, c8, c9]) = some y1 at g1
  rw [show Tryz.prog.cellsOf 25 = 1 by kernel_rfl] at g1
  change DataW.trod enc Tryz.prog W 0 (fun _ => true) true n 25 [c3] = some y1 at g1
  have g2 := hfl 2 _ rfl
  change DataW.trod enc Tryz.prog W 0 (fun _ => true) true n 3 (List.take (Tryz.prog.cellsOf 3) [c4, c5, c6, c7, c8, c9]) = some y2 at g2
  rw [show Tryz.prog.cellsOf 3 = 1 by kernel_rfl] at g2
  change DataW.trod enc Tryz.prog W 0 (fun _ => true) true n 3 [c4] = some y2 at g2
  have g3 := hfl 3 _ rfl
  change DataW.trod enc Tryz.prog W 0 (fun _ => true) true n 27 (List.take (Tryz.prog.cellsOf 27) [c5, c6, c7, c8, c9]) = some y3 at g3
  rw [show Tryz.prog.cellsOf 27 = 3 by kernel_rfl] at g3
  change DataW.trod enc Tryz.prog W 0 (fun _ => true) true n 27 [c5, c6, c7] = some y3 at g3
  have g4 := hfl 4 _ rfl
  change DataW.trod enc Tryz.prog W 0 (fun _ => true) true n 28 (List.take (Tryz.prog.cellsOf 28) [c8, c9]) = some y4 at g4
  rw [show Tryz.prog.cellsOf 28 = 1 by kernel_rfl] at g4
  change DataW.trod enc Tryz.prog W 0 (fun _ => true) true n 28 [c8] = some y4 at g4
  have g5 := hfl 5 _ rfl
  change DataW.trod enc Tryz.prog W 0 (fun _ => true) true n 28 (List.take (Tryz.prog.cellsOf 28) [c9]) = some y5 at g5
  rw [show Tryz.prog.cellsOf 28 = 1 by kernel_rfl] at g5
  change DataW.trod enc Tryz.prog W 0 (fun _ => true) true n 28 [c9] = some y5 at g5
  clear hfl hf hlen hv
  obtain ⟨f, hfv⟩ := font_cells g0
  obtain ⟨M, me, ms, rfl, hm1, hm2, hM, hwm⟩ := mag_cell g1
  obtain ⟨sp, hsp, _, _⟩ := DataW.trod_int Tryz.underlying3 g2
  injection hsp with e; subst e
  obtain ⟨a, b, c, rfl, rfl, rfl⟩ := msr_cells g3
  obtain ⟨L, lc, ln, rfl, hl1, hl2, hL, hwl⟩ := mats_cell g4
  obtain ⟨T, tc, wt, rfl, ht1, ht2, hT, hwt⟩ := mats_cell g5
  obtain ⟨A, ac, A2, ad, hv, rest⟩ := hfv
  have hfv : FontV W 0 W.heap.size (.agg #[c0, c1, c2]) f := ⟨A, ac, A2, ad, hv, rest⟩
  simp only [Value.agg.injEq, Array.mk.injEq, List.cons.injEq, and_true] at hv
  obtain ⟨rfl, rfl, rfl⟩ := hv
  exact ⟨⟨f, ms, sp, a, b, c, ln, wt⟩, ⟨A, ac, A2, ad, M, me, L, lc, T, tc, rfl, ⟨hfv, hM, hL, hT, hm1, hm2, hl1, hl2, ht1, ht2⟩⟩, ⟨hwm, hwl, hwt⟩⟩
end
end Go.Proofs.YtimhnkpccbcohaaGreatDoor
