/-
  What comes in as a desk reads as one. No condition.
-/
import Derived.Test.YtobakeahbgodbaaGreatOpenX
import Derived.Test.YtobakeahbgodbaaGreatDsk
import Derived.SliceStrings
namespace Go.Proofs.YtobakeahbgodbaaGreat
open Go.RowKit Go.ChangeShapes Go.WideShapes Go.Deep Go.Joins
set_option linter.unusedVariables false
theorem array11 {α : Type} {cs : Array α} (h : cs.size = 11) : ∃ c0 c1 c2 c3 c4 c5 c6 c7 c8 c9 c10, cs = #[c0, c1, c2, c3, c4, c5, c6, c7, c8, c9, c10] := by
  obtain ⟨l⟩ := cs
  match l, h with
  | [c0, c1, c2, c3, c4, c5, c6, c7, c8, c9, c10], _ => exact ⟨c0, c1, c2, c3, c4, c5, c6, c7, c8, c9, c10, rfl⟩
theorem list2 {α : Type} {l : List α} (h : l.length = 2) : ∃ c0 c1, l = [c0, c1] := by
  match l, h with
  | [c0, c1], _ => exact ⟨c0, c1, rfl⟩
section
variable {H : Type} {enc : TypeId × Value → H} {W : World}
theorem strs_cell {n : Nat} {x : Value} {y : DataW H × List MemPlace} (h : DataW.trod enc Tryz.prog W 0 (fun _ => true) true n 28 [x] = some y) :
    ∃ A len c zs, x = .slice A len c ∧ zs.length = len ∧ len ≤ maxLen ∧ Strs W A zs ∧ ∀ s ∈ zs, s.size ≤ maxLen := by
  rcases open_strings Tryz.underlying28 Tryz.underlying9 (by kernel_rfl) h with ⟨hcs, _⟩ | ⟨a, l, c, zs, hcs, _, hl, hm, hz, _, hcell, hwz⟩
  · injection hcs with e; subst e
    exact ⟨none, 0, 0, [], rfl, rfl, Nat.zero_le _, Strs.nil _ _, by simp⟩
  · injection hcs with e; subst e
    have hz' : zs.length = c := by simpa using hz
    exact ⟨some a, l, c, zs.take l, rfl, by rw [List.length_take]; omega, Nat.le_trans hl hm, Strs.of_row (by omega) hcell, fun n hn => hwz n (List.mem_of_mem_take hn)⟩
set_option maxRecDepth 100000 in
theorem mach_cells {n0 : Nat} {c0 c1 c2 c3 c4 c5 c6 c7 c8 c9 : Value} {y : DataW H × List MemPlace} (h : DataW.trod enc Tryz.prog W 0 (fun _ => true) true n0 53 [c0, c1, c2, c3, c4, c5, c6, c7, c8, c9] = some y) : ∃ X, MchV W 0 W.heap.size (.agg #[c0, c1, c2, c3, c4, c5, c6, c7, c8, c9]) X ∧ WfX X := by
  obtain ⟨xs, n, _, _, _, hlen, hfl⟩ := DataW.trod_struct Tryz.underlying53 h
  obtain ⟨y0, y1, y2, y3, y4, y5, rfl⟩ := list6 (hlen.trans rfl)
  have g0 := hfl 0 _ rfl
  change DataW.trod enc Tryz.prog W 0 (fun _ => true) true n 39 (List.take (Tryz.prog.cellsOf 39) [c0, c1, c2, c3, c4, c5, c6, c7, c8, c9]) = some y0 at g0
  rw [show Tryz.prog.cellsOf 39 = 3 by kernel_rfl] at g0
  change DataW.trod enc Tryz.prog W 0 (fun _ => true) true n 39 [c0, c1, c2] = some y0 at g0
  have g1 := hfl 1 _ rfl
  change DataW.trod enc Tryz.prog W 0 (fun _ => true) true n 50 (List.take (Tryz.prog.cellsOf 50) [c3, c4, c5, c6, c7, c8, c9]) = some y1 at g1
  rw [show Tryz.prog.cellsOf 50 = 1 by kernel_rfl] at g1
  change DataW.trod enc Tryz.prog W 0 (fun _ => true) true n 50 [c3] = some y1 at g1
  have g2 := hfl 2 _ rfl
  change DataW.trod enc Tryz.prog W 0 (fun _ => true) true n 3 (List.take (Tryz.prog.cellsOf 3) [c4, c5, c6, c7, c8, c9]) = some y2 at g2
  rw [show Tryz.prog.cellsOf 3 = 1 by kernel_rfl] at g2
  change DataW.trod enc Tryz.prog W 0 (fun _ => true) true n 3 [c4] = some y2 at g2
  have g3 := hfl 3 _ rfl
  change DataW.trod enc Tryz.prog W 0 (fun _ => true) true n 40 (List.take (Tryz.prog.cellsOf 40) [c5, c6, c7, c8, c9]) = some y3 at g3
  rw [show Tryz.prog.cellsOf 40 = 3 by kernel_rfl] at g3
  change DataW.trod enc Tryz.prog W 0 (fun _ => true) true n 40 [c5, c6, c7] = some y3 at g3
  have g4 := hfl 4 _ rfl
  change DataW.trod enc Tryz.prog W 0 (fun _ => true) true n 51 (List.take (Tryz.prog.cellsOf 51) [c8, c9]) = some y4 at g4
  rw [show Tryz.prog.cellsOf 51 = 1 by kernel_rfl] at g4
  change DataW.trod enc Tryz.prog W 0 (fun _ => true) true n 51 [c8] = some y4 at g4
  have g5 := hfl 5 _ rfl
  change DataW.trod enc Tryz.prog W 0 (fun _ => true) true n 51 (List.take (Tryz.prog.cellsOf 51) [c9]) = some y5 at g5
  rw [show Tryz.prog.cellsOf 51 = 1 by kernel_rfl] at g5
  change DataW.trod enc Tryz.prog W 0 (fun _ => true) true n 51 [c9] = some y5 at g5
  clear hfl h hlen
  obtain ⟨f, hfv⟩ := font_cells g0
  obtain ⟨M, me, ms, rfl, hm1, hm2, hM, hwm⟩ := mag_cell g1
  obtain ⟨sp, hsp, _, _⟩ := DataW.trod_int Tryz.underlying3 g2
  injection hsp with e; subst e
  obtain ⟨a, b, c, rfl, rfl, rfl⟩ := msr_cells g3
  obtain ⟨L, lc, ln, rfl, hl1, hl2, hL, hwl⟩ := mats_cell g4
  obtain ⟨T, tc, wt, rfl, ht1, ht2, hT, hwt⟩ := mats_cell g5
  obtain ⟨A, ac, A2, ad, hv, rest⟩ := hfv
  have hfv : FontV W 0 W.heap.size (.agg #[c0, c1, c2]) f := ⟨A, ac, A2, ad, hv, rest⟩
  simp only [Value.agg.injEq, Array.mk.injEq, List.cons.injEq, and_true] at hv
  obtain ⟨rfl, rfl, rfl⟩ := hv
  exact ⟨⟨f, ms, sp, a, b, c, ln, wt⟩, ⟨A, ac, A2, ad, M, me, L, lc, T, tc, rfl, ⟨hfv, hM, hL, hT, hm1, hm2, hl1, hl2, ht1, ht2⟩⟩, ⟨hwm, hwl, hwt⟩⟩
set_option maxRecDepth 100000 in
theorem openDesk {base : Nat} {v : Value} {d : DataW H} {p : List MemPlace} (hv : Value.okWide Tryz.prog W .any base 55 v) (h : DataW.Trod enc Tryz.prog W 0 (fun _ => true) true 55 v d p) : ∃ u X G ng cg gs, v = dvg u (.slice G ng cg) ∧ MchV W 0 W.heap.size u X ∧ WfX X ∧ gs.length = ng ∧ ng ≤ maxLen ∧ Strs W G gs ∧ ∀ s ∈ gs, s.size ≤ maxLen := by
  obtain ⟨cs, rfl, hsz⟩ := okWide_struct Tryz.underlying55 hv
  obtain ⟨c0, c1, c2, c3, c4, c5, c6, c7, c8, c9, c10, rfl⟩ := array11 (hsz.trans (by kernel_rfl))
  obtain ⟨fuel, hf⟩ := h
  obtain ⟨xs, n, _, _, _, hlen, hfl⟩ := DataW.trod_struct Tryz.underlying55 hf
  obtain ⟨y0, y1, rfl⟩ := list2 (hlen.trans rfl)
  have g0 := hfl 0 _ rfl
  change DataW.trod enc Tryz.prog W 0 (fun _ => true) true n 53 (List.take (Tryz.prog.cellsOf 53) [c0, c1, c2, c3, c4, c5, c6, c7, c8, c9, c10]) = some y0 at g0
  rw [show Tryz.prog.cellsOf 53 = 10 by kernel_rfl] at g0
  change DataW.trod enc Tryz.prog W 0 (fun _ => true) true n 53 [c0, c1, c2, c3, c4, c5, c6, c7, c8, c9] = some y0 at g0
  have g1 := hfl 1 _ rfl
  change DataW.trod enc Tryz.prog W 0 (fun _ => true) true n 28 (List.take (Tryz.prog.cellsOf 28) [c10]) = some y1 at g1
  rw [show Tryz.prog.cellsOf 28 = 1 by kernel_rfl] at g1
  change DataW.trod enc Tryz.prog W 0 (fun _ => true) true n 28 [c10] = some y1 at g1
  obtain ⟨X, hX, hw⟩ := mach_cells g0
  obtain ⟨G, ng, cg, gs, rfl, h1, h2, h3, h4⟩ := strs_cell g1
  exact ⟨_, X, G, ng, cg, gs, rfl, hX, hw, h1, h2, h3, h4⟩
end
end Go.Proofs.YtobakeahbgodbaaGreat
