/-
  WearMatrix of the model by contract. Condition: lengths of at most 2^20.
-/
import Derived.Test.YthoepelgmplcmaaWearI
import Derived.Test.YthoepelgmplcmaaCopyS
namespace Go.Proofs.Ythoepelgmplcmaa
open Go.RowKit
set_option linter.unusedVariables false

set_option maxRecDepth 100000 in
set_option maxHeartbeats 3200000 in
theorem specWear_yes (lo hi lo2 hi2 : Nat) (v : Value) (f : Fnt) (ad : Addr) (n c m k : Nat) (t : Int) (ms : List (List Mat)) (xs : List Mat) (x : Mat) (w : World) (h : FontV w lo hi v f) (hhi : hi ≤ w.heap.size) (hs : Small f) (hn : ms.length = n) (hm : n ≤ 1048576) (hlim : ∀ xs ∈ ms, xs.length ≤ 1048576) (hM : MagI w lo2 hi2 (some ad) ms) (hhi2 : hi2 ≤ w.heap.size) (wf : wfM ms)
    (hmag : magB f ms = true) (hx : ms[m]? = some xs) (hy : xs[k]? = some x) (t0 : 0 ≤ t) (t1 : t ≤ 6) (hb : bt x.2 t.toNat = true) (x0 : 0 ≤ x.2) (x1 : x.2 ≤ 127) :
    Calls Try.prog 132 #[v, .slice (some ad) n c, .int .i64 m, .int .i64 k, .int .i64 t] w fun e w' => ∃ u hs', e = .returned (.tuple #[u, .bool true]) ∧ OwnMag w' w.heap.size w'.heap.size u hs' (ms.set m (xs.set k (x.1, x.2 - one t))) ∧ Below w.heap.size w w' := by
  obtain ⟨B, d, B2, d2, hv⟩ := fontForm h
  obtain ⟨s, hs0⟩ : ∃ s, f.s = s := ⟨_, rfl⟩
  obtain ⟨p, hp⟩ : ∃ n, f.ws.length = n := ⟨_, rfl⟩
  obtain ⟨q, hq⟩ : ∃ m, f.cs.length = m := ⟨_, rfl⟩
  rw [hs0, hp, hq] at hv
  rw [hv] at h
  rw [hv]
  have hmn : m < n := by rw [← hn]; exact (List.getElem?_eq_some_iff.1 hx).1
  have hkl : k < xs.length := (List.getElem?_eq_some_iff.1 hy).1
  have hxl := hlim xs (List.mem_of_getElem? hx)
  obtain ⟨W, hW0⟩ : ∃ W, W = w.alloc (.cells #[.string s, .slice B p d, .slice B2 q d2] 25) := ⟨_, rfl⟩
  have hW : Below w.heap.size w W := by rw [hW0]; exact (Below.refl _ _).alloc (Nat.le_refl _) _
  have V0 := Lib.hid (h.below hhi hW)
  have M0 := Lib.hid (hM.below hhi2 hW)
  have X0 := Lib.hid (new3 w (.string s) (.slice B p d) (.slice B2 q d2) 25)
  rw [← hW0] at X0
  have zW : W.heap.size = w.heap.size + 1 := by rw [hW0]; simp
  have T0 := Lib.hid hW
  have Hn := Lib.hid hn; have Hlim := Lib.hid hlim; have Hx := Lib.hid hx; have Hy := Lib.hid hy; have Hwf := Lib.hid wf
  have hbt := (shr_one t t0 t1 x.2 x0 x1).trans hb
  have HL := Lib.hid (less_one t t0 t1 x.2 x0 x1 hb)
  obtain ⟨y1, y2⟩ := x
  simp only at hbt HL x0 x1
  have in1 : inB (m : Int) 0 ((n : Int) - 1) = true := by rw [inB_iff]; omega
  have in2 : inB (k : Int) 0 ((xs.length : Int) - 1) = true := by rw [inB_iff]; omega
  clear hv hs0 hp hq h hW hM hn hlim hx hy wf hb
  obtain ⟨ad', xs', Aj, cj, had, hx', hc, hcap, hcm, hI⟩ := M0.out.at_ (k := m) (by rw [Hn.out]; exact hmn)
  obtain rfl : ad' = ad := by injection had with e; exact e.symm
  obtain rfl : xs' = xs := by have := hx'.out; rw [Hx.out] at this; injection this with e; exact e.symm
  obtain ⟨bd, z, rfl, hz, c1, c2⟩ := hI.at_ hkl
  obtain rfl : z = (y1, y2) := by have := hz.out; rw [Hy.out] at this; injection this with e; exact e.symm
  simp only at c1 c2
  clear hx' hI hz had
  go_enter Try.func132, Try.ntmps132
  have in3 : inB t 0 6 = true := by rw [inB_iff]; omega
  have hb0 : (bits .and .i64 (y2 / 2 ^ t.toNat) 1 == 0) = false := by rw [beq_iff_eq] at hbt; rw [hbt]; rfl
  clear hbt
  go_wp2_with (first
    | (go_at_call 19; rw [← hW0]; clear hW0; refine (specMagOk_any lo hi lo2 hi2 _ f _ _ _ ms _ V0.out (by omega) hs Hn.out hm M0.out (by omega)).mono ?_; rintro e w1 ⟨rfl, hb1⟩; rw [hmag]; have HB1 := Lib.hid hb1; have M1 := Lib.hid (M0.out.below (by omega) hb1); have hc' := (hb1.cell (World.block_lt_of_cell? _ _ hc)).trans hc; have c1' := (hb1.cell (World.block_lt_of_cell? _ _ c1)).trans c1; have c2' := (hb1.cell (World.block_lt_of_cell? _ _ c2)).trans c2; have s1 := hb1.size; clear hb1)
    | (go_at_call 80; refine (l1In_any _ _ _ _).mono ?_; rintro e w' ⟨rfl, rfl⟩; first | rw [in1] | rw [in2] | rw [in3])
    | (go_at_call 174; refine (l2Copy_any lo2 hi2 _ _ _ ms _ Hn.out hm Hlim.out M1.out (by omega)).mono ?_; rintro e w3 ⟨u, gs, rfl, hO3, hb3⟩; have HO3 := Lib.hid hO3; have HB3 := Lib.hid hb3; clear hO3 hb3))
  obtain ⟨Au, cu, rfl, -, -, hAu, hAs⟩ := HO3.out.form
  rw [Hn.out] at hAs
  obtain ⟨au, rfl⟩ := hAs (by omega)
  obtain ⟨g, rfl, hg1, hg2⟩ := hAu au rfl
  obtain ⟨h0, hh0, hO0⟩ := HO3.out.rows m _ Hx.out
  obtain ⟨A0, c0, rfl, -, -, hA0, hS0⟩ := hO0.form
  obtain ⟨a0, rfl⟩ := hS0 (by omega)
  obtain ⟨g2, rfl, hg3, hg4⟩ := hA0 a0 rfl
  have ho := HO3.out.outer
  rw [Hn.out] at ho ⊢
  have e1 := (ho.cellAt m (by omega)).trans hh0
  have z1 := (hO0.cellAt (k * 2) (by omega)).trans (mcells_get Hy.out).1
  have z2 := (hO0.cellAt (k * 2 + 1) (by omega)).trans (mcells_get Hy.out).2
  have f2 := hO0.frozenAt (k * 2 + 1)
  have HH0 := Lib.hid hh0; have HO0 := Lib.hid hO0
  have hO4 : OwnM (w3.setCell ⟨g2, k * 2 + 1, none⟩ (.int .i64 (y2 - one t))) w1.heap.size (.slice (some ⟨g2, 0, none⟩) xs'.length c0) (xs'.set k (y1, y2 - one t)) := by
    have hst := (hO0.stored (k * 2 + 1) (.int .i64 (y2 - one t))).1
    rw [mcells_set1 _ Hy.out] at hst
    unfold OwnM
    rw [List.length_set]
    exact hst
  have hM4 := HO3.out.row Hx.out hh0 (by rw [List.length_set]) (Lib.grownBy_setCell w3 g2 (k * 2 + 1) (.int .i64 (y2 - one t))) hO4
  rw [Hn.out] at hM4
  have HM4 := Lib.hid (((hM4.below (Below.refl _ _).drew).base (B' := w.heap.size) (by omega)))
  have HB4 := Lib.hid ((T0.out.trans (HB1.out.mono (by omega))).trans (((HB3.out.setCell (p := ⟨g2, k * 2 + 1, none⟩) hg3 (.int .i64 (y2 - one t))).drew).mono (B' := w.heap.size) (by omega)))
  have hz4 : (w3.setCell ⟨g2, k * 2 + 1, none⟩ (.int .i64 (y2 - one t))).drew.heap.size = w3.heap.size := by show Array.size _ = _; simp only [World.drew, World.setCell, Array.size_modify]
  clear ho hO0 hh0 hA0 hS0 hAu hAs c1 c2 hc hc' c1' c2' hO4 hM4
  rcases tooth_cases t0 t1 with rfl | rfl | rfl | rfl | rfl | rfl | rfl
  all_goals
    go_region
    all_goals go_wp2
    all_goals go_ret2
    all_goals have HM5 := HM4.out
    all_goals have HB5 := HB4.out
    all_goals have hz5 := hz4
    all_goals simp only [one, Int.reduceToNat, Int.reducePow] at HM5 HB5 hz5 ⊢
    all_goals rw [← hz5] at HM5
    all_goals first | exact ⟨_, gs, rfl, HM5, HB5⟩ | exact ⟨_, rfl, ⟨gs, HM5⟩, HB5⟩
end Go.Proofs.Ythoepelgmplcmaa
