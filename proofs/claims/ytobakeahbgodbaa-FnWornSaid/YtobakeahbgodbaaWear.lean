/-
  WearMatrix by contract: what it says, and the program's way to a worn matrix. Condition: lengths of at most 2^20.
-/
import Derived.Test.YtobakeahbgodbaaCopy
import Derived.Test.YtobakeahbgodbaaPkG
import Derived.Test.YtobakeahbgodbaaPkF
import Derived.Test.YtobakeahbgodbaaBreak
import Derived.Deep.RegionHeld3
namespace Go.Proofs.Ytobakeahbgodbaa
open Go.RowKit
set_option linter.unusedVariables false

theorem less_one (t : Int) (h0 : 0 ≤ t) (h1 : t ≤ 6) (x : Int) (hx0 : 0 ≤ x) (hx1 : x ≤ 127) : bt x t.toNat = true → x - one t = less x (one t) := by
  rcases tooth_cases h0 h1 with rfl | rfl | rfl | rfl | rfl | rfl | rfl
  all_goals (revert x; exact all128 _ (by decide +kernel))
theorem mcells_set1 (z : Int) : ∀ {xs : List Mat} {k : Nat} {x : Mat}, xs[k]? = some x → (mcells xs).set (k * 2 + 1) (.int .i64 z) = mcells (xs.set k (x.1, z))
  | [], k, x, h => by simp at h
  | y :: ys, 0, x, h => by
    simp at h; subst h; rfl
  | y :: ys, k + 1, x, h => by
    have e : mcells (y :: ys) = .int .i64 y.1 :: .int .i64 y.2 :: mcells ys := rfl
    rw [e, show (k + 1) * 2 + 1 = (k * 2 + 1) + 1 + 1 from by omega, List.set_cons_succ, List.set_cons_succ, mcells_set1 z (xs := ys) (k := k) (x := x) (by simpa using h)]
    rfl
def rowAt (ms : List (List Mat)) (ch : Int) : List Mat := ms.getD ch.toNat []
def wearOk (f : Fnt) (ms : List (List Mat)) (ch i t : Int) : Bool := magB f ms && (inB ch 0 ((ms.length : Int) - 1) && (inB t 0 6 && (inB i 0 (((rowAt ms ch).length : Int) - 1) && bt ((rowAt ms ch).getD i.toNat (0, 0)).2 t.toNat)))
def wearL (f : Fnt) (ms : List (List Mat)) (ch i t : Int) : List (List Mat) :=
  if wearOk f ms ch i t then ms.set ch.toNat ((rowAt ms ch).set i.toNat (((rowAt ms ch).getD i.toNat (0, 0)).1, ((rowAt ms ch).getD i.toNat (0, 0)).2 - one t)) else []
theorem hasRow_any (A : Option Addr) (n c : Nat) (p : Int) (w : World) (hm : n ≤ maxLen) : Calls Try.prog 50 #[.slice A n c, .int .i64 p] w fun e w' => e = .returned (.bool (inB p 0 ((n : Int) - 1))) ∧ w = w' := by
  unfold maxLen at hm
  by_cases h1 : 0 ≤ p
  · by_cases h2 : p < n
    · have hr : inB p 0 ((n : Int) - 1) = true := by simp [inB]; omega
      rw [hr]; clear hr
      go_enter Try.func50, Try.ntmps50
      go_wp2
      go_ret
      exact ⟨rfl, rfl⟩
    · have hr : inB p 0 ((n : Int) - 1) = false := by simp [inB]; omega
      rw [hr]; clear hr
      go_enter Try.func50, Try.ntmps50
      go_wp2
      go_ret
      exact ⟨rfl, rfl⟩
  · have hr : inB p 0 ((n : Int) - 1) = false := by simp [inB]; omega
    rw [hr]; clear hr
    go_enter Try.func50, Try.ntmps50
    go_wp2
    go_ret
    exact ⟨rfl, rfl⟩
theorem hasMat_any (A : Option Addr) (n c : Nat) (p : Int) (w : World) (hm : n ≤ maxLen) : Calls Try.prog 51 #[.slice A n c, .int .i64 p] w fun e w' => e = .returned (.bool (inB p 0 ((n : Int) - 1))) ∧ w = w' := by
  unfold maxLen at hm
  by_cases h1 : 0 ≤ p
  · by_cases h2 : p < n
    · have hr : inB p 0 ((n : Int) - 1) = true := by simp [inB]; omega
      rw [hr]; clear hr
      go_enter Try.func51, Try.ntmps51
      go_wp2
      go_ret
      exact ⟨rfl, rfl⟩
    · have hr : inB p 0 ((n : Int) - 1) = false := by simp [inB]; omega
      rw [hr]; clear hr
      go_enter Try.func51, Try.ntmps51
      go_wp2
      go_ret
      exact ⟨rfl, rfl⟩
  · have hr : inB p 0 ((n : Int) - 1) = false := by simp [inB]; omega
    rw [hr]; clear hr
    go_enter Try.func51, Try.ntmps51
    go_wp2
    go_ret
    exact ⟨rfl, rfl⟩


set_option maxRecDepth 100000 in
set_option maxHeartbeats 3200000 in
theorem implWear_yes (lo hi lo2 hi2 : Nat) (v : Value) (f : Fnt) (ad : Addr) (n c m k : Nat) (t : Int) (ms : List (List Mat)) (xs : List Mat) (x : Mat) (w : World) (h : FontV w lo hi v f) (hhi : hi ≤ w.heap.size) (hs : Small f) (hn : ms.length = n) (hm : n ≤ 1048576) (hlim : ∀ xs ∈ ms, xs.length ≤ 1048576) (hM : MagI w lo2 hi2 (some ad) ms) (hhi2 : hi2 ≤ w.heap.size) (wf : wfM ms)
    (hmag : magB f ms = true) (hx : ms[m]? = some xs) (hy : xs[k]? = some x) (t0 : 0 ≤ t) (t1 : t ≤ 6) (hb : bt x.2 t.toNat = true) (x0 : 0 ≤ x.2) (x1 : x.2 ≤ 127) :
    Calls Try.prog 10 #[v, .slice (some ad) n c, .int .i64 m, .int .i64 k, .int .i64 t] w fun e w' => ∃ u hs', e = .returned (.tuple #[u, .bool true]) ∧ OwnMag w' w.heap.size w'.heap.size u hs' (ms.set m (xs.set k (x.1, x.2 - one t))) ∧ Below w.heap.size w w' := by
  obtain ⟨B, d, B2, d2, hv⟩ := fontForm h
  obtain ⟨s, hs0⟩ : ∃ s, f.s = s := ⟨_, rfl⟩
  obtain ⟨p, hp⟩ : ∃ n, f.ws.length = n := ⟨_, rfl⟩
  obtain ⟨q, hq⟩ : ∃ m, f.cs.length = m := ⟨_, rfl⟩
  rw [hs0, hp, hq] at hv
  rw [hv] at h
  rw [hv]
  have hmn : m < n := by rw [← hn]; exact (List.getElem?_eq_some_iff.1 hx).1
  have hkl : k < xs.length := (List.getElem?_eq_some_iff.1 hy).1
  have hxl := hlim xs (List.mem_of_getElem? hx)
  obtain ⟨W, hW0⟩ : ∃ W, W = w.alloc (.cells #[.string s, .slice B p d, .slice B2 q d2] 25) := ⟨_, rfl⟩
  have hW : Below w.heap.size w W := by rw [hW0]; exact (Below.refl _ _).alloc (Nat.le_refl _) _
  have V0 := Lib.hid (h.below hhi hW)
  have M0 := Lib.hid (hM.below hhi2 hW)
  have X0 := Lib.hid (new3 w (.string s) (.slice B p d) (.slice B2 q d2) 25)
  rw [← hW0] at X0
  have zW : W.heap.size = w.heap.size + 1 := by rw [hW0]; simp
  have T0 := Lib.hid hW
  have Hn := Lib.hid hn; have Hlim := Lib.hid hlim; have Hx := Lib.hid hx; have Hy := Lib.hid hy; have Hwf := Lib.hid wf
  have hpart : partB (one t) x.2 = true := by rw [part_one t t0 t1 x.2 x0 x1, hb]
  have HL := Lib.hid (less_one t t0 t1 x.2 x0 x1 hb)
  obtain ⟨y1, y2⟩ := x
  simp only at hpart HL x0 x1
  have in1 : inB (m : Int) 0 ((n : Int) - 1) = true := by rw [inB_iff]; omega
  have in2 : inB (k : Int) 0 ((xs.length : Int) - 1) = true := by rw [inB_iff]; omega
  clear hv hs0 hp hq h hW hM hn hlim hx hy wf hb
  obtain ⟨ad', xs', Aj, cj, had, hx', hc, hcap, hcm, hI⟩ := M0.out.at_ (k := m) (by rw [Hn.out]; exact hmn)
  obtain rfl : ad' = ad := by injection had with e; exact e.symm
  obtain rfl : xs' = xs := by have := hx'.out; rw [Hx.out] at this; injection this with e; exact e.symm
  obtain ⟨bd, z, rfl, hz, c1, c2⟩ := hI.at_ hkl
  obtain rfl : z = (y1, y2) := by have := hz.out; rw [Hy.out] at this; injection this with e; exact e.symm
  simp only at c1 c2
  clear hx' hI hz had
  go_enter Try.func10, Try.ntmps10
  go_wp2_with (first
    | (go_at_call 48; rw [← hW0]; clear hW0; refine (oneTooth_yes _ _ t0 t1).mono ?_; rintro e w' ⟨rfl, rfl⟩; obtain ⟨q0, q1, q2⟩ := X0.out)
    | (go_at_call 49; refine (implMagOk_any lo hi lo2 hi2 _ f _ _ _ ms _ V0.out (by omega) hs Hn.out hm M0.out (by omega) Hwf.out).mono ?_; rintro e w1 ⟨rfl, hb1⟩; rw [hmag]; have HB1 := Lib.hid hb1; have M1 := Lib.hid (M0.out.below (by omega) hb1); have hc' := (hb1.cell (World.block_lt_of_cell? _ _ hc)).trans hc; have c1' := (hb1.cell (World.block_lt_of_cell? _ _ c1)).trans c1; have c2' := (hb1.cell (World.block_lt_of_cell? _ _ c2)).trans c2; have s1 := hb1.size; clear hb1 q0 q1 q2)
    | (go_at_call 50; refine (hasRow_any _ _ _ _ _ (by unfold maxLen; omega)).mono ?_; rintro e w' ⟨rfl, rfl⟩; rw [in1])
    | (go_at_call 51; refine (hasMat_any _ _ _ _ _ (by unfold maxLen; omega)).mono ?_; rintro e w' ⟨rfl, rfl⟩; rw [in2])
    | (go_at_call 52; refine (isPartOf_any _ _ _).mono ?_; rintro e w' ⟨rfl, rfl⟩; rw [hpart])
    | (go_at_call 53; refine (copyOf_any lo2 hi2 _ _ _ ms _ Hn.out hm Hlim.out M1.out (by omega)).mono ?_; rintro e w3 ⟨u, gs, rfl, hO3, hb3⟩; have HO3 := Lib.hid hO3; have HB3 := Lib.hid hb3; clear hO3 hb3))
  obtain ⟨Au, cu, rfl, -, -, hAu, hAs⟩ := HO3.out.form
  rw [Hn.out] at hAs
  obtain ⟨au, rfl⟩ := hAs (by omega)
  obtain ⟨g, rfl, hg1, hg2⟩ := hAu au rfl
  obtain ⟨h0, hh0, hO0⟩ := HO3.out.rows m _ Hx.out
  obtain ⟨A0, c0, rfl, -, -, hA0, hS0⟩ := hO0.form
  obtain ⟨a0, rfl⟩ := hS0 (by omega)
  obtain ⟨g2, rfl, hg3, hg4⟩ := hA0 a0 rfl
  have ho := HO3.out.outer
  rw [Hn.out] at ho ⊢
  have e1 := (ho.cellAt m (by omega)).trans hh0
  have z1 := (hO0.cellAt (k * 2) (by omega)).trans (mcells_get Hy.out).1
  have z2 := (hO0.cellAt (k * 2 + 1) (by omega)).trans (mcells_get Hy.out).2
  have f2 := hO0.frozenAt (k * 2 + 1)
  have HH0 := Lib.hid hh0; have HO0 := Lib.hid hO0
  have hO4 : OwnM (w3.setCell ⟨g2, k * 2 + 1, none⟩ (.int .i64 (bits .andNot .i64 y2 (one t)))) w1.heap.size (.slice (some ⟨g2, 0, none⟩) xs'.length c0) (xs'.set k (y1, y2 - one t)) := by
    have hst := (hO0.stored (k * 2 + 1) (.int .i64 (y2 - one t))).1
    rw [mcells_set1 _ Hy.out] at hst
    rw [HL.out] at hst ⊢
    unfold OwnM
    rw [List.length_set]
    exact hst
  have hM4 := HO3.out.row Hx.out hh0 (by rw [List.length_set]) (Lib.grownBy_setCell w3 g2 (k * 2 + 1) (.int .i64 (bits .andNot .i64 y2 (one t)))) hO4
  rw [Hn.out] at hM4
  have HM4 := Lib.hid (((hM4.below (Below.refl _ _).drew).base (B' := w.heap.size) (by omega)))
  have HB4 := Lib.hid ((T0.out.trans (HB1.out.mono (by omega))).trans (((HB3.out.setCell (p := ⟨g2, k * 2 + 1, none⟩) hg3 (.int .i64 (bits .andNot .i64 y2 (one t)))).drew).mono (B' := w.heap.size) (by omega)))
  have hz4 : (w3.setCell ⟨g2, k * 2 + 1, none⟩ (.int .i64 (bits .andNot .i64 y2 (one t)))).drew.heap.size = w3.heap.size := by show Array.size _ = _; simp only [World.drew, World.setCell, Array.size_modify]
  clear ho hO0 hh0 hA0 hS0 hAu hAs c1 c2 hc hc' c1' c2' hO4 hM4
  go_region_with ((go_at_call 54; refine (without_any _ _ _).mono ?_; rintro e w' ⟨rfl, rfl⟩))
  all_goals
    go_wp2
    go_ret2
    exact ⟨_, gs, rfl, by rw [hz4]; exact HM4.out, HB4.out⟩

set_option maxRecDepth 100000 in
set_option maxHeartbeats 3200000 in
theorem implWear_no1 (lo hi lo2 hi2 : Nat) (v : Value) (f : Fnt) (A : Option Addr) (n c : Nat) (ch i t : Int) (ms : List (List Mat)) (w : World) (h : FontV w lo hi v f) (hhi : hi ≤ w.heap.size) (hs : Small f) (hn : ms.length = n) (hm : n ≤ 1048576) (hM : MagI w lo2 hi2 A ms) (hhi2 : hi2 ≤ w.heap.size) (wf : wfM ms) (ht : inB t 0 6 = false) :
    Calls Try.prog 10 #[v, .slice A n c, .int .i64 ch, .int .i64 i, .int .i64 t] w fun e w' => e = .returned (.tuple #[.slice none 0 0, .bool false]) ∧ Below w.heap.size w w' := by
  obtain ⟨B, d, B2, d2, hv⟩ := fontForm h
  obtain ⟨s, hs0⟩ : ∃ s, f.s = s := ⟨_, rfl⟩
  obtain ⟨p, hp⟩ : ∃ n, f.ws.length = n := ⟨_, rfl⟩
  obtain ⟨q, hq⟩ : ∃ m, f.cs.length = m := ⟨_, rfl⟩
  rw [hs0, hp, hq] at hv
  rw [hv] at h
  rw [hv]
  obtain ⟨W, hW0⟩ : ∃ W, W = w.alloc (.cells #[.string s, .slice B p d, .slice B2 q d2] 25) := ⟨_, rfl⟩
  have hW : Below w.heap.size w W := by rw [hW0]; exact (Below.refl _ _).alloc (Nat.le_refl _) _
  have V0 := Lib.hid (h.below hhi hW)
  have M0 := Lib.hid (hM.below hhi2 hW)
  have X0 := Lib.hid (new3 w (.string s) (.slice B p d) (.slice B2 q d2) 25)
  rw [← hW0] at X0
  have zW : W.heap.size = w.heap.size + 1 := by rw [hW0]; simp
  have T0 := Lib.hid hW
  have Hn := Lib.hid hn; have Hwf := Lib.hid wf
  clear hv hs0 hp hq h hW hM hn wf
  go_enter Try.func10, Try.ntmps10
  go_wp2_with (first
    | (go_at_call 48; rw [← hW0]; clear hW0; refine (oneTooth_no _ _ ht).mono ?_; rintro e w' ⟨rfl, rfl⟩; obtain ⟨q0, q1, q2⟩ := X0.out))
  go_ret2
  exact ⟨rfl, T0.out⟩

set_option maxRecDepth 100000 in
set_option maxHeartbeats 3200000 in
theorem implWear_no2 (lo hi lo2 hi2 : Nat) (v : Value) (f : Fnt) (A : Option Addr) (n c : Nat) (ch i t : Int) (ms : List (List Mat)) (w : World) (h : FontV w lo hi v f) (hhi : hi ≤ w.heap.size) (hs : Small f) (hn : ms.length = n) (hm : n ≤ 1048576) (hM : MagI w lo2 hi2 A ms) (hhi2 : hi2 ≤ w.heap.size) (wf : wfM ms) (t0 : 0 ≤ t) (t1 : t ≤ 6) (hmag : magB f ms = false) :
    Calls Try.prog 10 #[v, .slice A n c, .int .i64 ch, .int .i64 i, .int .i64 t] w fun e w' => e = .returned (.tuple #[.slice none 0 0, .bool false]) ∧ Below w.heap.size w w' := by
  obtain ⟨B, d, B2, d2, hv⟩ := fontForm h
  obtain ⟨s, hs0⟩ : ∃ s, f.s = s := ⟨_, rfl⟩
  obtain ⟨p, hp⟩ : ∃ n, f.ws.length = n := ⟨_, rfl⟩
  obtain ⟨q, hq⟩ : ∃ m, f.cs.length = m := ⟨_, rfl⟩
  rw [hs0, hp, hq] at hv
  rw [hv] at h
  rw [hv]
  obtain ⟨W, hW0⟩ : ∃ W, W = w.alloc (.cells #[.string s, .slice B p d, .slice B2 q d2] 25) := ⟨_, rfl⟩
  have hW : Below w.heap.size w W := by rw [hW0]; exact (Below.refl _ _).alloc (Nat.le_refl _) _
  have V0 := Lib.hid (h.below hhi hW)
  have M0 := Lib.hid (hM.below hhi2 hW)
  have X0 := Lib.hid (new3 w (.string s) (.slice B p d) (.slice B2 q d2) 25)
  rw [← hW0] at X0
  have zW : W.heap.size = w.heap.size + 1 := by rw [hW0]; simp
  have T0 := Lib.hid hW
  have Hn := Lib.hid hn; have Hwf := Lib.hid wf
  clear hv hs0 hp hq h hW hM hn wf
  go_enter Try.func10, Try.ntmps10
  go_wp2_with (first
    | (go_at_call 48; rw [← hW0]; clear hW0; refine (oneTooth_yes _ _ t0 t1).mono ?_; rintro e w' ⟨rfl, rfl⟩; obtain ⟨q0, q1, q2⟩ := X0.out)
    | (go_at_call 49; refine (implMagOk_any lo hi lo2 hi2 _ f _ _ _ ms _ V0.out (by omega) hs Hn.out hm M0.out (by omega) Hwf.out).mono ?_; rintro e w1 ⟨rfl, hb1⟩; rw [hmag]; have HB1 := Lib.hid hb1; clear hb1))
  go_ret2
  exact ⟨rfl, T0.out.trans (HB1.out.mono (by omega))⟩

set_option maxRecDepth 100000 in
set_option maxHeartbeats 3200000 in
theorem implWear_no3 (lo hi lo2 hi2 : Nat) (v : Value) (f : Fnt) (A : Option Addr) (n c : Nat) (ch i t : Int) (ms : List (List Mat)) (w : World) (h : FontV w lo hi v f) (hhi : hi ≤ w.heap.size) (hs : Small f) (hn : ms.length = n) (hm : n ≤ 1048576) (hM : MagI w lo2 hi2 A ms) (hhi2 : hi2 ≤ w.heap.size) (wf : wfM ms) (t0 : 0 ≤ t) (t1 : t ≤ 6) (hmag : magB f ms = true) (in1 : inB ch 0 ((n : Int) - 1) = false) :
    Calls Try.prog 10 #[v, .slice A n c, .int .i64 ch, .int .i64 i, .int .i64 t] w fun e w' => e = .returned (.tuple #[.slice none 0 0, .bool false]) ∧ Below w.heap.size w w' := by
  obtain ⟨B, d, B2, d2, hv⟩ := fontForm h
  obtain ⟨s, hs0⟩ : ∃ s, f.s = s := ⟨_, rfl⟩
  obtain ⟨p, hp⟩ : ∃ n, f.ws.length = n := ⟨_, rfl⟩
  obtain ⟨q, hq⟩ : ∃ m, f.cs.length = m := ⟨_, rfl⟩
  rw [hs0, hp, hq] at hv
  rw [hv] at h
  rw [hv]
  obtain ⟨W, hW0⟩ : ∃ W, W = w.alloc (.cells #[.string s, .slice B p d, .slice B2 q d2] 25) := ⟨_, rfl⟩
  have hW : Below w.heap.size w W := by rw [hW0]; exact (Below.refl _ _).alloc (Nat.le_refl _) _
  have V0 := Lib.hid (h.below hhi hW)
  have M0 := Lib.hid (hM.below hhi2 hW)
  have X0 := Lib.hid (new3 w (.string s) (.slice B p d) (.slice B2 q d2) 25)
  rw [← hW0] at X0
  have zW : W.heap.size = w.heap.size + 1 := by rw [hW0]; simp
  have T0 := Lib.hid hW
  have Hn := Lib.hid hn; have Hwf := Lib.hid wf
  clear hv hs0 hp hq h hW hM hn wf
  go_enter Try.func10, Try.ntmps10
  go_wp2_with (first
    | (go_at_call 48; rw [← hW0]; clear hW0; refine (oneTooth_yes _ _ t0 t1).mono ?_; rintro e w' ⟨rfl, rfl⟩; obtain ⟨q0, q1, q2⟩ := X0.out)
    | (go_at_call 49; refine (implMagOk_any lo hi lo2 hi2 _ f _ _ _ ms _ V0.out (by omega) hs Hn.out hm M0.out (by omega) Hwf.out).mono ?_; rintro e w1 ⟨rfl, hb1⟩; rw [hmag]; have HB1 := Lib.hid hb1; clear hb1)
    | (go_at_call 50; refine (hasRow_any _ _ _ _ _ (by unfold maxLen; omega)).mono ?_; rintro e w' ⟨rfl, rfl⟩; rw [in1]))
  go_ret2
  exact ⟨rfl, T0.out.trans (HB1.out.mono (by omega))⟩

set_option maxRecDepth 100000 in
set_option maxHeartbeats 3200000 in
theorem implWear_no4 (lo hi lo2 hi2 : Nat) (v : Value) (f : Fnt) (A : Option Addr) (n c : Nat) (ch i t : Int) (ms : List (List Mat)) (w : World) (h : FontV w lo hi v f) (hhi : hi ≤ w.heap.size) (hs : Small f) (hn : ms.length = n) (hm : n ≤ 1048576) (hM : MagI w lo2 hi2 A ms) (hhi2 : hi2 ≤ w.heap.size) (wf : wfM ms) (t0 : 0 ≤ t) (t1 : t ≤ 6) (hmag : magB f ms = true) (m : Nat) (hch : ch = (m : Int)) (xs : List Mat) (hx : ms[m]? = some xs) (hmn : m < n) (hxl : xs.length ≤ 1048576) (in2 : inB i 0 ((xs.length : Int) - 1) = false) :
    Calls Try.prog 10 #[v, .slice A n c, .int .i64 ch, .int .i64 i, .int .i64 t] w fun e w' => e = .returned (.tuple #[.slice none 0 0, .bool false]) ∧ Below w.heap.size w w' := by
  obtain ⟨B, d, B2, d2, hv⟩ := fontForm h
  obtain ⟨s, hs0⟩ : ∃ s, f.s = s := ⟨_, rfl⟩
  obtain ⟨p, hp⟩ : ∃ n, f.ws.length = n := ⟨_, rfl⟩
  obtain ⟨q, hq⟩ : ∃ m, f.cs.length = m := ⟨_, rfl⟩
  rw [hs0, hp, hq] at hv
  rw [hv] at h
  rw [hv]
  obtain ⟨W, hW0⟩ : ∃ W, W = w.alloc (.cells #[.string s, .slice B p d, .slice B2 q d2] 25) := ⟨_, rfl⟩
  have hW : Below w.heap.size w W := by rw [hW0]; exact (Below.refl _ _).alloc (Nat.le_refl _) _
  have V0 := Lib.hid (h.below hhi hW)
  have M0 := Lib.hid (hM.below hhi2 hW)
  have X0 := Lib.hid (new3 w (.string s) (.slice B p d) (.slice B2 q d2) 25)
  rw [← hW0] at X0
  have zW : W.heap.size = w.heap.size + 1 := by rw [hW0]; simp
  have T0 := Lib.hid hW
  have Hn := Lib.hid hn; have Hwf := Lib.hid wf
  subst hch
  have in1 : inB (m : Int) 0 ((n : Int) - 1) = true := by rw [inB_iff]; omega
  obtain ⟨ad, xs', Aj, cj, rfl, hx', hc, hcap, hcm, hI⟩ := M0.out.at_ (k := m) (by rw [Hn.out]; exact hmn)
  obtain rfl : xs' = xs := by have := hx'.out; rw [hx] at this; injection this with e; exact e.symm
  have Hx := Lib.hid hx
  clear hx hx' hI hcap hcm
  clear hv hs0 hp hq h hW hM hn wf
  go_enter Try.func10, Try.ntmps10
  go_wp2_with (first
    | (go_at_call 48; rw [← hW0]; clear hW0; refine (oneTooth_yes _ _ t0 t1).mono ?_; rintro e w' ⟨rfl, rfl⟩; obtain ⟨q0, q1, q2⟩ := X0.out)
    | (go_at_call 49; refine (implMagOk_any lo hi lo2 hi2 _ f _ _ _ ms _ V0.out (by omega) hs Hn.out hm M0.out (by omega) Hwf.out).mono ?_; rintro e w1 ⟨rfl, hb1⟩; rw [hmag]; have HB1 := Lib.hid hb1; have hc' := (hb1.cell (World.block_lt_of_cell? _ _ hc)).trans hc; clear hb1)
    | (go_at_call 50; refine (hasRow_any _ _ _ _ _ (by unfold maxLen; omega)).mono ?_; rintro e w' ⟨rfl, rfl⟩; rw [in1])
    | (go_at_call 51; refine (hasMat_any _ _ _ _ _ (by unfold maxLen; omega)).mono ?_; rintro e w' ⟨rfl, rfl⟩; rw [in2]))
  go_ret2
  exact ⟨rfl, T0.out.trans (HB1.out.mono (by omega))⟩

set_option maxRecDepth 100000 in
set_option maxHeartbeats 3200000 in
theorem implWear_no5 (lo hi lo2 hi2 : Nat) (v : Value) (f : Fnt) (A : Option Addr) (n c : Nat) (ch i t : Int) (ms : List (List Mat)) (w : World) (h : FontV w lo hi v f) (hhi : hi ≤ w.heap.size) (hs : Small f) (hn : ms.length = n) (hm : n ≤ 1048576) (hM : MagI w lo2 hi2 A ms) (hhi2 : hi2 ≤ w.heap.size) (wf : wfM ms) (t0 : 0 ≤ t) (t1 : t ≤ 6) (hmag : magB f ms = true) (m : Nat) (hch : ch = (m : Int)) (xs : List Mat) (hx : ms[m]? = some xs) (hmn : m < n) (hxl : xs.length ≤ 1048576) (k : Nat) (hik : i = (k : Int)) (x : Mat) (hy : xs[k]? = some x) (hb : bt x.2 t.toNat = false) (x0 : 0 ≤ x.2) (x1 : x.2 ≤ 127) :
    Calls Try.prog 10 #[v, .slice A n c, .int .i64 ch, .int .i64 i, .int .i64 t] w fun e w' => e = .returned (.tuple #[.slice none 0 0, .bool false]) ∧ Below w.heap.size w w' := by
  obtain ⟨B, d, B2, d2, hv⟩ := fontForm h
  obtain ⟨s, hs0⟩ : ∃ s, f.s = s := ⟨_, rfl⟩
  obtain ⟨p, hp⟩ : ∃ n, f.ws.length = n := ⟨_, rfl⟩
  obtain ⟨q, hq⟩ : ∃ m, f.cs.length = m := ⟨_, rfl⟩
  rw [hs0, hp, hq] at hv
  rw [hv] at h
  rw [hv]
  obtain ⟨W, hW0⟩ : ∃ W, W = w.alloc (.cells #[.string s, .slice B p d, .slice B2 q d2] 25) := ⟨_, rfl⟩
  have hW : Below w.heap.size w W := by rw [hW0]; exact (Below.refl _ _).alloc (Nat.le_refl _) _
  have V0 := Lib.hid (h.below hhi hW)
  have M0 := Lib.hid (hM.below hhi2 hW)
  have X0 := Lib.hid (new3 w (.string s) (.slice B p d) (.slice B2 q d2) 25)
  rw [← hW0] at X0
  have zW : W.heap.size = w.heap.size + 1 := by rw [hW0]; simp
  have T0 := Lib.hid hW
  have Hn := Lib.hid hn; have Hwf := Lib.hid wf
  subst hch
  subst hik
  have in1 : inB (m : Int) 0 ((n : Int) - 1) = true := by rw [inB_iff]; omega
  have hkl : k < xs.length := (List.getElem?_eq_some_iff.1 hy).1
  have in2 : inB (k : Int) 0 ((xs.length : Int) - 1) = true := by rw [inB_iff]; omega
  obtain ⟨ad, xs', Aj, cj, rfl, hx', hc, hcap, hcm, hI⟩ := M0.out.at_ (k := m) (by rw [Hn.out]; exact hmn)
  obtain rfl : xs' = xs := by have := hx'.out; rw [hx] at this; injection this with e; exact e.symm
  have Hx := Lib.hid hx
  have hpart : partB (one t) x.2 = false := by rw [part_one t t0 t1 x.2 x0 x1, hb]
  obtain ⟨bd, z, rfl, hz, c1, c2⟩ := hI.at_ hkl
  obtain rfl : z = x := by have := hz.out; rw [hy] at this; injection this with e; exact e.symm
  have Hy := Lib.hid hy
  obtain ⟨y1, y2⟩ := z
  simp only at hpart x0 x1 c1 c2
  clear hx hx' hI hcap hcm hy hz hb
  clear hv hs0 hp hq h hW hM hn wf
  go_enter Try.func10, Try.ntmps10
  go_wp2_with (first
    | (go_at_call 48; rw [← hW0]; clear hW0; refine (oneTooth_yes _ _ t0 t1).mono ?_; rintro e w' ⟨rfl, rfl⟩; obtain ⟨q0, q1, q2⟩ := X0.out)
    | (go_at_call 49; refine (implMagOk_any lo hi lo2 hi2 _ f _ _ _ ms _ V0.out (by omega) hs Hn.out hm M0.out (by omega) Hwf.out).mono ?_; rintro e w1 ⟨rfl, hb1⟩; rw [hmag]; have HB1 := Lib.hid hb1; have hc' := (hb1.cell (World.block_lt_of_cell? _ _ hc)).trans hc; have c1' := (hb1.cell (World.block_lt_of_cell? _ _ c1)).trans c1; have c2' := (hb1.cell (World.block_lt_of_cell? _ _ c2)).trans c2; clear hb1)
    | (go_at_call 50; refine (hasRow_any _ _ _ _ _ (by unfold maxLen; omega)).mono ?_; rintro e w' ⟨rfl, rfl⟩; rw [in1])
    | (go_at_call 51; refine (hasMat_any _ _ _ _ _ (by unfold maxLen; omega)).mono ?_; rintro e w' ⟨rfl, rfl⟩; rw [in2])
    | (go_at_call 52; refine (isPartOf_any _ _ _).mono ?_; rintro e w' ⟨rfl, rfl⟩; rw [hpart]))
  go_ret2
  exact ⟨rfl, T0.out.trans (HB1.out.mono (by omega))⟩
end Go.Proofs.Ytobakeahbgodbaa
