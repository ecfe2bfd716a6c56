/-
  WearMatrix of the model by contract. Condition: lengths of at most 2^20.
-/
import Derived.Test.YthoepelgmplcmaaWearS
namespace Go.Proofs.Ythoepelgmplcmaa
open Go.RowKit
set_option linter.unusedVariables false

theorem shr_zero (t : Int) (h0 : 0 ≤ t) (h1 : t ≤ 6) (x : Int) (hx0 : 0 ≤ x) (hx1 : x ≤ 127) : bt x t.toNat = false → (bits .and .i64 (x / 2 ^ t.toNat) 1 == 0) = true := by
  rcases tooth_cases h0 h1 with rfl | rfl | rfl | rfl | rfl | rfl | rfl
  all_goals (revert x; exact all128 _ (by decide +kernel))
set_option maxRecDepth 100000 in
set_option maxHeartbeats 3200000 in
theorem specWear_no1 (lo hi lo2 hi2 : Nat) (v : Value) (f : Fnt) (A : Option Addr) (n c : Nat) (ch i t : Int) (ms : List (List Mat)) (w : World) (h : FontV w lo hi v f) (hhi : hi ≤ w.heap.size) (hs : Small f) (hn : ms.length = n) (hm : n ≤ 1048576) (hM : MagI w lo2 hi2 A ms) (hhi2 : hi2 ≤ w.heap.size) (wf : wfM ms) (ht : inB t 0 6 = false) :
    Calls Try.prog 132 #[v, .slice A n c, .int .i64 ch, .int .i64 i, .int .i64 t] w fun e w' => e = .returned (.tuple #[.slice none 0 0, .bool false]) ∧ Below w.heap.size w w' := by
  obtain ⟨B, d, B2, d2, hv⟩ := fontForm h
  obtain ⟨s, hs0⟩ : ∃ s, f.s = s := ⟨_, rfl⟩
  obtain ⟨p, hp⟩ : ∃ n, f.ws.length = n := ⟨_, rfl⟩
  obtain ⟨q, hq⟩ : ∃ m, f.cs.length = m := ⟨_, rfl⟩
  rw [hs0, hp, hq] at hv
  rw [hv] at h
  rw [hv]
  obtain ⟨W, hW0⟩ : ∃ W, W = w.alloc (.cells #[.string s, .slice B p d, .slice B2 q d2] 25) := ⟨_, rfl⟩
  have hW : Below w.heap.size w W := by rw [hW0]; exact (Below.refl _ _).alloc (Nat.le_refl _) _
  have V0 := Lib.hid (h.below hhi hW)
  have M0 := Lib.hid (hM.below hhi2 hW)
  have X0 := Lib.hid (new3 w (.string s) (.slice B p d) (.slice B2 q d2) 25)
  rw [← hW0] at X0
  have zW : W.heap.size = w.heap.size + 1 := by rw [hW0]; simp
  have T0 := Lib.hid hW
  have Hn := Lib.hid hn; have Hwf := Lib.hid wf
  clear hv hs0 hp hq h hW hM hn wf
  cases hmag : magB f ms
  · skip
    go_enter Try.func132, Try.ntmps132
    go_wp2_with (first
      | (go_at_call 19; rw [← hW0]; clear hW0; refine (specMagOk_any lo hi lo2 hi2 _ f _ _ _ ms _ V0.out (by omega) hs Hn.out hm M0.out (by omega)).mono ?_; rintro e w1 ⟨rfl, hb1⟩; rw [hmag]; have HB1 := Lib.hid hb1; clear hb1))
    go_ret2
    exact ⟨rfl, T0.out.trans (HB1.out.mono (by omega))⟩
  cases in1 : inB ch 0 ((n : Int) - 1)
  · skip
    go_enter Try.func132, Try.ntmps132
    go_wp2_with (first
      | (go_at_call 19; rw [← hW0]; clear hW0; refine (specMagOk_any lo hi lo2 hi2 _ f _ _ _ ms _ V0.out (by omega) hs Hn.out hm M0.out (by omega)).mono ?_; rintro e w1 ⟨rfl, hb1⟩; rw [hmag]; have HB1 := Lib.hid hb1; clear hb1)
      | (go_at_call 80; refine (l1In_any _ _ _ _).mono ?_; rintro e w' ⟨rfl, rfl⟩; first | rw [in1]))
    go_ret2
    exact ⟨rfl, T0.out.trans (HB1.out.mono (by omega))⟩
  go_enter Try.func132, Try.ntmps132
  go_wp2_with (first
    | (go_at_call 19; rw [← hW0]; clear hW0; refine (specMagOk_any lo hi lo2 hi2 _ f _ _ _ ms _ V0.out (by omega) hs Hn.out hm M0.out (by omega)).mono ?_; rintro e w1 ⟨rfl, hb1⟩; rw [hmag]; have HB1 := Lib.hid hb1; clear hb1)
    | (go_at_call 80; refine (l1In_any _ _ _ _).mono ?_; rintro e w' ⟨rfl, rfl⟩; first | rw [in1] | rw [ht]))
  go_ret2
  exact ⟨rfl, T0.out.trans (HB1.out.mono (by omega))⟩

set_option maxRecDepth 100000 in
set_option maxHeartbeats 3200000 in
theorem specWear_no2 (lo hi lo2 hi2 : Nat) (v : Value) (f : Fnt) (A : Option Addr) (n c : Nat) (ch i t : Int) (ms : List (List Mat)) (w : World) (h : FontV w lo hi v f) (hhi : hi ≤ w.heap.size) (hs : Small f) (hn : ms.length = n) (hm : n ≤ 1048576) (hM : MagI w lo2 hi2 A ms) (hhi2 : hi2 ≤ w.heap.size) (wf : wfM ms) (t0 : 0 ≤ t) (t1 : t ≤ 6) (hmag : magB f ms = false) :
    Calls Try.prog 132 #[v, .slice A n c, .int .i64 ch, .int .i64 i, .int .i64 t] w fun e w' => e = .returned (.tuple #[.slice none 0 0, .bool false]) ∧ Below w.heap.size w w' := by
  obtain ⟨B, d, B2, d2, hv⟩ := fontForm h
  obtain ⟨s, hs0⟩ : ∃ s, f.s = s := ⟨_, rfl⟩
  obtain ⟨p, hp⟩ : ∃ n, f.ws.length = n := ⟨_, rfl⟩
  obtain ⟨q, hq⟩ : ∃ m, f.cs.length = m := ⟨_, rfl⟩
  rw [hs0, hp, hq] at hv
  rw [hv] at h
  rw [hv]
  obtain ⟨W, hW0⟩ : ∃ W, W = w.alloc (.cells #[.string s, .slice B p d, .slice B2 q d2] 25) := ⟨_, rfl⟩
  have hW : Below w.heap.size w W := by rw [hW0]; exact (Below.refl _ _).alloc (Nat.le_refl _) _
  have V0 := Lib.hid (h.below hhi hW)
  have M0 := Lib.hid (hM.below hhi2 hW)
  have X0 := Lib.hid (new3 w (.string s) (.slice B p d) (.slice B2 q d2) 25)
  rw [← hW0] at X0
  have zW : W.heap.size = w.heap.size + 1 := by rw [hW0]; simp
  have T0 := Lib.hid hW
  have Hn := Lib.hid hn; have Hwf := Lib.hid wf
  clear hv hs0 hp hq h hW hM hn wf
  go_enter Try.func132, Try.ntmps132
  go_wp2_with (first
    | (go_at_call 19; rw [← hW0]; clear hW0; refine (specMagOk_any lo hi lo2 hi2 _ f _ _ _ ms _ V0.out (by omega) hs Hn.out hm M0.out (by omega)).mono ?_; rintro e w1 ⟨rfl, hb1⟩; rw [hmag]; have HB1 := Lib.hid hb1; clear hb1))
  go_ret2
  exact ⟨rfl, T0.out.trans (HB1.out.mono (by omega))⟩

set_option maxRecDepth 100000 in
set_option maxHeartbeats 3200000 in
theorem specWear_no3 (lo hi lo2 hi2 : Nat) (v : Value) (f : Fnt) (A : Option Addr) (n c : Nat) (ch i t : Int) (ms : List (List Mat)) (w : World) (h : FontV w lo hi v f) (hhi : hi ≤ w.heap.size) (hs : Small f) (hn : ms.length = n) (hm : n ≤ 1048576) (hM : MagI w lo2 hi2 A ms) (hhi2 : hi2 ≤ w.heap.size) (wf : wfM ms) (t0 : 0 ≤ t) (t1 : t ≤ 6) (hmag : magB f ms = true) (in1 : inB ch 0 ((n : Int) - 1) = false) :
    Calls Try.prog 132 #[v, .slice A n c, .int .i64 ch, .int .i64 i, .int .i64 t] w fun e w' => e = .returned (.tuple #[.slice none 0 0, .bool false]) ∧ Below w.heap.size w w' := by
  obtain ⟨B, d, B2, d2, hv⟩ := fontForm h
  obtain ⟨s, hs0⟩ : ∃ s, f.s = s := ⟨_, rfl⟩
  obtain ⟨p, hp⟩ : ∃ n, f.ws.length = n := ⟨_, rfl⟩
  obtain ⟨q, hq⟩ : ∃ m, f.cs.length = m := ⟨_, rfl⟩
  rw [hs0, hp, hq] at hv
  rw [hv] at h
  rw [hv]
  obtain ⟨W, hW0⟩ : ∃ W, W = w.alloc (.cells #[.string s, .slice B p d, .slice B2 q d2] 25) := ⟨_, rfl⟩
  have hW : Below w.heap.size w W := by rw [hW0]; exact (Below.refl _ _).alloc (Nat.le_refl _) _
  have V0 := Lib.hid (h.below hhi hW)
  have M0 := Lib.hid (hM.below hhi2 hW)
  have X0 := Lib.hid (new3 w (.string s) (.slice B p d) (.slice B2 q d2) 25)
  rw [← hW0] at X0
  have zW : W.heap.size = w.heap.size + 1 := by rw [hW0]; simp
  have T0 := Lib.hid hW
  have Hn := Lib.hid hn; have Hwf := Lib.hid wf
  clear hv hs0 hp hq h hW hM hn wf
  go_enter Try.func132, Try.ntmps132
  go_wp2_with (first
    | (go_at_call 19; rw [← hW0]; clear hW0; refine (specMagOk_any lo hi lo2 hi2 _ f _ _ _ ms _ V0.out (by omega) hs Hn.out hm M0.out (by omega)).mono ?_; rintro e w1 ⟨rfl, hb1⟩; rw [hmag]; have HB1 := Lib.hid hb1; clear hb1)
    | (go_at_call 80; refine (l1In_any _ _ _ _).mono ?_; rintro e w' ⟨rfl, rfl⟩; first | rw [in1]))
  go_ret2
  exact ⟨rfl, T0.out.trans (HB1.out.mono (by omega))⟩

set_option maxRecDepth 100000 in
set_option maxHeartbeats 3200000 in
theorem specWear_no4 (lo hi lo2 hi2 : Nat) (v : Value) (f : Fnt) (A : Option Addr) (n c : Nat) (ch i t : Int) (ms : List (List Mat)) (w : World) (h : FontV w lo hi v f) (hhi : hi ≤ w.heap.size) (hs : Small f) (hn : ms.length = n) (hm : n ≤ 1048576) (hM : MagI w lo2 hi2 A ms) (hhi2 : hi2 ≤ w.heap.size) (wf : wfM ms) (t0 : 0 ≤ t) (t1 : t ≤ 6) (hmag : magB f ms = true) (m : Nat) (hch : ch = (m : Int)) (xs : List Mat) (hx : ms[m]? = some xs) (hmn : m < n) (hxl : xs.length ≤ 1048576) (in2 : inB i 0 ((xs.length : Int) - 1) = false) :
    Calls Try.prog 132 #[v, .slice A n c, .int .i64 ch, .int .i64 i, .int .i64 t] w fun e w' => e = .returned (.tuple #[.slice none 0 0, .bool false]) ∧ Below w.heap.size w w' := by
  obtain ⟨B, d, B2, d2, hv⟩ := fontForm h
  obtain ⟨s, hs0⟩ : ∃ s, f.s = s := ⟨_, rfl⟩
  obtain ⟨p, hp⟩ : ∃ n, f.ws.length = n := ⟨_, rfl⟩
  obtain ⟨q, hq⟩ : ∃ m, f.cs.length = m := ⟨_, rfl⟩
  rw [hs0, hp, hq] at hv
  rw [hv] at h
  rw [hv]
  obtain ⟨W, hW0⟩ : ∃ W, W = w.alloc (.cells #[.string s, .slice B p d, .slice B2 q d2] 25) := ⟨_, rfl⟩
  have hW : Below w.heap.size w W := by rw [hW0]; exact (Below.refl _ _).alloc (Nat.le_refl _) _
  have V0 := Lib.hid (h.below hhi hW)
  have M0 := Lib.hid (hM.below hhi2 hW)
  have X0 := Lib.hid (new3 w (.string s) (.slice B p d) (.slice B2 q d2) 25)
  rw [← hW0] at X0
  have zW : W.heap.size = w.heap.size + 1 := by rw [hW0]; simp
  have T0 := Lib.hid hW
  have Hn := Lib.hid hn; have Hwf := Lib.hid wf
  subst hch
  have in1 : inB (m : Int) 0 ((n : Int) - 1) = true := by rw [inB_iff]; omega
  obtain ⟨ad, xs', Aj, cj, rfl, hx', hc, hcap, hcm, hI⟩ := M0.out.at_ (k := m) (by rw [Hn.out]; exact hmn)
  obtain rfl : xs' = xs := by have := hx'.out; rw [hx] at this; injection this with e; exact e.symm
  have Hx := Lib.hid hx
  clear hx hx' hI hcap hcm
  clear hv hs0 hp hq h hW hM hn wf
  have in3 : inB t 0 6 = true := by rw [inB_iff]; omega
  go_enter Try.func132, Try.ntmps132
  go_wp2_with (first
    | (go_at_call 19; rw [← hW0]; clear hW0; refine (specMagOk_any lo hi lo2 hi2 _ f _ _ _ ms _ V0.out (by omega) hs Hn.out hm M0.out (by omega)).mono ?_; rintro e w1 ⟨rfl, hb1⟩; rw [hmag]; have HB1 := Lib.hid hb1; have hc' := (hb1.cell (World.block_lt_of_cell? _ _ hc)).trans hc; clear hb1)
    | (go_at_call 80; refine (l1In_any _ _ _ _).mono ?_; rintro e w' ⟨rfl, rfl⟩; first | rw [in1] | rw [in2] | rw [in3]))
  go_ret2
  exact ⟨rfl, T0.out.trans (HB1.out.mono (by omega))⟩

set_option maxRecDepth 100000 in
set_option maxHeartbeats 3200000 in
theorem specWear_no5 (lo hi lo2 hi2 : Nat) (v : Value) (f : Fnt) (A : Option Addr) (n c : Nat) (ch i t : Int) (ms : List (List Mat)) (w : World) (h : FontV w lo hi v f) (hhi : hi ≤ w.heap.size) (hs : Small f) (hn : ms.length = n) (hm : n ≤ 1048576) (hM : MagI w lo2 hi2 A ms) (hhi2 : hi2 ≤ w.heap.size) (wf : wfM ms) (t0 : 0 ≤ t) (t1 : t ≤ 6) (hmag : magB f ms = true) (m : Nat) (hch : ch = (m : Int)) (xs : List Mat) (hx : ms[m]? = some xs) (hmn : m < n) (hxl : xs.length ≤ 1048576) (k : Nat) (hik : i = (k : Int)) (x : Mat) (hy : xs[k]? = some x) (hb : bt x.2 t.toNat = false) (x0 : 0 ≤ x.2) (x1 : x.2 ≤ 127) :
    Calls Try.prog 132 #[v, .slice A n c, .int .i64 ch, .int .i64 i, .int .i64 t] w fun e w' => e = .returned (.tuple #[.slice none 0 0, .bool false]) ∧ Below w.heap.size w w' := by
  obtain ⟨B, d, B2, d2, hv⟩ := fontForm h
  obtain ⟨s, hs0⟩ : ∃ s, f.s = s := ⟨_, rfl⟩
  obtain ⟨p, hp⟩ : ∃ n, f.ws.length = n := ⟨_, rfl⟩
  obtain ⟨q, hq⟩ : ∃ m, f.cs.length = m := ⟨_, rfl⟩
  rw [hs0, hp, hq] at hv
  rw [hv] at h
  rw [hv]
  obtain ⟨W, hW0⟩ : ∃ W, W = w.alloc (.cells #[.string s, .slice B p d, .slice B2 q d2] 25) := ⟨_, rfl⟩
  have hW : Below w.heap.size w W := by rw [hW0]; exact (Below.refl _ _).alloc (Nat.le_refl _) _
  have V0 := Lib.hid (h.below hhi hW)
  have M0 := Lib.hid (hM.below hhi2 hW)
  have X0 := Lib.hid (new3 w (.string s) (.slice B p d) (.slice B2 q d2) 25)
  rw [← hW0] at X0
  have zW : W.heap.size = w.heap.size + 1 := by rw [hW0]; simp
  have T0 := Lib.hid hW
  have Hn := Lib.hid hn; have Hwf := Lib.hid wf
  subst hch
  subst hik
  have in1 : inB (m : Int) 0 ((n : Int) - 1) = true := by rw [inB_iff]; omega
  have hkl : k < xs.length := (List.getElem?_eq_some_iff.1 hy).1
  have in2 : inB (k : Int) 0 ((xs.length : Int) - 1) = true := by rw [inB_iff]; omega
  obtain ⟨ad, xs', Aj, cj, rfl, hx', hc, hcap, hcm, hI⟩ := M0.out.at_ (k := m) (by rw [Hn.out]; exact hmn)
  obtain rfl : xs' = xs := by have := hx'.out; rw [hx] at this; injection this with e; exact e.symm
  have Hx := Lib.hid hx
  have hb0 : (bits .and .i64 (x.2 / 2 ^ t.toNat) 1 == 0) = true := shr_zero t t0 t1 x.2 x0 x1 hb
  obtain ⟨bd, z, rfl, hz, c1, c2⟩ := hI.at_ hkl
  obtain rfl : z = x := by have := hz.out; rw [hy] at this; injection this with e; exact e.symm
  have Hy := Lib.hid hy
  obtain ⟨y1, y2⟩ := z
  simp only at hb0 x0 x1 c1 c2
  clear hx hx' hI hcap hcm hy hz hb
  clear hv hs0 hp hq h hW hM hn wf
  have in3 : inB t 0 6 = true := by rw [inB_iff]; omega
  go_enter Try.func132, Try.ntmps132
  go_wp2_with (first
    | (go_at_call 19; rw [← hW0]; clear hW0; refine (specMagOk_any lo hi lo2 hi2 _ f _ _ _ ms _ V0.out (by omega) hs Hn.out hm M0.out (by omega)).mono ?_; rintro e w1 ⟨rfl, hb1⟩; rw [hmag]; have HB1 := Lib.hid hb1; have hc' := (hb1.cell (World.block_lt_of_cell? _ _ hc)).trans hc; have c1' := (hb1.cell (World.block_lt_of_cell? _ _ c1)).trans c1; have c2' := (hb1.cell (World.block_lt_of_cell? _ _ c2)).trans c2; clear hb1)
    | (go_at_call 80; refine (l1In_any _ _ _ _).mono ?_; rintro e w' ⟨rfl, rfl⟩; first | rw [in1] | rw [in2] | rw [in3]))
  go_ret2
  exact ⟨rfl, T0.out.trans (HB1.out.mono (by omega))⟩


set_option maxRecDepth 100000 in
theorem specWear_any (lo hi lo2 hi2 : Nat) (v : Value) (f : Fnt) (A : Option Addr) (n c : Nat) (ch i t : Int) (ms : List (List Mat)) (w : World) (h : FontV w lo hi v f) (hhi : hi ≤ w.heap.size) (hs : Small f) (hn : ms.length = n) (hm : n ≤ 1048576) (hM : MagI w lo2 hi2 A ms) (hhi2 : hi2 ≤ w.heap.size) (wf : wfM ms) :
    Calls Try.prog 132 #[v, .slice A n c, .int .i64 ch, .int .i64 i, .int .i64 t] w fun e w' => ∃ u hs', e = .returned (.tuple #[u, .bool (wearOk f ms ch i t)]) ∧ OwnMag w' w.heap.size w'.heap.size u hs' (wearL f ms ch i t) ∧ Below w.heap.size w w' := by
  have no : wearOk f ms ch i t = false → Calls Try.prog 132 #[v, .slice A n c, .int .i64 ch, .int .i64 i, .int .i64 t] w (fun e w' => e = .returned (.tuple #[.slice none 0 0, .bool false]) ∧ Below w.heap.size w w') → Calls Try.prog 132 #[v, .slice A n c, .int .i64 ch, .int .i64 i, .int .i64 t] w fun e w' => ∃ u hs', e = .returned (.tuple #[u, .bool (wearOk f ms ch i t)]) ∧ OwnMag w' w.heap.size w'.heap.size u hs' (wearL f ms ch i t) ∧ Below w.heap.size w w' := fun h0 hc => by
    have hL : wearL f ms ch i t = [] := by unfold wearL; rw [h0]; rfl
    rw [h0, hL]
    refine hc.mono ?_
    rintro e w' ⟨rfl, hb⟩
    exact ⟨_, [], rfl, ownMag_none _ _ _, hb⟩
  cases ht : inB t 0 6
  · exact no (by unfold wearOk; rw [ht]; simp) (specWear_no1 lo hi lo2 hi2 v f A n c ch i t ms w h hhi hs hn hm hM hhi2 wf ht)
  obtain ⟨t0, t1⟩ := (inB_iff _ _ _).1 ht
  cases hmag : magB f ms
  · exact no (by unfold wearOk; rw [hmag]; rfl) (specWear_no2 lo hi lo2 hi2 v f A n c ch i t ms w h hhi hs hn hm hM hhi2 wf t0 t1 hmag)
  cases in1 : inB ch 0 ((n : Int) - 1)
  · exact no (by unfold wearOk; rw [hn, in1]; simp) (specWear_no3 lo hi lo2 hi2 v f A n c ch i t ms w h hhi hs hn hm hM hhi2 wf t0 t1 hmag in1)
  obtain ⟨c0, c1⟩ := (inB_iff _ _ _).1 in1
  obtain ⟨m, rfl⟩ := Int.eq_ofNat_of_zero_le c0
  have hmn : m < n := by omega
  obtain ⟨xs, hx⟩ : ∃ xs, ms[m]? = some xs := ⟨_, List.getElem?_eq_getElem (by omega)⟩
  obtain ⟨hf, hlen, hrows⟩ := magB_rows hmag
  have hxl := (hrows xs (List.mem_of_getElem? hx)).1
  have hrow : rowAt ms (m : Int) = xs := by unfold rowAt; rw [Int.toNat_natCast, List.getD, hx]; rfl
  cases in2 : inB i 0 ((xs.length : Int) - 1)
  · exact no (by unfold wearOk; rw [hrow, in2]; simp) (specWear_no4 lo hi lo2 hi2 v f A n c _ i t ms w h hhi hs hn hm hM hhi2 wf t0 t1 hmag m rfl xs hx hmn (by omega) in2)
  obtain ⟨i0, i1⟩ := (inB_iff _ _ _).1 in2
  obtain ⟨k, rfl⟩ := Int.eq_ofNat_of_zero_le i0
  have hkl : k < xs.length := by omega
  obtain ⟨x, hy⟩ : ∃ x, xs[k]? = some x := ⟨_, List.getElem?_eq_getElem hkl⟩
  have hmx := (hrows xs (List.mem_of_getElem? hx)).2 x (List.mem_of_getElem? hy)
  unfold matB at hmx
  rw [Bool.and_eq_true, Bool.and_eq_true] at hmx
  obtain ⟨x0, x1⟩ := (setB_iff _).1 hmx.2.1
  have hgx : xs.getD ((k : Int)).toNat (0, 0) = x := by rw [Int.toNat_natCast, List.getD, hy]; rfl
  cases hb : bt x.2 t.toNat
  · exact no (by unfold wearOk; rw [hrow, hgx, hb]; simp) (specWear_no5 lo hi lo2 hi2 v f A n c _ _ t ms w h hhi hs hn hm hM hhi2 wf t0 t1 hmag m rfl xs hx hmn (by omega) k rfl x hy hb x0 x1)
  have hok : wearOk f ms (m : Int) (k : Int) t = true := by unfold wearOk; rw [hrow, hgx, hmag, hn, in1, ht, in2, hb]; rfl
  have hL : wearL f ms (m : Int) (k : Int) t = ms.set m (xs.set k (x.1, x.2 - one t)) := by unfold wearL; rw [hok, hrow, hgx]; rfl
  rw [hok, hL]
  obtain ⟨ad, hA⟩ : ∃ ad, A = some ad := by obtain ⟨ad, e, _⟩ := hM (by omega); exact ⟨ad, e⟩
  subst hA
  exact specWear_yes lo hi lo2 hi2 v f ad n c m k t ms xs x w h hhi hs hn hm (fun ys hy => by have := (hrows ys hy).1; omega) hM hhi2 wf hmag hx hy t0 t1 hb x0 x1
end Go.Proofs.Ythoepelgmplcmaa
