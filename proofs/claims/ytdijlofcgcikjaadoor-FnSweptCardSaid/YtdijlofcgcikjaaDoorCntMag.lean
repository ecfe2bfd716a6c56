/-
  CountStrays and CountWorn by contract, model and program. Conditions: lengths of at most 2^20; for the program the teeth are in the range of int.
-/
import Derived.Test.YtdijlofcgcikjaaDoorPkG
import Derived.Test.YtdijlofcgcikjaaDoorPkF
namespace Go.Proofs.YtdijlofcgcikjaaDoor
open Go.RowKit
set_option linter.unusedVariables false

def cntR (q : Mat → Bool) (xs : List Mat) : Nat := (xs.filter q).length
def cntM (p : Nat → Mat → Bool) (ms : List (List Mat)) : Nat → Nat
  | 0 => 0
  | k + 1 => cntM p ms k + cntR (p k) (ms.getD k [])
theorem cntR_yes {q : Mat → Bool} {xs : List Mat} {k : Nat} {x : Mat} (hx : xs[k]? = some x) (h : q x = true) : cntR q (xs.take (k + 1)) = cntR q (xs.take k) + 1 := by
  unfold cntR; rw [mtake_at hx, List.filter_append]; simp [h]
theorem cntR_no {q : Mat → Bool} {xs : List Mat} {k : Nat} {x : Mat} (hx : xs[k]? = some x) (h : q x = false) : cntR q (xs.take (k + 1)) = cntR q (xs.take k) := by
  unfold cntR; rw [mtake_at hx, List.filter_append]; simp [h]
theorem cntR_le (q : Mat → Bool) (xs : List Mat) (k : Nat) : cntR q (xs.take k) ≤ k := by
  unfold cntR
  exact Nat.le_trans (List.length_filter_le _ _) (by rw [List.length_take]; omega)
theorem cntM_succ {p : Nat → Mat → Bool} {ms : List (List Mat)} {k : Nat} {xs : List Mat} (hx : ms[k]? = some xs) : cntM p ms (k + 1) = cntM p ms k + cntR (p k) xs := by
  show _ + _ = _
  simp [List.getD, hx]
theorem magB_rows {f : Fnt} {ms : List (List Mat)} (h : magB f ms = true) : fontB f = true ∧ ms.length = f.s.size ∧ ∀ xs ∈ ms, xs.length ≤ 20 ∧ ∀ x ∈ xs, matB f x = true := by
  unfold magB at h
  simp only [Bool.and_eq_true, beq_iff_eq, List.all_eq_true] at h
  refine ⟨h.1, h.2.1, fun xs hx => ?_⟩
  have := h.2.2 xs hx
  unfold rowB at this
  simp only [Bool.and_eq_true, decide_eq_true_eq, List.all_eq_true] at this
  exact this
theorem cntM_le {p : Nat → Mat → Bool} {ms : List (List Mat)} (h : ∀ xs ∈ ms, xs.length ≤ 20) : ∀ k, k ≤ ms.length → cntM p ms k ≤ 20 * k
  | 0, _ => by simp [cntM]
  | k + 1, hk => by
    have hx : ms[k]? = some (ms[k]'(by omega)) := List.getElem?_eq_getElem (by omega)
    rw [cntM_succ hx]
    have h1 := cntM_le (p := p) h k (by omega)
    have h2 := h _ (List.mem_of_getElem? hx)
    have h3 := cntR_le (p k) (ms[k]'(by omega)) 20
    rw [List.take_of_length_le h2] at h3
    omega
theorem fontForm2 {w : World} {lo hi : Nat} {v : Value} {f : Fnt} (h : FontV w lo hi v f) : ∃ A c B d, v = .agg #[.string f.s, .slice A f.ws.length c, .slice B f.cs.length d] ∧ IntsI w lo hi B f.cs := by
  obtain ⟨A, c, B, d, rfl, _, h2, _⟩ := h
  exact ⟨A, c, B, d, rfl, h2⟩
def strayP (i : Nat) (x : Mat) : Bool := x.1 != (i : Int)
def wornP (f : Fnt) (_ : Nat) (x : Mat) : Bool := x.2 != f.cs.getD x.1.toNat 0
def cntI (f : Fnt) (ms : List (List Mat)) (p : Nat → Mat → Bool) : Int := if magB f ms then cntM p ms ms.length else -1

theorem strayF_any (i : Int) (x : Mat) (w : World) :
    Calls Tryd.prog 54 #[.int .i64 i, .agg #[.int .i64 x.1, .int .i64 x.2]] w fun e w' => e = .returned (.bool (x.1 != i)) ∧ Below w.heap.size w w' := by
  go_enter Tryd.func54, Tryd.ntmps54
  go_wp2
  go_ret
  exact ⟨rfl, (Below.refl _ _).alloc (Nat.le_refl _) _⟩
set_option maxHeartbeats 800000 in
theorem isWorn_any (lo hi : Nat) (v : Value) (f : Fnt) (x : Mat) (i : Nat) (w : World) (h : FontV w lo hi v f) (hhi : hi ≤ w.heap.size) (hs : Small f) (hf : fontB f = true) (hm : matB f x = true) :
    Calls Tryd.prog 58 #[v, .agg #[.int .i64 x.1, .int .i64 x.2]] w fun e w' => e = .returned (.bool (wornP f i x)) ∧ Below w.heap.size w w' := by
  obtain ⟨A, c, A2, d, rfl, hI1, hI2, hc1, hc2, hd1, hd2, hss⟩ := h
  obtain ⟨e1, e2, hbar⟩ := fontB_codes hf
  obtain ⟨s, ws, cs⟩ := f
  obtain ⟨k, t⟩ := x
  simp only at *
  unfold matB at hm
  rw [Bool.and_eq_true] at hm
  obtain ⟨k0, k1⟩ := (inB_iff _ _ _).1 hm.1
  simp only at k0 k1
  obtain ⟨j, rfl⟩ := Int.eq_ofNat_of_zero_le k0
  obtain ⟨n, hn⟩ : ∃ n, ws.length = n := ⟨_, rfl⟩
  obtain ⟨m, hmm⟩ : ∃ m, cs.length = m := ⟨_, rfl⟩
  rw [hmm] at e1 hd1
  have hjm : j < m := by omega
  have hW : Below w.heap.size w ((w.alloc (.cells #[.string s, .slice A n c, .slice A2 m d] 25)).alloc (.cells #[.int .i64 (j : Int), .int .i64 t] 30)) := ((Below.refl _ _).alloc (Nat.le_refl _) _).alloc (by simp) _
  obtain ⟨ad, y, rfl, hy, hc⟩ := (hI2.below hhi hW).ints.at_ (k := j) (by omega)
  have HR : Hid (wornP ⟨s, ws, cs⟩ i ((j : Int), t) = (t != y)) := by show (t != cs.getD (j : Int).toNat 0) = _; rw [Int.toNat_natCast, getD_at hy.out]
  have HW := Lib.hid hW
  have hj0 : (0 : Int) ≤ (j : Int) := by omega
  have hj1 : (j : Int) < (m : Int) := by omega
  rw [hn, hmm]
  clear hI1 hI2 hc1 hc2 hd2 hss hW hm hn hmm hbar e2 hs hf
  go_enter Tryd.func58, Tryd.ntmps58
  go_wp2
  go_quiet (fail)
  go_wp2
  go_ret
  exact ⟨ret_bool HR.out.symm, below_drewN HW.out _⟩
set_option maxHeartbeats 800000 in
theorem wornF_any (lo hi g : Nat) (B B2 : Option Addr) (s : ByteArray) (p d q d2 : Nat) (f : Fnt) (i : Nat) (x : Mat) (w : World) (h : FontV w lo hi (.agg #[.string s, .slice B p d, .slice B2 q d2]) f) (hhi : hi ≤ w.heap.size) (hs : Small f) (hf : fontB f = true) (hm : matB f x = true)
    (hg : g < w.heap.size) (hb : w.cell? ⟨g, 0, none⟩ = some (.string s) ∧ w.cell? ⟨g, 1, none⟩ = some (.slice B p d) ∧ w.cell? ⟨g, 2, none⟩ = some (.slice B2 q d2)) :
    Calls Tryd.prog 57 #[.int .i64 (i : Int), .agg #[.int .i64 x.1, .int .i64 x.2], .pointer (some ⟨g, 0, none⟩)] w fun e w' => e = .returned (.bool (wornP f i x)) ∧ Below w.heap.size w w' := by
  have hW : Below w.heap.size w (w.alloc (.cells #[.int .i64 x.1, .int .i64 x.2] 30)) := (Below.refl _ _).alloc (Nat.le_refl _) _
  have V1 := Lib.hid (h.below hhi hW)
  have HW := Lib.hid hW
  obtain ⟨q0, q1, q2⟩ := hb
  clear h hW
  go_enter Tryd.func57, Tryd.ntmps57
  go_wp2_with fail
  refine (isWorn_any lo hi _ f x i _ V1.out (by simp; omega) hs hf hm).mono ?_
  rintro e w1 ⟨rfl, hb1⟩
  have T1 := Lib.hid (HW.out.trans (hb1.mono (by simp)))
  clear hb1
  go_wp2
  go_ret
  exact ⟨rfl, T1.out⟩

set_option maxRecDepth 100000 in
set_option maxHeartbeats 3200000 in
theorem countStrays_any (lo hi lo2 hi2 : Nat) (v : Value) (f : Fnt) (A : Option Addr) (n c : Nat) (ms : List (List Mat)) (w : World) (h : FontV w lo hi v f) (hhi : hi ≤ w.heap.size) (hs : Small f) (hn : ms.length = n) (hm : n ≤ 1048576) (hM : MagI w lo2 hi2 A ms) (hhi2 : hi2 ≤ w.heap.size) (wf : wfM ms) :
    Calls Tryd.prog 53 #[v, .slice A n c, .func (.func 54) #[] #[]] w fun e w' => e = .returned (.int .i64 (cntI f ms (strayP))) ∧ Below w.heap.size w w' := by
  obtain ⟨B, d, B2, d2, hv, hI2⟩ := fontForm2 h
  obtain ⟨s, hs0⟩ : ∃ s, f.s = s := ⟨_, rfl⟩
  obtain ⟨p, hp⟩ : ∃ n, f.ws.length = n := ⟨_, rfl⟩
  obtain ⟨q, hq⟩ : ∃ m, f.cs.length = m := ⟨_, rfl⟩
  rw [hs0, hp, hq] at hv
  rw [hv] at h
  rw [hv]
  have hW : Below w.heap.size w (w.alloc (.cells #[.string s, .slice B p d, .slice B2 q d2] 25)) := (Below.refl _ _).alloc (Nat.le_refl _) _
  have V0 := Lib.hid (h.below hhi hW)
  have M0 := Lib.hid (hM.below hhi2 hW)
  have X0 := Lib.hid (new3 w (.string s) (.slice B p d) (.slice B2 q d2) 25)
  have T0 := Lib.hid hW
  have C0 := Lib.hid (hI2.below hhi hW)
  have Hn := Lib.hid hn
  have HS := Lib.hid hs
  have Hq := Lib.hid hq
  clear hs0 hp hq h hW hM hn hs hv hI2
  cases hmg : magB f ms
  · have HR : Hid (cntI f ms (strayP) = -1) := by show _ = _; unfold cntI; rw [hmg]; rfl
    go_enter Tryd.func53, Tryd.ntmps53
    go_wp2_with (go_at_call 19; refine (implMagOk_any lo hi lo2 hi2 _ f _ _ _ ms _ V0.out (by simp; omega) HS.out Hn.out hm M0.out (by simp; omega) wf).mono ?_; rintro e w1 ⟨rfl, hb1⟩; have T1 := Lib.hid (T0.out.trans (hb1.mono (by simp))); clear hb1)
    go_ret
    exact ⟨ret_int HR.out.symm, T1.out⟩
  obtain ⟨hf, hlen, hrows⟩ := magB_rows hmg
  have hfs := fontB_size hf
  have HR : Hid (cntI f ms (strayP) = cntM (strayP) ms n) := by show _ = _; unfold cntI; rw [hmg, Hn.out]; rfl
  have HF := Lib.hid hf; have Hrows := Lib.hid hrows
  have hn40 : n ≤ 40 := by rw [← Hn.out, hlen]; omega
  have HL := Lib.hid (cntM_le (p := strayP) (fun xs hx => (hrows xs hx).1))
  clear hf hlen hrows hfs
  go_enter Tryd.func53, Tryd.ntmps53
  go_wp2_with fail
  refine (implMagOk_any lo hi lo2 hi2 _ f _ _ _ ms _ V0.out (by simp; omega) HS.out Hn.out hm M0.out (by simp; omega) wf).mono ?_
  rintro e w1 ⟨rfl, hb1⟩
  have T1 := Lib.hid (T0.out.trans (hb1.mono (by simp)))
  have V1 := Lib.hid (V0.out.below (by simp; omega) hb1)
  have M1 := Lib.hid (M0.out.below (by simp; omega) hb1)
  have X1 := Lib.hid (keep3 hb1 (by simp) X0.out)
  have C1 := Lib.hid (C0.out.below (by simp; omega) hb1)
  have s1 := hb1.size
  simp only [World.size_alloc] at s1
  clear hb1 V0 M0 X0 T0 C0
  go_wp2
  go_loopw [7, 18] (fun u i wr => ∃ k : Nat, k ≤ n ∧ i = .int .i64 k ∧ u = .int .i64 (cntM (strayP) ms k) ∧ Below w1.heap.size w1 wr) (fun _ i _ => n - (intOf i).toNat)
  case atStart => exact ⟨0, Nat.zero_le _, rfl, rfl, Below.refl _ _⟩
  case round =>
    obtain ⟨k, hk, rfl, rfl, hb⟩ := hrel
    have HB := Lib.hid hb
    have hc0 := HL.out k (by rw [Hn.out]; exact hk)
    clear hb
    by_cases hlt : k < n
    · obtain ⟨ad, xs, Aj, cj, rfl, hx, hc, hcap, hcm, hI⟩ := (M1.out.below (by omega) HB.out).at_ (k := k) (by rw [Hn.out]; exact hlt)
      obtain ⟨l, hl⟩ : ∃ l, xs.length = l := ⟨_, rfl⟩
      have hl20 : l ≤ 20 := by rw [← hl]; exact (Hrows.out xs (List.mem_of_getElem? hx.out)).1
      rw [hl] at hc hcap
      have HI := Lib.hid hI; have HLx := Lib.hid hl
      have HC := Lib.hid (cntM_succ (p := strayP) hx.out)
      clear hI hcap hcm hl
      go_wp2
      go_loopw [7, 25] (fun u i wr => ∃ j : Nat, j ≤ l ∧ i = .int .i64 j ∧ u = .int .i64 (cntM (strayP) ms k + cntR ((strayP) k) (xs.take j) : Nat) ∧ Below w1.heap.size w1 wr) (fun _ i _ => l - (intOf i).toNat)
      case atStart => exact ⟨0, Nat.zero_le _, rfl, by simp [cntR], HB.out⟩
      case round =>
        obtain ⟨j, hj, rfl, rfl, hb2⟩ := hrel
        have HB2 := Lib.hid hb2
        have hcj := cntR_le ((strayP) k) xs j
        clear hb2
        by_cases hjl : j < l
        · obtain ⟨bd, x, rfl, hxj, d1, e1⟩ := (HI.out.keep (w' := wr) (fun p _ h2 => (HB2.out.cell (by omega)).trans (HB.out.cell (by omega)).symm)).at_ (k := j) (by rw [HLx.out]; exact hjl)
          have hmx := (Hrows.out xs (List.mem_of_getElem? hx.out)).2 x (List.mem_of_getElem? hxj.out)
          have hz := HB2.out.size
          have hwz : w.heap.size < wr.heap.size := by omega
          have HBa := Lib.hid (HB2.out.alloc HB2.out.size (.cells #[.int .i64 x.1, .int .i64 x.2] 30))
          cases ht : (strayP) k x
          · have HN := Lib.hid (cntR_no (q := (strayP) k) hxj.out ht)
            have tt : (x.1 != (k : Int)) = false := ht
            go_wp2_with fail
            refine (strayF_any _ x _).mono ?_
            rintro e w2 ⟨rfl, hbb⟩
            rw [tt]
            have HE := Lib.hid (HBa.out.trans (hbb.mono (by simp; omega)))
            clear HBa hmx ht hz hbb tt
            go_wp2
            go_roundw
            case rel => exact ⟨j + 1, by omega, by go_num, by (rw [HN.out]) <;> first | rfl | go_num, HE.out⟩
            case measure => simp [intOf]; omega
          · have HN := Lib.hid (cntR_yes (q := (strayP) k) hxj.out ht)
            have tt : (x.1 != (k : Int)) = true := ht
            go_wp2_with fail
            refine (strayF_any _ x _).mono ?_
            rintro e w2 ⟨rfl, hbb⟩
            rw [tt]
            have HE := Lib.hid (HBa.out.trans (hbb.mono (by simp; omega)))
            clear HBa hmx ht hz hbb tt
            go_wp2
            go_roundw
            case rel => exact ⟨j + 1, by omega, by go_num, by (rw [HN.out]) <;> first | rfl | go_num, HE.out⟩
            case measure => simp [intOf]; omega
        · have hjn : j = l := by omega
          subst hjn
          have HN : Hid (cntM (strayP) ms k + cntR ((strayP) k) (xs.take j) = cntM (strayP) ms (k + 1)) := by show _ = _; rw [mtake_all HLx.out, HC.out]
          rw [HN.out]
          go_wp2
          go_roundw
          case rel => exact ⟨k + 1, by omega, by go_num, rfl, HB2.out⟩
          case measure => simp [intOf]; omega
    · have hkn : k = n := by omega
      subst hkn
      go_wp2
      go_ret
      exact ⟨ret_int HR.out.symm, T1.out.trans (HB.out.mono (by omega))⟩

set_option maxRecDepth 100000 in
set_option maxHeartbeats 1600000 in
theorem implStrays_any (lo hi lo2 hi2 : Nat) (v : Value) (f : Fnt) (A : Option Addr) (n c : Nat) (ms : List (List Mat)) (w : World) (h : FontV w lo hi v f) (hhi : hi ≤ w.heap.size) (hs : Small f) (hn : ms.length = n) (hm : n ≤ 1048576) (hM : MagI w lo2 hi2 A ms) (hhi2 : hi2 ≤ w.heap.size) (wf : wfM ms) :
    Calls Tryd.prog 18 #[v, .slice A n c] w fun e w' => e = .returned (.int .i64 (cntI f ms (strayP))) ∧ Below w.heap.size w w' := by
  obtain ⟨B, d, B2, d2, hv⟩ := fontForm h
  obtain ⟨s, hs0⟩ : ∃ s, f.s = s := ⟨_, rfl⟩
  obtain ⟨p, hp⟩ : ∃ n, f.ws.length = n := ⟨_, rfl⟩
  obtain ⟨q, hq⟩ : ∃ m, f.cs.length = m := ⟨_, rfl⟩
  rw [hs0, hp, hq] at hv
  rw [hv] at h
  rw [hv]
  have hW : Below w.heap.size w (w.alloc (.cells #[.string s, .slice B p d, .slice B2 q d2] 25)) := (Below.refl _ _).alloc (Nat.le_refl _) _
  have V0 := Lib.hid (h.below hhi hW)
  have M0 := Lib.hid (hM.below hhi2 hW)
  have X0 := Lib.hid (new3 w (.string s) (.slice B p d) (.slice B2 q d2) 25)
  have T0 := Lib.hid hW
  have Hn := Lib.hid hn
  clear hs0 hp hq h hW hM hn hv
  go_enter Tryd.func18, Tryd.ntmps18
  go_wp2_with fail
  refine (countStrays_any lo hi lo2 hi2 _ f _ _ _ ms _ V0.out (by simp; omega) hs Hn.out hm M0.out (by simp; omega) wf).mono ?_
  rintro e w1 ⟨rfl, hb1⟩
  have T1 := Lib.hid (T0.out.trans (hb1.mono (by simp)))
  clear hb1
  go_wp2
  go_ret
  exact ⟨rfl, T1.out⟩
end Go.Proofs.YtdijlofcgcikjaaDoor
