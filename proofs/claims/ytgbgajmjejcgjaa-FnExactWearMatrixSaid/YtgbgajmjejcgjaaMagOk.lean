/-
  MagazineOk by contract, model and program. Conditions: lengths of at most 2^20; for the program the teeth are in the range of int.
-/
import Derived.Test.YtgbgajmjejcgjaaMatOk
import Derived.Test.YtgbgajmjejcgjaaMagH
namespace Go.Proofs.Ytgbgajmjejcgjaa
open Go.RowKit
set_option linter.unusedVariables false

def rowB (f : Fnt) (xs : List Mat) : Bool := decide (xs.length ≤ 20) && xs.all (matB f)
def magB (f : Fnt) (ms : List (List Mat)) : Bool := fontB f && ((ms.length == f.s.size) && ms.all (rowB f))
theorem rowB_room {f : Fnt} {xs : List Mat} (h : 20 < xs.length) : rowB f xs = false := by
  unfold rowB; rw [decide_eq_false (by omega)]; rfl
theorem rowB_bad {f : Fnt} {xs : List Mat} {k : Nat} {x : Mat} (hx : xs[k]? = some x) (h : matB f x = false) : rowB f xs = false := by
  have : xs.all (matB f) = false := by
    rw [List.all_eq_false]; exact ⟨x, List.mem_of_getElem? hx, by rw [h]; simp⟩
  unfold rowB; rw [this, Bool.and_false]
theorem all_bad {f : Fnt} {ms : List (List Mat)} {k : Nat} {xs : List Mat} (hx : ms[k]? = some xs) (h : rowB f xs = false) : ms.all (rowB f) = false := by
  rw [List.all_eq_false]; exact ⟨xs, List.mem_of_getElem? hx, by rw [h]; simp⟩
theorem all_step {f : Fnt} {xs : List Mat} {k : Nat} {x : Mat} (hx : xs[k]? = some x) (h : matB f x = true) (ht : (xs.take k).all (matB f) = true) : (xs.take (k + 1)).all (matB f) = true := by
  rw [mtake_at hx, List.all_append, ht]; simp [h]
theorem all_step2 {f : Fnt} {ms : List (List Mat)} {k : Nat} {xs : List Mat} (hx : ms[k]? = some xs) (hr : xs.length ≤ 20) (h : xs.all (matB f) = true) (ht : (ms.take k).all (rowB f) = true) : (ms.take (k + 1)).all (rowB f) = true := by
  rw [ttake_at hx, List.all_append, ht]
  simp [rowB, h, hr]
theorem fontB_size {f : Fnt} (h : fontB f = true) : 1 ≤ f.s.size ∧ f.s.size ≤ 40 := by
  obtain ⟨e, _, hb⟩ := fontB_codes h
  have := bar_len hb
  omega

set_option maxRecDepth 100000 in
set_option maxHeartbeats 3200000 in
theorem specMagOk_any (lo hi lo2 hi2 : Nat) (v : Value) (f : Fnt) (A : Option Addr) (n c : Nat) (ms : List (List Mat)) (w : World) (h : FontV w lo hi v f) (hhi : hi ≤ w.heap.size) (hs : Small f) (hn : ms.length = n) (hm : n ≤ 1048576) (hM : MagI w lo2 hi2 A ms) (hhi2 : hi2 ≤ w.heap.size) :
    Calls Try.prog 64 #[v, .slice A n c] w fun e w' => e = .returned (.bool (magB f ms)) ∧ Below w.heap.size w w' := by
  obtain ⟨B, d, B2, d2, hv⟩ := fontForm h
  obtain ⟨s, hs0⟩ : ∃ s, f.s = s := ⟨_, rfl⟩
  obtain ⟨p, hp⟩ : ∃ n, f.ws.length = n := ⟨_, rfl⟩
  obtain ⟨q, hq⟩ : ∃ m, f.cs.length = m := ⟨_, rfl⟩
  rw [hs0, hp, hq] at hv
  rw [hv] at h
  rw [hv]
  have hW : Below w.heap.size w (w.alloc (.cells #[.string s, .slice B p d, .slice B2 q d2] 45)) := (Below.refl _ _).alloc (Nat.le_refl _) _
  have V0 := Lib.hid (h.below hhi hW)
  have M0 := Lib.hid (hM.below hhi2 hW)
  have X0 := Lib.hid (new3 w (.string s) (.slice B p d) (.slice B2 q d2) 45)
  have T0 := Lib.hid hW
  have Hn := Lib.hid hn; have Hs0 := Lib.hid hs0
  have HS := Lib.hid hs
  clear hv hs0 hp hq h hW hM hn hs
  cases hf : fontB f
  · have HR : Hid (magB f ms = false) := by show _ = _; unfold magB; rw [hf]; rfl
    go_enter Try.func64, Try.ntmps64
    go_wp2_with (go_at_call 70; refine (specFontOk_any lo hi _ f _ V0.out (by simp; omega) HS.out).mono ?_; rintro e w1 ⟨rfl, hb1⟩; have T1 := Lib.hid (T0.out.trans (hb1.mono (by simp))); clear hb1)
    go_ret
    exact ⟨ret_bool HR.out.symm, T1.out⟩
  have hfs := fontB_size hf
  rw [Hs0.out] at hfs
  have HF := Lib.hid hf
  by_cases hl : n = s.size
  · have hl' : ((n : Int) != (s.size : Int)) = false := by rw [bne_eq_false_iff_eq]; omega
    have HR : Hid (magB f ms = ms.all (rowB f)) := by
      show _ = _
      unfold magB; rw [hf, Hn.out, Hs0.out, hl]; simp
    have hn40 : n ≤ 40 := by omega
    have Hl := Lib.hid hl
    clear hl hfs hf
    go_enter Try.func64, Try.ntmps64
    go_wp2_with fail
    refine (specFontOk_any lo hi _ f _ V0.out (by simp; omega) HS.out).mono ?_
    rintro e w1 ⟨rfl, hb1⟩
    rw [HF.out]
    have T1 := Lib.hid (T0.out.trans (hb1.mono (by simp)))
    have V1 := Lib.hid (V0.out.below (by simp; omega) hb1)
    have M1 := Lib.hid (M0.out.below (by simp; omega) hb1)
    have X1 := Lib.hid (keep3 hb1 (by simp) X0.out)
    have s1 := hb1.size
    simp only [World.size_alloc] at s1
    clear hb1 V0 M0 X0 T0
    obtain ⟨q0, q1, q2⟩ := X1.out
    go_wp2
    clear q0 q1 q2
    go_loopw [22] (fun i wr => ∃ k : Nat, k ≤ n ∧ i = .int .i64 k ∧ Below w1.heap.size w1 wr ∧ (ms.take k).all (rowB f) = true) (fun i _ => n - (intOf i).toNat)
    case atStart => exact ⟨0, Nat.zero_le _, rfl, Below.refl _ _, rfl⟩
    case round =>
      obtain ⟨k, hk, rfl, hb, hall⟩ := hrel
      have HB := Lib.hid hb; have Hall := Lib.hid hall
      clear hb hall
      by_cases hlt : k < n
      · obtain ⟨ad, xs, Aj, cj, rfl, hx, hc, hcap, hcm, hI⟩ := (M1.out.below (by omega) HB.out).at_ (k := k) (by rw [Hn.out]; exact hlt)
        obtain ⟨l, hl⟩ : ∃ l, xs.length = l := ⟨_, rfl⟩
        rw [hl] at hc hcap
        have hlm : l ≤ maxLen := by omega
        unfold maxLen at hlm
        have HI := Lib.hid hI; have HL := Lib.hid hl
        clear hI hcap hcm hl
        by_cases h20 : 20 < l
        · have Hbad := Lib.hid (all_bad hx.out (rowB_room (f := f) (by rw [HL.out]; exact h20)))
          have t1 : decide (20 < (l : Int)) = true := by rw [decide_eq_true_eq]; omega
          clear h20
          go_wp2
          go_ret
          exact ⟨ret_bool (by rw [HR.out, Hbad.out]), T1.out.trans (HB.out.mono (by omega))⟩
        · have t1 : decide (20 < (l : Int)) = false := by rw [decide_eq_false_iff_not]; omega
          have hl20 : l ≤ 20 := by omega
          clear h20
          go_wp2
          go_loopw [31] (fun i wr => ∃ j : Nat, j ≤ l ∧ i = .int .i64 j ∧ Below w1.heap.size w1 wr ∧ (xs.take j).all (matB f) = true) (fun i _ => l - (intOf i).toNat)
          case atStart => exact ⟨0, Nat.zero_le _, rfl, HB.out, rfl⟩
          case round =>
            obtain ⟨j, hj, rfl, hb2, hall2⟩ := hrel
            have HB2 := Lib.hid hb2; have Hall2 := Lib.hid hall2
            clear hb2 hall2
            by_cases hjl : j < l
            · obtain ⟨bd, x, rfl, hxj, d1, e1⟩ := (HI.out.keep (w' := wr) (fun p _ h2 => (HB2.out.cell (by omega)).trans (HB.out.cell (by omega)).symm)).at_ (k := j) (by rw [HL.out]; exact hjl)
              obtain ⟨q0, q1, q2⟩ := keep3 HB2.out (by omega) X1.out
              have hz : w.heap.size < wr.heap.size := by have := HB2.out.size; omega
              have V2 := Lib.hid ((V1.out.below (by omega) HB2.out).below (B := wr.heap.size) (by have := HB2.out.size; omega) ((Below.refl _ _).alloc (Nat.le_refl _) (.cells #[.int .i64 x.1, .int .i64 x.2] 54)))
              have hsz2 := HB2.out.size
              go_wp2_with fail
              refine (l2Matrix_any lo hi _ f x _ V2.out (by simp; omega) HS.out HF.out).mono ?_
              rintro e w2 ⟨rfl, hbb⟩
              have HB3 := Lib.hid ((HB2.out.alloc HB2.out.size (.cells #[.int .i64 x.1, .int .i64 x.2] 54)).trans (hbb.mono (by simp; omega)))
              clear hbb d1 e1 q0 q1 q2 hz hsz2
              cases hmb : matB f x
              · have Hbad := Lib.hid (all_bad hx.out (rowB_bad hxj.out hmb))
                go_wp2
                go_ret
                exact ⟨ret_bool (by rw [HR.out, Hbad.out]), T1.out.trans (HB3.out.mono (by omega))⟩
              · have HA := Lib.hid (all_step hxj.out hmb Hall2.out)
                go_wp2
                go_roundw
                case rel => exact ⟨j + 1, by omega, by go_num, HB3.out, HA.out⟩
                case measure => simp [intOf]; omega
            · have hjn : j = l := by omega
              subst hjn
              have HA := Lib.hid (all_step2 hx.out (by rw [HL.out]; exact hl20) (by have := Hall2.out; rwa [mtake_all HL.out] at this) Hall.out)
              go_wp2
              go_roundw
              case rel => exact ⟨k + 1, by omega, by go_num, HB2.out, HA.out⟩
              case measure => simp [intOf]; omega
      · have hkn : k = n := by omega
        subst hkn
        go_wp2
        go_ret
        have := Hall.out
        rw [ttake_all Hn.out] at this
        exact ⟨ret_bool (by rw [HR.out, this]), T1.out.trans (HB.out.mono (by omega))⟩
  · have hl' : ((n : Int) != (s.size : Int)) = true := by rw [bne_iff_ne]; omega
    have HR : Hid (magB f ms = false) := by
      show _ = _
      have : (ms.length == f.s.size) = false := by rw [Hn.out, Hs0.out, beq_eq_false_iff_ne]; exact hl
      unfold magB; rw [hf, this]; rfl
    clear hl hfs hf
    go_enter Try.func64, Try.ntmps64
    go_wp2_with fail
    refine (specFontOk_any lo hi _ f _ V0.out (by simp; omega) HS.out).mono ?_
    rintro e w1 ⟨rfl, hb1⟩
    rw [HF.out]
    have T1 := Lib.hid (T0.out.trans (hb1.mono (by simp)))
    obtain ⟨q0, q1, q2⟩ := keep3 hb1 (by simp) X0.out
    clear hb1
    go_wp2
    go_ret
    exact ⟨ret_bool HR.out.symm, T1.out⟩

set_option maxRecDepth 100000 in
set_option maxHeartbeats 3200000 in
theorem implMagOk_any (lo hi lo2 hi2 : Nat) (v : Value) (f : Fnt) (A : Option Addr) (n c : Nat) (ms : List (List Mat)) (w : World) (h : FontV w lo hi v f) (hhi : hi ≤ w.heap.size) (hs : Small f) (hn : ms.length = n) (hm : n ≤ 1048576) (hM : MagI w lo2 hi2 A ms) (hhi2 : hi2 ≤ w.heap.size) (wf : wfM ms) :
    Calls Try.prog 83 #[v, .slice A n c] w fun e w' => e = .returned (.bool (magB f ms)) ∧ Below w.heap.size w w' := by
  obtain ⟨B, d, B2, d2, hv⟩ := fontForm h
  obtain ⟨s, hs0⟩ : ∃ s, f.s = s := ⟨_, rfl⟩
  obtain ⟨p, hp⟩ : ∃ n, f.ws.length = n := ⟨_, rfl⟩
  obtain ⟨q, hq⟩ : ∃ m, f.cs.length = m := ⟨_, rfl⟩
  rw [hs0, hp, hq] at hv
  rw [hv] at h
  rw [hv]
  have hW : Below w.heap.size w (w.alloc (.cells #[.string s, .slice B p d, .slice B2 q d2] 45)) := (Below.refl _ _).alloc (Nat.le_refl _) _
  have V0 := Lib.hid (h.below hhi hW)
  have M0 := Lib.hid (hM.below hhi2 hW)
  have X0 := Lib.hid (new3 w (.string s) (.slice B p d) (.slice B2 q d2) 45)
  have T0 := Lib.hid hW
  have Hn := Lib.hid hn; have Hs0 := Lib.hid hs0
  have HS := Lib.hid hs
  clear hv hs0 hp hq h hW hM hn hs
  cases hf : fontB f
  · have HR : Hid (magB f ms = false) := by show _ = _; unfold magB; rw [hf]; rfl
    go_enter Try.func83, Try.ntmps83
    go_wp2_with (go_at_call 75; refine (implFontOk_any lo hi _ f _ V0.out (by simp; omega) HS.out).mono ?_; rintro e w1 ⟨rfl, hb1⟩; have T1 := Lib.hid (T0.out.trans (hb1.mono (by simp))); clear hb1)
    go_ret
    exact ⟨ret_bool HR.out.symm, T1.out⟩
  have hfs := fontB_size hf
  rw [Hs0.out] at hfs
  have HF := Lib.hid hf
  by_cases hl : n = s.size
  · have hl' : ((n : Int) != (s.size : Int)) = false := by rw [bne_eq_false_iff_eq]; omega
    have HR : Hid (magB f ms = ms.all (rowB f)) := by
      show _ = _
      unfold magB; rw [hf, Hn.out, Hs0.out, hl]; simp
    have hn40 : n ≤ 40 := by omega
    have Hl := Lib.hid hl
    clear hl hfs hf
    go_enter Try.func83, Try.ntmps83
    go_wp2_with fail
    refine (implFontOk_any lo hi _ f _ V0.out (by simp; omega) HS.out).mono ?_
    rintro e w1 ⟨rfl, hb1⟩
    rw [HF.out]
    have T1 := Lib.hid (T0.out.trans (hb1.mono (by simp)))
    have V1 := Lib.hid (V0.out.below (by simp; omega) hb1)
    have M1 := Lib.hid (M0.out.below (by simp; omega) hb1)
    have X1 := Lib.hid (keep3 hb1 (by simp) X0.out)
    have s1 := hb1.size
    simp only [World.size_alloc] at s1
    clear hb1 V0 M0 X0 T0
    obtain ⟨q0, q1, q2⟩ := X1.out
    go_wp2
    clear q0 q1 q2
    go_loopw [22] (fun i wr => ∃ k : Nat, k ≤ n ∧ i = .int .i64 k ∧ Below w1.heap.size w1 wr ∧ (ms.take k).all (rowB f) = true) (fun i _ => n - (intOf i).toNat)
    case atStart => exact ⟨0, Nat.zero_le _, rfl, Below.refl _ _, rfl⟩
    case round =>
      obtain ⟨k, hk, rfl, hb, hall⟩ := hrel
      have HB := Lib.hid hb; have Hall := Lib.hid hall
      clear hb hall
      by_cases hlt : k < n
      · obtain ⟨ad, xs, Aj, cj, rfl, hx, hc, hcap, hcm, hI⟩ := (M1.out.below (by omega) HB.out).at_ (k := k) (by rw [Hn.out]; exact hlt)
        obtain ⟨l, hl⟩ : ∃ l, xs.length = l := ⟨_, rfl⟩
        rw [hl] at hc hcap
        have hlm : l ≤ maxLen := by omega
        unfold maxLen at hlm
        have HI := Lib.hid hI; have HL := Lib.hid hl
        clear hI hcap hcm hl
        by_cases h20 : 20 < l
        · have Hbad := Lib.hid (all_bad hx.out (rowB_room (f := f) (by rw [HL.out]; exact h20)))
          have t1 : decide (20 < (l : Int)) = true := by rw [decide_eq_true_eq]; omega
          clear h20
          go_wp2
          go_ret
          exact ⟨ret_bool (by rw [HR.out, Hbad.out]), T1.out.trans (HB.out.mono (by omega))⟩
        · have t1 : decide (20 < (l : Int)) = false := by rw [decide_eq_false_iff_not]; omega
          have hl20 : l ≤ 20 := by omega
          clear h20
          go_wp2
          go_loopw [31] (fun i wr => ∃ j : Nat, j ≤ l ∧ i = .int .i64 j ∧ Below w1.heap.size w1 wr ∧ (xs.take j).all (matB f) = true) (fun i _ => l - (intOf i).toNat)
          case atStart => exact ⟨0, Nat.zero_le _, rfl, HB.out, rfl⟩
          case round =>
            obtain ⟨j, hj, rfl, hb2, hall2⟩ := hrel
            have HB2 := Lib.hid hb2; have Hall2 := Lib.hid hall2
            clear hb2 hall2
            by_cases hjl : j < l
            · obtain ⟨bd, x, rfl, hxj, d1, e1⟩ := (HI.out.keep (w' := wr) (fun p _ h2 => (HB2.out.cell (by omega)).trans (HB.out.cell (by omega)).symm)).at_ (k := j) (by rw [HL.out]; exact hjl)
              obtain ⟨q0, q1, q2⟩ := keep3 HB2.out (by omega) X1.out
              have hz : w.heap.size < wr.heap.size := by have := HB2.out.size; omega
              have V2 := Lib.hid ((V1.out.below (by omega) HB2.out).below (B := wr.heap.size) (by have := HB2.out.size; omega) ((Below.refl _ _).alloc (Nat.le_refl _) (.cells #[.int .i64 x.1, .int .i64 x.2] 54)))
              have hsz2 := HB2.out.size
              go_wp2_with fail
              refine (isMatrix_any lo hi _ f x _ V2.out (by simp; omega) HS.out HF.out (wf _ (List.mem_of_getElem? hx.out) _ (List.mem_of_getElem? hxj.out))).mono ?_
              rintro e w2 ⟨rfl, hbb⟩
              have HB3 := Lib.hid ((HB2.out.alloc HB2.out.size (.cells #[.int .i64 x.1, .int .i64 x.2] 54)).trans (hbb.mono (by simp; omega)))
              clear hbb d1 e1 q0 q1 q2 hz hsz2
              cases hmb : matB f x
              · have Hbad := Lib.hid (all_bad hx.out (rowB_bad hxj.out hmb))
                go_wp2
                go_ret
                exact ⟨ret_bool (by rw [HR.out, Hbad.out]), T1.out.trans (HB3.out.mono (by omega))⟩
              · have HA := Lib.hid (all_step hxj.out hmb Hall2.out)
                go_wp2
                go_roundw
                case rel => exact ⟨j + 1, by omega, by go_num, HB3.out, HA.out⟩
                case measure => simp [intOf]; omega
            · have hjn : j = l := by omega
              subst hjn
              have HA := Lib.hid (all_step2 hx.out (by rw [HL.out]; exact hl20) (by have := Hall2.out; rwa [mtake_all HL.out] at this) Hall.out)
              go_wp2
              go_roundw
              case rel => exact ⟨k + 1, by omega, by go_num, HB2.out, HA.out⟩
              case measure => simp [intOf]; omega
      · have hkn : k = n := by omega
        subst hkn
        go_wp2
        go_ret
        have := Hall.out
        rw [ttake_all Hn.out] at this
        exact ⟨ret_bool (by rw [HR.out, this]), T1.out.trans (HB.out.mono (by omega))⟩
  · have hl' : ((n : Int) != (s.size : Int)) = true := by rw [bne_iff_ne]; omega
    have HR : Hid (magB f ms = false) := by
      show _ = _
      have : (ms.length == f.s.size) = false := by rw [Hn.out, Hs0.out, beq_eq_false_iff_ne]; exact hl
      unfold magB; rw [hf, this]; rfl
    clear hl hfs hf
    go_enter Try.func83, Try.ntmps83
    go_wp2_with fail
    refine (implFontOk_any lo hi _ f _ V0.out (by simp; omega) HS.out).mono ?_
    rintro e w1 ⟨rfl, hb1⟩
    rw [HF.out]
    have T1 := Lib.hid (T0.out.trans (hb1.mono (by simp)))
    obtain ⟨q0, q1, q2⟩ := keep3 hb1 (by simp) X0.out
    clear hb1
    go_wp2
    go_ret
    exact ⟨ret_bool HR.out.symm, T1.out⟩
end Go.Proofs.Ytgbgajmjejcgjaa
