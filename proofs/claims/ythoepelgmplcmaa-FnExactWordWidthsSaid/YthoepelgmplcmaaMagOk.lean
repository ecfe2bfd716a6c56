/-
  MagazineOk by contract, model and program. Conditions: lengths of at most 2^20; for the program the teeth are in the range of int.
-/
import Derived.Test.YthoepelgmplcmaaMatOk
import Derived.Test.YthoepelgmplcmaaMagH
namespace Go.Proofs.Ythoepelgmplcmaa
open Go.RowKit
set_option linter.unusedVariables false

def rowB (f : Fnt) (xs : List Mat) : Bool := decide (xs.length ≤ 20) && xs.all (matB f)
def magB (f : Fnt) (ms : List (List Mat)) : Bool := fontB f && ((ms.length == f.s.size) && ms.all (rowB f))
theorem rowB_room {f : Fnt} {xs : List Mat} (h : 20 < xs.length) : rowB f xs = false := by
  unfold rowB; rw [decide_eq_false (by omega)]; rfl
theorem rowB_bad {f : Fnt} {xs : List Mat} {k : Nat} {x : Mat} (hx : xs[k]? = some x) (h : matB f x = false) : rowB f xs = false := by
  have : xs.all (matB f) = false := by
    rw [List.all_eq_false]; exact ⟨x, List.mem_of_getElem? hx, by rw [h]; simp⟩
  unfold rowB; rw [this, Bool.and_false]
theorem rows_bad {f : Fnt} {ms : List (List Mat)} {k : Nat} {xs : List Mat} (hx : ms[k]? = some xs) (h : rowB f xs = false) : ms.all (rowB f) = false := by
  rw [List.all_eq_false]; exact ⟨xs, List.mem_of_getElem? hx, by rw [h]; simp⟩
theorem all_step {f : Fnt} {xs : List Mat} {k : Nat} {x : Mat} (hx : xs[k]? = some x) (h : matB f x = true) (ht : (xs.take k).all (matB f) = true) : (xs.take (k + 1)).all (matB f) = true := by
  rw [mtake_at hx, List.all_append, ht]; simp [h]
theorem all_step2 {f : Fnt} {ms : List (List Mat)} {k : Nat} {xs : List Mat} (hx : ms[k]? = some xs) (hr : xs.length ≤ 20) (h : xs.all (matB f) = true) (ht : (ms.take k).all (rowB f) = true) : (ms.take (k + 1)).all (rowB f) = true := by
  rw [ttake_at hx, List.all_append, ht]
  simp [rowB, h, hr]
theorem fontB_size {f : Fnt} (h : fontB f = true) : 1 ≤ f.s.size ∧ f.s.size ≤ 40 := by
  obtain ⟨e, _, hb⟩ := fontB_codes h
  have := bar_len hb
  omega

set_option maxRecDepth 100000 in
set_option maxHeartbeats 3200000 in
theorem specMagOk_any (lo hi lo2 hi2 : Nat) (v : Value) (f : Fnt) (A : Option Addr) (n c : Nat) (ms : List (List Mat)) (w : World) (h : FontV w lo hi v f) (hhi : hi ≤ w.heap.size) (hs : Small f) (hn : ms.length = n) (hm : n ≤ 1048576) (hM : MagI w lo2 hi2 A ms) (hhi2 : hi2 ≤ w.heap.size) :
    Calls Try.prog 19 #[v, .slice A n c] w fun e w' => e = .returned (.bool (magB f ms)) ∧ Below w.heap.size w w' := by
  obtain ⟨B, d, B2, d2, hv⟩ := fontForm h
  obtain ⟨s, hs0⟩ : ∃ s, f.s = s := ⟨_, rfl⟩
  obtain ⟨p, hp⟩ : ∃ n, f.ws.length = n := ⟨_, rfl⟩
  obtain ⟨q, hq⟩ : ∃ m, f.cs.length = m := ⟨_, rfl⟩
  rw [hs0, hp, hq] at hv
  rw [hv] at h
  rw [hv]
  have hW : Below w.heap.size w (w.alloc (.cells #[.string s, .slice B p d, .slice B2 q d2] 25)) := (Below.refl _ _).alloc (Nat.le_refl _) _
  have V0 := Lib.hid (h.below hhi hW)
  have M0 := Lib.hid (hM.below hhi2 hW)
  have X0 := Lib.hid (new3 w (.string s) (.slice B p d) (.slice B2 q d2) 25)
  have T0 := Lib.hid hW
  have Hn := Lib.hid hn; have Hs0 := Lib.hid hs0
  have HS := Lib.hid hs
  clear hv hs0 hp hq h hW hM hn hs
  cases hf : fontB f
  · have HR : Hid (magB f ms = false) := by show _ = _; unfold magB; rw [hf]; rfl
    go_enter Try.func19, Try.ntmps19
    go_wp2_with (go_at_call 26; refine (specFontOk_any lo hi _ f _ V0.out (by simp; omega) HS.out).mono ?_; rintro e w1 ⟨rfl, hb1⟩; have T1 := Lib.hid (T0.out.trans (hb1.mono (by simp))); clear hb1)
    go_ret
    exact ⟨ret_bool HR.out.symm, T1.out⟩
  have hfs := fontB_size hf
  rw [Hs0.out] at hfs
  have HF := Lib.hid hf
  by_cases hl : n = s.size
  · have hl' : ((n : Int) != (s.size : Int)) = false := by rw [bne_eq_false_iff_eq]; omega
    have HR : Hid (magB f ms = ms.all (rowB f)) := by
      show _ = _
      unfold magB; rw [hf, Hn.out, Hs0.out, hl]; simp
    have hn40 : n ≤ 40 := by omega
    have Hl := Lib.hid hl
    clear hl hfs hf
    go_enter Try.func19, Try.ntmps19
    go_wp2_with fail
    refine (specFontOk_any lo hi _ f _ V0.out (by simp; omega) HS.out).mono ?_
    rintro e w1 ⟨rfl, hb1⟩
    rw [HF.out]
    have T1 := Lib.hid (T0.out.trans (hb1.mono (by simp)))
    have V1 := Lib.hid (V0.out.below (by simp; omega) hb1)
    have M1 := Lib.hid (M0.out.below (by simp; omega) hb1)
    have X1 := Lib.hid (keep3 hb1 (by simp) X0.out)
    have s1 := hb1.size
    simp only [World.size_alloc] at s1
    clear hb1 V0 M0 X0 T0
    obtain ⟨q0, q1, q2⟩ := X1.out
    go_wp2
    clear q0 q1 q2
    go_loopw [22] (fun i wr => ∃ k : Nat, k ≤ n ∧ i = .int .i64 k ∧ Below w1.heap.size w1 wr ∧ (ms.take k).all (rowB f) = true) (fun i _ => n - (intOf i).toNat)
    case atStart => exact ⟨0, Nat.zero_le _, rfl, Below.refl _ _, rfl⟩
    case round =>
      obtain ⟨k, hk, rfl, hb, hall⟩ := hrel
      have HB := Lib.hid hb; have Hall := Lib.hid hall
      clear hb hall
      by_cases hlt : k < n
      · obtain ⟨ad, xs, Aj, cj, rfl, hx, hc, hcap, hcm, hI⟩ := (M1.out.below (by omega) HB.out).at_ (k := k) (by rw [Hn.out]; exact hlt)
        obtain ⟨l, hl⟩ : ∃ l, xs.length = l := ⟨_, rfl⟩
        rw [hl] at hc hcap
        have hlm : l ≤ maxLen := by omega
        unfold maxLen at hlm
        have HI := Lib.hid hI; have HL := Lib.hid hl
        clear hI hcap hcm hl
        by_cases h20 : 20 < l
        · have Hbad := Lib.hid (rows_bad hx.out (rowB_room (f := f) (by rw [HL.out]; exact h20)))
          have t1 : decide (20 < (l : Int)) = true := by rw [decide_eq_true_eq]; omega
          clear h20
          go_wp2
          go_ret
          exact ⟨ret_bool (by rw [HR.out, Hbad.out]), T1.out.trans (HB.out.mono (by omega))⟩
        · have t1 : decide (20 < (l : Int)) = false := by rw [decide_eq_false_iff_not]; omega
          have hl20 : l ≤ 20 := by omega
          clear h20
          go_wp2
          go_loopw [31] (fun i wr => ∃ j : Nat, j ≤ l ∧ i = .int .i64 j ∧ Below w1.heap.size w1 wr ∧ (xs.take j).all (matB f) = true) (fun i _ => l - (intOf i).toNat)
          case atStart => exact ⟨0, Nat.zero_le _, rfl, HB.out, rfl⟩
          case round =>
            obtain ⟨j, hj, rfl, hb2, hall2⟩ := hrel
            have HB2 := Lib.hid hb2; have Hall2 := Lib.hid hall2
            clear hb2 hall2
            by_cases hjl : j < l
            · obtain ⟨bd, x, rfl, hxj, d1, e1⟩ := (HI.out.keep (w' := wr) (fun p _ h2 => (HB2.out.cell (by omega)).trans (HB.out.cell (by omega)).symm)).at_ (k := j) (by rw [HL.out]; exact hjl)
              obtain ⟨q0, q1, q2⟩ := keep3 HB2.out (by omega) X1.out
              have hz : w.heap.size < wr.heap.size := by have := HB2.out.size; omega
              have V2 := Lib.hid ((V1.out.below (by omega) HB2.out).below (B := wr.heap.size) (by have := HB2.out.size; omega) ((Below.refl _ _).alloc (Nat.le_refl _) (.cells #[.int .i64 x.1, .int .i64 x.2] 34)))
              have hsz2 := HB2.out.size
              go_wp2_with fail
              refine (l2Matrix_any lo hi _ f x _ V2.out (by simp; omega) HS.out HF.out).mono ?_
              rintro e w2 ⟨rfl, hbb⟩
              have HB3 := Lib.hid ((HB2.out.alloc HB2.out.size (.cells #[.int .i64 x.1, .int .i64 x.2] 34)).trans (hbb.mono (by simp; omega)))
              clear hbb d1 e1 q0 q1 q2 hz hsz2
              cases hmb : matB f x
              · have Hbad := Lib.hid (rows_bad hx.out (rowB_bad hxj.out hmb))
                go_wp2
                go_ret
                exact ⟨ret_bool (by rw [HR.out, Hbad.out]), T1.out.trans (HB3.out.mono (by omega))⟩
              · have HA := Lib.hid (all_step hxj.out hmb Hall2.out)
                go_wp2
                go_roundw
                case rel => exact ⟨j + 1, by omega, by go_num, HB3.out, HA.out⟩
                case measure => simp [intOf]; omega
            · have hjn : j = l := by omega
              subst hjn
              have HA := Lib.hid (all_step2 hx.out (by rw [HL.out]; exact hl20) (by have := Hall2.out; rwa [mtake_all HL.out] at this) Hall.out)
              go_wp2
              go_roundw
              case rel => exact ⟨k + 1, by omega, by go_num, HB2.out, HA.out⟩
              case measure => simp [intOf]; omega
      · have hkn : k = n := by omega
        subst hkn
        go_wp2
        go_ret
        have := Hall.out
        rw [ttake_all Hn.out] at this
        exact ⟨ret_bool (by rw [HR.out, this]), T1.out.trans (HB.out.mono (by omega))⟩
  · have hl' : ((n : Int) != (s.size : Int)) = true := by rw [bne_iff_ne]; omega
    have HR : Hid (magB f ms = false) := by
      show _ = _
      have : (ms.length == f.s.size) = false := by rw [Hn.out, Hs0.out, beq_eq_false_iff_ne]; exact hl
      unfold magB; rw [hf, this]; rfl
    clear hl hfs hf
    go_enter Try.func19, Try.ntmps19
    go_wp2_with fail
    refine (specFontOk_any lo hi _ f _ V0.out (by simp; omega) HS.out).mono ?_
    rintro e w1 ⟨rfl, hb1⟩
    rw [HF.out]
    have T1 := Lib.hid (T0.out.trans (hb1.mono (by simp)))
    obtain ⟨q0, q1, q2⟩ := keep3 hb1 (by simp) X0.out
    clear hb1
    go_wp2
    go_ret
    exact ⟨ret_bool HR.out.symm, T1.out⟩

/-- isListOf of the program at matrices, with a function that captured one pointer -/
theorem mats_all {p : Mat → Bool} {xs : List Mat} {k : Nat} {x : Mat} (h : xs[k]? = some x) : (xs.take (k + 1)).all p = ((xs.take k).all p && p x) := by
  rw [List.take_add_one, h]; simp
theorem mats_bad {p : Mat → Bool} {xs : List Mat} {k : Nat} {x : Mat} (h : xs[k]? = some x) (hb : p x = false) : xs.all p = false := by
  rw [List.all_eq_false]
  exact ⟨x, List.mem_of_getElem? h, by rw [hb]; simp⟩
set_option maxRecDepth 100000 in
set_option maxHeartbeats 1600000 in
theorem listMats_any (F : Nat) (hF : ∀ (args : Array Value) (w : World), Sem.run Try.prog (callFunc F args) w = .ok (.enter F args) w) (g : Nat) (p : Mat → Bool) (lo hi : Nat) (A : Option Addr) (n c : Nat) (xs : List Mat) (a b : Int) (w : World) (hn : xs.length = n) (hm : n ≤ maxLen) (hI : MatsI w lo hi A xs) (hhi : hi ≤ w.heap.size)
    (hp : ∀ (x : Mat) (wr : World), x ∈ xs → Below w.heap.size w wr → Calls Try.prog F #[.agg #[.int .i64 x.1, .int .i64 x.2], .pointer (some ⟨g, 0, none⟩)] wr fun e w' => e = .returned (.bool (p x)) ∧ Below wr.heap.size wr w') :
    Calls Try.prog 114 #[.slice A n c, .int .i64 a, .int .i64 b, .func (.func F) #[] #[.pointer (some ⟨g, 0, none⟩)]] w fun e w' => e = .returned (.bool (inB n a b && xs.all p)) ∧ Below w.heap.size w w' := by
  unfold maxLen at hm
  have Hn := Lib.hid hn; have HI := Lib.hid hI; have HP := Lib.hid hp
  clear hn hI hp
  by_cases hlo : (n : Int) < a
  · have H0 : Hid (inB n a b = false) := by show _ = _; unfold inB; rw [decide_eq_false_iff_not]; omega
    go_enter Try.func114, Try.ntmps114
    go_wp2
    go_ret
    exact ⟨ret_bool (by rw [H0.out]; rfl), Below.refl _ _⟩
  by_cases hhi2 : b < (n : Int)
  · have H0 : Hid (inB n a b = false) := by show _ = _; unfold inB; rw [decide_eq_false_iff_not]; omega
    go_enter Try.func114, Try.ntmps114
    go_wp2
    go_ret
    exact ⟨ret_bool (by rw [H0.out]; rfl), Below.refl _ _⟩
  have H1 : Hid (inB n a b = true) := by show _ = _; unfold inB; rw [decide_eq_true_eq]; omega
  go_enter Try.func114, Try.ntmps114
  go_wp2
  go_loopw [23] (fun i wr => ∃ k : Nat, k ≤ n ∧ i = .int .i64 k ∧ (xs.take k).all p = true ∧ Below w.heap.size w wr) (fun i _ => n - (intOf i).toNat)
  case atStart => exact ⟨0, Nat.zero_le _, rfl, rfl, Below.refl _ _⟩
  case round =>
    obtain ⟨k, hk, rfl, hall, hb⟩ := hrel
    have Hall := Lib.hid hall; have HB := Lib.hid hb
    clear hall hb
    by_cases hlt : k < n
    · obtain ⟨ad, x, rfl, hx, d1, e1⟩ := (HI.out.below hhi HB.out).at_ (k := k) (by rw [Hn.out]; exact hlt)
      have HBa := Lib.hid (HB.out.alloc HB.out.size (.cells #[.int .i64 x.1, .int .i64 x.2] 34))
      cases hs : p x
      · have Hb := Lib.hid (mats_bad hx.out hs)
        go_wp2_with fail
        refine (HP.out x _ (List.mem_of_getElem? hx.out) HBa.out).mono ?_
        rintro e w2 ⟨rfl, hb2⟩
        rw [hs]
        have HE := Lib.hid (HBa.out.trans (hb2.mono HBa.out.size))
        clear hb2 d1 e1
        go_wp2
        go_ret
        exact ⟨ret_bool (by rw [Hb.out]; simp), HE.out⟩
      · have Hs := Lib.hid (mats_all (p := p) hx.out)
        go_wp2_with fail
        refine (HP.out x _ (List.mem_of_getElem? hx.out) HBa.out).mono ?_
        rintro e w2 ⟨rfl, hb2⟩
        rw [hs]
        have HE := Lib.hid (HBa.out.trans (hb2.mono HBa.out.size))
        clear hb2 d1 e1
        go_wp2
        go_roundw
        case rel => exact ⟨k + 1, by omega, by go_num, by rw [Hs.out, Hall.out, hs]; rfl, HE.out⟩
        case measure => simp [intOf]; omega
    · have hkn : k = n := by omega
      subst hkn
      go_wp2
      go_ret
      refine ⟨ret_bool ?_, HB.out⟩
      have := Hall.out
      rw [mtake_all Hn.out] at this
      rw [this, H1.out]; rfl

theorem magFn_enter (args : Array Value) (w : World) : Sem.run Try.prog (callFunc 154 args) w = .ok (.enter 154 args) w := by kernel_rfl
set_option maxRecDepth 100000 in
set_option maxHeartbeats 800000 in
theorem magFn_any (lo hi g : Nat) (B B2 : Option Addr) (s : ByteArray) (p d q d2 : Nat) (f : Fnt) (x : Mat) (w : World) (h : FontV w lo hi (.agg #[.string s, .slice B p d, .slice B2 q d2]) f) (hhi : hi ≤ w.heap.size) (hs : Small f) (hf : fontB f = true) (wf : (Lit.int .i64 x.2).wf = true)
    (hg : g < w.heap.size) (hb : w.cell? ⟨g, 0, none⟩ = some (.string s) ∧ w.cell? ⟨g, 1, none⟩ = some (.slice B p d) ∧ w.cell? ⟨g, 2, none⟩ = some (.slice B2 q d2)) :
    Calls Try.prog 154 #[.agg #[.int .i64 x.1, .int .i64 x.2], .pointer (some ⟨g, 0, none⟩)] w fun e w' => e = .returned (.bool (matB f x)) ∧ Below w.heap.size w w' := by
  have hW : Below w.heap.size w (w.alloc (.cells #[.int .i64 x.1, .int .i64 x.2] 34)) := (Below.refl _ _).alloc (Nat.le_refl _) _
  have V1 := Lib.hid (h.below hhi hW)
  have HW := Lib.hid hW
  have Hwf := Lib.hid wf; have HF := Lib.hid hf
  obtain ⟨q0, q1, q2⟩ := hb
  clear h hW wf hf
  go_enter Try.func154, Try.ntmps154
  go_wp2_with fail
  refine (isMatrix_any lo hi _ f x _ V1.out (by simp; omega) hs HF.out Hwf.out).mono ?_
  rintro e w1 ⟨rfl, hb1⟩
  have T1 := Lib.hid (HW.out.trans (hb1.mono (by simp)))
  clear hb1
  go_wp2
  go_ret
  exact ⟨rfl, T1.out⟩

set_option maxRecDepth 100000 in
set_option maxHeartbeats 3200000 in
theorem implMagOk_any (lo hi lo2 hi2 : Nat) (v : Value) (f : Fnt) (A : Option Addr) (n c : Nat) (ms : List (List Mat)) (w : World) (h : FontV w lo hi v f) (hhi : hi ≤ w.heap.size) (hs : Small f) (hn : ms.length = n) (hm : n ≤ 1048576) (hM : MagI w lo2 hi2 A ms) (hhi2 : hi2 ≤ w.heap.size) (wf : wfM ms) :
    Calls Try.prog 83 #[v, .slice A n c] w fun e w' => e = .returned (.bool (magB f ms)) ∧ Below w.heap.size w w' := by
  obtain ⟨B, d, B2, d2, hv⟩ := fontForm h
  obtain ⟨s, hs0⟩ : ∃ s, f.s = s := ⟨_, rfl⟩
  obtain ⟨p, hp⟩ : ∃ n, f.ws.length = n := ⟨_, rfl⟩
  obtain ⟨q, hq⟩ : ∃ m, f.cs.length = m := ⟨_, rfl⟩
  rw [hs0, hp, hq] at hv
  rw [hv] at h
  rw [hv]
  have hW : Below w.heap.size w (w.alloc (.cells #[.string s, .slice B p d, .slice B2 q d2] 25)) := (Below.refl _ _).alloc (Nat.le_refl _) _
  have V0 := Lib.hid (h.below hhi hW)
  have M0 := Lib.hid (hM.below hhi2 hW)
  have X0 := Lib.hid (new3 w (.string s) (.slice B p d) (.slice B2 q d2) 25)
  have T0 := Lib.hid hW
  have Hn := Lib.hid hn; have Hs0 := Lib.hid hs0
  have HS := Lib.hid hs
  clear hv hs0 hp hq h hW hM hn hs
  cases hf : fontB f
  · have HR : Hid (magB f ms = false) := by show _ = _; unfold magB; rw [hf]; rfl
    go_enter Try.func83, Try.ntmps83
    go_wp2_with (go_at_call 95; refine (implFontOk_any lo hi _ f _ V0.out (by simp; omega) HS.out).mono ?_; rintro e w1 ⟨rfl, hb1⟩; have T1 := Lib.hid (T0.out.trans (hb1.mono (by simp))); clear hb1)
    go_ret
    exact ⟨ret_bool HR.out.symm, T1.out⟩
  have hfs := fontB_size hf
  rw [Hs0.out] at hfs
  have HF := Lib.hid hf
  by_cases hl : n = s.size
  · have hl' : ((n : Int) != (s.size : Int)) = false := by rw [bne_eq_false_iff_eq]; omega
    have HR : Hid (magB f ms = ms.all (rowB f)) := by
      show _ = _
      unfold magB; rw [hf, Hn.out, Hs0.out, hl]; simp
    have hn40 : n ≤ 40 := by omega
    have Hl := Lib.hid hl
    clear hl hfs hf
    go_enter Try.func83, Try.ntmps83
    go_wp2_with fail
    refine (implFontOk_any lo hi _ f _ V0.out (by simp; omega) HS.out).mono ?_
    rintro e w1 ⟨rfl, hb1⟩
    rw [HF.out]
    have T1 := Lib.hid (T0.out.trans (hb1.mono (by simp)))
    have V1 := Lib.hid (V0.out.below (by simp; omega) hb1)
    have M1 := Lib.hid (M0.out.below (by simp; omega) hb1)
    have X1 := Lib.hid (keep3 hb1 (by simp) X0.out)
    have s1 := hb1.size
    simp only [World.size_alloc] at s1
    clear hb1 V0 M0 X0 T0
    obtain ⟨q0, q1, q2⟩ := X1.out
    go_wp2
    clear q0 q1 q2
    go_loopw [20] (fun i wr => ∃ k : Nat, k ≤ n ∧ i = .int .i64 k ∧ Below w1.heap.size w1 wr ∧ (ms.take k).all (rowB f) = true) (fun i _ => n - (intOf i).toNat)
    case atStart => exact ⟨0, Nat.zero_le _, rfl, Below.refl _ _, rfl⟩
    case round =>
      obtain ⟨k, hk, rfl, hb, hall⟩ := hrel
      have HB := Lib.hid hb; have Hall := Lib.hid hall
      clear hb hall
      by_cases hlt : k < n
      · obtain ⟨ad, xs, Aj, cj, rfl, hx, hc, hcap, hcm, hI⟩ := (M1.out.below (by omega) HB.out).at_ (k := k) (by rw [Hn.out]; exact hlt)
        obtain ⟨l, hl⟩ : ∃ l, xs.length = l := ⟨_, rfl⟩
        rw [hl] at hc hcap
        have hlm : l ≤ maxLen := by omega
        have HI := Lib.hid hI; have HL := Lib.hid hl
        have HXM := Lib.hid (List.mem_of_getElem? hx.out)
        have HEQ : Hid ((inB l 0 20 && xs.all (matB f)) = rowB f xs) := by
          show _ = _
          unfold rowB inB
          rw [HL.out]
          congr 1
          exact decide_eq_decide.2 (by omega)
        clear hI hcap hcm hl
        cases hrow : rowB f xs
        all_goals
          go_wp2_with fail
          refine (listMats_any 154 magFn_enter w.heap.size (matB f) lo2 hi2 _ _ _ xs _ _ _ HL.out hlm HI.out (by have := HB.out.size; omega) (fun x wr' hx' hb' => magFn_any lo hi w.heap.size B B2 s p d q d2 f x wr' ((V1.out.below (by omega) HB.out).below (by have := HB.out.size; omega) hb') (by have := HB.out.size; have := hb'.size; omega) HS.out HF.out (wf _ HXM.out _ hx') (by have := HB.out.size; have := hb'.size; omega) (keep3 hb' (by have := HB.out.size; omega) (keep3 HB.out (by omega) X1.out)))).mono ?_
          rintro e w2 ⟨rfl, hb2⟩
          rw [HEQ.out, hrow]
          have HB2 := Lib.hid (HB.out.trans (hb2.mono HB.out.size))
          clear hb2
        · have Hbad := Lib.hid (rows_bad hx.out hrow)
          go_wp2
          go_ret
          exact ⟨ret_bool (by rw [HR.out, Hbad.out]), T1.out.trans (HB2.out.mono (by omega))⟩
        · have HA : Hid ((ms.take (k + 1)).all (rowB f) = true) := by
            show _ = _
            rw [List.take_add_one, hx.out, List.all_append, Hall.out]
            simp [hrow]
          go_wp2
          go_roundw
          case rel => exact ⟨k + 1, by omega, by go_num, HB2.out, HA.out⟩
          case measure => simp [intOf]; omega
      · have hkn : k = n := by omega
        subst hkn
        go_wp2
        go_ret
        have := Hall.out
        rw [ttake_all Hn.out] at this
        exact ⟨ret_bool (by rw [HR.out, this]), T1.out.trans (HB.out.mono (by omega))⟩
  · have hl' : ((n : Int) != (s.size : Int)) = true := by rw [bne_iff_ne]; omega
    have HR : Hid (magB f ms = false) := by
      show _ = _
      have : (ms.length == f.s.size) = false := by rw [Hn.out, Hs0.out, beq_eq_false_iff_ne]; exact hl
      unfold magB; rw [hf, this]; rfl
    clear hl hfs hf
    go_enter Try.func83, Try.ntmps83
    go_wp2_with fail
    refine (implFontOk_any lo hi _ f _ V0.out (by simp; omega) HS.out).mono ?_
    rintro e w1 ⟨rfl, hb1⟩
    rw [HF.out]
    have T1 := Lib.hid (T0.out.trans (hb1.mono (by simp)))
    obtain ⟨q0, q1, q2⟩ := keep3 hb1 (by simp) X0.out
    clear hb1
    go_wp2
    go_ret
    exact ⟨ret_bool HR.out.symm, T1.out⟩
end Go.Proofs.Ythoepelgmplcmaa
