/-
  LineText of the model and the program by contract. Conditions: lengths of at most 2^20, teeth in the range of int.
-/
import Derived.Test.YthoepelgmplcmaaMchL
import Derived.Test.YthoepelgmplcmaaTxt
namespace Go.Proofs.Ythoepelgmplcmaa
open Go.RowKit
set_option linter.unusedVariables false

def textA (X : Mch) : ByteArray := if machB X then txt X.f X.ln else ByteArray.empty
theorem set_let {f : Fnt} {x : Mat} (hf : fontB f = true) (h : setM f x = true) : bandM x = true ∨ (0 ≤ x.1 ∧ x.1.toNat < f.s.size) := by
  obtain ⟨e1, e2, _⟩ := fontB_codes hf
  rcases set_item hf h with h | h
  · exact .inl h
  · exact .inr ⟨h.1, by omega⟩
theorem text_set {X : Mch} (h : machB X = true) : ∀ x ∈ X.ln, bandM x = true ∨ (0 ≤ x.1 ∧ x.1.toNat < X.f.s.size) := fun x hx =>
  set_let (magB_font (machB_parts h).1) (List.all_eq_true.1 (machB_parts h).2.2.2.2.2.1 x hx)
theorem text_let {X : Mch} (h : machB X = true) : ∀ x ∈ X.ln, hasLet X.f x := fun x hx => by
  rcases text_set h x hx with h | h
  · unfold bandM at h
    rw [Bool.and_eq_true, beq_iff_eq] at h
    left; omega
  · right; exact h.2
set_option maxRecDepth 100000 in
set_option maxHeartbeats 1600000 in
theorem specLineText_any (lo hi : Nat) (v : Value) (X : Mch) (w : World) (h : MchV w lo hi v X) (hhi : hi ≤ w.heap.size) (hs : SmallX X) :
    Calls Try.prog 51 #[v] w fun e w' => e = .returned (.string (textA X)) ∧ Below w.heap.size w w' := by
  obtain ⟨s, A, n, c, A2, m, d, M, q, e0, L, l, lc, T, r, tc, rfl, hf, hq, hM, hqe, hem, hl, hL, hllc, hlm, hr, hT, hrt, htm⟩ := h.parts
  have Hq := Lib.hid hq; have Hl := Lib.hid hl; have Hr := Lib.hid hr; have HS := Lib.hid hs
  have hq1 : q ≤ 1048576 := by rw [← hq]; exact hs.ms
  have hl1 : l ≤ 1048576 := by rw [← hl]; exact hs.ln
  have hr1 : r ≤ 1048576 := by rw [← hr]; exact hs.wt
  obtain ⟨sp, hsp⟩ : ∃ x, X.sp = x := ⟨_, rfl⟩
  obtain ⟨W, hW⟩ : ∃ x, X.w = x := ⟨_, rfl⟩
  obtain ⟨t, ht⟩ : ∃ x, X.t = x := ⟨_, rfl⟩
  obtain ⟨k, hk⟩ : ∃ x, X.k = x := ⟨_, rfl⟩
  rw [hsp, hW, ht, hk] at h ⊢
  have HE : Hid (X.sp = sp ∧ X.m = ⟨W, t, k⟩) := ⟨hsp, by unfold Mch.m; rw [hW, ht, hk]⟩
  obtain ⟨w0, hw0, hb0, hz0, K0⟩ := mxWorld w #[.string s, .slice A n c, .slice A2 m d, .slice M q e0, .int .i64 sp, .int .i64 W, .int .i64 t, .int .i64 k, .slice L l lc, .slice T r tc] 61
  have T0 := Lib.hid hb0; have K0 := Lib.hid K0; have Z0 := Lib.hid hz0
  have F0 := Lib.hid (hf.below hhi hb0); have M0 := Lib.hid (hM.below hhi hb0); have L0 := Lib.hid (hL.below hhi hb0); have W0 := Lib.hid (hT.below hhi hb0)
  have z0 : w.heap.size < w0.heap.size := by omega
  have V0 := Lib.hid (h.below hhi hb0)
  clear h hf hq hM hqe hem hl hL hllc hlm hr hT hrt htm hsp hW ht hk hb0 hz0 hs
  obtain ⟨kc0, kc1, kc2, kc3, kc4, kc5, kc6, kc7, kc8, kc9⟩ := K0.out.ten
  cases hmb : machB X
  · have HM := Lib.hid hmb
    have HR : Hid (textA X = ByteArray.empty) := by show _ = _; unfold textA; rw [hmb]; rfl
    clear hmb
    go_enter Try.func51, Try.ntmps51
    go_wp2_with fail
    clear hw0
    refine (specMachine_any lo hi _ X w0 V0.out (by omega) HS.out).mono ?_
    rintro e w1 ⟨rfl, hb⟩
    rw [HM.out]
    have K1 := Lib.hid (K0.out.below hb (by omega)); have T1 := Lib.hid (T0.out.trans (hb.mono (by omega))); have z1 : w.heap.size < w1.heap.size := Nat.lt_of_lt_of_le z0 hb.size; clear hb kc0 kc1 kc2 kc3 kc4 kc5 kc6 kc7 kc8 kc9; obtain ⟨kc0, kc1, kc2, kc3, kc4, kc5, kc6, kc7, kc8, kc9⟩ := K1.out.ten
    go_wp2
    go_ret
    exact ⟨by rw [HR.out]; rfl, T1.out⟩
  have HM := Lib.hid hmb
  have HR : Hid (textA X = txt X.f X.ln) := by show _ = _; unfold textA; rw [hmb]; rfl
  have HW := Lib.hid (text_let hmb)
  clear hmb
  go_enter Try.func51, Try.ntmps51
  go_wp2_with fail
  clear hw0
  refine (specMachine_any lo hi _ X w0 V0.out (by omega) HS.out).mono ?_
  rintro e w1 ⟨rfl, hb⟩
  rw [HM.out]
  have K1 := Lib.hid (K0.out.below hb (by omega)); have T1 := Lib.hid (T0.out.trans (hb.mono (by omega))); have z1 : w.heap.size < w1.heap.size := Nat.lt_of_lt_of_le z0 hb.size; have F1 := Lib.hid (F0.out.below (by omega) hb); have L1 := Lib.hid (L0.out.below (by omega) hb); clear hb kc0 kc1 kc2 kc3 kc4 kc5 kc6 kc7 kc8 kc9; obtain ⟨kc0, kc1, kc2, kc3, kc4, kc5, kc6, kc7, kc8, kc9⟩ := K1.out.ten
  go_wp2_with fail
  refine (l5Text_any lo hi lo hi _ X.f _ _ _ X.ln w1 F1.out (by omega) Hl.out hl1 L1.out (by omega) HW.out HS.out.f.1).mono ?_
  rintro e w2 ⟨rfl, hb⟩
  have T2 := Lib.hid (T1.out.trans (hb.mono (by omega)))
  clear hb kc0 kc1 kc2 kc3 kc4 kc5 kc6 kc7 kc8 kc9
  go_wp2
  go_ret
  exact ⟨by rw [HR.out]; rfl, T2.out⟩
set_option maxRecDepth 100000 in
set_option maxHeartbeats 1600000 in
theorem implLineText_any (lo hi : Nat) (v : Value) (X : Mch) (w : World) (h : MchV w lo hi v X) (hhi : hi ≤ w.heap.size) (hs : SmallX X) (wf : WfX X) :
    Calls Try.prog 52 #[v] w fun e w' => e = .returned (.string (textA X)) ∧ Below w.heap.size w w' := by
  have HWf := Lib.hid wf
  clear wf
  obtain ⟨s, A, n, c, A2, m, d, M, q, e0, L, l, lc, T, r, tc, rfl, hf, hq, hM, hqe, hem, hl, hL, hllc, hlm, hr, hT, hrt, htm⟩ := h.parts
  have Hq := Lib.hid hq; have Hl := Lib.hid hl; have Hr := Lib.hid hr; have HS := Lib.hid hs
  have hq1 : q ≤ 1048576 := by rw [← hq]; exact hs.ms
  have hl1 : l ≤ 1048576 := by rw [← hl]; exact hs.ln
  have hr1 : r ≤ 1048576 := by rw [← hr]; exact hs.wt
  obtain ⟨sp, hsp⟩ : ∃ x, X.sp = x := ⟨_, rfl⟩
  obtain ⟨W, hW⟩ : ∃ x, X.w = x := ⟨_, rfl⟩
  obtain ⟨t, ht⟩ : ∃ x, X.t = x := ⟨_, rfl⟩
  obtain ⟨k, hk⟩ : ∃ x, X.k = x := ⟨_, rfl⟩
  rw [hsp, hW, ht, hk] at h ⊢
  have HE : Hid (X.sp = sp ∧ X.m = ⟨W, t, k⟩) := ⟨hsp, by unfold Mch.m; rw [hW, ht, hk]⟩
  obtain ⟨w0, hw0, hb0, hz0, K0⟩ := mxWorld w #[.string s, .slice A n c, .slice A2 m d, .slice M q e0, .int .i64 sp, .int .i64 W, .int .i64 t, .int .i64 k, .slice L l lc, .slice T r tc] 61
  have T0 := Lib.hid hb0; have K0 := Lib.hid K0; have Z0 := Lib.hid hz0
  have F0 := Lib.hid (hf.below hhi hb0); have M0 := Lib.hid (hM.below hhi hb0); have L0 := Lib.hid (hL.below hhi hb0); have W0 := Lib.hid (hT.below hhi hb0)
  have z0 : w.heap.size < w0.heap.size := by omega
  have V0 := Lib.hid (h.below hhi hb0)
  clear h hf hq hM hqe hem hl hL hllc hlm hr hT hrt htm hsp hW ht hk hb0 hz0 hs
  obtain ⟨kc0, kc1, kc2, kc3, kc4, kc5, kc6, kc7, kc8, kc9⟩ := K0.out.ten
  cases hmb : machB X
  · have HM := Lib.hid hmb
    have HR : Hid (textA X = ByteArray.empty) := by show _ = _; unfold textA; rw [hmb]; rfl
    clear hmb
    go_enter Try.func52, Try.ntmps52
    go_wp2_with fail
    clear hw0
    refine (implMachine_any lo hi _ X w0 V0.out (by omega) HS.out HWf.out).mono ?_
    rintro e w1 ⟨rfl, hb⟩
    rw [HM.out]
    have K1 := Lib.hid (K0.out.below hb (by omega)); have T1 := Lib.hid (T0.out.trans (hb.mono (by omega))); have z1 : w.heap.size < w1.heap.size := Nat.lt_of_lt_of_le z0 hb.size; clear hb kc0 kc1 kc2 kc3 kc4 kc5 kc6 kc7 kc8 kc9; obtain ⟨kc0, kc1, kc2, kc3, kc4, kc5, kc6, kc7, kc8, kc9⟩ := K1.out.ten
    go_wp2
    go_ret
    exact ⟨by rw [HR.out]; rfl, T1.out⟩
  have HM := Lib.hid hmb
  have HR : Hid (textA X = txt X.f X.ln) := by show _ = _; unfold textA; rw [hmb]; rfl
  have HW := Lib.hid (text_set hmb)
  clear hmb
  go_enter Try.func52, Try.ntmps52
  go_wp2_with fail
  clear hw0
  refine (implMachine_any lo hi _ X w0 V0.out (by omega) HS.out HWf.out).mono ?_
  rintro e w1 ⟨rfl, hb⟩
  rw [HM.out]
  have K1 := Lib.hid (K0.out.below hb (by omega)); have T1 := Lib.hid (T0.out.trans (hb.mono (by omega))); have z1 : w.heap.size < w1.heap.size := Nat.lt_of_lt_of_le z0 hb.size; have F1 := Lib.hid (F0.out.below (by omega) hb); have L1 := Lib.hid (L0.out.below (by omega) hb); clear hb kc0 kc1 kc2 kc3 kc4 kc5 kc6 kc7 kc8 kc9; obtain ⟨kc0, kc1, kc2, kc3, kc4, kc5, kc6, kc7, kc8, kc9⟩ := K1.out.ten
  go_wp2_with fail
  refine (lineText_any lo hi lo hi _ X.f _ _ _ X.ln w1 F1.out (by omega) Hl.out hl1 L1.out (by omega) HW.out).mono ?_
  rintro e w2 ⟨rfl, hb⟩
  have T2 := Lib.hid (T1.out.trans (hb.mono (by omega)))
  clear hb kc0 kc1 kc2 kc3 kc4 kc5 kc6 kc7 kc8 kc9
  go_wp2
  go_ret
  exact ⟨by rw [HR.out]; rfl, T2.out⟩
end Go.Proofs.Ythoepelgmplcmaa
