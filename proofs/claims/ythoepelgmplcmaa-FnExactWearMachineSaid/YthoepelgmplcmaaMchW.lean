/-
  WearMachine of the model and the program by contract. Conditions: lengths of at most 2^20, teeth in the range of int.
-/
import Derived.Test.YthoepelgmplcmaaMchC
import Derived.Test.YthoepelgmplcmaaFill
import Derived.Test.YthoepelgmplcmaaWearT
import Derived.Test.YthoepelgmplcmaaWearI
namespace Go.Proofs.Ythoepelgmplcmaa
open Go.RowKit
set_option linter.unusedVariables false

/-- the machine that is none -/
def zeroX : Mch := ⟨⟨⟨#[]⟩, [], []⟩, [], 0, 0, 0, 0, [], []⟩
theorem zeroX_own (w : World) (B : Nat) : MchX w B B (.agg #[.string ⟨#[]⟩, .slice none 0 0, .slice none 0 0, .slice none 0 0, .int .i64 0, .int .i64 0, .int .i64 0, .int .i64 0, .slice none 0 0, .slice none 0 0]) zeroX := by
  have hF : FontO w B B (.agg #[.string ⟨#[]⟩, .slice none 0 0, .slice none 0 0]) zeroX.f := ⟨none, 0, none, 0, B, rfl, own_none w B, fun k hk => (by cases hk), own_none w B, fun k hk => (by cases hk), Nat.le_refl _, Nat.le_refl _, by unfold maxLen; decide⟩
  exact MchX.build (X := zeroX) hF (ownMag_nil w B B) (show OwnM w B (.slice none 0 0) [] from ⟨rfl, .inl ⟨rfl, rfl⟩⟩) (fun k hk => by cases hk) (show OwnM w B (.slice none 0 0) [] from ⟨rfl, .inl ⟨rfl, rfl⟩⟩) (l1 := B) (t1 := B) (fun k hk => by cases hk) (by unfold Off; omega) (by unfold Off; omega) (by unfold Off; omega) (by unfold Off; omega) (by unfold Off; omega) (by unfold Off; omega) ⟨Nat.le_refl _, Nat.le_refl _⟩ ⟨Nat.le_refl _, Nat.le_refl _⟩ ⟨Nat.le_refl _, Nat.le_refl _⟩ ⟨Nat.le_refl _, Nat.le_refl _⟩
theorem MchX.withMag {w : World} {B hi : Nat} {X : Mch} {s : ByteArray} {A A2 M L T : Option Addr} {n c m d q e l lc r tc : Nat} {sp W t k : Int} {N : Option Addr} {nq ne g0 g1 B' hi' : Nat} {hs : List Value} {ms : List (List Mat)}
    (h : MchX w B hi (.agg #[.string s, .slice A n c, .slice A2 m d, .slice M q e, .int .i64 sp, .int .i64 W, .int .i64 t, .int .i64 k, .slice L l lc, .slice T r tc]) X) (hN : OwnMag w g0 g1 (.slice N nq ne) hs ms) (ho : Off B hi g0 g1) (h1 : B' ≤ B) (h2 : B' ≤ g0) (h3 : hi ≤ hi') (h4 : g1 ≤ hi') :
    MchX w B' hi' (.agg #[.string s, .slice A n c, .slice A2 m d, .slice N nq ne, .int .i64 sp, .int .i64 W, .int .i64 t, .int .i64 k, .slice L l lc, .slice T r tc]) ⟨X.f, ms, X.sp, X.w, X.t, X.k, X.ln, X.wt⟩ := by
  obtain ⟨A', c', A2', d', M', e', L', lc', T', tc', hs', f0, f1, k0, k1, l0, l1, t0, t1, h⟩ := h
  have hv := h.v
  unfold mwords at hv
  simp only [Value.agg.injEq, Array.mk.injEq, List.cons.injEq, Value.string.injEq, Value.slice.injEq, Value.int.injEq, true_and, and_true] at hv
  obtain ⟨rfl, ⟨rfl, rfl, rfl⟩, ⟨rfl, rfl, rfl⟩, -, rfl, rfl, rfl, rfl, ⟨rfl, rfl, rfl⟩, ⟨rfl, rfl, rfl⟩⟩ := hv
  have q1 := h.fi; have q2 := h.gi; have q3 := h.li; have q4 := h.ti
  unfold Off at ho
  have o2 := h.fl; have o3 := h.ft; have o6 := h.lt
  exact MchX.build (X := ⟨X.f, ms, X.sp, X.w, X.t, X.k, X.ln, X.wt⟩) h.font hN h.line h.lineT h.wait h.waitT (by unfold Off; omega) o2 o3 (by unfold Off; omega) (by unfold Off; omega) o6 ⟨by omega, by omega⟩ ⟨by omega, by omega⟩ ⟨by omega, by omega⟩ ⟨by omega, by omega⟩
def wearMB (X : Mch) (ch i t : Int) : Bool := wearOk X.f X.ms ch i t && machB X
def wearMX (X : Mch) (ch i t : Int) : Mch := if wearMB X ch i t then ⟨X.f, wearL X.f X.ms ch i t, X.sp, X.w, X.t, X.k, X.ln, X.wt⟩ else zeroX
theorem wearMX_no {X : Mch} {ch i t : Int} (h : wearMB X ch i t = false) : wearMX X ch i t = zeroX := by unfold wearMX; rw [h]; rfl
theorem wearMX_yes {X : Mch} {ch i t : Int} (h : wearMB X ch i t = true) : wearMX X ch i t = ⟨X.f, wearL X.f X.ms ch i t, X.sp, X.w, X.t, X.k, X.ln, X.wt⟩ := by unfold wearMX; rw [h]; rfl
set_option maxRecDepth 100000 in
set_option maxHeartbeats 6400000 in
theorem specWearM_any (lo hi : Nat) (v : Value) (X : Mch) (ch i to : Int) (w : World) (h : MchV w lo hi v X) (hhi : hi ≤ w.heap.size) (hs : SmallX X) (wf : WfX X) :
    Calls Try.prog 53 #[v, .int .i64 ch, .int .i64 i, .int .i64 to] w fun e w' => ∃ u, e = .returned (.tuple #[u, .bool (wearMB X ch i to)]) ∧ MchX w' w.heap.size w'.heap.size u (wearMX X ch i to) ∧ Below w.heap.size w w' := by
  have HWf := Lib.hid wf
  clear wf
  obtain ⟨s, A, n, c, A2, m, d, M, q, e0, L, l, lc, T, r, tc, rfl, hf, hq, hM, hqe, hem, hl, hL, hllc, hlm, hr, hT, hrt, htm⟩ := h.parts
  have Hq := Lib.hid hq; have Hl := Lib.hid hl; have Hr := Lib.hid hr; have HS := Lib.hid hs
  have hq1 : q ≤ 1048576 := by rw [← hq]; exact hs.ms
  have hl1 : l ≤ 1048576 := by rw [← hl]; exact hs.ln
  have hr1 : r ≤ 1048576 := by rw [← hr]; exact hs.wt
  obtain ⟨sp, hsp⟩ : ∃ x, X.sp = x := ⟨_, rfl⟩
  obtain ⟨W, hW⟩ : ∃ x, X.w = x := ⟨_, rfl⟩
  obtain ⟨t, ht⟩ : ∃ x, X.t = x := ⟨_, rfl⟩
  obtain ⟨k, hk⟩ : ∃ x, X.k = x := ⟨_, rfl⟩
  rw [hsp, hW, ht, hk] at h ⊢
  have HE : Hid (X.sp = sp ∧ X.m = ⟨W, t, k⟩) := ⟨hsp, by unfold Mch.m; rw [hW, ht, hk]⟩
  obtain ⟨wA, hA, hbA, hzA, KA⟩ := mxWorld w #[.string s, .slice A n c, .slice A2 m d, .slice M q e0, .int .i64 sp, .int .i64 W, .int .i64 t, .int .i64 k, .slice L l lc, .slice T r tc] 61
  obtain ⟨w0, hB, hbB, hzB, RB⟩ := mxWorld wA #[.string ⟨#[]⟩, .slice none 0 0, .slice none 0 0, .slice none 0 0, .int .i64 0, .int .i64 0, .int .i64 0, .int .i64 0, .slice none 0 0, .slice none 0 0] 61
  rw [hzA] at RB
  have K0 : Blk w0 w.heap.size #[.string s, .slice A n c, .slice A2 m d, .slice M q e0, .int .i64 sp, .int .i64 W, .int .i64 t, .int .i64 k, .slice L l lc, .slice T r tc] 61 := KA.below hbB (by omega)
  have R0 := Lib.hid RB
  have hb0 : Below w.heap.size w w0 := hbA.trans (hbB.mono (by omega))
  have hz0 : w0.heap.size = w.heap.size + 2 := by omega
  have HA : Hid ((w.alloc (.cells #[.string s, .slice A n c, .slice A2 m d, .slice M q e0, .int .i64 sp, .int .i64 W, .int .i64 t, .int .i64 k, .slice L l lc, .slice T r tc] 61)).alloc (.cells #[.string ⟨#[]⟩, .slice none 0 0, .slice none 0 0, .slice none 0 0, .int .i64 0, .int .i64 0, .int .i64 0, .int .i64 0, .slice none 0 0, .slice none 0 0] 61) = w0) := by show _ = _; rw [hA, hB]
  have T0 := Lib.hid hb0; have K0 := Lib.hid K0; have Z0 := Lib.hid hz0
  have F0 := Lib.hid (hf.below hhi hb0); have M0 := Lib.hid (hM.below hhi hb0); have L0 := Lib.hid (hL.below hhi hb0); have W0 := Lib.hid (hT.below hhi hb0)
  have z0 : w.heap.size + 2 ≤ w0.heap.size := by omega
  have V0 := Lib.hid (h.below hhi hb0)
  clear h hf hq hM hqe hem hl hL hllc hlm hr hT hrt htm hsp hW ht hk hb0 hz0 hs hA hB hbA hbB hzA hzB KA RB
  obtain ⟨kc0, kc1, kc2, kc3, kc4, kc5, kc6, kc7, kc8, kc9⟩ := K0.out.ten
  cases hok : wearOk X.f X.ms ch i to
  · have HOk := Lib.hid hok
    have HB : Hid (wearMB X ch i to = false) := by show _ = _; unfold wearMB; rw [hok]; rfl
    clear hok
    go_enter Try.func53, Try.ntmps53
    go_wp2_with fail
    rw [HA.out]
    refine (specWear_any lo hi lo hi _ X.f _ _ _ ch i to X.ms w0 F0.out (by omega) HS.out.f Hq.out hq1 M0.out (by omega) HWf.out.ms).mono ?_
    rintro e w1 ⟨u, hs', rfl, hO, hb⟩
    rw [HOk.out]
    obtain ⟨N, ne, rfl, -⟩ := hO.form
    obtain ⟨nq, hnq⟩ : ∃ x, (wearL X.f X.ms ch i to).length = x := ⟨_, rfl⟩
    rw [hnq] at hO ⊢
    clear hnq
    have K1 := Lib.hid (K0.out.below hb (by omega))
    have R1 := Lib.hid (R0.out.below hb (by omega))
    have T1 := Lib.hid (T0.out.trans (hb.mono (by omega)))
    have s1 : w0.heap.size ≤ w1.heap.size := hb.size
    have z1 : w.heap.size + 2 ≤ w1.heap.size := by omega
    clear hb kc0 kc1 kc2 kc3 kc4 kc5 kc6 kc7 kc8 kc9
    obtain ⟨kc0, kc1, kc2, kc3, kc4, kc5, kc6, kc7, kc8, kc9⟩ := K1.out.ten
    have N1 := Lib.hid hO
    clear hO
    obtain ⟨rc0, rc1, rc2, rc3, rc4, rc5, rc6, rc7, rc8, rc9⟩ := R1.out.ten
    have fr := R1.out.warm
    go_wp2
    obtain ⟨y, hy⟩ : ∃ x, ((((((((((w1.setCell ⟨w.heap.size + 1, 0, none⟩ (.string ⟨#[]⟩)).setCell ⟨w.heap.size + 1, 1, none⟩ (.slice none 0 0)).setCell ⟨w.heap.size + 1, 2, none⟩ (.slice none 0 0)).setCell ⟨w.heap.size + 1, 3, none⟩ (.slice none 0 0)).setCell ⟨w.heap.size + 1, 4, none⟩ (.int .i64 0)).setCell ⟨w.heap.size + 1, 5, none⟩ (.int .i64 0)).setCell ⟨w.heap.size + 1, 6, none⟩ (.int .i64 0)).setCell ⟨w.heap.size + 1, 7, none⟩ (.int .i64 0)).setCell ⟨w.heap.size + 1, 8, none⟩ (.slice none 0 0)).setCell ⟨w.heap.size + 1, 9, none⟩ (.slice none 0 0)) = x := ⟨_, rfl⟩
    have ry : Blk y (w.heap.size + 1) #[.string ⟨#[]⟩, .slice none 0 0, .slice none 0 0, .slice none 0 0, .int .i64 0, .int .i64 0, .int .i64 0, .int .i64 0, .slice none 0 0, .slice none 0 0] 61 := by rw [← hy]; exact Blk.fill R1.out (.string ⟨#[]⟩) (.slice none 0 0) (.slice none 0 0) (.slice none 0 0) (.int .i64 0) (.int .i64 0) (.int .i64 0) (.int .i64 0) (.slice none 0 0) (.slice none 0 0)
    have by_ : Below w.heap.size w1 y := by rw [← hy]; exact (((((((((((Below.refl w.heap.size w1).setCell (show w.heap.size ≤ (⟨w.heap.size + 1, 0, none⟩ : Addr).block by show w.heap.size ≤ w.heap.size + 1; omega) (.string ⟨#[]⟩)).setCell (show w.heap.size ≤ (⟨w.heap.size + 1, 1, none⟩ : Addr).block by show w.heap.size ≤ w.heap.size + 1; omega) (.slice none 0 0)).setCell (show w.heap.size ≤ (⟨w.heap.size + 1, 2, none⟩ : Addr).block by show w.heap.size ≤ w.heap.size + 1; omega) (.slice none 0 0)).setCell (show w.heap.size ≤ (⟨w.heap.size + 1, 3, none⟩ : Addr).block by show w.heap.size ≤ w.heap.size + 1; omega) (.slice none 0 0)).setCell (show w.heap.size ≤ (⟨w.heap.size + 1, 4, none⟩ : Addr).block by show w.heap.size ≤ w.heap.size + 1; omega) (.int .i64 0)).setCell (show w.heap.size ≤ (⟨w.heap.size + 1, 5, none⟩ : Addr).block by show w.heap.size ≤ w.heap.size + 1; omega) (.int .i64 0)).setCell (show w.heap.size ≤ (⟨w.heap.size + 1, 6, none⟩ : Addr).block by show w.heap.size ≤ w.heap.size + 1; omega) (.int .i64 0)).setCell (show w.heap.size ≤ (⟨w.heap.size + 1, 7, none⟩ : Addr).block by show w.heap.size ≤ w.heap.size + 1; omega) (.int .i64 0)).setCell (show w.heap.size ≤ (⟨w.heap.size + 1, 8, none⟩ : Addr).block by show w.heap.size ≤ w.heap.size + 1; omega) (.slice none 0 0)).setCell (show w.heap.size ≤ (⟨w.heap.size + 1, 9, none⟩ : Addr).block by show w.heap.size ≤ w.heap.size + 1; omega) (.slice none 0 0))
    rw [hy]
    obtain ⟨yc0, yc1, yc2, yc3, yc4, yc5, yc6, yc7, yc8, yc9⟩ := ry.ten
    refine bodyPost_ret (v := .tuple #[.agg #[.string ⟨#[]⟩, .slice none 0 0, .slice none 0 0, .slice none 0 0, .int .i64 0, .int .i64 0, .int .i64 0, .int .i64 0, .slice none 0 0, .slice none 0 0], .bool false]) (by simp [results, Try.results53, go_sem, yc0, yc1, yc2, yc3, yc4, yc5, yc6, yc7, yc8, yc9]) rfl ?_
    exact ⟨_, by rw [HB.out], by rw [wearMX_no HB.out]; exact (zeroX_own y w.heap.size).wide (Nat.le_refl _) (by have := by_.size; omega), T1.out.trans by_⟩
  have HOk := Lib.hid hok
  cases hmb : machB X
  · have HM := Lib.hid hmb
    have HB : Hid (wearMB X ch i to = false) := by show _ = _; unfold wearMB; rw [hok, hmb]; rfl
    clear hok hmb
    go_enter Try.func53, Try.ntmps53
    go_wp2_with fail
    rw [HA.out]
    refine (specWear_any lo hi lo hi _ X.f _ _ _ ch i to X.ms w0 F0.out (by omega) HS.out.f Hq.out hq1 M0.out (by omega) HWf.out.ms).mono ?_
    rintro e w1 ⟨u, hs', rfl, hO, hb⟩
    rw [HOk.out]
    obtain ⟨N, ne, rfl, -⟩ := hO.form
    obtain ⟨nq, hnq⟩ : ∃ x, (wearL X.f X.ms ch i to).length = x := ⟨_, rfl⟩
    rw [hnq] at hO ⊢
    clear hnq
    have K1 := Lib.hid (K0.out.below hb (by omega))
    have R1 := Lib.hid (R0.out.below hb (by omega))
    have T1 := Lib.hid (T0.out.trans (hb.mono (by omega)))
    have s1 : w0.heap.size ≤ w1.heap.size := hb.size
    have z1 : w.heap.size + 2 ≤ w1.heap.size := by omega
    have V1 := Lib.hid (V0.out.below (by omega) hb)
    clear hb kc0 kc1 kc2 kc3 kc4 kc5 kc6 kc7 kc8 kc9
    obtain ⟨kc0, kc1, kc2, kc3, kc4, kc5, kc6, kc7, kc8, kc9⟩ := K1.out.ten
    have N1 := Lib.hid hO
    clear hO
    go_wp2_with fail
    refine (specMachine_any lo hi _ X w1 V1.out (by omega) HS.out).mono ?_
    rintro e w2 ⟨rfl, hb⟩
    rw [HM.out]
    have K2 := Lib.hid (K1.out.below hb (by omega))
    have R2 := Lib.hid (R1.out.below hb (by omega))
    have T2 := Lib.hid (T1.out.trans (hb.mono (by omega)))
    have s2 : w1.heap.size ≤ w2.heap.size := hb.size
    have z2 : w.heap.size + 2 ≤ w2.heap.size := by omega
    clear hb kc0 kc1 kc2 kc3 kc4 kc5 kc6 kc7 kc8 kc9
    obtain ⟨kc0, kc1, kc2, kc3, kc4, kc5, kc6, kc7, kc8, kc9⟩ := K2.out.ten
    obtain ⟨rc0, rc1, rc2, rc3, rc4, rc5, rc6, rc7, rc8, rc9⟩ := R2.out.ten
    have fr := R2.out.warm
    go_wp2
    obtain ⟨y, hy⟩ : ∃ x, ((((((((((w2.setCell ⟨w.heap.size + 1, 0, none⟩ (.string ⟨#[]⟩)).setCell ⟨w.heap.size + 1, 1, none⟩ (.slice none 0 0)).setCell ⟨w.heap.size + 1, 2, none⟩ (.slice none 0 0)).setCell ⟨w.heap.size + 1, 3, none⟩ (.slice none 0 0)).setCell ⟨w.heap.size + 1, 4, none⟩ (.int .i64 0)).setCell ⟨w.heap.size + 1, 5, none⟩ (.int .i64 0)).setCell ⟨w.heap.size + 1, 6, none⟩ (.int .i64 0)).setCell ⟨w.heap.size + 1, 7, none⟩ (.int .i64 0)).setCell ⟨w.heap.size + 1, 8, none⟩ (.slice none 0 0)).setCell ⟨w.heap.size + 1, 9, none⟩ (.slice none 0 0)) = x := ⟨_, rfl⟩
    have ry : Blk y (w.heap.size + 1) #[.string ⟨#[]⟩, .slice none 0 0, .slice none 0 0, .slice none 0 0, .int .i64 0, .int .i64 0, .int .i64 0, .int .i64 0, .slice none 0 0, .slice none 0 0] 61 := by rw [← hy]; exact Blk.fill R2.out (.string ⟨#[]⟩) (.slice none 0 0) (.slice none 0 0) (.slice none 0 0) (.int .i64 0) (.int .i64 0) (.int .i64 0) (.int .i64 0) (.slice none 0 0) (.slice none 0 0)
    have by_ : Below w.heap.size w2 y := by rw [← hy]; exact (((((((((((Below.refl w.heap.size w2).setCell (show w.heap.size ≤ (⟨w.heap.size + 1, 0, none⟩ : Addr).block by show w.heap.size ≤ w.heap.size + 1; omega) (.string ⟨#[]⟩)).setCell (show w.heap.size ≤ (⟨w.heap.size + 1, 1, none⟩ : Addr).block by show w.heap.size ≤ w.heap.size + 1; omega) (.slice none 0 0)).setCell (show w.heap.size ≤ (⟨w.heap.size + 1, 2, none⟩ : Addr).block by show w.heap.size ≤ w.heap.size + 1; omega) (.slice none 0 0)).setCell (show w.heap.size ≤ (⟨w.heap.size + 1, 3, none⟩ : Addr).block by show w.heap.size ≤ w.heap.size + 1; omega) (.slice none 0 0)).setCell (show w.heap.size ≤ (⟨w.heap.size + 1, 4, none⟩ : Addr).block by show w.heap.size ≤ w.heap.size + 1; omega) (.int .i64 0)).setCell (show w.heap.size ≤ (⟨w.heap.size + 1, 5, none⟩ : Addr).block by show w.heap.size ≤ w.heap.size + 1; omega) (.int .i64 0)).setCell (show w.heap.size ≤ (⟨w.heap.size + 1, 6, none⟩ : Addr).block by show w.heap.size ≤ w.heap.size + 1; omega) (.int .i64 0)).setCell (show w.heap.size ≤ (⟨w.heap.size + 1, 7, none⟩ : Addr).block by show w.heap.size ≤ w.heap.size + 1; omega) (.int .i64 0)).setCell (show w.heap.size ≤ (⟨w.heap.size + 1, 8, none⟩ : Addr).block by show w.heap.size ≤ w.heap.size + 1; omega) (.slice none 0 0)).setCell (show w.heap.size ≤ (⟨w.heap.size + 1, 9, none⟩ : Addr).block by show w.heap.size ≤ w.heap.size + 1; omega) (.slice none 0 0))
    rw [hy]
    obtain ⟨yc0, yc1, yc2, yc3, yc4, yc5, yc6, yc7, yc8, yc9⟩ := ry.ten
    refine bodyPost_ret (v := .tuple #[.agg #[.string ⟨#[]⟩, .slice none 0 0, .slice none 0 0, .slice none 0 0, .int .i64 0, .int .i64 0, .int .i64 0, .int .i64 0, .slice none 0 0, .slice none 0 0], .bool false]) (by simp [results, Try.results53, go_sem, yc0, yc1, yc2, yc3, yc4, yc5, yc6, yc7, yc8, yc9]) rfl ?_
    exact ⟨_, by rw [HB.out], by rw [wearMX_no HB.out]; exact (zeroX_own y w.heap.size).wide (Nat.le_refl _) (by have := by_.size; omega), T2.out.trans by_⟩
  have HM := Lib.hid hmb
  have HB : Hid (wearMB X ch i to = true) := by show _ = _; unfold wearMB; rw [hok, hmb]; rfl
  clear hok hmb
  go_enter Try.func53, Try.ntmps53
  go_wp2_with fail
  rw [HA.out]
  refine (specWear_any lo hi lo hi _ X.f _ _ _ ch i to X.ms w0 F0.out (by omega) HS.out.f Hq.out hq1 M0.out (by omega) HWf.out.ms).mono ?_
  rintro e w1 ⟨u, hs', rfl, hO, hb⟩
  rw [HOk.out]
  obtain ⟨N, ne, rfl, -⟩ := hO.form
  obtain ⟨nq, hnq⟩ : ∃ x, (wearL X.f X.ms ch i to).length = x := ⟨_, rfl⟩
  rw [hnq] at hO ⊢
  clear hnq
  have K1 := Lib.hid (K0.out.below hb (by omega))
  have R1 := Lib.hid (R0.out.below hb (by omega))
  have T1 := Lib.hid (T0.out.trans (hb.mono (by omega)))
  have s1 : w0.heap.size ≤ w1.heap.size := hb.size
  have z1 : w.heap.size + 2 ≤ w1.heap.size := by omega
  have V1 := Lib.hid (V0.out.below (by omega) hb)
  clear hb kc0 kc1 kc2 kc3 kc4 kc5 kc6 kc7 kc8 kc9
  obtain ⟨kc0, kc1, kc2, kc3, kc4, kc5, kc6, kc7, kc8, kc9⟩ := K1.out.ten
  have N1 := Lib.hid hO
  clear hO
  go_wp2_with fail
  refine (specMachine_any lo hi _ X w1 V1.out (by omega) HS.out).mono ?_
  rintro e w2 ⟨rfl, hb⟩
  rw [HM.out]
  have K2 := Lib.hid (K1.out.below hb (by omega))
  have R2 := Lib.hid (R1.out.below hb (by omega))
  have T2 := Lib.hid (T1.out.trans (hb.mono (by omega)))
  have s2 : w1.heap.size ≤ w2.heap.size := hb.size
  have z2 : w.heap.size + 2 ≤ w2.heap.size := by omega
  have V2 := Lib.hid (V1.out.below (by omega) hb)
  have N2 := Lib.hid (N1.out.below hb)
  clear hb kc0 kc1 kc2 kc3 kc4 kc5 kc6 kc7 kc8 kc9
  obtain ⟨kc0, kc1, kc2, kc3, kc4, kc5, kc6, kc7, kc8, kc9⟩ := K2.out.ten
  go_wp2_with fail
  refine (l5Copy_any lo hi _ X w2 V2.out (by omega) HS.out).mono ?_
  rintro e w3 ⟨u, rfl, hX, hb⟩
  obtain ⟨sz, Az, nz, cz, Bz, mz, dz, Mz, qz, ez, spz, Wz, tz, kz, Lz, lz, fz, Tz, rz, gz, rfl⟩ := hX.reads.form
  have K3 := Lib.hid (K2.out.below hb (by omega))
  have R3 := Lib.hid (R2.out.below hb (by omega))
  have T3 := Lib.hid (T2.out.trans (hb.mono (by omega)))
  have s3 : w2.heap.size ≤ w3.heap.size := hb.size
  have z3 : w.heap.size + 2 ≤ w3.heap.size := by omega
  have N3 := Lib.hid (N2.out.below hb)
  clear hb kc0 kc1 kc2 kc3 kc4 kc5 kc6 kc7 kc8 kc9
  obtain ⟨kc0, kc1, kc2, kc3, kc4, kc5, kc6, kc7, kc8, kc9⟩ := K3.out.ten
  obtain ⟨rc0, rc1, rc2, rc3, rc4, rc5, rc6, rc7, rc8, rc9⟩ := R3.out.ten
  have fr := R3.out.warm
  have X3 := Lib.hid hX
  clear hX
  have zw : w.heap.size + 1 < w3.heap.size := by omega
  go_wp2
  obtain ⟨y, hy⟩ : ∃ x, ((((((((((w3.setCell ⟨w.heap.size + 1, 0, none⟩ (.string sz)).setCell ⟨w.heap.size + 1, 1, none⟩ (.slice Az nz cz)).setCell ⟨w.heap.size + 1, 2, none⟩ (.slice Bz mz dz)).setCell ⟨w.heap.size + 1, 3, none⟩ (.slice N nq ne)).setCell ⟨w.heap.size + 1, 4, none⟩ (.int .i64 spz)).setCell ⟨w.heap.size + 1, 5, none⟩ (.int .i64 Wz)).setCell ⟨w.heap.size + 1, 6, none⟩ (.int .i64 tz)).setCell ⟨w.heap.size + 1, 7, none⟩ (.int .i64 kz)).setCell ⟨w.heap.size + 1, 8, none⟩ (.slice Lz lz fz)).setCell ⟨w.heap.size + 1, 9, none⟩ (.slice Tz rz gz)) = x := ⟨_, rfl⟩
  have ry : Blk y (w.heap.size + 1) #[.string sz, .slice Az nz cz, .slice Bz mz dz, .slice N nq ne, .int .i64 spz, .int .i64 Wz, .int .i64 tz, .int .i64 kz, .slice Lz lz fz, .slice Tz rz gz] 61 := by rw [← hy]; exact Blk.fill R3.out (.string sz) (.slice Az nz cz) (.slice Bz mz dz) (.slice N nq ne) (.int .i64 spz) (.int .i64 Wz) (.int .i64 tz) (.int .i64 kz) (.slice Lz lz fz) (.slice Tz rz gz)
  have hc : Chg (w.heap.size + 1) (w.heap.size + 2) w3 y := by rw [← hy]; exact (((((((((((Chg.refl (w.heap.size + 1) (w.heap.size + 2) w3).trans (chg_set w3 (w.heap.size + 1) 0 (.string sz))).trans (chg_set (w3.setCell ⟨w.heap.size + 1, 0, none⟩ (.string sz)) (w.heap.size + 1) 1 (.slice Az nz cz))).trans (chg_set ((w3.setCell ⟨w.heap.size + 1, 0, none⟩ (.string sz)).setCell ⟨w.heap.size + 1, 1, none⟩ (.slice Az nz cz)) (w.heap.size + 1) 2 (.slice Bz mz dz))).trans (chg_set (((w3.setCell ⟨w.heap.size + 1, 0, none⟩ (.string sz)).setCell ⟨w.heap.size + 1, 1, none⟩ (.slice Az nz cz)).setCell ⟨w.heap.size + 1, 2, none⟩ (.slice Bz mz dz)) (w.heap.size + 1) 3 (.slice N nq ne))).trans (chg_set ((((w3.setCell ⟨w.heap.size + 1, 0, none⟩ (.string sz)).setCell ⟨w.heap.size + 1, 1, none⟩ (.slice Az nz cz)).setCell ⟨w.heap.size + 1, 2, none⟩ (.slice Bz mz dz)).setCell ⟨w.heap.size + 1, 3, none⟩ (.slice N nq ne)) (w.heap.size + 1) 4 (.int .i64 spz))).trans (chg_set (((((w3.setCell ⟨w.heap.size + 1, 0, none⟩ (.string sz)).setCell ⟨w.heap.size + 1, 1, none⟩ (.slice Az nz cz)).setCell ⟨w.heap.size + 1, 2, none⟩ (.slice Bz mz dz)).setCell ⟨w.heap.size + 1, 3, none⟩ (.slice N nq ne)).setCell ⟨w.heap.size + 1, 4, none⟩ (.int .i64 spz)) (w.heap.size + 1) 5 (.int .i64 Wz))).trans (chg_set ((((((w3.setCell ⟨w.heap.size + 1, 0, none⟩ (.string sz)).setCell ⟨w.heap.size + 1, 1, none⟩ (.slice Az nz cz)).setCell ⟨w.heap.size + 1, 2, none⟩ (.slice Bz mz dz)).setCell ⟨w.heap.size + 1, 3, none⟩ (.slice N nq ne)).setCell ⟨w.heap.size + 1, 4, none⟩ (.int .i64 spz)).setCell ⟨w.heap.size + 1, 5, none⟩ (.int .i64 Wz)) (w.heap.size + 1) 6 (.int .i64 tz))).trans (chg_set (((((((w3.setCell ⟨w.heap.size + 1, 0, none⟩ (.string sz)).setCell ⟨w.heap.size + 1, 1, none⟩ (.slice Az nz cz)).setCell ⟨w.heap.size + 1, 2, none⟩ (.slice Bz mz dz)).setCell ⟨w.heap.size + 1, 3, none⟩ (.slice N nq ne)).setCell ⟨w.heap.size + 1, 4, none⟩ (.int .i64 spz)).setCell ⟨w.heap.size + 1, 5, none⟩ (.int .i64 Wz)).setCell ⟨w.heap.size + 1, 6, none⟩ (.int .i64 tz)) (w.heap.size + 1) 7 (.int .i64 kz))).trans (chg_set ((((((((w3.setCell ⟨w.heap.size + 1, 0, none⟩ (.string sz)).setCell ⟨w.heap.size + 1, 1, none⟩ (.slice Az nz cz)).setCell ⟨w.heap.size + 1, 2, none⟩ (.slice Bz mz dz)).setCell ⟨w.heap.size + 1, 3, none⟩ (.slice N nq ne)).setCell ⟨w.heap.size + 1, 4, none⟩ (.int .i64 spz)).setCell ⟨w.heap.size + 1, 5, none⟩ (.int .i64 Wz)).setCell ⟨w.heap.size + 1, 6, none⟩ (.int .i64 tz)).setCell ⟨w.heap.size + 1, 7, none⟩ (.int .i64 kz)) (w.heap.size + 1) 8 (.slice Lz lz fz))).trans (chg_set (((((((((w3.setCell ⟨w.heap.size + 1, 0, none⟩ (.string sz)).setCell ⟨w.heap.size + 1, 1, none⟩ (.slice Az nz cz)).setCell ⟨w.heap.size + 1, 2, none⟩ (.slice Bz mz dz)).setCell ⟨w.heap.size + 1, 3, none⟩ (.slice N nq ne)).setCell ⟨w.heap.size + 1, 4, none⟩ (.int .i64 spz)).setCell ⟨w.heap.size + 1, 5, none⟩ (.int .i64 Wz)).setCell ⟨w.heap.size + 1, 6, none⟩ (.int .i64 tz)).setCell ⟨w.heap.size + 1, 7, none⟩ (.int .i64 kz)).setCell ⟨w.heap.size + 1, 8, none⟩ (.slice Lz lz fz)) (w.heap.size + 1) 9 (.slice Tz rz gz)))
  have sy : w3.heap.size ≤ y.heap.size := hc.size
  rw [hy]
  clear hy
  obtain ⟨z, hz, hbz, hzz, hKz⟩ := mxWorld y #[.string sz, .slice Az nz cz, .slice Bz mz dz, .slice N nq ne, .int .i64 spz, .int .i64 Wz, .int .i64 tz, .int .i64 kz, .slice Lz lz fz, .slice Tz rz gz] 61
  have ryz := ry.below hbz (by omega)
  rw [hz]
  clear hz hKz
  obtain ⟨yc0, yc1, yc2, yc3, yc4, yc5, yc6, yc7, yc8, yc9⟩ := ryz.ten
  have hX2 := (X3.out.chg hc (by unfold Off; omega)).below hbz
  have hN2 := (N3.out.chg hc (by omega)).below hbz
  have hX3 := hX2.withMag (B' := w.heap.size) (hi' := z.heap.size) hN2 (by unfold Off; omega) (by omega) (by omega) (by omega) (by omega)
  refine bodyPost_ret (v := .tuple #[.agg #[.string sz, .slice Az nz cz, .slice Bz mz dz, .slice N nq ne, .int .i64 spz, .int .i64 Wz, .int .i64 tz, .int .i64 kz, .slice Lz lz fz, .slice Tz rz gz], .bool true]) (by simp [results, Try.results53, go_sem, yc0, yc1, yc2, yc3, yc4, yc5, yc6, yc7, yc8, yc9]) rfl ?_
  exact ⟨_, by rw [HB.out], by rw [wearMX_yes HB.out]; exact hX3, (T3.out.trans (hc.below (by omega) |>.mono (by omega))).trans (hbz.mono (by omega))⟩
set_option maxRecDepth 100000 in
set_option maxHeartbeats 6400000 in
theorem implWearM_any (lo hi : Nat) (v : Value) (X : Mch) (ch i to : Int) (w : World) (h : MchV w lo hi v X) (hhi : hi ≤ w.heap.size) (hs : SmallX X) (wf : WfX X) :
    Calls Try.prog 54 #[v, .int .i64 ch, .int .i64 i, .int .i64 to] w fun e w' => ∃ u, e = .returned (.tuple #[u, .bool (wearMB X ch i to)]) ∧ MchX w' w.heap.size w'.heap.size u (wearMX X ch i to) ∧ Below w.heap.size w w' := by
  have HWf := Lib.hid wf
  clear wf
  obtain ⟨s, A, n, c, A2, m, d, M, q, e0, L, l, lc, T, r, tc, rfl, hf, hq, hM, hqe, hem, hl, hL, hllc, hlm, hr, hT, hrt, htm⟩ := h.parts
  have Hq := Lib.hid hq; have Hl := Lib.hid hl; have Hr := Lib.hid hr; have HS := Lib.hid hs
  have hq1 : q ≤ 1048576 := by rw [← hq]; exact hs.ms
  have hl1 : l ≤ 1048576 := by rw [← hl]; exact hs.ln
  have hr1 : r ≤ 1048576 := by rw [← hr]; exact hs.wt
  obtain ⟨sp, hsp⟩ : ∃ x, X.sp = x := ⟨_, rfl⟩
  obtain ⟨W, hW⟩ : ∃ x, X.w = x := ⟨_, rfl⟩
  obtain ⟨t, ht⟩ : ∃ x, X.t = x := ⟨_, rfl⟩
  obtain ⟨k, hk⟩ : ∃ x, X.k = x := ⟨_, rfl⟩
  rw [hsp, hW, ht, hk] at h ⊢
  have HE : Hid (X.sp = sp ∧ X.m = ⟨W, t, k⟩) := ⟨hsp, by unfold Mch.m; rw [hW, ht, hk]⟩
  obtain ⟨wA, hA, hbA, hzA, KA⟩ := mxWorld w #[.string s, .slice A n c, .slice A2 m d, .slice M q e0, .int .i64 sp, .int .i64 W, .int .i64 t, .int .i64 k, .slice L l lc, .slice T r tc] 61
  obtain ⟨w0, hB, hbB, hzB, RB⟩ := mxWorld wA #[.string ⟨#[]⟩, .slice none 0 0, .slice none 0 0, .slice none 0 0, .int .i64 0, .int .i64 0, .int .i64 0, .int .i64 0, .slice none 0 0, .slice none 0 0] 61
  rw [hzA] at RB
  have K0 : Blk w0 w.heap.size #[.string s, .slice A n c, .slice A2 m d, .slice M q e0, .int .i64 sp, .int .i64 W, .int .i64 t, .int .i64 k, .slice L l lc, .slice T r tc] 61 := KA.below hbB (by omega)
  have R0 := Lib.hid RB
  have hb0 : Below w.heap.size w w0 := hbA.trans (hbB.mono (by omega))
  have hz0 : w0.heap.size = w.heap.size + 2 := by omega
  have HA : Hid ((w.alloc (.cells #[.string s, .slice A n c, .slice A2 m d, .slice M q e0, .int .i64 sp, .int .i64 W, .int .i64 t, .int .i64 k, .slice L l lc, .slice T r tc] 61)).alloc (.cells #[.string ⟨#[]⟩, .slice none 0 0, .slice none 0 0, .slice none 0 0, .int .i64 0, .int .i64 0, .int .i64 0, .int .i64 0, .slice none 0 0, .slice none 0 0] 61) = w0) := by show _ = _; rw [hA, hB]
  have T0 := Lib.hid hb0; have K0 := Lib.hid K0; have Z0 := Lib.hid hz0
  have F0 := Lib.hid (hf.below hhi hb0); have M0 := Lib.hid (hM.below hhi hb0); have L0 := Lib.hid (hL.below hhi hb0); have W0 := Lib.hid (hT.below hhi hb0)
  have z0 : w.heap.size + 2 ≤ w0.heap.size := by omega
  have V0 := Lib.hid (h.below hhi hb0)
  clear h hf hq hM hqe hem hl hL hllc hlm hr hT hrt htm hsp hW ht hk hb0 hz0 hs hA hB hbA hbB hzA hzB KA RB
  obtain ⟨kc0, kc1, kc2, kc3, kc4, kc5, kc6, kc7, kc8, kc9⟩ := K0.out.ten
  cases hok : wearOk X.f X.ms ch i to
  · have HOk := Lib.hid hok
    have HB : Hid (wearMB X ch i to = false) := by show _ = _; unfold wearMB; rw [hok]; rfl
    clear hok
    go_enter Try.func54, Try.ntmps54
    go_wp2_with fail
    rw [HA.out]
    refine (implWear_any lo hi lo hi _ X.f _ _ _ ch i to X.ms w0 F0.out (by omega) HS.out.f Hq.out hq1 M0.out (by omega) HWf.out.ms).mono ?_
    rintro e w1 ⟨u, hs', rfl, hO, hb⟩
    rw [HOk.out]
    obtain ⟨N, ne, rfl, -⟩ := hO.form
    obtain ⟨nq, hnq⟩ : ∃ x, (wearL X.f X.ms ch i to).length = x := ⟨_, rfl⟩
    rw [hnq] at hO ⊢
    clear hnq
    have K1 := Lib.hid (K0.out.below hb (by omega))
    have R1 := Lib.hid (R0.out.below hb (by omega))
    have T1 := Lib.hid (T0.out.trans (hb.mono (by omega)))
    have s1 : w0.heap.size ≤ w1.heap.size := hb.size
    have z1 : w.heap.size + 2 ≤ w1.heap.size := by omega
    clear hb kc0 kc1 kc2 kc3 kc4 kc5 kc6 kc7 kc8 kc9
    obtain ⟨kc0, kc1, kc2, kc3, kc4, kc5, kc6, kc7, kc8, kc9⟩ := K1.out.ten
    have N1 := Lib.hid hO
    clear hO
    obtain ⟨rc0, rc1, rc2, rc3, rc4, rc5, rc6, rc7, rc8, rc9⟩ := R1.out.ten
    have fr := R1.out.warm
    go_wp2
    obtain ⟨y, hy⟩ : ∃ x, ((((((((((w1.setCell ⟨w.heap.size + 1, 0, none⟩ (.string ⟨#[]⟩)).setCell ⟨w.heap.size + 1, 1, none⟩ (.slice none 0 0)).setCell ⟨w.heap.size + 1, 2, none⟩ (.slice none 0 0)).setCell ⟨w.heap.size + 1, 3, none⟩ (.slice none 0 0)).setCell ⟨w.heap.size + 1, 4, none⟩ (.int .i64 0)).setCell ⟨w.heap.size + 1, 5, none⟩ (.int .i64 0)).setCell ⟨w.heap.size + 1, 6, none⟩ (.int .i64 0)).setCell ⟨w.heap.size + 1, 7, none⟩ (.int .i64 0)).setCell ⟨w.heap.size + 1, 8, none⟩ (.slice none 0 0)).setCell ⟨w.heap.size + 1, 9, none⟩ (.slice none 0 0)) = x := ⟨_, rfl⟩
    have ry : Blk y (w.heap.size + 1) #[.string ⟨#[]⟩, .slice none 0 0, .slice none 0 0, .slice none 0 0, .int .i64 0, .int .i64 0, .int .i64 0, .int .i64 0, .slice none 0 0, .slice none 0 0] 61 := by rw [← hy]; exact Blk.fill R1.out (.string ⟨#[]⟩) (.slice none 0 0) (.slice none 0 0) (.slice none 0 0) (.int .i64 0) (.int .i64 0) (.int .i64 0) (.int .i64 0) (.slice none 0 0) (.slice none 0 0)
    have by_ : Below w.heap.size w1 y := by rw [← hy]; exact (((((((((((Below.refl w.heap.size w1).setCell (show w.heap.size ≤ (⟨w.heap.size + 1, 0, none⟩ : Addr).block by show w.heap.size ≤ w.heap.size + 1; omega) (.string ⟨#[]⟩)).setCell (show w.heap.size ≤ (⟨w.heap.size + 1, 1, none⟩ : Addr).block by show w.heap.size ≤ w.heap.size + 1; omega) (.slice none 0 0)).setCell (show w.heap.size ≤ (⟨w.heap.size + 1, 2, none⟩ : Addr).block by show w.heap.size ≤ w.heap.size + 1; omega) (.slice none 0 0)).setCell (show w.heap.size ≤ (⟨w.heap.size + 1, 3, none⟩ : Addr).block by show w.heap.size ≤ w.heap.size + 1; omega) (.slice none 0 0)).setCell (show w.heap.size ≤ (⟨w.heap.size + 1, 4, none⟩ : Addr).block by show w.heap.size ≤ w.heap.size + 1; omega) (.int .i64 0)).setCell (show w.heap.size ≤ (⟨w.heap.size + 1, 5, none⟩ : Addr).block by show w.heap.size ≤ w.heap.size + 1; omega) (.int .i64 0)).setCell (show w.heap.size ≤ (⟨w.heap.size + 1, 6, none⟩ : Addr).block by show w.heap.size ≤ w.heap.size + 1; omega) (.int .i64 0)).setCell (show w.heap.size ≤ (⟨w.heap.size + 1, 7, none⟩ : Addr).block by show w.heap.size ≤ w.heap.size + 1; omega) (.int .i64 0)).setCell (show w.heap.size ≤ (⟨w.heap.size + 1, 8, none⟩ : Addr).block by show w.heap.size ≤ w.heap.size + 1; omega) (.slice none 0 0)).setCell (show w.heap.size ≤ (⟨w.heap.size + 1, 9, none⟩ : Addr).block by show w.heap.size ≤ w.heap.size + 1; omega) (.slice none 0 0))
    rw [hy]
    obtain ⟨yc0, yc1, yc2, yc3, yc4, yc5, yc6, yc7, yc8, yc9⟩ := ry.ten
    refine bodyPost_ret (v := .tuple #[.agg #[.string ⟨#[]⟩, .slice none 0 0, .slice none 0 0, .slice none 0 0, .int .i64 0, .int .i64 0, .int .i64 0, .int .i64 0, .slice none 0 0, .slice none 0 0], .bool false]) (by simp [results, Try.results54, go_sem, yc0, yc1, yc2, yc3, yc4, yc5, yc6, yc7, yc8, yc9]) rfl ?_
    exact ⟨_, by rw [HB.out], by rw [wearMX_no HB.out]; exact (zeroX_own y w.heap.size).wide (Nat.le_refl _) (by have := by_.size; omega), T1.out.trans by_⟩
  have HOk := Lib.hid hok
  cases hmb : machB X
  · have HM := Lib.hid hmb
    have HB : Hid (wearMB X ch i to = false) := by show _ = _; unfold wearMB; rw [hok, hmb]; rfl
    clear hok hmb
    go_enter Try.func54, Try.ntmps54
    go_wp2_with fail
    rw [HA.out]
    refine (implWear_any lo hi lo hi _ X.f _ _ _ ch i to X.ms w0 F0.out (by omega) HS.out.f Hq.out hq1 M0.out (by omega) HWf.out.ms).mono ?_
    rintro e w1 ⟨u, hs', rfl, hO, hb⟩
    rw [HOk.out]
    obtain ⟨N, ne, rfl, -⟩ := hO.form
    obtain ⟨nq, hnq⟩ : ∃ x, (wearL X.f X.ms ch i to).length = x := ⟨_, rfl⟩
    rw [hnq] at hO ⊢
    clear hnq
    have K1 := Lib.hid (K0.out.below hb (by omega))
    have R1 := Lib.hid (R0.out.below hb (by omega))
    have T1 := Lib.hid (T0.out.trans (hb.mono (by omega)))
    have s1 : w0.heap.size ≤ w1.heap.size := hb.size
    have z1 : w.heap.size + 2 ≤ w1.heap.size := by omega
    have V1 := Lib.hid (V0.out.below (by omega) hb)
    clear hb kc0 kc1 kc2 kc3 kc4 kc5 kc6 kc7 kc8 kc9
    obtain ⟨kc0, kc1, kc2, kc3, kc4, kc5, kc6, kc7, kc8, kc9⟩ := K1.out.ten
    have N1 := Lib.hid hO
    clear hO
    go_wp2_with fail
    refine (implMachine_any lo hi _ X w1 V1.out (by omega) HS.out HWf.out).mono ?_
    rintro e w2 ⟨rfl, hb⟩
    rw [HM.out]
    have K2 := Lib.hid (K1.out.below hb (by omega))
    have R2 := Lib.hid (R1.out.below hb (by omega))
    have T2 := Lib.hid (T1.out.trans (hb.mono (by omega)))
    have s2 : w1.heap.size ≤ w2.heap.size := hb.size
    have z2 : w.heap.size + 2 ≤ w2.heap.size := by omega
    clear hb kc0 kc1 kc2 kc3 kc4 kc5 kc6 kc7 kc8 kc9
    obtain ⟨kc0, kc1, kc2, kc3, kc4, kc5, kc6, kc7, kc8, kc9⟩ := K2.out.ten
    obtain ⟨rc0, rc1, rc2, rc3, rc4, rc5, rc6, rc7, rc8, rc9⟩ := R2.out.ten
    have fr := R2.out.warm
    go_wp2
    obtain ⟨y, hy⟩ : ∃ x, ((((((((((w2.setCell ⟨w.heap.size + 1, 0, none⟩ (.string ⟨#[]⟩)).setCell ⟨w.heap.size + 1, 1, none⟩ (.slice none 0 0)).setCell ⟨w.heap.size + 1, 2, none⟩ (.slice none 0 0)).setCell ⟨w.heap.size + 1, 3, none⟩ (.slice none 0 0)).setCell ⟨w.heap.size + 1, 4, none⟩ (.int .i64 0)).setCell ⟨w.heap.size + 1, 5, none⟩ (.int .i64 0)).setCell ⟨w.heap.size + 1, 6, none⟩ (.int .i64 0)).setCell ⟨w.heap.size + 1, 7, none⟩ (.int .i64 0)).setCell ⟨w.heap.size + 1, 8, none⟩ (.slice none 0 0)).setCell ⟨w.heap.size + 1, 9, none⟩ (.slice none 0 0)) = x := ⟨_, rfl⟩
    have ry : Blk y (w.heap.size + 1) #[.string ⟨#[]⟩, .slice none 0 0, .slice none 0 0, .slice none 0 0, .int .i64 0, .int .i64 0, .int .i64 0, .int .i64 0, .slice none 0 0, .slice none 0 0] 61 := by rw [← hy]; exact Blk.fill R2.out (.string ⟨#[]⟩) (.slice none 0 0) (.slice none 0 0) (.slice none 0 0) (.int .i64 0) (.int .i64 0) (.int .i64 0) (.int .i64 0) (.slice none 0 0) (.slice none 0 0)
    have by_ : Below w.heap.size w2 y := by rw [← hy]; exact (((((((((((Below.refl w.heap.size w2).setCell (show w.heap.size ≤ (⟨w.heap.size + 1, 0, none⟩ : Addr).block by show w.heap.size ≤ w.heap.size + 1; omega) (.string ⟨#[]⟩)).setCell (show w.heap.size ≤ (⟨w.heap.size + 1, 1, none⟩ : Addr).block by show w.heap.size ≤ w.heap.size + 1; omega) (.slice none 0 0)).setCell (show w.heap.size ≤ (⟨w.heap.size + 1, 2, none⟩ : Addr).block by show w.heap.size ≤ w.heap.size + 1; omega) (.slice none 0 0)).setCell (show w.heap.size ≤ (⟨w.heap.size + 1, 3, none⟩ : Addr).block by show w.heap.size ≤ w.heap.size + 1; omega) (.slice none 0 0)).setCell (show w.heap.size ≤ (⟨w.heap.size + 1, 4, none⟩ : Addr).block by show w.heap.size ≤ w.heap.size + 1; omega) (.int .i64 0)).setCell (show w.heap.size ≤ (⟨w.heap.size + 1, 5, none⟩ : Addr).block by show w.heap.size ≤ w.heap.size + 1; omega) (.int .i64 0)).setCell (show w.heap.size ≤ (⟨w.heap.size + 1, 6, none⟩ : Addr).block by show w.heap.size ≤ w.heap.size + 1; omega) (.int .i64 0)).setCell (show w.heap.size ≤ (⟨w.heap.size + 1, 7, none⟩ : Addr).block by show w.heap.size ≤ w.heap.size + 1; omega) (.int .i64 0)).setCell (show w.heap.size ≤ (⟨w.heap.size + 1, 8, none⟩ : Addr).block by show w.heap.size ≤ w.heap.size + 1; omega) (.slice none 0 0)).setCell (show w.heap.size ≤ (⟨w.heap.size + 1, 9, none⟩ : Addr).block by show w.heap.size ≤ w.heap.size + 1; omega) (.slice none 0 0))
    rw [hy]
    obtain ⟨yc0, yc1, yc2, yc3, yc4, yc5, yc6, yc7, yc8, yc9⟩ := ry.ten
    refine bodyPost_ret (v := .tuple #[.agg #[.string ⟨#[]⟩, .slice none 0 0, .slice none 0 0, .slice none 0 0, .int .i64 0, .int .i64 0, .int .i64 0, .int .i64 0, .slice none 0 0, .slice none 0 0], .bool false]) (by simp [results, Try.results54, go_sem, yc0, yc1, yc2, yc3, yc4, yc5, yc6, yc7, yc8, yc9]) rfl ?_
    exact ⟨_, by rw [HB.out], by rw [wearMX_no HB.out]; exact (zeroX_own y w.heap.size).wide (Nat.le_refl _) (by have := by_.size; omega), T2.out.trans by_⟩
  have HM := Lib.hid hmb
  have HB : Hid (wearMB X ch i to = true) := by show _ = _; unfold wearMB; rw [hok, hmb]; rfl
  clear hok hmb
  go_enter Try.func54, Try.ntmps54
  go_wp2_with fail
  rw [HA.out]
  refine (implWear_any lo hi lo hi _ X.f _ _ _ ch i to X.ms w0 F0.out (by omega) HS.out.f Hq.out hq1 M0.out (by omega) HWf.out.ms).mono ?_
  rintro e w1 ⟨u, hs', rfl, hO, hb⟩
  rw [HOk.out]
  obtain ⟨N, ne, rfl, -⟩ := hO.form
  obtain ⟨nq, hnq⟩ : ∃ x, (wearL X.f X.ms ch i to).length = x := ⟨_, rfl⟩
  rw [hnq] at hO ⊢
  clear hnq
  have K1 := Lib.hid (K0.out.below hb (by omega))
  have R1 := Lib.hid (R0.out.below hb (by omega))
  have T1 := Lib.hid (T0.out.trans (hb.mono (by omega)))
  have s1 : w0.heap.size ≤ w1.heap.size := hb.size
  have z1 : w.heap.size + 2 ≤ w1.heap.size := by omega
  have V1 := Lib.hid (V0.out.below (by omega) hb)
  clear hb kc0 kc1 kc2 kc3 kc4 kc5 kc6 kc7 kc8 kc9
  obtain ⟨kc0, kc1, kc2, kc3, kc4, kc5, kc6, kc7, kc8, kc9⟩ := K1.out.ten
  have N1 := Lib.hid hO
  clear hO
  go_wp2_with fail
  refine (implMachine_any lo hi _ X w1 V1.out (by omega) HS.out HWf.out).mono ?_
  rintro e w2 ⟨rfl, hb⟩
  rw [HM.out]
  have K2 := Lib.hid (K1.out.below hb (by omega))
  have R2 := Lib.hid (R1.out.below hb (by omega))
  have T2 := Lib.hid (T1.out.trans (hb.mono (by omega)))
  have s2 : w1.heap.size ≤ w2.heap.size := hb.size
  have z2 : w.heap.size + 2 ≤ w2.heap.size := by omega
  have V2 := Lib.hid (V1.out.below (by omega) hb)
  have N2 := Lib.hid (N1.out.below hb)
  clear hb kc0 kc1 kc2 kc3 kc4 kc5 kc6 kc7 kc8 kc9
  obtain ⟨kc0, kc1, kc2, kc3, kc4, kc5, kc6, kc7, kc8, kc9⟩ := K2.out.ten
  go_wp2_with fail
  refine (withMag_any lo hi _ _ w0.heap.size _ X _ _ _ hs' (wearL X.f X.ms ch i to) w2 V2.out (by omega) HS.out N2.out (by omega) (by omega) (by omega)).mono ?_
  rintro e w3 ⟨u, rfl, hX, hb⟩
  obtain ⟨sz, Az, nz, cz, Bz, mz, dz, Mz, qz, ez, spz, Wz, tz, kz, Lz, lz, fz, Tz, rz, gz, rfl⟩ := hX.reads.form
  have K3 := Lib.hid (K2.out.below hb (by omega))
  have R3 := Lib.hid (R2.out.below hb (by omega))
  have T3 := Lib.hid (T2.out.trans (hb.mono (by omega)))
  have s3 : w2.heap.size ≤ w3.heap.size := hb.size
  have z3 : w.heap.size + 2 ≤ w3.heap.size := by omega
  clear hb kc0 kc1 kc2 kc3 kc4 kc5 kc6 kc7 kc8 kc9
  obtain ⟨kc0, kc1, kc2, kc3, kc4, kc5, kc6, kc7, kc8, kc9⟩ := K3.out.ten
  obtain ⟨rc0, rc1, rc2, rc3, rc4, rc5, rc6, rc7, rc8, rc9⟩ := R3.out.ten
  have fr := R3.out.warm
  go_wp2
  obtain ⟨y, hy⟩ : ∃ x, ((((((((((w3.setCell ⟨w.heap.size + 1, 0, none⟩ (.string sz)).setCell ⟨w.heap.size + 1, 1, none⟩ (.slice Az nz cz)).setCell ⟨w.heap.size + 1, 2, none⟩ (.slice Bz mz dz)).setCell ⟨w.heap.size + 1, 3, none⟩ (.slice Mz qz ez)).setCell ⟨w.heap.size + 1, 4, none⟩ (.int .i64 spz)).setCell ⟨w.heap.size + 1, 5, none⟩ (.int .i64 Wz)).setCell ⟨w.heap.size + 1, 6, none⟩ (.int .i64 tz)).setCell ⟨w.heap.size + 1, 7, none⟩ (.int .i64 kz)).setCell ⟨w.heap.size + 1, 8, none⟩ (.slice Lz lz fz)).setCell ⟨w.heap.size + 1, 9, none⟩ (.slice Tz rz gz)) = x := ⟨_, rfl⟩
  have ry : Blk y (w.heap.size + 1) #[.string sz, .slice Az nz cz, .slice Bz mz dz, .slice Mz qz ez, .int .i64 spz, .int .i64 Wz, .int .i64 tz, .int .i64 kz, .slice Lz lz fz, .slice Tz rz gz] 61 := by rw [← hy]; exact Blk.fill R3.out (.string sz) (.slice Az nz cz) (.slice Bz mz dz) (.slice Mz qz ez) (.int .i64 spz) (.int .i64 Wz) (.int .i64 tz) (.int .i64 kz) (.slice Lz lz fz) (.slice Tz rz gz)
  have hc : Chg (w.heap.size + 1) (w.heap.size + 2) w3 y := by rw [← hy]; exact (((((((((((Chg.refl (w.heap.size + 1) (w.heap.size + 2) w3).trans (chg_set w3 (w.heap.size + 1) 0 (.string sz))).trans (chg_set (w3.setCell ⟨w.heap.size + 1, 0, none⟩ (.string sz)) (w.heap.size + 1) 1 (.slice Az nz cz))).trans (chg_set ((w3.setCell ⟨w.heap.size + 1, 0, none⟩ (.string sz)).setCell ⟨w.heap.size + 1, 1, none⟩ (.slice Az nz cz)) (w.heap.size + 1) 2 (.slice Bz mz dz))).trans (chg_set (((w3.setCell ⟨w.heap.size + 1, 0, none⟩ (.string sz)).setCell ⟨w.heap.size + 1, 1, none⟩ (.slice Az nz cz)).setCell ⟨w.heap.size + 1, 2, none⟩ (.slice Bz mz dz)) (w.heap.size + 1) 3 (.slice Mz qz ez))).trans (chg_set ((((w3.setCell ⟨w.heap.size + 1, 0, none⟩ (.string sz)).setCell ⟨w.heap.size + 1, 1, none⟩ (.slice Az nz cz)).setCell ⟨w.heap.size + 1, 2, none⟩ (.slice Bz mz dz)).setCell ⟨w.heap.size + 1, 3, none⟩ (.slice Mz qz ez)) (w.heap.size + 1) 4 (.int .i64 spz))).trans (chg_set (((((w3.setCell ⟨w.heap.size + 1, 0, none⟩ (.string sz)).setCell ⟨w.heap.size + 1, 1, none⟩ (.slice Az nz cz)).setCell ⟨w.heap.size + 1, 2, none⟩ (.slice Bz mz dz)).setCell ⟨w.heap.size + 1, 3, none⟩ (.slice Mz qz ez)).setCell ⟨w.heap.size + 1, 4, none⟩ (.int .i64 spz)) (w.heap.size + 1) 5 (.int .i64 Wz))).trans (chg_set ((((((w3.setCell ⟨w.heap.size + 1, 0, none⟩ (.string sz)).setCell ⟨w.heap.size + 1, 1, none⟩ (.slice Az nz cz)).setCell ⟨w.heap.size + 1, 2, none⟩ (.slice Bz mz dz)).setCell ⟨w.heap.size + 1, 3, none⟩ (.slice Mz qz ez)).setCell ⟨w.heap.size + 1, 4, none⟩ (.int .i64 spz)).setCell ⟨w.heap.size + 1, 5, none⟩ (.int .i64 Wz)) (w.heap.size + 1) 6 (.int .i64 tz))).trans (chg_set (((((((w3.setCell ⟨w.heap.size + 1, 0, none⟩ (.string sz)).setCell ⟨w.heap.size + 1, 1, none⟩ (.slice Az nz cz)).setCell ⟨w.heap.size + 1, 2, none⟩ (.slice Bz mz dz)).setCell ⟨w.heap.size + 1, 3, none⟩ (.slice Mz qz ez)).setCell ⟨w.heap.size + 1, 4, none⟩ (.int .i64 spz)).setCell ⟨w.heap.size + 1, 5, none⟩ (.int .i64 Wz)).setCell ⟨w.heap.size + 1, 6, none⟩ (.int .i64 tz)) (w.heap.size + 1) 7 (.int .i64 kz))).trans (chg_set ((((((((w3.setCell ⟨w.heap.size + 1, 0, none⟩ (.string sz)).setCell ⟨w.heap.size + 1, 1, none⟩ (.slice Az nz cz)).setCell ⟨w.heap.size + 1, 2, none⟩ (.slice Bz mz dz)).setCell ⟨w.heap.size + 1, 3, none⟩ (.slice Mz qz ez)).setCell ⟨w.heap.size + 1, 4, none⟩ (.int .i64 spz)).setCell ⟨w.heap.size + 1, 5, none⟩ (.int .i64 Wz)).setCell ⟨w.heap.size + 1, 6, none⟩ (.int .i64 tz)).setCell ⟨w.heap.size + 1, 7, none⟩ (.int .i64 kz)) (w.heap.size + 1) 8 (.slice Lz lz fz))).trans (chg_set (((((((((w3.setCell ⟨w.heap.size + 1, 0, none⟩ (.string sz)).setCell ⟨w.heap.size + 1, 1, none⟩ (.slice Az nz cz)).setCell ⟨w.heap.size + 1, 2, none⟩ (.slice Bz mz dz)).setCell ⟨w.heap.size + 1, 3, none⟩ (.slice Mz qz ez)).setCell ⟨w.heap.size + 1, 4, none⟩ (.int .i64 spz)).setCell ⟨w.heap.size + 1, 5, none⟩ (.int .i64 Wz)).setCell ⟨w.heap.size + 1, 6, none⟩ (.int .i64 tz)).setCell ⟨w.heap.size + 1, 7, none⟩ (.int .i64 kz)).setCell ⟨w.heap.size + 1, 8, none⟩ (.slice Lz lz fz)) (w.heap.size + 1) 9 (.slice Tz rz gz)))
  have sy : w3.heap.size ≤ y.heap.size := hc.size
  rw [hy]
  obtain ⟨yc0, yc1, yc2, yc3, yc4, yc5, yc6, yc7, yc8, yc9⟩ := ry.ten
  refine bodyPost_ret (v := .tuple #[.agg #[.string sz, .slice Az nz cz, .slice Bz mz dz, .slice Mz qz ez, .int .i64 spz, .int .i64 Wz, .int .i64 tz, .int .i64 kz, .slice Lz lz fz, .slice Tz rz gz], .bool true]) (by simp [results, Try.results54, go_sem, yc0, yc1, yc2, yc3, yc4, yc5, yc6, yc7, yc8, yc9]) rfl ?_
  exact ⟨_, by rw [HB.out], by rw [wearMX_yes HB.out]; exact (hX.chg hc (by unfold Off; omega)).wide (by omega) hc.size, T3.out.trans (hc.below (by omega) |>.mono (by omega))⟩
end Go.Proofs.Ythoepelgmplcmaa
