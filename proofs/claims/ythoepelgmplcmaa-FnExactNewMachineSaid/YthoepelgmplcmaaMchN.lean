/-
  NewMachine of the model and the program by contract. Conditions: lengths of at most 2^20.
-/
import Derived.Test.YthoepelgmplcmaaMchZ
import Derived.Test.YthoepelgmplcmaaLawsFill
namespace Go.Proofs.Ythoepelgmplcmaa
open Go.RowKit
set_option linter.unusedVariables false

theorem MchP.wide {w : World} {lo hi hi' : Nat} {X : Mch} {A A2 M L T : Option Addr} {c d e lc tc : Nat} (h : MchP w lo hi X A c A2 d M e L lc T tc) (hh : hi ≤ hi') : MchP w lo hi' X A c A2 d M e L lc T tc := by
  obtain ⟨⟨A', c', A2', d', hv', e1, e2, rest⟩, h2, h3, h4, r⟩ := h
  exact ⟨⟨A', c', A2', d', hv', e1.wide (Nat.le_refl _) hh, e2.wide (Nat.le_refl _) hh, rest⟩, h2.wide (Nat.le_refl _) hh, h3.wide (Nat.le_refl _) hh, h4.wide (Nat.le_refl _) hh, by assumption, by assumption, by assumption, by assumption, by assumption, by assumption⟩
/-- the machine before it is asked whether it is one -/
def rawX (f : Fnt) (E sp W t k : Int) : Mch := ⟨f, fillL f E, sp, W, t, k, [], []⟩
def newB (f : Fnt) (E sp W t k : Int) : Bool := machB (rawX f E sp W t k)
def newX (f : Fnt) (E sp W t k : Int) : Mch := if newB f E sp W t k then rawX f E sp W t k else zeroX
theorem newX_no {f : Fnt} {E sp W t k : Int} (h : newB f E sp W t k = false) : newX f E sp W t k = zeroX := by unfold newX; rw [h]; rfl
theorem newX_yes {f : Fnt} {E sp W t k : Int} (h : newB f E sp W t k = true) : newX f E sp W t k = rawX f E sp W t k := by unfold newX; rw [h]; rfl
theorem new_nofill {f : Fnt} {E sp W t k : Int} (h : fillOk f E = false) : newB f E sp W t k = false := by
  unfold newB
  refine machB_mag ?_
  show magB f (fillL f E) = false
  have : fillL f E = [] := by unfold fillL; rw [h]; rfl
  rw [this]
  unfold magB
  cases hf : fontB f
  · rfl
  · have := fontB_size hf
    simp; omega
theorem raw_small {f : Fnt} (E sp W t k : Int) (hs : Small f) : SmallX (rawX f E sp W t k) := by
  obtain ⟨h1, h2⟩ := fillL_lim f E
  have := tot_bound h2
  exact ⟨hs, by show (fillL f E).length ≤ _; omega, fun xs hx => by have := h2 xs hx; omega, by show tot (fillL f E) ≤ _; omega, by show 0 ≤ _; omega, by show 0 ≤ _; omega⟩
theorem raw_wf (f : Fnt) (E sp W t k : Int) : WfX (rawX f E sp W t k) := by
  refine ⟨fun xs hx x hxx => ?_, fun x hx => (by cases hx), fun x hx => (by cases hx)⟩
  change xs ∈ fillL f E at hx
  unfold fillL at hx
  split at hx
  · rename_i h
    unfold fillOk at h
    rw [Bool.and_eq_true] at h
    have hb := bar_set (fontB_codes h.1).2.2
    unfold fillTo at hx
    rw [List.mem_append] at hx
    rcases hx with hx | hx
    · rw [List.mem_map] at hx
      obtain ⟨i, hi, rfl⟩ := hx
      unfold fillRow at hxx
      rw [List.mem_replicate] at hxx
      rw [hxx.2]
      have hlt : i < f.cs.length := List.mem_range.1 hi
      have h2 := hb _ (List.getElem_mem hlt)
      have e : f.cs.getD i 0 = f.cs[i] := by simp [List.getD, hlt]
      simp [Lit.wf, IntKind.min, IntKind.max, IntKind.signed, IntKind.bits]
      rw [List.getElem?_eq_getElem hlt]
      simp only [Option.getD_some]
      omega
    · rw [List.mem_replicate] at hx
      rw [hx.2] at hxx
      cases hxx
  · cases hx
set_option maxRecDepth 100000 in
set_option maxHeartbeats 6400000 in
theorem specNew_any (lo hi : Nat) (v : Value) (f : Fnt) (E sp W t k : Int) (w : World) (h : FontV w lo hi v f) (hhi : hi ≤ w.heap.size) (hs : Small f) :
    Calls Try.prog 38 #[v, .int .i64 E, .int .i64 sp, .agg #[.int .i64 W, .int .i64 t, .int .i64 k]] w fun e w' => ∃ u, e = .returned (.tuple #[u, .bool (newB f E sp W t k)]) ∧ MchX w' w.heap.size w'.heap.size u (newX f E sp W t k) ∧ Below w.heap.size w w' := by
  have hSX := raw_small E sp W t k hs
  have hWX := raw_wf f E sp W t k
  have hfv := h
  obtain ⟨A, c, A2, d, rfl, hI1, hI2, hc1, hc2, hd1, hd2, hss⟩ := h
  obtain ⟨s, hs1⟩ : ∃ x, f.s = x := ⟨_, rfl⟩
  obtain ⟨n, hn⟩ : ∃ x, f.ws.length = x := ⟨_, rfl⟩
  obtain ⟨m, hm⟩ : ∃ x, f.cs.length = x := ⟨_, rfl⟩
  have HFs : Hid (f.s = s ∧ f.ws.length = n ∧ f.cs.length = m) := ⟨hs1, hn, hm⟩
  rw [hs1, hn, hm] at hfv ⊢
  obtain ⟨wA, hA, hbA, hzA, KA⟩ := mxWorld w #[.string s, .slice A n c, .slice A2 m d] 25
  obtain ⟨wB, hB, hbB, hzB, QB⟩ := mxWorld wA #[.int .i64 W, .int .i64 t, .int .i64 k] 59
  obtain ⟨w0, hC, hbC, hzC, RC⟩ := mxWorld wB #[.string ⟨#[]⟩, .slice none 0 0, .slice none 0 0, .slice none 0 0, .int .i64 0, .int .i64 0, .int .i64 0, .int .i64 0, .slice none 0 0, .slice none 0 0] 61
  rw [hzA] at QB
  rw [hzB, hzA] at RC
  have K0 := Lib.hid ((KA.below hbB (by omega)).below hbC (by omega))
  have Q0 := Lib.hid (QB.below hbC (by omega))
  have R0 := Lib.hid RC
  have hb0 : Below w.heap.size w w0 := (hbA.trans (hbB.mono (by omega))).trans (hbC.mono (by omega))
  have T0 := Lib.hid hb0; have F0 := Lib.hid (hfv.below hhi hb0)
  have z0 : w.heap.size + 3 ≤ w0.heap.size := by omega
  have HA : Hid (((w.alloc (.cells #[.string s, .slice A n c, .slice A2 m d] 25)).alloc (.cells #[.int .i64 W, .int .i64 t, .int .i64 k] 59)).alloc (.cells #[.string ⟨#[]⟩, .slice none 0 0, .slice none 0 0, .slice none 0 0, .int .i64 0, .int .i64 0, .int .i64 0, .int .i64 0, .slice none 0 0, .slice none 0 0] 61) = w0) := by show _ = _; rw [hA, hB, hC]
  have HSX := Lib.hid hSX; have HWX := Lib.hid hWX
  clear hfv hI1 hI2 hc1 hc2 hd1 hd2 hss hs1 hn hm hA hB hC hbA hbB hbC hzA hzB hzC KA QB RC hb0 hSX hWX
  obtain ⟨kc0, kc1, kc2⟩ := blk3 K0.out
  obtain ⟨qc0, qc1, qc2⟩ := blk3 Q0.out
  cases hok : fillOk f E
  · have HOk := Lib.hid hok
    have HB := Lib.hid (new_nofill (sp := sp) (W := W) (t := t) (k := k) hok)
    clear hok
    go_enter Try.func38, Try.ntmps38
    go_wp2_with fail
    rw [HA.out]
    refine (specFill_any lo hi _ f E w0 F0.out (by omega) hs).mono ?_
    rintro e w1 ⟨u, hs', rfl, hO, hb⟩
    rw [HOk.out]
    obtain ⟨N, ne, rfl, hq1, hq2, -⟩ := hO.form
    obtain ⟨nq, hnq⟩ : ∃ x, (fillL f E).length = x := ⟨_, rfl⟩
    rw [hnq] at hO hq1 ⊢
    have Hnq := Lib.hid hnq
    clear hnq
    clear kc0 kc1 kc2 qc0 qc1 qc2
    have K1 := Lib.hid (K0.out.below hb (by omega))
    have Q1 := Lib.hid (Q0.out.below hb (by omega))
    have R1 := Lib.hid (R0.out.below hb (by omega))
    have T1 := Lib.hid (T0.out.trans (hb.mono (by omega)))
    have s1 : w0.heap.size ≤ w1.heap.size := hb.size
    have z1 : w.heap.size + 3 ≤ w1.heap.size := by omega
    clear hb
    have N1 := Lib.hid hO
    clear hO
    obtain ⟨kc0, kc1, kc2⟩ := blk3 K1.out
    obtain ⟨qc0, qc1, qc2⟩ := blk3 Q1.out
    obtain ⟨rc0, rc1, rc2, rc3, rc4, rc5, rc6, rc7, rc8, rc9⟩ := R1.out.ten
    have fr := R1.out.warm
    have zw : w.heap.size + 1 + 1 < w1.heap.size := by omega
    go_wp2
    clear rc0 rc1 rc2 rc3 rc4 rc5 rc6 rc7 rc8 rc9 fr
    obtain ⟨y, hy⟩ : ∃ x, ((((((((((w1.setCell ⟨(w.heap.size + 1 + 1), 0, none⟩ (.string ⟨#[]⟩)).setCell ⟨(w.heap.size + 1 + 1), 1, none⟩ (.slice none 0 0)).setCell ⟨(w.heap.size + 1 + 1), 2, none⟩ (.slice none 0 0)).setCell ⟨(w.heap.size + 1 + 1), 3, none⟩ (.slice none 0 0)).setCell ⟨(w.heap.size + 1 + 1), 4, none⟩ (.int .i64 0)).setCell ⟨(w.heap.size + 1 + 1), 5, none⟩ (.int .i64 0)).setCell ⟨(w.heap.size + 1 + 1), 6, none⟩ (.int .i64 0)).setCell ⟨(w.heap.size + 1 + 1), 7, none⟩ (.int .i64 0)).setCell ⟨(w.heap.size + 1 + 1), 8, none⟩ (.slice none 0 0)).setCell ⟨(w.heap.size + 1 + 1), 9, none⟩ (.slice none 0 0)) = x := ⟨_, rfl⟩
    have ry : Blk y (w.heap.size + 1 + 1) #[.string ⟨#[]⟩, .slice none 0 0, .slice none 0 0, .slice none 0 0, .int .i64 0, .int .i64 0, .int .i64 0, .int .i64 0, .slice none 0 0, .slice none 0 0] 61 := by rw [← hy]; exact Blk.fill R1.out (.string ⟨#[]⟩) (.slice none 0 0) (.slice none 0 0) (.slice none 0 0) (.int .i64 0) (.int .i64 0) (.int .i64 0) (.int .i64 0) (.slice none 0 0) (.slice none 0 0)
    have hc : Chg (w.heap.size + 1 + 1) (w.heap.size + 1 + 1 + 1) w1 y := by rw [← hy]; exact (((((((((((Chg.refl (w.heap.size + 1 + 1) (w.heap.size + 1 + 1 + 1) w1).trans (chg_set w1 (w.heap.size + 1 + 1) 0 (.string ⟨#[]⟩))).trans (chg_set (w1.setCell ⟨(w.heap.size + 1 + 1), 0, none⟩ (.string ⟨#[]⟩)) (w.heap.size + 1 + 1) 1 (.slice none 0 0))).trans (chg_set ((w1.setCell ⟨(w.heap.size + 1 + 1), 0, none⟩ (.string ⟨#[]⟩)).setCell ⟨(w.heap.size + 1 + 1), 1, none⟩ (.slice none 0 0)) (w.heap.size + 1 + 1) 2 (.slice none 0 0))).trans (chg_set (((w1.setCell ⟨(w.heap.size + 1 + 1), 0, none⟩ (.string ⟨#[]⟩)).setCell ⟨(w.heap.size + 1 + 1), 1, none⟩ (.slice none 0 0)).setCell ⟨(w.heap.size + 1 + 1), 2, none⟩ (.slice none 0 0)) (w.heap.size + 1 + 1) 3 (.slice none 0 0))).trans (chg_set ((((w1.setCell ⟨(w.heap.size + 1 + 1), 0, none⟩ (.string ⟨#[]⟩)).setCell ⟨(w.heap.size + 1 + 1), 1, none⟩ (.slice none 0 0)).setCell ⟨(w.heap.size + 1 + 1), 2, none⟩ (.slice none 0 0)).setCell ⟨(w.heap.size + 1 + 1), 3, none⟩ (.slice none 0 0)) (w.heap.size + 1 + 1) 4 (.int .i64 0))).trans (chg_set (((((w1.setCell ⟨(w.heap.size + 1 + 1), 0, none⟩ (.string ⟨#[]⟩)).setCell ⟨(w.heap.size + 1 + 1), 1, none⟩ (.slice none 0 0)).setCell ⟨(w.heap.size + 1 + 1), 2, none⟩ (.slice none 0 0)).setCell ⟨(w.heap.size + 1 + 1), 3, none⟩ (.slice none 0 0)).setCell ⟨(w.heap.size + 1 + 1), 4, none⟩ (.int .i64 0)) (w.heap.size + 1 + 1) 5 (.int .i64 0))).trans (chg_set ((((((w1.setCell ⟨(w.heap.size + 1 + 1), 0, none⟩ (.string ⟨#[]⟩)).setCell ⟨(w.heap.size + 1 + 1), 1, none⟩ (.slice none 0 0)).setCell ⟨(w.heap.size + 1 + 1), 2, none⟩ (.slice none 0 0)).setCell ⟨(w.heap.size + 1 + 1), 3, none⟩ (.slice none 0 0)).setCell ⟨(w.heap.size + 1 + 1), 4, none⟩ (.int .i64 0)).setCell ⟨(w.heap.size + 1 + 1), 5, none⟩ (.int .i64 0)) (w.heap.size + 1 + 1) 6 (.int .i64 0))).trans (chg_set (((((((w1.setCell ⟨(w.heap.size + 1 + 1), 0, none⟩ (.string ⟨#[]⟩)).setCell ⟨(w.heap.size + 1 + 1), 1, none⟩ (.slice none 0 0)).setCell ⟨(w.heap.size + 1 + 1), 2, none⟩ (.slice none 0 0)).setCell ⟨(w.heap.size + 1 + 1), 3, none⟩ (.slice none 0 0)).setCell ⟨(w.heap.size + 1 + 1), 4, none⟩ (.int .i64 0)).setCell ⟨(w.heap.size + 1 + 1), 5, none⟩ (.int .i64 0)).setCell ⟨(w.heap.size + 1 + 1), 6, none⟩ (.int .i64 0)) (w.heap.size + 1 + 1) 7 (.int .i64 0))).trans (chg_set ((((((((w1.setCell ⟨(w.heap.size + 1 + 1), 0, none⟩ (.string ⟨#[]⟩)).setCell ⟨(w.heap.size + 1 + 1), 1, none⟩ (.slice none 0 0)).setCell ⟨(w.heap.size + 1 + 1), 2, none⟩ (.slice none 0 0)).setCell ⟨(w.heap.size + 1 + 1), 3, none⟩ (.slice none 0 0)).setCell ⟨(w.heap.size + 1 + 1), 4, none⟩ (.int .i64 0)).setCell ⟨(w.heap.size + 1 + 1), 5, none⟩ (.int .i64 0)).setCell ⟨(w.heap.size + 1 + 1), 6, none⟩ (.int .i64 0)).setCell ⟨(w.heap.size + 1 + 1), 7, none⟩ (.int .i64 0)) (w.heap.size + 1 + 1) 8 (.slice none 0 0))).trans (chg_set (((((((((w1.setCell ⟨(w.heap.size + 1 + 1), 0, none⟩ (.string ⟨#[]⟩)).setCell ⟨(w.heap.size + 1 + 1), 1, none⟩ (.slice none 0 0)).setCell ⟨(w.heap.size + 1 + 1), 2, none⟩ (.slice none 0 0)).setCell ⟨(w.heap.size + 1 + 1), 3, none⟩ (.slice none 0 0)).setCell ⟨(w.heap.size + 1 + 1), 4, none⟩ (.int .i64 0)).setCell ⟨(w.heap.size + 1 + 1), 5, none⟩ (.int .i64 0)).setCell ⟨(w.heap.size + 1 + 1), 6, none⟩ (.int .i64 0)).setCell ⟨(w.heap.size + 1 + 1), 7, none⟩ (.int .i64 0)).setCell ⟨(w.heap.size + 1 + 1), 8, none⟩ (.slice none 0 0)) (w.heap.size + 1 + 1) 9 (.slice none 0 0)))
    have sy : w1.heap.size ≤ y.heap.size := hc.size
    rw [hy]
    clear hy
    obtain ⟨y2, hy2, hb2, hz2, -⟩ := mxWorld y #[.string s, .slice A n c, .slice A2 m d, .slice N nq ne, .int .i64 sp, .int .i64 W, .int .i64 t, .int .i64 k, .slice none 0 0, .slice none 0 0] 61
    rw [hy2]
    clear hy2
    have ry2 := ry.below hb2 (by omega)
    obtain ⟨yc0, yc1, yc2, yc3, yc4, yc5, yc6, yc7, yc8, yc9⟩ := ry2.ten
    refine bodyPost_ret (v := .tuple #[.agg #[.string ⟨#[]⟩, .slice none 0 0, .slice none 0 0, .slice none 0 0, .int .i64 0, .int .i64 0, .int .i64 0, .int .i64 0, .slice none 0 0, .slice none 0 0], .bool false]) (by simp [results, Try.results38, go_sem, yc0, yc1, yc2, yc3, yc4, yc5, yc6, yc7, yc8, yc9]) rfl ?_
    exact ⟨_, by first | rw [HB.out] | rfl, by rw [newX_no HB.out]; exact (zeroX_own _ w.heap.size).wide (Nat.le_refl _) (by omega), (T1.out.trans (hc.below (by omega) |>.mono (by omega))).trans (hb2.mono (by omega))⟩
  have HOk := Lib.hid hok
  clear hok
  cases hmb : newB f E sp W t k
  · have HB := Lib.hid hmb
    clear hmb
    go_enter Try.func38, Try.ntmps38
    go_wp2_with fail
    rw [HA.out]
    refine (specFill_any lo hi _ f E w0 F0.out (by omega) hs).mono ?_
    rintro e w1 ⟨u, hs', rfl, hO, hb⟩
    rw [HOk.out]
    obtain ⟨N, ne, rfl, hq1, hq2, -⟩ := hO.form
    obtain ⟨nq, hnq⟩ : ∃ x, (fillL f E).length = x := ⟨_, rfl⟩
    rw [hnq] at hO hq1 ⊢
    have Hnq := Lib.hid hnq
    clear hnq
    clear kc0 kc1 kc2 qc0 qc1 qc2
    have K1 := Lib.hid (K0.out.below hb (by omega))
    have Q1 := Lib.hid (Q0.out.below hb (by omega))
    have R1 := Lib.hid (R0.out.below hb (by omega))
    have T1 := Lib.hid (T0.out.trans (hb.mono (by omega)))
    have s1 : w0.heap.size ≤ w1.heap.size := hb.size
    have z1 : w.heap.size + 3 ≤ w1.heap.size := by omega
    have F1 := Lib.hid (F0.out.below (by omega) hb)
    clear hb
    have N1 := Lib.hid hO
    clear hO
    obtain ⟨kc0, kc1, kc2⟩ := blk3 K1.out
    obtain ⟨qc0, qc1, qc2⟩ := blk3 Q1.out
    go_wp2_with fail
    obtain ⟨w2, hw, hb, hz, hJ⟩ := mxWorld w1 #[.string s, .slice A n c, .slice A2 m d, .slice N nq ne, .int .i64 sp, .int .i64 W, .int .i64 t, .int .i64 k, .slice none 0 0, .slice none 0 0] 61
    rw [hw]
    have yJ : w1.heap.size < w2.heap.size := hJ.lt
    clear hw hz
    clear kc0 kc1 kc2 qc0 qc1 qc2
    have K2 := Lib.hid (K1.out.below hb (by omega))
    have Q2 := Lib.hid (Q1.out.below hb (by omega))
    have R2 := Lib.hid (R1.out.below hb (by omega))
    have T2 := Lib.hid (T1.out.trans (hb.mono (by omega)))
    have s2 : w1.heap.size ≤ w2.heap.size := hb.size
    have z2 : w.heap.size + 3 ≤ w2.heap.size := by omega
    have F2 := Lib.hid (F1.out.below (by omega) hb)
    have N2 := Lib.hid (N1.out.below hb)
    clear hb
    have J2 := Lib.hid hJ
    clear hJ
    obtain ⟨jc0, jc1, jc2, jc3, jc4, jc5, jc6, jc7, jc8, jc9⟩ := J2.out.ten
    have V2 : Hid (MchV w2 0 w2.heap.size (.agg #[.string s, .slice A n c, .slice A2 m d, .slice N nq ne, .int .i64 sp, .int .i64 W, .int .i64 t, .int .i64 k, .slice none 0 0, .slice none 0 0]) (rawX f E sp W t k)) := by
      show MchV _ _ _ _ _
      have hf2 := F2.out
      obtain ⟨A', c', A2', d', hv', e1, e2, rest⟩ := hf2
      refine ⟨A, c, A2, d, N, ne, none, 0, none, 0, by unfold mwords rawX; simp only; rw [HFs.out.1, HFs.out.2.1, HFs.out.2.2, Hnq.out]; rfl, ?_⟩
      refine ⟨?_, N2.out.reads.wide (Nat.zero_le _) (by omega), MatsI.nil _ _ _ _, MatsI.nil _ _ _ _, by show (fillL f E).length ≤ ne; rw [Hnq.out]; exact hq1, hq2, Nat.le_refl _, Nat.zero_le _, Nat.le_refl _, Nat.zero_le _⟩
      show FontV w2 0 w2.heap.size (.agg #[.string f.s, .slice A f.ws.length c, .slice A2 f.cs.length d]) f
      rw [HFs.out.1, HFs.out.2.1, HFs.out.2.2]
      exact ⟨A', c', A2', d', hv', e1.wide (Nat.zero_le _) (by omega), e2.wide (Nat.zero_le _) (by omega), rest⟩
    refine (specMachine_any 0 w2.heap.size _ _ w2 V2.out (Nat.le_refl _) HSX.out).mono ?_
    rintro e w3 ⟨rfl, hb⟩
    rw [show machB (rawX f E sp W t k) = newB f E sp W t k from rfl, HB.out]
    clear jc0 jc1 jc2 jc3 jc4 jc5 jc6 jc7 jc8 jc9
    have K3 := Lib.hid (K2.out.below hb (by omega))
    have Q3 := Lib.hid (Q2.out.below hb (by omega))
    have R3 := Lib.hid (R2.out.below hb (by omega))
    have T3 := Lib.hid (T2.out.trans (hb.mono (by omega)))
    have s3 : w2.heap.size ≤ w3.heap.size := hb.size
    have z3 : w.heap.size + 3 ≤ w3.heap.size := by omega
    clear hb
    obtain ⟨rc0, rc1, rc2, rc3, rc4, rc5, rc6, rc7, rc8, rc9⟩ := R3.out.ten
    have fr := R3.out.warm
    go_wp2
    clear rc0 rc1 rc2 rc3 rc4 rc5 rc6 rc7 rc8 rc9 fr
    obtain ⟨y, hy⟩ : ∃ x, ((((((((((w3.setCell ⟨(w.heap.size + 1 + 1), 0, none⟩ (.string ⟨#[]⟩)).setCell ⟨(w.heap.size + 1 + 1), 1, none⟩ (.slice none 0 0)).setCell ⟨(w.heap.size + 1 + 1), 2, none⟩ (.slice none 0 0)).setCell ⟨(w.heap.size + 1 + 1), 3, none⟩ (.slice none 0 0)).setCell ⟨(w.heap.size + 1 + 1), 4, none⟩ (.int .i64 0)).setCell ⟨(w.heap.size + 1 + 1), 5, none⟩ (.int .i64 0)).setCell ⟨(w.heap.size + 1 + 1), 6, none⟩ (.int .i64 0)).setCell ⟨(w.heap.size + 1 + 1), 7, none⟩ (.int .i64 0)).setCell ⟨(w.heap.size + 1 + 1), 8, none⟩ (.slice none 0 0)).setCell ⟨(w.heap.size + 1 + 1), 9, none⟩ (.slice none 0 0)) = x := ⟨_, rfl⟩
    have ry : Blk y (w.heap.size + 1 + 1) #[.string ⟨#[]⟩, .slice none 0 0, .slice none 0 0, .slice none 0 0, .int .i64 0, .int .i64 0, .int .i64 0, .int .i64 0, .slice none 0 0, .slice none 0 0] 61 := by rw [← hy]; exact Blk.fill R3.out (.string ⟨#[]⟩) (.slice none 0 0) (.slice none 0 0) (.slice none 0 0) (.int .i64 0) (.int .i64 0) (.int .i64 0) (.int .i64 0) (.slice none 0 0) (.slice none 0 0)
    have hc : Chg (w.heap.size + 1 + 1) (w.heap.size + 1 + 1 + 1) w3 y := by rw [← hy]; exact (((((((((((Chg.refl (w.heap.size + 1 + 1) (w.heap.size + 1 + 1 + 1) w3).trans (chg_set w3 (w.heap.size + 1 + 1) 0 (.string ⟨#[]⟩))).trans (chg_set (w3.setCell ⟨(w.heap.size + 1 + 1), 0, none⟩ (.string ⟨#[]⟩)) (w.heap.size + 1 + 1) 1 (.slice none 0 0))).trans (chg_set ((w3.setCell ⟨(w.heap.size + 1 + 1), 0, none⟩ (.string ⟨#[]⟩)).setCell ⟨(w.heap.size + 1 + 1), 1, none⟩ (.slice none 0 0)) (w.heap.size + 1 + 1) 2 (.slice none 0 0))).trans (chg_set (((w3.setCell ⟨(w.heap.size + 1 + 1), 0, none⟩ (.string ⟨#[]⟩)).setCell ⟨(w.heap.size + 1 + 1), 1, none⟩ (.slice none 0 0)).setCell ⟨(w.heap.size + 1 + 1), 2, none⟩ (.slice none 0 0)) (w.heap.size + 1 + 1) 3 (.slice none 0 0))).trans (chg_set ((((w3.setCell ⟨(w.heap.size + 1 + 1), 0, none⟩ (.string ⟨#[]⟩)).setCell ⟨(w.heap.size + 1 + 1), 1, none⟩ (.slice none 0 0)).setCell ⟨(w.heap.size + 1 + 1), 2, none⟩ (.slice none 0 0)).setCell ⟨(w.heap.size + 1 + 1), 3, none⟩ (.slice none 0 0)) (w.heap.size + 1 + 1) 4 (.int .i64 0))).trans (chg_set (((((w3.setCell ⟨(w.heap.size + 1 + 1), 0, none⟩ (.string ⟨#[]⟩)).setCell ⟨(w.heap.size + 1 + 1), 1, none⟩ (.slice none 0 0)).setCell ⟨(w.heap.size + 1 + 1), 2, none⟩ (.slice none 0 0)).setCell ⟨(w.heap.size + 1 + 1), 3, none⟩ (.slice none 0 0)).setCell ⟨(w.heap.size + 1 + 1), 4, none⟩ (.int .i64 0)) (w.heap.size + 1 + 1) 5 (.int .i64 0))).trans (chg_set ((((((w3.setCell ⟨(w.heap.size + 1 + 1), 0, none⟩ (.string ⟨#[]⟩)).setCell ⟨(w.heap.size + 1 + 1), 1, none⟩ (.slice none 0 0)).setCell ⟨(w.heap.size + 1 + 1), 2, none⟩ (.slice none 0 0)).setCell ⟨(w.heap.size + 1 + 1), 3, none⟩ (.slice none 0 0)).setCell ⟨(w.heap.size + 1 + 1), 4, none⟩ (.int .i64 0)).setCell ⟨(w.heap.size + 1 + 1), 5, none⟩ (.int .i64 0)) (w.heap.size + 1 + 1) 6 (.int .i64 0))).trans (chg_set (((((((w3.setCell ⟨(w.heap.size + 1 + 1), 0, none⟩ (.string ⟨#[]⟩)).setCell ⟨(w.heap.size + 1 + 1), 1, none⟩ (.slice none 0 0)).setCell ⟨(w.heap.size + 1 + 1), 2, none⟩ (.slice none 0 0)).setCell ⟨(w.heap.size + 1 + 1), 3, none⟩ (.slice none 0 0)).setCell ⟨(w.heap.size + 1 + 1), 4, none⟩ (.int .i64 0)).setCell ⟨(w.heap.size + 1 + 1), 5, none⟩ (.int .i64 0)).setCell ⟨(w.heap.size + 1 + 1), 6, none⟩ (.int .i64 0)) (w.heap.size + 1 + 1) 7 (.int .i64 0))).trans (chg_set ((((((((w3.setCell ⟨(w.heap.size + 1 + 1), 0, none⟩ (.string ⟨#[]⟩)).setCell ⟨(w.heap.size + 1 + 1), 1, none⟩ (.slice none 0 0)).setCell ⟨(w.heap.size + 1 + 1), 2, none⟩ (.slice none 0 0)).setCell ⟨(w.heap.size + 1 + 1), 3, none⟩ (.slice none 0 0)).setCell ⟨(w.heap.size + 1 + 1), 4, none⟩ (.int .i64 0)).setCell ⟨(w.heap.size + 1 + 1), 5, none⟩ (.int .i64 0)).setCell ⟨(w.heap.size + 1 + 1), 6, none⟩ (.int .i64 0)).setCell ⟨(w.heap.size + 1 + 1), 7, none⟩ (.int .i64 0)) (w.heap.size + 1 + 1) 8 (.slice none 0 0))).trans (chg_set (((((((((w3.setCell ⟨(w.heap.size + 1 + 1), 0, none⟩ (.string ⟨#[]⟩)).setCell ⟨(w.heap.size + 1 + 1), 1, none⟩ (.slice none 0 0)).setCell ⟨(w.heap.size + 1 + 1), 2, none⟩ (.slice none 0 0)).setCell ⟨(w.heap.size + 1 + 1), 3, none⟩ (.slice none 0 0)).setCell ⟨(w.heap.size + 1 + 1), 4, none⟩ (.int .i64 0)).setCell ⟨(w.heap.size + 1 + 1), 5, none⟩ (.int .i64 0)).setCell ⟨(w.heap.size + 1 + 1), 6, none⟩ (.int .i64 0)).setCell ⟨(w.heap.size + 1 + 1), 7, none⟩ (.int .i64 0)).setCell ⟨(w.heap.size + 1 + 1), 8, none⟩ (.slice none 0 0)) (w.heap.size + 1 + 1) 9 (.slice none 0 0)))
    have sy : w3.heap.size ≤ y.heap.size := hc.size
    rw [hy]
    clear hy
    obtain ⟨yc0, yc1, yc2, yc3, yc4, yc5, yc6, yc7, yc8, yc9⟩ := ry.ten
    refine bodyPost_ret (v := .tuple #[.agg #[.string ⟨#[]⟩, .slice none 0 0, .slice none 0 0, .slice none 0 0, .int .i64 0, .int .i64 0, .int .i64 0, .int .i64 0, .slice none 0 0, .slice none 0 0], .bool false]) (by simp [results, Try.results38, go_sem, yc0, yc1, yc2, yc3, yc4, yc5, yc6, yc7, yc8, yc9]) rfl ?_
    exact ⟨_, by first | rw [HB.out] | rfl, by rw [newX_no HB.out]; exact (zeroX_own _ w.heap.size).wide (Nat.le_refl _) (by omega), T3.out.trans (hc.below (by omega) |>.mono (by omega))⟩
  have HB := Lib.hid hmb
  clear hmb
  go_enter Try.func38, Try.ntmps38
  go_wp2_with fail
  rw [HA.out]
  refine (specFill_any lo hi _ f E w0 F0.out (by omega) hs).mono ?_
  rintro e w1 ⟨u, hs', rfl, hO, hb⟩
  rw [HOk.out]
  obtain ⟨N, ne, rfl, hq1, hq2, -⟩ := hO.form
  obtain ⟨nq, hnq⟩ : ∃ x, (fillL f E).length = x := ⟨_, rfl⟩
  rw [hnq] at hO hq1 ⊢
  have Hnq := Lib.hid hnq
  clear hnq
  clear kc0 kc1 kc2 qc0 qc1 qc2
  have K1 := Lib.hid (K0.out.below hb (by omega))
  have Q1 := Lib.hid (Q0.out.below hb (by omega))
  have R1 := Lib.hid (R0.out.below hb (by omega))
  have T1 := Lib.hid (T0.out.trans (hb.mono (by omega)))
  have s1 : w0.heap.size ≤ w1.heap.size := hb.size
  have z1 : w.heap.size + 3 ≤ w1.heap.size := by omega
  have F1 := Lib.hid (F0.out.below (by omega) hb)
  clear hb
  have N1 := Lib.hid hO
  clear hO
  obtain ⟨kc0, kc1, kc2⟩ := blk3 K1.out
  obtain ⟨qc0, qc1, qc2⟩ := blk3 Q1.out
  go_wp2_with fail
  obtain ⟨w2, hw, hb, hz, hJ⟩ := mxWorld w1 #[.string s, .slice A n c, .slice A2 m d, .slice N nq ne, .int .i64 sp, .int .i64 W, .int .i64 t, .int .i64 k, .slice none 0 0, .slice none 0 0] 61
  rw [hw]
  have yJ : w1.heap.size < w2.heap.size := hJ.lt
  clear hw hz
  clear kc0 kc1 kc2 qc0 qc1 qc2
  have K2 := Lib.hid (K1.out.below hb (by omega))
  have Q2 := Lib.hid (Q1.out.below hb (by omega))
  have R2 := Lib.hid (R1.out.below hb (by omega))
  have T2 := Lib.hid (T1.out.trans (hb.mono (by omega)))
  have s2 : w1.heap.size ≤ w2.heap.size := hb.size
  have z2 : w.heap.size + 3 ≤ w2.heap.size := by omega
  have F2 := Lib.hid (F1.out.below (by omega) hb)
  have N2 := Lib.hid (N1.out.below hb)
  clear hb
  have J2 := Lib.hid hJ
  clear hJ
  obtain ⟨jc0, jc1, jc2, jc3, jc4, jc5, jc6, jc7, jc8, jc9⟩ := J2.out.ten
  have V2 : Hid (MchV w2 0 w2.heap.size (.agg #[.string s, .slice A n c, .slice A2 m d, .slice N nq ne, .int .i64 sp, .int .i64 W, .int .i64 t, .int .i64 k, .slice none 0 0, .slice none 0 0]) (rawX f E sp W t k)) := by
    show MchV _ _ _ _ _
    have hf2 := F2.out
    obtain ⟨A', c', A2', d', hv', e1, e2, rest⟩ := hf2
    refine ⟨A, c, A2, d, N, ne, none, 0, none, 0, by unfold mwords rawX; simp only; rw [HFs.out.1, HFs.out.2.1, HFs.out.2.2, Hnq.out]; rfl, ?_⟩
    refine ⟨?_, N2.out.reads.wide (Nat.zero_le _) (by omega), MatsI.nil _ _ _ _, MatsI.nil _ _ _ _, by show (fillL f E).length ≤ ne; rw [Hnq.out]; exact hq1, hq2, Nat.le_refl _, Nat.zero_le _, Nat.le_refl _, Nat.zero_le _⟩
    show FontV w2 0 w2.heap.size (.agg #[.string f.s, .slice A f.ws.length c, .slice A2 f.cs.length d]) f
    rw [HFs.out.1, HFs.out.2.1, HFs.out.2.2]
    exact ⟨A', c', A2', d', hv', e1.wide (Nat.zero_le _) (by omega), e2.wide (Nat.zero_le _) (by omega), rest⟩
  refine (specMachine_any 0 w2.heap.size _ _ w2 V2.out (Nat.le_refl _) HSX.out).mono ?_
  rintro e w3 ⟨rfl, hb⟩
  rw [show machB (rawX f E sp W t k) = newB f E sp W t k from rfl, HB.out]
  clear jc0 jc1 jc2 jc3 jc4 jc5 jc6 jc7 jc8 jc9
  have K3 := Lib.hid (K2.out.below hb (by omega))
  have Q3 := Lib.hid (Q2.out.below hb (by omega))
  have R3 := Lib.hid (R2.out.below hb (by omega))
  have T3 := Lib.hid (T2.out.trans (hb.mono (by omega)))
  have s3 : w2.heap.size ≤ w3.heap.size := hb.size
  have z3 : w.heap.size + 3 ≤ w3.heap.size := by omega
  have N3 := Lib.hid (N2.out.below hb)
  have J3 := Lib.hid (J2.out.below hb (by omega))
  have V3 := Lib.hid (V2.out.below (by omega) hb)
  clear hb
  obtain ⟨jc0, jc1, jc2, jc3, jc4, jc5, jc6, jc7, jc8, jc9⟩ := J3.out.ten
  have V3x : Hid (MchV w3 0 w3.heap.size (.agg #[.string s, .slice A n c, .slice A2 m d, .slice N nq ne, .int .i64 sp, .int .i64 W, .int .i64 t, .int .i64 k, .slice none 0 0, .slice none 0 0]) (rawX f E sp W t k)) := by
    show MchV _ _ _ _ _
    obtain ⟨a1, a2, a3, a4, a5, a6, a7, a8, a9, a10, hv', hp⟩ := V3.out
    exact ⟨a1, a2, a3, a4, a5, a6, a7, a8, a9, a10, hv', hp.wide (by omega)⟩
  go_wp2_with fail
  refine (l5Copy_any 0 w3.heap.size _ _ w3 V3x.out (Nat.le_refl _) HSX.out).mono ?_
  rintro e w4 ⟨u, rfl, hX, hb⟩
  obtain ⟨sz, Az, nz, cz, Bz, mz, dz, Mz, qz, ez, spz, Wz, tz, kz, Lz, lz, fz, Tz, rz, gz, rfl⟩ := hX.reads.form
  clear jc0 jc1 jc2 jc3 jc4 jc5 jc6 jc7 jc8 jc9
  have K4 := Lib.hid (K3.out.below hb (by omega))
  have Q4 := Lib.hid (Q3.out.below hb (by omega))
  have R4 := Lib.hid (R3.out.below hb (by omega))
  have T4 := Lib.hid (T3.out.trans (hb.mono (by omega)))
  have s4 : w3.heap.size ≤ w4.heap.size := hb.size
  have z4 : w.heap.size + 3 ≤ w4.heap.size := by omega
  clear hb
  obtain ⟨rc0, rc1, rc2, rc3, rc4, rc5, rc6, rc7, rc8, rc9⟩ := R4.out.ten
  have fr := R4.out.warm
  go_wp2
  clear rc0 rc1 rc2 rc3 rc4 rc5 rc6 rc7 rc8 rc9 fr
  obtain ⟨y, hy⟩ : ∃ x, ((((((((((w4.setCell ⟨(w.heap.size + 1 + 1), 0, none⟩ (.string sz)).setCell ⟨(w.heap.size + 1 + 1), 1, none⟩ (.slice Az nz cz)).setCell ⟨(w.heap.size + 1 + 1), 2, none⟩ (.slice Bz mz dz)).setCell ⟨(w.heap.size + 1 + 1), 3, none⟩ (.slice Mz qz ez)).setCell ⟨(w.heap.size + 1 + 1), 4, none⟩ (.int .i64 spz)).setCell ⟨(w.heap.size + 1 + 1), 5, none⟩ (.int .i64 Wz)).setCell ⟨(w.heap.size + 1 + 1), 6, none⟩ (.int .i64 tz)).setCell ⟨(w.heap.size + 1 + 1), 7, none⟩ (.int .i64 kz)).setCell ⟨(w.heap.size + 1 + 1), 8, none⟩ (.slice Lz lz fz)).setCell ⟨(w.heap.size + 1 + 1), 9, none⟩ (.slice Tz rz gz)) = x := ⟨_, rfl⟩
  have ry : Blk y (w.heap.size + 1 + 1) #[.string sz, .slice Az nz cz, .slice Bz mz dz, .slice Mz qz ez, .int .i64 spz, .int .i64 Wz, .int .i64 tz, .int .i64 kz, .slice Lz lz fz, .slice Tz rz gz] 61 := by rw [← hy]; exact Blk.fill R4.out (.string sz) (.slice Az nz cz) (.slice Bz mz dz) (.slice Mz qz ez) (.int .i64 spz) (.int .i64 Wz) (.int .i64 tz) (.int .i64 kz) (.slice Lz lz fz) (.slice Tz rz gz)
  have hc : Chg (w.heap.size + 1 + 1) (w.heap.size + 1 + 1 + 1) w4 y := by rw [← hy]; exact (((((((((((Chg.refl (w.heap.size + 1 + 1) (w.heap.size + 1 + 1 + 1) w4).trans (chg_set w4 (w.heap.size + 1 + 1) 0 (.string sz))).trans (chg_set (w4.setCell ⟨(w.heap.size + 1 + 1), 0, none⟩ (.string sz)) (w.heap.size + 1 + 1) 1 (.slice Az nz cz))).trans (chg_set ((w4.setCell ⟨(w.heap.size + 1 + 1), 0, none⟩ (.string sz)).setCell ⟨(w.heap.size + 1 + 1), 1, none⟩ (.slice Az nz cz)) (w.heap.size + 1 + 1) 2 (.slice Bz mz dz))).trans (chg_set (((w4.setCell ⟨(w.heap.size + 1 + 1), 0, none⟩ (.string sz)).setCell ⟨(w.heap.size + 1 + 1), 1, none⟩ (.slice Az nz cz)).setCell ⟨(w.heap.size + 1 + 1), 2, none⟩ (.slice Bz mz dz)) (w.heap.size + 1 + 1) 3 (.slice Mz qz ez))).trans (chg_set ((((w4.setCell ⟨(w.heap.size + 1 + 1), 0, none⟩ (.string sz)).setCell ⟨(w.heap.size + 1 + 1), 1, none⟩ (.slice Az nz cz)).setCell ⟨(w.heap.size + 1 + 1), 2, none⟩ (.slice Bz mz dz)).setCell ⟨(w.heap.size + 1 + 1), 3, none⟩ (.slice Mz qz ez)) (w.heap.size + 1 + 1) 4 (.int .i64 spz))).trans (chg_set (((((w4.setCell ⟨(w.heap.size + 1 + 1), 0, none⟩ (.string sz)).setCell ⟨(w.heap.size + 1 + 1), 1, none⟩ (.slice Az nz cz)).setCell ⟨(w.heap.size + 1 + 1), 2, none⟩ (.slice Bz mz dz)).setCell ⟨(w.heap.size + 1 + 1), 3, none⟩ (.slice Mz qz ez)).setCell ⟨(w.heap.size + 1 + 1), 4, none⟩ (.int .i64 spz)) (w.heap.size + 1 + 1) 5 (.int .i64 Wz))).trans (chg_set ((((((w4.setCell ⟨(w.heap.size + 1 + 1), 0, none⟩ (.string sz)).setCell ⟨(w.heap.size + 1 + 1), 1, none⟩ (.slice Az nz cz)).setCell ⟨(w.heap.size + 1 + 1), 2, none⟩ (.slice Bz mz dz)).setCell ⟨(w.heap.size + 1 + 1), 3, none⟩ (.slice Mz qz ez)).setCell ⟨(w.heap.size + 1 + 1), 4, none⟩ (.int .i64 spz)).setCell ⟨(w.heap.size + 1 + 1), 5, none⟩ (.int .i64 Wz)) (w.heap.size + 1 + 1) 6 (.int .i64 tz))).trans (chg_set (((((((w4.setCell ⟨(w.heap.size + 1 + 1), 0, none⟩ (.string sz)).setCell ⟨(w.heap.size + 1 + 1), 1, none⟩ (.slice Az nz cz)).setCell ⟨(w.heap.size + 1 + 1), 2, none⟩ (.slice Bz mz dz)).setCell ⟨(w.heap.size + 1 + 1), 3, none⟩ (.slice Mz qz ez)).setCell ⟨(w.heap.size + 1 + 1), 4, none⟩ (.int .i64 spz)).setCell ⟨(w.heap.size + 1 + 1), 5, none⟩ (.int .i64 Wz)).setCell ⟨(w.heap.size + 1 + 1), 6, none⟩ (.int .i64 tz)) (w.heap.size + 1 + 1) 7 (.int .i64 kz))).trans (chg_set ((((((((w4.setCell ⟨(w.heap.size + 1 + 1), 0, none⟩ (.string sz)).setCell ⟨(w.heap.size + 1 + 1), 1, none⟩ (.slice Az nz cz)).setCell ⟨(w.heap.size + 1 + 1), 2, none⟩ (.slice Bz mz dz)).setCell ⟨(w.heap.size + 1 + 1), 3, none⟩ (.slice Mz qz ez)).setCell ⟨(w.heap.size + 1 + 1), 4, none⟩ (.int .i64 spz)).setCell ⟨(w.heap.size + 1 + 1), 5, none⟩ (.int .i64 Wz)).setCell ⟨(w.heap.size + 1 + 1), 6, none⟩ (.int .i64 tz)).setCell ⟨(w.heap.size + 1 + 1), 7, none⟩ (.int .i64 kz)) (w.heap.size + 1 + 1) 8 (.slice Lz lz fz))).trans (chg_set (((((((((w4.setCell ⟨(w.heap.size + 1 + 1), 0, none⟩ (.string sz)).setCell ⟨(w.heap.size + 1 + 1), 1, none⟩ (.slice Az nz cz)).setCell ⟨(w.heap.size + 1 + 1), 2, none⟩ (.slice Bz mz dz)).setCell ⟨(w.heap.size + 1 + 1), 3, none⟩ (.slice Mz qz ez)).setCell ⟨(w.heap.size + 1 + 1), 4, none⟩ (.int .i64 spz)).setCell ⟨(w.heap.size + 1 + 1), 5, none⟩ (.int .i64 Wz)).setCell ⟨(w.heap.size + 1 + 1), 6, none⟩ (.int .i64 tz)).setCell ⟨(w.heap.size + 1 + 1), 7, none⟩ (.int .i64 kz)).setCell ⟨(w.heap.size + 1 + 1), 8, none⟩ (.slice Lz lz fz)) (w.heap.size + 1 + 1) 9 (.slice Tz rz gz)))
  have sy : w4.heap.size ≤ y.heap.size := hc.size
  rw [hy]
  clear hy
  obtain ⟨yc0, yc1, yc2, yc3, yc4, yc5, yc6, yc7, yc8, yc9⟩ := ry.ten
  refine bodyPost_ret (v := .tuple #[.agg #[.string sz, .slice Az nz cz, .slice Bz mz dz, .slice Mz qz ez, .int .i64 spz, .int .i64 Wz, .int .i64 tz, .int .i64 kz, .slice Lz lz fz, .slice Tz rz gz], .bool true]) (by simp [results, Try.results38, go_sem, yc0, yc1, yc2, yc3, yc4, yc5, yc6, yc7, yc8, yc9]) rfl ?_
  exact ⟨_, by first | rw [HB.out] | rfl, by rw [newX_yes HB.out]; exact (hX.chg hc (by unfold Off; omega)).wide (by omega) hc.size, T4.out.trans (hc.below (by omega) |>.mono (by omega))⟩
set_option maxRecDepth 100000 in
set_option maxHeartbeats 6400000 in
theorem implNew_any (lo hi : Nat) (v : Value) (f : Fnt) (E sp W t k : Int) (w : World) (h : FontV w lo hi v f) (hhi : hi ≤ w.heap.size) (hs : Small f) :
    Calls Try.prog 41 #[v, .int .i64 E, .int .i64 sp, .agg #[.int .i64 W, .int .i64 t, .int .i64 k]] w fun e w' => ∃ u, e = .returned (.tuple #[u, .bool (newB f E sp W t k)]) ∧ MchX w' w.heap.size w'.heap.size u (newX f E sp W t k) ∧ Below w.heap.size w w' := by
  have hSX := raw_small E sp W t k hs
  have hWX := raw_wf f E sp W t k
  have hfv := h
  obtain ⟨A, c, A2, d, rfl, hI1, hI2, hc1, hc2, hd1, hd2, hss⟩ := h
  obtain ⟨s, hs1⟩ : ∃ x, f.s = x := ⟨_, rfl⟩
  obtain ⟨n, hn⟩ : ∃ x, f.ws.length = x := ⟨_, rfl⟩
  obtain ⟨m, hm⟩ : ∃ x, f.cs.length = x := ⟨_, rfl⟩
  have HFs : Hid (f.s = s ∧ f.ws.length = n ∧ f.cs.length = m) := ⟨hs1, hn, hm⟩
  rw [hs1, hn, hm] at hfv ⊢
  obtain ⟨wA, hA, hbA, hzA, KA⟩ := mxWorld w #[.string s, .slice A n c, .slice A2 m d] 25
  obtain ⟨wB, hB, hbB, hzB, QB⟩ := mxWorld wA #[.int .i64 W, .int .i64 t, .int .i64 k] 59
  obtain ⟨w0, hC, hbC, hzC, RC⟩ := mxWorld wB #[.string ⟨#[]⟩, .slice none 0 0, .slice none 0 0, .slice none 0 0, .int .i64 0, .int .i64 0, .int .i64 0, .int .i64 0, .slice none 0 0, .slice none 0 0] 61
  rw [hzA] at QB
  rw [hzB, hzA] at RC
  have K0 := Lib.hid ((KA.below hbB (by omega)).below hbC (by omega))
  have Q0 := Lib.hid (QB.below hbC (by omega))
  have R0 := Lib.hid RC
  have hb0 : Below w.heap.size w w0 := (hbA.trans (hbB.mono (by omega))).trans (hbC.mono (by omega))
  have T0 := Lib.hid hb0; have F0 := Lib.hid (hfv.below hhi hb0)
  have z0 : w.heap.size + 3 ≤ w0.heap.size := by omega
  have HA : Hid (((w.alloc (.cells #[.string s, .slice A n c, .slice A2 m d] 25)).alloc (.cells #[.int .i64 W, .int .i64 t, .int .i64 k] 59)).alloc (.cells #[.string ⟨#[]⟩, .slice none 0 0, .slice none 0 0, .slice none 0 0, .int .i64 0, .int .i64 0, .int .i64 0, .int .i64 0, .slice none 0 0, .slice none 0 0] 61) = w0) := by show _ = _; rw [hA, hB, hC]
  have HSX := Lib.hid hSX; have HWX := Lib.hid hWX
  clear hfv hI1 hI2 hc1 hc2 hd1 hd2 hss hs1 hn hm hA hB hC hbA hbB hbC hzA hzB hzC KA QB RC hb0 hSX hWX
  obtain ⟨kc0, kc1, kc2⟩ := blk3 K0.out
  obtain ⟨qc0, qc1, qc2⟩ := blk3 Q0.out
  obtain ⟨ok, hok⟩ : ∃ x, fillOk f E = x := ⟨_, rfl⟩
  have HOk := Lib.hid hok
  clear hok
  cases hmb : newB f E sp W t k
  · have HB := Lib.hid hmb
    clear hmb
    go_enter Try.func41, Try.ntmps41
    go_wp2_with fail
    rw [HA.out]
    refine (implFill_any lo hi _ f E w0 F0.out (by omega) hs).mono ?_
    rintro e w1 ⟨u, hs', rfl, hO, hb⟩
    rw [HOk.out]
    obtain ⟨N, ne, rfl, hq1, hq2, -⟩ := hO.form
    obtain ⟨nq, hnq⟩ : ∃ x, (fillL f E).length = x := ⟨_, rfl⟩
    rw [hnq] at hO hq1 ⊢
    have Hnq := Lib.hid hnq
    clear hnq
    clear kc0 kc1 kc2 qc0 qc1 qc2
    have K1 := Lib.hid (K0.out.below hb (by omega))
    have Q1 := Lib.hid (Q0.out.below hb (by omega))
    have R1 := Lib.hid (R0.out.below hb (by omega))
    have T1 := Lib.hid (T0.out.trans (hb.mono (by omega)))
    have s1 : w0.heap.size ≤ w1.heap.size := hb.size
    have z1 : w.heap.size + 3 ≤ w1.heap.size := by omega
    have F1 := Lib.hid (F0.out.below (by omega) hb)
    clear hb
    have N1 := Lib.hid hO
    clear hO
    obtain ⟨kc0, kc1, kc2⟩ := blk3 K1.out
    obtain ⟨qc0, qc1, qc2⟩ := blk3 Q1.out
    go_wp2_with fail
    obtain ⟨w2, hw, hb, hz, hJ⟩ := mxWorld w1 #[.string s, .slice A n c, .slice A2 m d, .slice N nq ne, .int .i64 sp, .int .i64 W, .int .i64 t, .int .i64 k, .slice none 0 0, .slice none 0 0] 61
    rw [hw]
    have yJ : w1.heap.size < w2.heap.size := hJ.lt
    clear hw hz
    clear kc0 kc1 kc2 qc0 qc1 qc2
    have K2 := Lib.hid (K1.out.below hb (by omega))
    have Q2 := Lib.hid (Q1.out.below hb (by omega))
    have R2 := Lib.hid (R1.out.below hb (by omega))
    have T2 := Lib.hid (T1.out.trans (hb.mono (by omega)))
    have s2 : w1.heap.size ≤ w2.heap.size := hb.size
    have z2 : w.heap.size + 3 ≤ w2.heap.size := by omega
    have F2 := Lib.hid (F1.out.below (by omega) hb)
    have N2 := Lib.hid (N1.out.below hb)
    clear hb
    have J2 := Lib.hid hJ
    clear hJ
    obtain ⟨jc0, jc1, jc2, jc3, jc4, jc5, jc6, jc7, jc8, jc9⟩ := J2.out.ten
    have V2 : Hid (MchV w2 0 w2.heap.size (.agg #[.string s, .slice A n c, .slice A2 m d, .slice N nq ne, .int .i64 sp, .int .i64 W, .int .i64 t, .int .i64 k, .slice none 0 0, .slice none 0 0]) (rawX f E sp W t k)) := by
      show MchV _ _ _ _ _
      have hf2 := F2.out
      obtain ⟨A', c', A2', d', hv', e1, e2, rest⟩ := hf2
      refine ⟨A, c, A2, d, N, ne, none, 0, none, 0, by unfold mwords rawX; simp only; rw [HFs.out.1, HFs.out.2.1, HFs.out.2.2, Hnq.out]; rfl, ?_⟩
      refine ⟨?_, N2.out.reads.wide (Nat.zero_le _) (by omega), MatsI.nil _ _ _ _, MatsI.nil _ _ _ _, by show (fillL f E).length ≤ ne; rw [Hnq.out]; exact hq1, hq2, Nat.le_refl _, Nat.zero_le _, Nat.le_refl _, Nat.zero_le _⟩
      show FontV w2 0 w2.heap.size (.agg #[.string f.s, .slice A f.ws.length c, .slice A2 f.cs.length d]) f
      rw [HFs.out.1, HFs.out.2.1, HFs.out.2.2]
      exact ⟨A', c', A2', d', hv', e1.wide (Nat.zero_le _) (by omega), e2.wide (Nat.zero_le _) (by omega), rest⟩
    refine (implMachine_any 0 w2.heap.size _ _ w2 V2.out (Nat.le_refl _) HSX.out HWX.out).mono ?_
    rintro e w3 ⟨rfl, hb⟩
    rw [show machB (rawX f E sp W t k) = newB f E sp W t k from rfl, HB.out]
    clear jc0 jc1 jc2 jc3 jc4 jc5 jc6 jc7 jc8 jc9
    have K3 := Lib.hid (K2.out.below hb (by omega))
    have Q3 := Lib.hid (Q2.out.below hb (by omega))
    have R3 := Lib.hid (R2.out.below hb (by omega))
    have T3 := Lib.hid (T2.out.trans (hb.mono (by omega)))
    have s3 : w2.heap.size ≤ w3.heap.size := hb.size
    have z3 : w.heap.size + 3 ≤ w3.heap.size := by omega
    clear hb
    obtain ⟨rc0, rc1, rc2, rc3, rc4, rc5, rc6, rc7, rc8, rc9⟩ := R3.out.ten
    have fr := R3.out.warm
    go_wp2
    clear rc0 rc1 rc2 rc3 rc4 rc5 rc6 rc7 rc8 rc9 fr
    obtain ⟨y, hy⟩ : ∃ x, ((((((((((w3.setCell ⟨(w.heap.size + 1 + 1), 0, none⟩ (.string ⟨#[]⟩)).setCell ⟨(w.heap.size + 1 + 1), 1, none⟩ (.slice none 0 0)).setCell ⟨(w.heap.size + 1 + 1), 2, none⟩ (.slice none 0 0)).setCell ⟨(w.heap.size + 1 + 1), 3, none⟩ (.slice none 0 0)).setCell ⟨(w.heap.size + 1 + 1), 4, none⟩ (.int .i64 0)).setCell ⟨(w.heap.size + 1 + 1), 5, none⟩ (.int .i64 0)).setCell ⟨(w.heap.size + 1 + 1), 6, none⟩ (.int .i64 0)).setCell ⟨(w.heap.size + 1 + 1), 7, none⟩ (.int .i64 0)).setCell ⟨(w.heap.size + 1 + 1), 8, none⟩ (.slice none 0 0)).setCell ⟨(w.heap.size + 1 + 1), 9, none⟩ (.slice none 0 0)) = x := ⟨_, rfl⟩
    have ry : Blk y (w.heap.size + 1 + 1) #[.string ⟨#[]⟩, .slice none 0 0, .slice none 0 0, .slice none 0 0, .int .i64 0, .int .i64 0, .int .i64 0, .int .i64 0, .slice none 0 0, .slice none 0 0] 61 := by rw [← hy]; exact Blk.fill R3.out (.string ⟨#[]⟩) (.slice none 0 0) (.slice none 0 0) (.slice none 0 0) (.int .i64 0) (.int .i64 0) (.int .i64 0) (.int .i64 0) (.slice none 0 0) (.slice none 0 0)
    have hc : Chg (w.heap.size + 1 + 1) (w.heap.size + 1 + 1 + 1) w3 y := by rw [← hy]; exact (((((((((((Chg.refl (w.heap.size + 1 + 1) (w.heap.size + 1 + 1 + 1) w3).trans (chg_set w3 (w.heap.size + 1 + 1) 0 (.string ⟨#[]⟩))).trans (chg_set (w3.setCell ⟨(w.heap.size + 1 + 1), 0, none⟩ (.string ⟨#[]⟩)) (w.heap.size + 1 + 1) 1 (.slice none 0 0))).trans (chg_set ((w3.setCell ⟨(w.heap.size + 1 + 1), 0, none⟩ (.string ⟨#[]⟩)).setCell ⟨(w.heap.size + 1 + 1), 1, none⟩ (.slice none 0 0)) (w.heap.size + 1 + 1) 2 (.slice none 0 0))).trans (chg_set (((w3.setCell ⟨(w.heap.size + 1 + 1), 0, none⟩ (.string ⟨#[]⟩)).setCell ⟨(w.heap.size + 1 + 1), 1, none⟩ (.slice none 0 0)).setCell ⟨(w.heap.size + 1 + 1), 2, none⟩ (.slice none 0 0)) (w.heap.size + 1 + 1) 3 (.slice none 0 0))).trans (chg_set ((((w3.setCell ⟨(w.heap.size + 1 + 1), 0, none⟩ (.string ⟨#[]⟩)).setCell ⟨(w.heap.size + 1 + 1), 1, none⟩ (.slice none 0 0)).setCell ⟨(w.heap.size + 1 + 1), 2, none⟩ (.slice none 0 0)).setCell ⟨(w.heap.size + 1 + 1), 3, none⟩ (.slice none 0 0)) (w.heap.size + 1 + 1) 4 (.int .i64 0))).trans (chg_set (((((w3.setCell ⟨(w.heap.size + 1 + 1), 0, none⟩ (.string ⟨#[]⟩)).setCell ⟨(w.heap.size + 1 + 1), 1, none⟩ (.slice none 0 0)).setCell ⟨(w.heap.size + 1 + 1), 2, none⟩ (.slice none 0 0)).setCell ⟨(w.heap.size + 1 + 1), 3, none⟩ (.slice none 0 0)).setCell ⟨(w.heap.size + 1 + 1), 4, none⟩ (.int .i64 0)) (w.heap.size + 1 + 1) 5 (.int .i64 0))).trans (chg_set ((((((w3.setCell ⟨(w.heap.size + 1 + 1), 0, none⟩ (.string ⟨#[]⟩)).setCell ⟨(w.heap.size + 1 + 1), 1, none⟩ (.slice none 0 0)).setCell ⟨(w.heap.size + 1 + 1), 2, none⟩ (.slice none 0 0)).setCell ⟨(w.heap.size + 1 + 1), 3, none⟩ (.slice none 0 0)).setCell ⟨(w.heap.size + 1 + 1), 4, none⟩ (.int .i64 0)).setCell ⟨(w.heap.size + 1 + 1), 5, none⟩ (.int .i64 0)) (w.heap.size + 1 + 1) 6 (.int .i64 0))).trans (chg_set (((((((w3.setCell ⟨(w.heap.size + 1 + 1), 0, none⟩ (.string ⟨#[]⟩)).setCell ⟨(w.heap.size + 1 + 1), 1, none⟩ (.slice none 0 0)).setCell ⟨(w.heap.size + 1 + 1), 2, none⟩ (.slice none 0 0)).setCell ⟨(w.heap.size + 1 + 1), 3, none⟩ (.slice none 0 0)).setCell ⟨(w.heap.size + 1 + 1), 4, none⟩ (.int .i64 0)).setCell ⟨(w.heap.size + 1 + 1), 5, none⟩ (.int .i64 0)).setCell ⟨(w.heap.size + 1 + 1), 6, none⟩ (.int .i64 0)) (w.heap.size + 1 + 1) 7 (.int .i64 0))).trans (chg_set ((((((((w3.setCell ⟨(w.heap.size + 1 + 1), 0, none⟩ (.string ⟨#[]⟩)).setCell ⟨(w.heap.size + 1 + 1), 1, none⟩ (.slice none 0 0)).setCell ⟨(w.heap.size + 1 + 1), 2, none⟩ (.slice none 0 0)).setCell ⟨(w.heap.size + 1 + 1), 3, none⟩ (.slice none 0 0)).setCell ⟨(w.heap.size + 1 + 1), 4, none⟩ (.int .i64 0)).setCell ⟨(w.heap.size + 1 + 1), 5, none⟩ (.int .i64 0)).setCell ⟨(w.heap.size + 1 + 1), 6, none⟩ (.int .i64 0)).setCell ⟨(w.heap.size + 1 + 1), 7, none⟩ (.int .i64 0)) (w.heap.size + 1 + 1) 8 (.slice none 0 0))).trans (chg_set (((((((((w3.setCell ⟨(w.heap.size + 1 + 1), 0, none⟩ (.string ⟨#[]⟩)).setCell ⟨(w.heap.size + 1 + 1), 1, none⟩ (.slice none 0 0)).setCell ⟨(w.heap.size + 1 + 1), 2, none⟩ (.slice none 0 0)).setCell ⟨(w.heap.size + 1 + 1), 3, none⟩ (.slice none 0 0)).setCell ⟨(w.heap.size + 1 + 1), 4, none⟩ (.int .i64 0)).setCell ⟨(w.heap.size + 1 + 1), 5, none⟩ (.int .i64 0)).setCell ⟨(w.heap.size + 1 + 1), 6, none⟩ (.int .i64 0)).setCell ⟨(w.heap.size + 1 + 1), 7, none⟩ (.int .i64 0)).setCell ⟨(w.heap.size + 1 + 1), 8, none⟩ (.slice none 0 0)) (w.heap.size + 1 + 1) 9 (.slice none 0 0)))
    have sy : w3.heap.size ≤ y.heap.size := hc.size
    rw [hy]
    clear hy
    obtain ⟨yc0, yc1, yc2, yc3, yc4, yc5, yc6, yc7, yc8, yc9⟩ := ry.ten
    refine bodyPost_ret (v := .tuple #[.agg #[.string ⟨#[]⟩, .slice none 0 0, .slice none 0 0, .slice none 0 0, .int .i64 0, .int .i64 0, .int .i64 0, .int .i64 0, .slice none 0 0, .slice none 0 0], .bool false]) (by simp [results, Try.results41, go_sem, yc0, yc1, yc2, yc3, yc4, yc5, yc6, yc7, yc8, yc9]) rfl ?_
    exact ⟨_, by first | rw [HB.out] | rfl, by rw [newX_no HB.out]; exact (zeroX_own _ w.heap.size).wide (Nat.le_refl _) (by omega), T3.out.trans (hc.below (by omega) |>.mono (by omega))⟩
  have HB := Lib.hid hmb
  clear hmb
  go_enter Try.func41, Try.ntmps41
  go_wp2_with fail
  rw [HA.out]
  refine (implFill_any lo hi _ f E w0 F0.out (by omega) hs).mono ?_
  rintro e w1 ⟨u, hs', rfl, hO, hb⟩
  rw [HOk.out]
  obtain ⟨N, ne, rfl, hq1, hq2, -⟩ := hO.form
  obtain ⟨nq, hnq⟩ : ∃ x, (fillL f E).length = x := ⟨_, rfl⟩
  rw [hnq] at hO hq1 ⊢
  have Hnq := Lib.hid hnq
  clear hnq
  clear kc0 kc1 kc2 qc0 qc1 qc2
  have K1 := Lib.hid (K0.out.below hb (by omega))
  have Q1 := Lib.hid (Q0.out.below hb (by omega))
  have R1 := Lib.hid (R0.out.below hb (by omega))
  have T1 := Lib.hid (T0.out.trans (hb.mono (by omega)))
  have s1 : w0.heap.size ≤ w1.heap.size := hb.size
  have z1 : w.heap.size + 3 ≤ w1.heap.size := by omega
  have F1 := Lib.hid (F0.out.below (by omega) hb)
  clear hb
  have N1 := Lib.hid hO
  clear hO
  obtain ⟨kc0, kc1, kc2⟩ := blk3 K1.out
  obtain ⟨qc0, qc1, qc2⟩ := blk3 Q1.out
  go_wp2_with fail
  obtain ⟨w2, hw, hb, hz, hJ⟩ := mxWorld w1 #[.string s, .slice A n c, .slice A2 m d, .slice N nq ne, .int .i64 sp, .int .i64 W, .int .i64 t, .int .i64 k, .slice none 0 0, .slice none 0 0] 61
  rw [hw]
  have yJ : w1.heap.size < w2.heap.size := hJ.lt
  clear hw hz
  clear kc0 kc1 kc2 qc0 qc1 qc2
  have K2 := Lib.hid (K1.out.below hb (by omega))
  have Q2 := Lib.hid (Q1.out.below hb (by omega))
  have R2 := Lib.hid (R1.out.below hb (by omega))
  have T2 := Lib.hid (T1.out.trans (hb.mono (by omega)))
  have s2 : w1.heap.size ≤ w2.heap.size := hb.size
  have z2 : w.heap.size + 3 ≤ w2.heap.size := by omega
  have F2 := Lib.hid (F1.out.below (by omega) hb)
  have N2 := Lib.hid (N1.out.below hb)
  clear hb
  have J2 := Lib.hid hJ
  clear hJ
  obtain ⟨jc0, jc1, jc2, jc3, jc4, jc5, jc6, jc7, jc8, jc9⟩ := J2.out.ten
  have V2 : Hid (MchV w2 0 w2.heap.size (.agg #[.string s, .slice A n c, .slice A2 m d, .slice N nq ne, .int .i64 sp, .int .i64 W, .int .i64 t, .int .i64 k, .slice none 0 0, .slice none 0 0]) (rawX f E sp W t k)) := by
    show MchV _ _ _ _ _
    have hf2 := F2.out
    obtain ⟨A', c', A2', d', hv', e1, e2, rest⟩ := hf2
    refine ⟨A, c, A2, d, N, ne, none, 0, none, 0, by unfold mwords rawX; simp only; rw [HFs.out.1, HFs.out.2.1, HFs.out.2.2, Hnq.out]; rfl, ?_⟩
    refine ⟨?_, N2.out.reads.wide (Nat.zero_le _) (by omega), MatsI.nil _ _ _ _, MatsI.nil _ _ _ _, by show (fillL f E).length ≤ ne; rw [Hnq.out]; exact hq1, hq2, Nat.le_refl _, Nat.zero_le _, Nat.le_refl _, Nat.zero_le _⟩
    show FontV w2 0 w2.heap.size (.agg #[.string f.s, .slice A f.ws.length c, .slice A2 f.cs.length d]) f
    rw [HFs.out.1, HFs.out.2.1, HFs.out.2.2]
    exact ⟨A', c', A2', d', hv', e1.wide (Nat.zero_le _) (by omega), e2.wide (Nat.zero_le _) (by omega), rest⟩
  refine (implMachine_any 0 w2.heap.size _ _ w2 V2.out (Nat.le_refl _) HSX.out HWX.out).mono ?_
  rintro e w3 ⟨rfl, hb⟩
  rw [show machB (rawX f E sp W t k) = newB f E sp W t k from rfl, HB.out]
  clear jc0 jc1 jc2 jc3 jc4 jc5 jc6 jc7 jc8 jc9
  have K3 := Lib.hid (K2.out.below hb (by omega))
  have Q3 := Lib.hid (Q2.out.below hb (by omega))
  have R3 := Lib.hid (R2.out.below hb (by omega))
  have T3 := Lib.hid (T2.out.trans (hb.mono (by omega)))
  have s3 : w2.heap.size ≤ w3.heap.size := hb.size
  have z3 : w.heap.size + 3 ≤ w3.heap.size := by omega
  have N3 := Lib.hid (N2.out.below hb)
  have J3 := Lib.hid (J2.out.below hb (by omega))
  have V3 := Lib.hid (V2.out.below (by omega) hb)
  clear hb
  obtain ⟨jc0, jc1, jc2, jc3, jc4, jc5, jc6, jc7, jc8, jc9⟩ := J3.out.ten
  have V3x : Hid (MchV w3 0 w3.heap.size (.agg #[.string s, .slice A n c, .slice A2 m d, .slice N nq ne, .int .i64 sp, .int .i64 W, .int .i64 t, .int .i64 k, .slice none 0 0, .slice none 0 0]) (rawX f E sp W t k)) := by
    show MchV _ _ _ _ _
    obtain ⟨a1, a2, a3, a4, a5, a6, a7, a8, a9, a10, hv', hp⟩ := V3.out
    exact ⟨a1, a2, a3, a4, a5, a6, a7, a8, a9, a10, hv', hp.wide (by omega)⟩
  go_wp2_with fail
  refine (withMag_any 0 w3.heap.size _ _ w0.heap.size _ _ _ _ _ hs' (fillL f E) w3 V3x.out (Nat.le_refl _) HSX.out N3.out (by omega) (Nat.le_refl _) (by omega)).mono ?_
  rintro e w4 ⟨u, rfl, hX, hb⟩
  obtain ⟨sz, Az, nz, cz, Bz, mz, dz, Mz, qz, ez, spz, Wz, tz, kz, Lz, lz, fz, Tz, rz, gz, rfl⟩ := hX.reads.form
  clear jc0 jc1 jc2 jc3 jc4 jc5 jc6 jc7 jc8 jc9
  have K4 := Lib.hid (K3.out.below hb (by omega))
  have Q4 := Lib.hid (Q3.out.below hb (by omega))
  have R4 := Lib.hid (R3.out.below hb (by omega))
  have T4 := Lib.hid (T3.out.trans (hb.mono (by omega)))
  have s4 : w3.heap.size ≤ w4.heap.size := hb.size
  have z4 : w.heap.size + 3 ≤ w4.heap.size := by omega
  clear hb
  obtain ⟨rc0, rc1, rc2, rc3, rc4, rc5, rc6, rc7, rc8, rc9⟩ := R4.out.ten
  have fr := R4.out.warm
  go_wp2
  clear rc0 rc1 rc2 rc3 rc4 rc5 rc6 rc7 rc8 rc9 fr
  obtain ⟨y, hy⟩ : ∃ x, ((((((((((w4.setCell ⟨(w.heap.size + 1 + 1), 0, none⟩ (.string sz)).setCell ⟨(w.heap.size + 1 + 1), 1, none⟩ (.slice Az nz cz)).setCell ⟨(w.heap.size + 1 + 1), 2, none⟩ (.slice Bz mz dz)).setCell ⟨(w.heap.size + 1 + 1), 3, none⟩ (.slice Mz qz ez)).setCell ⟨(w.heap.size + 1 + 1), 4, none⟩ (.int .i64 spz)).setCell ⟨(w.heap.size + 1 + 1), 5, none⟩ (.int .i64 Wz)).setCell ⟨(w.heap.size + 1 + 1), 6, none⟩ (.int .i64 tz)).setCell ⟨(w.heap.size + 1 + 1), 7, none⟩ (.int .i64 kz)).setCell ⟨(w.heap.size + 1 + 1), 8, none⟩ (.slice Lz lz fz)).setCell ⟨(w.heap.size + 1 + 1), 9, none⟩ (.slice Tz rz gz)) = x := ⟨_, rfl⟩
  have ry : Blk y (w.heap.size + 1 + 1) #[.string sz, .slice Az nz cz, .slice Bz mz dz, .slice Mz qz ez, .int .i64 spz, .int .i64 Wz, .int .i64 tz, .int .i64 kz, .slice Lz lz fz, .slice Tz rz gz] 61 := by rw [← hy]; exact Blk.fill R4.out (.string sz) (.slice Az nz cz) (.slice Bz mz dz) (.slice Mz qz ez) (.int .i64 spz) (.int .i64 Wz) (.int .i64 tz) (.int .i64 kz) (.slice Lz lz fz) (.slice Tz rz gz)
  have hc : Chg (w.heap.size + 1 + 1) (w.heap.size + 1 + 1 + 1) w4 y := by rw [← hy]; exact (((((((((((Chg.refl (w.heap.size + 1 + 1) (w.heap.size + 1 + 1 + 1) w4).trans (chg_set w4 (w.heap.size + 1 + 1) 0 (.string sz))).trans (chg_set (w4.setCell ⟨(w.heap.size + 1 + 1), 0, none⟩ (.string sz)) (w.heap.size + 1 + 1) 1 (.slice Az nz cz))).trans (chg_set ((w4.setCell ⟨(w.heap.size + 1 + 1), 0, none⟩ (.string sz)).setCell ⟨(w.heap.size + 1 + 1), 1, none⟩ (.slice Az nz cz)) (w.heap.size + 1 + 1) 2 (.slice Bz mz dz))).trans (chg_set (((w4.setCell ⟨(w.heap.size + 1 + 1), 0, none⟩ (.string sz)).setCell ⟨(w.heap.size + 1 + 1), 1, none⟩ (.slice Az nz cz)).setCell ⟨(w.heap.size + 1 + 1), 2, none⟩ (.slice Bz mz dz)) (w.heap.size + 1 + 1) 3 (.slice Mz qz ez))).trans (chg_set ((((w4.setCell ⟨(w.heap.size + 1 + 1), 0, none⟩ (.string sz)).setCell ⟨(w.heap.size + 1 + 1), 1, none⟩ (.slice Az nz cz)).setCell ⟨(w.heap.size + 1 + 1), 2, none⟩ (.slice Bz mz dz)).setCell ⟨(w.heap.size + 1 + 1), 3, none⟩ (.slice Mz qz ez)) (w.heap.size + 1 + 1) 4 (.int .i64 spz))).trans (chg_set (((((w4.setCell ⟨(w.heap.size + 1 + 1), 0, none⟩ (.string sz)).setCell ⟨(w.heap.size + 1 + 1), 1, none⟩ (.slice Az nz cz)).setCell ⟨(w.heap.size + 1 + 1), 2, none⟩ (.slice Bz mz dz)).setCell ⟨(w.heap.size + 1 + 1), 3, none⟩ (.slice Mz qz ez)).setCell ⟨(w.heap.size + 1 + 1), 4, none⟩ (.int .i64 spz)) (w.heap.size + 1 + 1) 5 (.int .i64 Wz))).trans (chg_set ((((((w4.setCell ⟨(w.heap.size + 1 + 1), 0, none⟩ (.string sz)).setCell ⟨(w.heap.size + 1 + 1), 1, none⟩ (.slice Az nz cz)).setCell ⟨(w.heap.size + 1 + 1), 2, none⟩ (.slice Bz mz dz)).setCell ⟨(w.heap.size + 1 + 1), 3, none⟩ (.slice Mz qz ez)).setCell ⟨(w.heap.size + 1 + 1), 4, none⟩ (.int .i64 spz)).setCell ⟨(w.heap.size + 1 + 1), 5, none⟩ (.int .i64 Wz)) (w.heap.size + 1 + 1) 6 (.int .i64 tz))).trans (chg_set (((((((w4.setCell ⟨(w.heap.size + 1 + 1), 0, none⟩ (.string sz)).setCell ⟨(w.heap.size + 1 + 1), 1, none⟩ (.slice Az nz cz)).setCell ⟨(w.heap.size + 1 + 1), 2, none⟩ (.slice Bz mz dz)).setCell ⟨(w.heap.size + 1 + 1), 3, none⟩ (.slice Mz qz ez)).setCell ⟨(w.heap.size + 1 + 1), 4, none⟩ (.int .i64 spz)).setCell ⟨(w.heap.size + 1 + 1), 5, none⟩ (.int .i64 Wz)).setCell ⟨(w.heap.size + 1 + 1), 6, none⟩ (.int .i64 tz)) (w.heap.size + 1 + 1) 7 (.int .i64 kz))).trans (chg_set ((((((((w4.setCell ⟨(w.heap.size + 1 + 1), 0, none⟩ (.string sz)).setCell ⟨(w.heap.size + 1 + 1), 1, none⟩ (.slice Az nz cz)).setCell ⟨(w.heap.size + 1 + 1), 2, none⟩ (.slice Bz mz dz)).setCell ⟨(w.heap.size + 1 + 1), 3, none⟩ (.slice Mz qz ez)).setCell ⟨(w.heap.size + 1 + 1), 4, none⟩ (.int .i64 spz)).setCell ⟨(w.heap.size + 1 + 1), 5, none⟩ (.int .i64 Wz)).setCell ⟨(w.heap.size + 1 + 1), 6, none⟩ (.int .i64 tz)).setCell ⟨(w.heap.size + 1 + 1), 7, none⟩ (.int .i64 kz)) (w.heap.size + 1 + 1) 8 (.slice Lz lz fz))).trans (chg_set (((((((((w4.setCell ⟨(w.heap.size + 1 + 1), 0, none⟩ (.string sz)).setCell ⟨(w.heap.size + 1 + 1), 1, none⟩ (.slice Az nz cz)).setCell ⟨(w.heap.size + 1 + 1), 2, none⟩ (.slice Bz mz dz)).setCell ⟨(w.heap.size + 1 + 1), 3, none⟩ (.slice Mz qz ez)).setCell ⟨(w.heap.size + 1 + 1), 4, none⟩ (.int .i64 spz)).setCell ⟨(w.heap.size + 1 + 1), 5, none⟩ (.int .i64 Wz)).setCell ⟨(w.heap.size + 1 + 1), 6, none⟩ (.int .i64 tz)).setCell ⟨(w.heap.size + 1 + 1), 7, none⟩ (.int .i64 kz)).setCell ⟨(w.heap.size + 1 + 1), 8, none⟩ (.slice Lz lz fz)) (w.heap.size + 1 + 1) 9 (.slice Tz rz gz)))
  have sy : w4.heap.size ≤ y.heap.size := hc.size
  rw [hy]
  clear hy
  obtain ⟨yc0, yc1, yc2, yc3, yc4, yc5, yc6, yc7, yc8, yc9⟩ := ry.ten
  refine bodyPost_ret (v := .tuple #[.agg #[.string sz, .slice Az nz cz, .slice Bz mz dz, .slice Mz qz ez, .int .i64 spz, .int .i64 Wz, .int .i64 tz, .int .i64 kz, .slice Lz lz fz, .slice Tz rz gz], .bool true]) (by simp [results, Try.results41, go_sem, yc0, yc1, yc2, yc3, yc4, yc5, yc6, yc7, yc8, yc9]) rfl ?_
  exact ⟨_, by first | rw [HB.out] | rfl, by rw [newX_yes HB.out]; exact (hX.chg hc (by unfold Off; omega)).wide (by omega) hc.size, T4.out.trans (hc.below (by omega) |>.mono (by omega))⟩
end Go.Proofs.Ythoepelgmplcmaa
