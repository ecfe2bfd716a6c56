/-
  FnGreedy: its walk. No condition.
-/
import Derived.Test.YtddkedinkgnboaaDrawX
import Derived.Test.YtddkedinkgnboaaGrd
import Derived.Test.YtddkedinkgnboaaGrdS
import Derived.Test.YtddkedinkgnboaaPkC
import Derived.Test.YtddkedinkgnboaaIdxI
namespace Go.Proofs.Ytddkedinkgnboaa
open Go.RowKit
set_option linter.unusedVariables false

theorem grdA_idx {m : Msr} {zs ls : List Int} (h : grdA m zs = some ls) : 0 < cntA m zs ∧ idxA m zs ls = cntA m zs - 1 ∧ ls.length ≤ 1048576 ∧ cntA m zs ≤ 1099511627776 := by
  have hl := grdA_len m zs
  rw [h] at hl
  unfold grdA at h
  split at h
  · rename_i ho
    obtain ⟨-, -, h40⟩ := textB_parts (okW_parts ho).2
    have h1 := grdF_brk h40 _ 0 ls (Nat.zero_le _) h
    have h2 := idxF_bound h40 ls 0 (Nat.zero_le _) h1.1
    have h3 := wayF_range (m := m) h40 (Nat.zero_le zs.length)
    unfold cntA idxA isBrk
    rw [ho, h1.1]
    simp only [Bool.and_self, if_true]
    exact ⟨by omega, h1.2, hl, h3.2⟩
  · cases h

set_option maxRecDepth 100000 in
set_option maxHeartbeats 3200000 in
theorem fnGreedy_walk (A : Option Addr) (n c : Nat) (bs : List Int) (w : World) (hn : bs.length = n) (hm : n ≤ maxLen) (h : Bytes w A bs) (wf : ∀ z ∈ bs, (Lit.int .u8 z).wf = true) :
    Calls Try.prog 5 #[.slice A n c] w fun e w' => e = .returned (.bool true) ∧ Below w.heap.size w w' := by
  have H := Lib.hid h; have Hn := Lib.hid hn; have Hwf := Lib.hid wf
  clear h hn wf
  have hm0 := hm
  unfold maxLen at hm
  by_cases hbig : 1048576 < n
  · go_enter Try.func5, Try.ntmps5
    go_wp2
    go_ret
    exact ⟨rfl, Below.refl _ _⟩
  go_enter Try.func5, Try.ntmps5
  go_wp2_with fail
  refine (drawGreedy_any _ _ _ bs _ Hn.out hm0 H.out Hwf.out).mono ?_
  rintro e w1 ⟨W, t, k, Aw, m, c1, zs, rfl, hl, hm1, hmc, hcm, hO1, hb1⟩
  have I1 := Lib.hid (IntsB.of (own_intsA hO1)); have Hl := Lib.hid hl; have T1 := Lib.hid hb1
  have z1 := hb1.size
  have Hmc := Lib.hid hmc; have Hcm := Lib.hid hcm
  clear hO1 hl hb1 hcm
  obtain ⟨wa, hwa⟩ : ∃ wa, w1.alloc (.cells #[.int .i64 W, .int .i64 t, .int .i64 k] 24) = wa := ⟨_, rfl⟩
  have hb2 : Below w1.heap.size w1 wa := by rw [← hwa]; exact below_new _ _
  have Pa : Hid (wa.cell? ⟨w1.heap.size, 0, none⟩ = some (.int .i64 W) ∧ wa.cell? ⟨w1.heap.size, 1, none⟩ = some (.int .i64 t) ∧ wa.cell? ⟨w1.heap.size, 2, none⟩ = some (.int .i64 k)) := by show _ ∧ _; rw [← hwa]; exact lay3 w1 _ _ _ _
  have za : w1.heap.size < wa.heap.size := by rw [← hwa]; simp
  have Ia := Lib.hid (I1.out.keep (Nat.le_refl _) hb2); have Ta := Lib.hid (T1.out.trans (hb2.mono z1))
  clear hb2 I1 T1
  obtain ⟨p0, p1, p2⟩ := Pa.out
  cases hg : grdA ⟨W, t, k⟩ zs with
  | none =>
    have HG := Lib.hid hg
    clear hg
    go_wp2_with (first
      | (go_at_call 24; clear hwa; refine (implGreedy_any W t k Aw m c1 zs wa Hl.out Hmc.out Hcm.out Ia.out.ints).mono ?_; rintro e wb ⟨v, rfl, hO, hb⟩; rw [HG.out]; have Pb := Lib.hid (hold3 hb za Pa.out); have Ib := Lib.hid (Ia.out.keep (by omega) hb); have Tb := Lib.hid (Ta.out.trans (hb.mono (B' := w.heap.size) (by omega))); have zb : w1.heap.size < wb.heap.size := (Nat.lt_of_lt_of_le za hb.size); clear hO hb p0 p1 p2; obtain ⟨p0, p1, p2⟩ := Pb.out)
      | (go_at_call 15; refine (implCntB_any W t k Aw m c1 zs wb Hl.out Hmc.out Hcm.out Ib.out.ints).mono ?_; rintro e wc ⟨rfl, hb⟩; have Pc := Lib.hid (hold3 hb zb Pb.out); have Ic := Lib.hid (Ib.out.keep (by omega) hb); have Tc := Lib.hid (Tb.out.trans (hb.mono (B' := w.heap.size) (by omega))); have zc : w1.heap.size < wc.heap.size := (Nat.lt_of_lt_of_le zb hb.size); clear hb p0 p1 p2; obtain ⟨p0, p1, p2⟩ := Pc.out)
      | (go_at_call 25; refine (specGreedy_any W t k Aw m c1 zs wc Hl.out Hmc.out Hcm.out Ic.out.ints).mono ?_; rintro e wd ⟨v2, rfl, hO, hb⟩; rw [HG.out]; have Td := Lib.hid (Tc.out.trans (hb.mono (B' := w.heap.size) (by omega))); clear hO hb p0 p1 p2))
    go_ret
    exact ⟨rfl, Td.out⟩
  | some ls =>
    have hgi := grdA_idx hg
    have HG := Lib.hid hg
    have hq : ls.length ≤ maxLen := by unfold maxLen; omega
    have HQ := Lib.hid hq
    obtain ⟨C, hC⟩ : ∃ C, cntA ⟨W, t, k⟩ zs = C := ⟨_, rfl⟩
    rw [hC] at hgi
    have HC := Lib.hid hC
    have HI := Lib.hid hgi.2.1
    have e1 : IntKind.i64.wrap (C - 1) = C - 1 := by rw [IntKind.wrap_i64]; omega
    have hpos : decide (0 < C) = true := decide_eq_true hgi.1
    clear hg hgi hC hq
    go_wp2_with (first
      | (go_at_call 24; clear hwa; refine (implGreedy_any W t k Aw m c1 zs wa Hl.out Hmc.out Hcm.out Ia.out.ints).mono ?_; rintro e wb ⟨v, rfl, hO, hb⟩; rw [HG.out] at hO ⊢; obtain ⟨A9, c9, rfl, hI9, _⟩ := hO.form; have Pb := Lib.hid (hold3 hb za Pa.out); have Ib := Lib.hid (Ia.out.keep (by omega) hb); have Lb := Lib.hid hI9; have Tb := Lib.hid (Ta.out.trans (hb.mono (B' := w.heap.size) (by omega))); have zb : w1.heap.size < wb.heap.size := (Nat.lt_of_lt_of_le za hb.size); clear hO hI9 hb p0 p1 p2; obtain ⟨p0, p1, p2⟩ := Pb.out)
      | (go_at_call 15; refine (implCntB_any W t k Aw m c1 zs wb Hl.out Hmc.out Hcm.out Ib.out.ints).mono ?_; rintro e wc ⟨rfl, hb⟩; rw [HC.out]; have Pc := Lib.hid (hold3 hb zb Pb.out); have Ic := Lib.hid (Ib.out.keep (by omega) hb); have Lc := Lib.hid (Lb.out.below hb); have Tc := Lib.hid (Tb.out.trans (hb.mono (B' := w.heap.size) (by omega))); have zc : w1.heap.size < wc.heap.size := (Nat.lt_of_lt_of_le zb hb.size); clear hb p0 p1 p2; obtain ⟨p0, p1, p2⟩ := Pc.out)
      | (go_at_call 20; refine (implIndex_any W t k Aw m c1 zs _ _ _ ls wc Hl.out Hmc.out Hcm.out Ic.out.ints rfl HQ.out Lc.out).mono ?_; rintro e wd ⟨he, hb⟩; rw [HI.out] at he; subst he; have Td := Lib.hid (Tc.out.trans (hb.mono (B' := w.heap.size) (by omega))); clear hb p0 p1 p2))
    go_ret
    exact ⟨ret_bool (by simp), Td.out⟩
end Go.Proofs.Ytddkedinkgnboaa
