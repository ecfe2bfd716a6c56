/-
  DeskOk of model and program by contract. Conditions: sizes of at most 2^20.
-/
import Derived.Test.YtobakeahbgodbaaGreatDsk
namespace Go.Proofs.YtobakeahbgodbaaGreat
open Go.RowKit
set_option linter.unusedVariables false

def dskB (X : Mch) (g : List ByteArray) : Bool := machB X && (decide (g = []) || galB X.f ⟨X.w, X.t, X.k⟩ g)
set_option maxRecDepth 100000 in
set_option maxHeartbeats 3200000 in
theorem specDeskOk_any (lo hi : Nat) (v : Value) (X : Mch) (G : Option Addr) (ng cg : Nat) (gs : List ByteArray) (w : World) (h : MchV w lo hi v X) (hhi : hi ≤ w.heap.size) (hs : SmallX X) (hn : gs.length = ng) (hz : szL gs ≤ 1048576) (hg : Strs w G gs) :
    Calls Tryz.prog 24 #[dvg v (.slice G ng cg)] w fun e w' => e = .returned (.bool (dskB X gs)) ∧ Below w.heap.size w w' := by
  have hv0 := h
  obtain ⟨sa, Aa, na, ca, Ba, ma, da, Ma, qa, ea, La, la, fa, Ta, ra, ga, rfl, hfv, -⟩ := h.parts
  show Calls _ _ #[.agg #[.string sa, .slice Aa na ca, .slice Ba ma da, .slice Ma qa ea, .int .i64 X.sp, .int .i64 X.w, .int .i64 X.t, .int .i64 X.k, .slice La la fa, .slice Ta ra ga, .slice G ng cg]] _ _
  obtain ⟨w0, hA, hb0, hzA, KA⟩ := mxWorld w #[.string sa, .slice Aa na ca, .slice Ba ma da, .slice Ma qa ea, .int .i64 X.sp, .int .i64 X.w, .int .i64 X.t, .int .i64 X.k, .slice La la fa, .slice Ta ra ga, .slice G ng cg] 63
  have K0 := Lib.hid KA; have T0 := Lib.hid hb0; have V0 := Lib.hid (hv0.below hhi hb0); have F0 := Lib.hid (hfv.below hhi hb0); have G0 := Lib.hid (hg.below hb0)
  have Hn := Lib.hid hn; have HS := Lib.hid hs
  have z0 : w.heap.size + 1 ≤ w0.heap.size := by omega
  clear h hv0 hfv hb0 hzA KA hg hn hs
  obtain ⟨kc0, kc1, kc2, kc3, kc4, kc5, kc6, kc7, kc8, kc9, kc10⟩ := K0.out.elev
  cases hm : machB X
  · have HR : Hid (dskB X gs = false) := by show _ = _; unfold dskB; rw [hm]; rfl
    have HM := Lib.hid hm
    clear hm
    go_enter Tryz.func24, Tryz.ntmps24
    go_wp2_with fail
    clear hA
    refine (specMachine_any _ _ _ X w0 V0.out (by omega) HS.out).mono ?_
    rintro e w1 ⟨rfl, hb⟩
    rw [HM.out]
    have T1 := Lib.hid (T0.out.trans (hb.mono (by omega)))
    clear hb kc0 kc1 kc2 kc3 kc4 kc5 kc6 kc7 kc8 kc9 kc10
    go_wp2
    go_ret
    exact ⟨ret_bool HR.out.symm, T1.out⟩
  have HM := Lib.hid hm
  rcases Nat.eq_zero_or_pos ng with hn0 | hnp
  · have hgs : gs = [] := List.eq_nil_of_length_eq_zero (by rw [Hn.out]; exact hn0)
    have HR : Hid (dskB X gs = true) := by show _ = _; unfold dskB; rw [hm, hgs]; rfl
    clear hm hgs
    subst hn0
    go_enter Tryz.func24, Tryz.ntmps24
    go_wp2_with fail
    clear hA
    refine (specMachine_any _ _ _ X w0 V0.out (by omega) HS.out).mono ?_
    rintro e w1 ⟨rfl, hb⟩
    rw [HM.out]
    have T1 := Lib.hid (T0.out.trans (hb.mono (by omega))); have K1 := Lib.hid (K0.out.below hb (by omega))
    clear hb kc0 kc1 kc2 kc3 kc4 kc5 kc6 kc7 kc8 kc9 kc10
    obtain ⟨kc0, kc1, kc2, kc3, kc4, kc5, kc6, kc7, kc8, kc9, kc10⟩ := K1.out.elev
    go_wp2
    go_ret
    exact ⟨ret_bool HR.out.symm, T1.out⟩
  have hgs : gs ≠ [] := fun e => by have h := Hn.out; rw [e] at h; simp at h; omega
  have HR : Hid (dskB X gs = galB X.f ⟨X.w, X.t, X.k⟩ gs) := by show _ = _; unfold dskB; rw [hm, decide_eq_false hgs]; rfl
  have hng : ((ng : Int) == 0) = false := beq_eq_false_iff_ne.2 (by omega)
  clear hm hgs
  go_enter Tryz.func24, Tryz.ntmps24
  go_wp2_with fail
  clear hA
  refine (specMachine_any _ _ _ X w0 V0.out (by omega) HS.out).mono ?_
  rintro e w1 ⟨rfl, hb⟩
  rw [HM.out]
  have T1 := Lib.hid (T0.out.trans (hb.mono (by omega))); have K1 := Lib.hid (K0.out.below hb (by omega)); have F1 := Lib.hid (F0.out.below (by omega) hb); have G1 := Lib.hid (G0.out.below hb)
  have z1 : w.heap.size + 1 ≤ w1.heap.size := by have := hb.size; omega
  clear hb kc0 kc1 kc2 kc3 kc4 kc5 kc6 kc7 kc8 kc9 kc10
  obtain ⟨kc0, kc1, kc2, kc3, kc4, kc5, kc6, kc7, kc8, kc9, kc10⟩ := K1.out.elev
  go_wp2_with fail
  refine (specGalOk_any lo hi _ X.f X.w X.t X.k _ _ _ gs w1 F1.out (by omega) HS.out.1 Hn.out hz G1.out).mono ?_
  rintro e w2 ⟨rfl, hb⟩
  have T2 := Lib.hid (T1.out.trans (hb.mono (by omega)))
  clear hb kc0 kc1 kc2 kc3 kc4 kc5 kc6 kc7 kc8 kc9 kc10
  go_wp2
  go_ret
  exact ⟨ret_bool HR.out.symm, T2.out⟩
set_option maxRecDepth 100000 in
set_option maxHeartbeats 3200000 in
theorem implDeskOk_any (lo hi : Nat) (v : Value) (X : Mch) (G : Option Addr) (ng cg : Nat) (Bg : Nat) (gs : List ByteArray) (w : World) (h : MchV w lo hi v X) (hhi : hi ≤ w.heap.size) (hs : SmallX X) (wf : WfX X) (hn : gs.length = ng) (hz : szL gs ≤ 1048576) (hg : OwnS w Bg (.slice G ng cg) gs) :
    Calls Tryz.prog 26 #[dvg v (.slice G ng cg)] w fun e w' => e = .returned (.bool (dskB X gs)) ∧ Below w.heap.size w w' := by
  have hv0 := h
  obtain ⟨sa, Aa, na, ca, Ba, ma, da, Ma, qa, ea, La, la, fa, Ta, ra, ga, rfl, hfv, -⟩ := h.parts
  show Calls _ _ #[.agg #[.string sa, .slice Aa na ca, .slice Ba ma da, .slice Ma qa ea, .int .i64 X.sp, .int .i64 X.w, .int .i64 X.t, .int .i64 X.k, .slice La la fa, .slice Ta ra ga, .slice G ng cg]] _ _
  obtain ⟨w0, hA, hb0, hzA, KA⟩ := mxWorld w #[.string sa, .slice Aa na ca, .slice Ba ma da, .slice Ma qa ea, .int .i64 X.sp, .int .i64 X.w, .int .i64 X.t, .int .i64 X.k, .slice La la fa, .slice Ta ra ga, .slice G ng cg] 63
  have K0 := Lib.hid KA; have T0 := Lib.hid hb0; have V0 := Lib.hid (hv0.below hhi hb0); have F0 := Lib.hid (hfv.below hhi hb0); have G0 := Lib.hid (hg.below hb0)
  have Hn := Lib.hid hn; have HS := Lib.hid hs; have HWf := Lib.hid wf
  have z0 : w.heap.size + 1 ≤ w0.heap.size := by omega
  clear h hv0 hfv hb0 hzA KA hg hn hs wf
  obtain ⟨kc0, kc1, kc2, kc3, kc4, kc5, kc6, kc7, kc8, kc9, kc10⟩ := K0.out.elev
  cases hm : machB X
  · have HR : Hid (dskB X gs = false) := by show _ = _; unfold dskB; rw [hm]; rfl
    have HM := Lib.hid hm
    clear hm
    go_enter Tryz.func26, Tryz.ntmps26
    go_wp2_with fail
    clear hA
    refine (implMachine_any _ _ _ X w0 V0.out (by omega) HS.out HWf.out).mono ?_
    rintro e w1 ⟨rfl, hb⟩
    rw [HM.out]
    have T1 := Lib.hid (T0.out.trans (hb.mono (by omega)))
    clear hb kc0 kc1 kc2 kc3 kc4 kc5 kc6 kc7 kc8 kc9 kc10
    go_wp2
    go_ret
    exact ⟨ret_bool HR.out.symm, T1.out⟩
  have HM := Lib.hid hm
  rcases Nat.eq_zero_or_pos ng with hn0 | hnp
  · have hgs : gs = [] := List.eq_nil_of_length_eq_zero (by rw [Hn.out]; exact hn0)
    have HR : Hid (dskB X gs = true) := by show _ = _; unfold dskB; rw [hm, hgs]; rfl
    clear hm hgs
    subst hn0
    go_enter Tryz.func26, Tryz.ntmps26
    go_wp2_with fail
    clear hA
    refine (implMachine_any _ _ _ X w0 V0.out (by omega) HS.out HWf.out).mono ?_
    rintro e w1 ⟨rfl, hb⟩
    rw [HM.out]
    have T1 := Lib.hid (T0.out.trans (hb.mono (by omega))); have K1 := Lib.hid (K0.out.below hb (by omega))
    clear hb kc0 kc1 kc2 kc3 kc4 kc5 kc6 kc7 kc8 kc9 kc10
    obtain ⟨kc0, kc1, kc2, kc3, kc4, kc5, kc6, kc7, kc8, kc9, kc10⟩ := K1.out.elev
    go_wp2
    go_ret
    exact ⟨ret_bool HR.out.symm, T1.out⟩
  have hgs : gs ≠ [] := fun e => by have h := Hn.out; rw [e] at h; simp at h; omega
  have HR : Hid (dskB X gs = galB X.f ⟨X.w, X.t, X.k⟩ gs) := by show _ = _; unfold dskB; rw [hm, decide_eq_false hgs]; rfl
  have hng : ((ng : Int) == 0) = false := beq_eq_false_iff_ne.2 (by omega)
  clear hm hgs
  go_enter Tryz.func26, Tryz.ntmps26
  go_wp2_with fail
  clear hA
  refine (implMachine_any _ _ _ X w0 V0.out (by omega) HS.out HWf.out).mono ?_
  rintro e w1 ⟨rfl, hb⟩
  rw [HM.out]
  have T1 := Lib.hid (T0.out.trans (hb.mono (by omega))); have K1 := Lib.hid (K0.out.below hb (by omega)); have F1 := Lib.hid (F0.out.below (by omega) hb); have G1 := Lib.hid (G0.out.below hb)
  have z1 : w.heap.size + 1 ≤ w1.heap.size := by have := hb.size; omega
  clear hb kc0 kc1 kc2 kc3 kc4 kc5 kc6 kc7 kc8 kc9 kc10
  obtain ⟨kc0, kc1, kc2, kc3, kc4, kc5, kc6, kc7, kc8, kc9, kc10⟩ := K1.out.elev
  go_wp2_with fail
  refine (implGalOk_any lo hi _ _ X.f X.w X.t X.k _ _ _ gs w1 F1.out (by omega) HS.out.1 Hn.out hz G1.out).mono ?_
  rintro e w2 ⟨rfl, hb⟩
  have T2 := Lib.hid (T1.out.trans (hb.mono (by omega)))
  clear hb kc0 kc1 kc2 kc3 kc4 kc5 kc6 kc7 kc8 kc9 kc10
  go_wp2
  go_ret
  exact ⟨ret_bool HR.out.symm, T2.out⟩
end Go.Proofs.YtobakeahbgodbaaGreat
