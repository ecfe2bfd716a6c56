/-
  IsBreaking and CostOf of the program by contract. Conditions: lengths and capacities within the reach of a slice.
-/
import Derived.Test.YtddkedinkgnboaaBrkI
namespace Go.Proofs.Ytddkedinkgnboaa
open Go.RowKit
set_option linter.unusedVariables false

set_option maxRecDepth 100000 in
set_option maxHeartbeats 3200000 in
theorem implIsBreaking_any (W t k : Int) (A : Option Addr) (n c : Nat) (zs : List Int) (Al : Option Addr) (q d : Nat) (ls : List Int) (w : World) (hn : zs.length = n) (hc : n ≤ c) (hcm : c ≤ maxLen) (h : Ints w A zs) (hq : ls.length = q) (hqm : q ≤ maxLen) (hl : Ints w Al ls) :
    Calls Try.prog 19 #[.agg #[.int .i64 W, .int .i64 t, .int .i64 k], .slice A n c, .slice Al q d] w fun e w' => e = .returned (.bool (isBrk ⟨W, t, k⟩ zs ls)) ∧ Below w.heap.size w w' := by
  have C := fun (w : World) (hI : Ints w A zs) => stOk_any W t k A n c zs w hn (by omega) hI
  have D := fun (ad : Addr) (a b : Nat) (w : World) (hI : Ints w (some ad) zs) (hm : msrB ⟨W, t, k⟩ = true) (ht : textB zs = true) (hab : a < b) (hb : b ≤ n) => stLine_any W t k ad n c zs a b w hn hc hcm hI hm ht hab hb
  obtain ⟨w0, hw0, hb0, hz0, P⟩ := msStWorld w W t k (.slice A n c)
  have T0 := Lib.hid hb0; have P0 := Lib.hid P; have Z0 := Lib.hid hz0
  have I0 := Lib.hid (h.below hb0); have L0 := Lib.hid (hl.below hb0)
  have CC := Lib.hid C; have DD := Lib.hid D; have Hn := Lib.hid hn; have Hq := Lib.hid hq
  obtain ⟨p0, p1, p2, p3⟩ := P
  obtain ⟨q0, q1, q2⟩ := lay3 w (.int .i64 W) (.int .i64 t) (.int .i64 k) 24
  clear hb0 hz0 hn h C D hc hcm hq hl
  unfold maxLen at hqm
  cases ho : (msrB ⟨W, t, k⟩ && textB zs)
  · have HR : Hid (isBrk ⟨W, t, k⟩ zs ls = false) := by show _ = _; unfold isBrk; rw [okW_no ho]; rfl
    go_enter Try.func19, Try.ntmps19
    go_wp2_with fail
    clear hw0
    refine (CC.out _ I0.out).mono ?_
    rintro e w1 ⟨he, hb1⟩
    rw [ho] at he; subst he
    have T1 := Lib.hid (T0.out.trans (hb1.mono (B' := w.heap.size) (by have := Z0.out; omega)))
    clear hb1 p0 p1 p2 p3 ho q0 q1 q2
    go_wp2
    go_ret
    exact ⟨ret_bool HR.out.symm, T1.out⟩
  have hq := ho
  rw [Bool.and_eq_true] at hq
  have HM := Lib.hid hq
  obtain ⟨_, hl1, hl2⟩ := textB_parts hq.2
  rw [Hn.out] at hl1 hl2
  have hA := ints_some I0.out (by rw [Hn.out]; exact hl1)
  clear hq
  obtain ⟨ad, rfl⟩ := hA
  have DD2 := Lib.hid (fun a b w h hab hb => DD.out ad a b w h HM.out.1 HM.out.2 hab hb)
  have HR : Hid (isBrk ⟨W, t, k⟩ zs ls = brkF ⟨W, t, k⟩ zs 0 ls) := by show _ = _; unfold isBrk okW; rw [ho]; rfl
  clear DD
  go_enter Try.func19, Try.ntmps19
  go_wp2_with fail
  clear hw0
  refine (CC.out _ I0.out).mono ?_
  rintro e w1 ⟨he, hb1⟩
  rw [ho] at he; subst he
  have T1 := Lib.hid (T0.out.trans (hb1.mono (B' := w.heap.size) (by have := Z0.out; omega)))
  have I1 := Lib.hid (I0.out.below hb1); have L1 := Lib.hid (L0.out.below hb1)
  have P1 := Lib.hid (St.hold hb1 (by have := Z0.out; omega) P0.out)
  have Z1 : Hid (w.heap.size + 1 < w1.heap.size) := by show _ < _; have := Z0.out; have := hb1.size; omega
  clear p0 p1 p2 p3 ho q0 q1 q2 hb1 T0 I0 L0 P0 Z0 CC
  go_wp2_with fail
  go_loopw [8, 19] (fun f i wr => ∃ j p : Nat, j ≤ q ∧ i = .int .i64 j ∧ f = .int .i64 p ∧ p ≤ n ∧ Hid (brkF ⟨W, t, k⟩ zs 0 ls = brkF ⟨W, t, k⟩ zs p (ls.drop j)) ∧ Below w1.heap.size w1 wr) (fun _ i _ => q - (intOf i).toNat)
  case atStart => exact ⟨0, 0, Nat.zero_le _, rfl, rfl, Nat.zero_le _, rfl, Below.refl _ _⟩
  case round =>
    obtain ⟨j, p, hj, rfl, rfl, hp, HB, hb⟩ := hrel
    have B2 := Lib.hid hb
    have P2 := St.hold hb Z1.out P1.out
    have I2 := Lib.hid (I1.out.below hb)
    have L2 := Lib.hid (L1.out.below hb)
    have T2 := Lib.hid (T1.out.trans (hb.mono (B' := w.heap.size) (by have := Z1.out; omega)))
    have Z2 : Hid (w1.heap.size ≤ wr.heap.size) := hb.size
    clear hb
    obtain ⟨p0, p1, p2, p3⟩ := P2
    by_cases hlt : j < q
    · obtain ⟨al, x, rfl, hx, hcx⟩ := L2.out.at_ (k := j) (by rw [Hq.out]; exact hlt)
      have e1 : IntKind.i64.wrap ((n : Int) - (p : Int)) = (n : Int) - (p : Int) := by rw [IntKind.wrap_i64]; omega
      cases hin : inB x 1 ((n : Int) - (p : Int))
      · have HF : Hid (brkF ⟨W, t, k⟩ zs 0 ls = false) := by show _ = _; rw [HB.out, brkF_at hx.out, Hn.out, hin]; rfl
        go_wp2_with fail
        refine (isFrom_any _ _ _ _).mono ?_
        rintro e w3 ⟨he, rfl⟩
        rw [hin] at he; subst he
        clear hin
        go_wp2
        go_ret
        exact ⟨ret_bool (by rw [HR.out, HF.out]), T2.out⟩
      · have hxr := inB_true hin
        obtain ⟨u, rfl⟩ : ∃ u : Nat, x = (u : Int) := ⟨x.toNat, by omega⟩
        have hu1 : p < p + u := by omega
        have hu2 : p + u ≤ n := by omega
        have HS : Hid (brkF ⟨W, t, k⟩ zs 0 ls = (lineW ⟨W, t, k⟩ zs p (p + u) && brkF ⟨W, t, k⟩ zs (p + u) (ls.drop (j + 1)))) := by show _ = _; rw [HB.out, brkF_at hx.out, Hn.out, hin, Bool.true_and]; rfl
        obtain ⟨r, hr⟩ : ∃ r, p + u = r := ⟨_, rfl⟩
        have hcast : (p : Int) + (u : Int) = (r : Int) := by omega
        have e2 : IntKind.i64.wrap ((p : Int) + (u : Int)) = (r : Int) := by rw [IntKind.wrap_i64]; omega
        have HI := Lib.hid hin
        rw [hr] at HS hu1 hu2
        clear hin hxr hr
        go_wp2_with fail
        refine (isFrom_any _ _ _ _).mono ?_
        rintro e w3 ⟨he, rfl⟩
        rw [HI.out] at he; subst he
        go_wp2_with fail
        clear p0 p1 p2 p3 HI
        refine (DD2.out p r _ I2.out hu1 hu2).mono ?_
        rintro e w4 ⟨rfl, hb4⟩
        have T4 := Lib.hid (T2.out.trans (hb4.mono (B' := w.heap.size) (by have := Z2.out; have := Z1.out; omega)))
        have B4 := Lib.hid (B2.out.trans (hb4.mono (B' := w1.heap.size) Z2.out))
        clear hb4
        cases hw : lineW ⟨W, t, k⟩ zs p r
        · have HF : Hid (brkF ⟨W, t, k⟩ zs 0 ls = false) := by show _ = _; rw [HS.out, hw]; rfl
          go_wp2
          go_ret
          exact ⟨ret_bool (by rw [HR.out, HF.out]), T4.out⟩
        · have HF : Hid (brkF ⟨W, t, k⟩ zs 0 ls = brkF ⟨W, t, k⟩ zs r (ls.drop (j + 1))) := by show _ = _; rw [HS.out, hw, Bool.true_and]
          clear HS HB
          go_wp2
          go_roundw
          case rel => exact ⟨j + 1, r, by omega, by go_num, rfl, hu2, HF, B4.out⟩
          case measure => simp [intOf]; omega
    · have hkn : j = q := by omega
      subst hkn
      rw [brkF_end Hq.out, Hn.out] at HB
      by_cases hpn : p = n
      · subst hpn
        go_wp2
        go_ret
        exact ⟨ret_bool (by rw [HR.out, HB.out]; simp), T2.out⟩
      · have hd : ((p : Int) == (n : Int)) = false := by rw [beq_eq_false_iff_ne]; omega
        have hdx : Hid (decide (p = n) = false) := by show _ = _; exact decide_eq_false hpn
        clear hpn
        go_wp2
        go_ret
        exact ⟨ret_bool (by rw [HR.out, HB.out, hdx.out]), T2.out⟩
end Go.Proofs.Ytddkedinkgnboaa
