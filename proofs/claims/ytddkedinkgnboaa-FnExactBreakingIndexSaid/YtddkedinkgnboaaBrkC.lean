/-
  CostOf of the program by contract. Conditions: lengths and capacities within the reach of a slice.
-/
import Derived.Test.YtddkedinkgnboaaBrkI2
namespace Go.Proofs.Ytddkedinkgnboaa
open Go.RowKit
set_option linter.unusedVariables false

set_option maxRecDepth 100000 in
set_option maxHeartbeats 3200000 in
theorem implCostOf_any (W t k : Int) (A : Option Addr) (n c : Nat) (zs : List Int) (Al : Option Addr) (q d : Nat) (ls : List Int) (w : World) (hn : zs.length = n) (hc : n ≤ c) (hcm : c ≤ maxLen) (h : Ints w A zs) (hq : ls.length = q) (hqm : q ≤ maxLen) (hl : Ints w Al ls) :
    Calls Try.prog 28 #[.agg #[.int .i64 W, .int .i64 t, .int .i64 k], .slice A n c, .slice Al q d] w fun e w' => e = .returned (.int .i64 (costA ⟨W, t, k⟩ zs ls)) ∧ Below w.heap.size w w' := by
  have C := fun (w : World) (hI : Ints w A zs) (hL : Ints w Al ls) => implIsBreaking_any W t k A n c zs Al q d ls w hn hc hcm hI hq hqm hL
  have D := fun (ad : Addr) (a b : Nat) (w : World) (hI : Ints w (some ad) zs) (hm : msrB ⟨W, t, k⟩ = true) (ht : textB zs = true) (hab : a < b) (hb : b ≤ n) => stCost_any W t k ad n c zs a b w hn hc hcm hI hm ht hab hb
  obtain ⟨w0, hw0, hb0, hz0, P⟩ := msWorld w W t k
  have T0 := Lib.hid hb0; have P0 := Lib.hid P; have Z0 := Lib.hid hz0
  have I0 := Lib.hid (h.below hb0); have L0 := Lib.hid (hl.below hb0)
  have CC := Lib.hid C; have DD := Lib.hid D; have Hn := Lib.hid hn; have Hq := Lib.hid hq
  obtain ⟨p0, p1, p2⟩ := P
  clear hb0 hz0 hn h C D hc hcm hq hl
  unfold maxLen at hqm
  cases ho : isBrk ⟨W, t, k⟩ zs ls
  · have HR : Hid (costA ⟨W, t, k⟩ zs ls = -1) := by show _ = _; unfold costA; rw [ho]; rfl
    go_enter Try.func28, Try.ntmps28
    go_wp2_with fail
    clear hw0
    refine (CC.out _ I0.out L0.out).mono ?_
    rintro e w1 ⟨he, hb1⟩
    rw [ho] at he; subst he
    have T1 := Lib.hid (T0.out.trans (hb1.mono (B' := w.heap.size) (by have := Z0.out; omega)))
    clear hb1 p0 p1 p2 ho
    go_wp2
    go_ret
    exact ⟨ret_int HR.out.symm, T1.out⟩
  have HR : Hid (costA ⟨W, t, k⟩ zs ls = costF ⟨W, t, k⟩ zs 0 ls) := by show _ = _; unfold costA; rw [ho]; rfl
  have hq := ho
  unfold isBrk at hq
  rw [Bool.and_eq_true] at hq
  have HO := Lib.hid hq.1
  have HBr := Lib.hid hq.2
  have HM := Lib.hid (okW_parts hq.1)
  obtain ⟨-, hl1, hl2⟩ := textB_parts HM.out.2
  rw [Hn.out] at hl1 hl2
  obtain ⟨ad, rfl⟩ := ints_some I0.out (by rw [Hn.out]; exact hl1)
  clear hq
  have DD2 := Lib.hid (fun a b w h hab hb => DD.out ad a b w h HM.out.1 HM.out.2 hab hb)
  clear DD
  go_enter Try.func28, Try.ntmps28
  go_wp2_with fail
  clear hw0
  refine (CC.out _ I0.out L0.out).mono ?_
  rintro e w1 ⟨he, hb1⟩
  rw [ho] at he; subst he
  have T1 := Lib.hid (T0.out.trans (hb1.mono (B' := w.heap.size) (by have := Z0.out; omega)))
  have I1 := Lib.hid (I0.out.below hb1); have L1 := Lib.hid (L0.out.below hb1)
  have P1 := Lib.hid (hold3 hb1 (by have := Z0.out; omega) P0.out)
  have Z1 : Hid (w.heap.size < w1.heap.size) := by show _ < _; have := Z0.out; have := hb1.size; omega
  clear p0 p1 p2 ho hb1 T0 I0 L0 P0 Z0 CC
  obtain ⟨w2, hw2, hb2, hz2, S2⟩ := stWorld w1 W t k (.slice (some ad) n c)
  have T2 := Lib.hid (T1.out.trans (hb2.mono (B' := w.heap.size) (by have := Z1.out; omega)))
  have I2 := Lib.hid (I1.out.below hb2); have L2 := Lib.hid (L1.out.below hb2)
  have Z2 : Hid (w1.heap.size < w2.heap.size) := by show _ < _; omega
  have S2 := Lib.hid S2
  clear hb2 hz2 T1 I1 L1
  obtain ⟨p0, p1, p2⟩ := P1.out
  go_wp2_with fail
  clear hw2 p0 p1 p2 P1
  go_loopw [8, 9, 22] (fun f s i wr => ∃ (j p : Nat) (a : Int), j ≤ q ∧ i = .int .i64 j ∧ f = .int .i64 p ∧ s = .int .i64 a ∧ p ≤ n ∧ 0 ≤ a ∧ a ≤ 9801 * (p : Int) ∧ Hid (brkF ⟨W, t, k⟩ zs p (ls.drop j) = true ∧ a + costF ⟨W, t, k⟩ zs p (ls.drop j) = costF ⟨W, t, k⟩ zs 0 ls) ∧ Below w2.heap.size w2 wr) (fun _ _ i _ => q - (intOf i).toNat)
  case atStart => exact ⟨0, 0, 0, Nat.zero_le _, rfl, rfl, rfl, Nat.zero_le _, by omega, by omega, ⟨HBr.out, Int.zero_add _⟩, Below.refl _ _⟩
  case round =>
    obtain ⟨j, p, a, hj, rfl, rfl, rfl, hp, ha0, ha1, HB, hb⟩ := hrel
    have B3 := Lib.hid hb
    have S3 := St.hold hb Z2.out S2.out
    have I3 := Lib.hid (I2.out.below hb)
    have L3 := Lib.hid (L2.out.below hb)
    have T3 := Lib.hid (T2.out.trans (hb.mono (B' := w.heap.size) (by have := Z1.out; have := Z2.out; omega)))
    have Z3 : Hid (w2.heap.size ≤ wr.heap.size) := hb.size
    clear hb
    obtain ⟨p0, p1, p2, p3⟩ := S3
    by_cases hlt : j < q
    · obtain ⟨al, x, rfl, hx, hcx⟩ := L3.out.at_ (k := j) (by rw [Hq.out]; exact hlt)
      obtain ⟨u, rfl, hu0, hun, hlw, hbr⟩ := brkF_yes hx.out HB.out.1
      have hcb := costW_bound HO.out hun hlw
      rw [Hn.out] at hun
      have HS : Hid (a + costW ⟨W, t, k⟩ zs p (p + u) + costF ⟨W, t, k⟩ zs (p + u) (ls.drop (j + 1)) = costF ⟨W, t, k⟩ zs 0 ls) := by show _ = _; have h := HB.out.2; rw [costF_at hx.out] at h; rw [← h]; simp only [Int.toNat_natCast]; omega
      have HBr2 := Lib.hid hbr
      obtain ⟨r, hr⟩ : ∃ r, p + u = r := ⟨_, rfl⟩
      have hpr : p < r := by omega
      have hcast : (p : Int) + (u : Int) = (r : Int) := by omega
      have e2 : IntKind.i64.wrap ((p : Int) + (u : Int)) = (r : Int) := by rw [IntKind.wrap_i64]; omega
      rw [hr] at HS hcb hun HBr2
      obtain ⟨y, hy⟩ : ∃ y, costW ⟨W, t, k⟩ zs p r = y := ⟨_, rfl⟩
      have HY := Lib.hid hy
      rw [hy] at hcb HS
      have e3 : IntKind.i64.wrap (a + y) = a + y := by rw [IntKind.wrap_i64]; omega
      clear hbr hlw hr hy hu0
      go_wp2_with fail
      clear p0 p1 p2 p3
      refine (DD2.out p r _ I3.out hpr hun).mono ?_
      rintro e w4 ⟨rfl, hb4⟩
      rw [HY.out]
      have T4 := Lib.hid (T3.out.trans (hb4.mono (B' := w.heap.size) (by have := Z3.out; have := Z2.out; have := Z1.out; omega)))
      have B4 := Lib.hid (B3.out.trans (hb4.mono (B' := w2.heap.size) Z3.out))
      clear hb4
      go_wp2
      go_roundw
      case rel => exact ⟨j + 1, r, a + y, by omega, by go_num, rfl, rfl, hun, by omega, by omega, ⟨HBr2.out, HS.out⟩, B4.out⟩
      case measure => simp [intOf]; omega
    · have hkn : j = q := by omega
      subst hkn
      have HF : Hid (a = costF ⟨W, t, k⟩ zs 0 ls) := by show _ = _; have h := HB.out.2; rw [costF_end Hq.out] at h; omega
      go_wp2
      go_ret
      exact ⟨ret_int (by rw [HR.out, HF.out]), T3.out⟩
end Go.Proofs.Ytddkedinkgnboaa
