/-
  CostOf of the model by contract. Conditions: lengths and capacities within the reach of a slice.
-/
import Derived.Test.YtpenmheacpapaaaBrkS2
namespace Go.Proofs.Ytpenmheacpapaaa
open Go.RowKit
set_option linter.unusedVariables false

set_option maxRecDepth 100000 in
set_option maxHeartbeats 3200000 in
theorem specCostOf_any (W t k : Int) (A : Option Addr) (n c : Nat) (zs : List Int) (Al : Option Addr) (q d : Nat) (ls : List Int) (w : World) (hn : zs.length = n) (hc : n ≤ c) (hcm : c ≤ maxLen) (h : Ints w A zs) (hq : ls.length = q) (hqm : q ≤ maxLen) (hl : Ints w Al ls) :
    Calls Try.prog 49 #[.agg #[.int .i64 W, .int .i64 t, .int .i64 k], .slice A n c, .slice Al q d] w fun e w' => e = .returned (.int .i64 (costA ⟨W, t, k⟩ zs ls)) ∧ Below w.heap.size w w' := by
  have C := fun (w : World) (hI : Ints w A zs) (hL : Ints w Al ls) => specIsBreaking_any W t k A n c zs Al q d ls w hn hc hcm hI hq hqm hL
  have D := fun (ad : Addr) (a b M : Nat) (w : World) (hI : Ints w (some ad) zs) (hm : msrB ⟨W, t, k⟩ = true) (ht : textB zs = true) (hab : a < b) (hb : b ≤ n) (hM : b - a = M) (hl : lineW ⟨W, t, k⟩ zs a b = true) => riseSeg_any W t k ad M (c - a) zs a b w hI hm ht hab (by omega) hM hl
  obtain ⟨w0, hw0, hb0, hz0, P⟩ := msWorld w W t k
  have T0 := Lib.hid hb0; have P0 := Lib.hid P; have Z0 := Lib.hid hz0
  have I0 := Lib.hid (h.below hb0); have L0 := Lib.hid (hl.below hb0)
  have CC := Lib.hid C; have DD := Lib.hid D; have Hn := Lib.hid hn; have Hq := Lib.hid hq
  obtain ⟨p0, p1, p2⟩ := P
  clear hb0 hz0 hn h C D hq hl
  unfold maxLen at hqm hcm
  cases ho : isBrk ⟨W, t, k⟩ zs ls
  · have HR : Hid (costA ⟨W, t, k⟩ zs ls = -1) := by show _ = _; unfold costA; rw [ho]; rfl
    go_enter Try.func49, Try.ntmps49
    go_wp2_with fail
    clear hw0
    refine (CC.out _ I0.out L0.out).mono ?_
    rintro e w1 ⟨he, hb1⟩
    rw [ho] at he; subst he
    have T1 := Lib.hid (T0.out.trans (hb1.mono (B' := w.heap.size) (by have := Z0.out; omega)))
    clear hb1 p0 p1 p2 ho
    go_wp2
    go_ret
    exact ⟨ret_int HR.out.symm, T1.out⟩
  have HR : Hid (costA ⟨W, t, k⟩ zs ls = costF ⟨W, t, k⟩ zs 0 ls) := by show _ = _; unfold costA; rw [ho]; rfl
  have hq := ho
  unfold isBrk at hq
  rw [Bool.and_eq_true] at hq
  have HO := Lib.hid hq.1
  have HBr := Lib.hid hq.2
  have HM := Lib.hid (okW_parts hq.1)
  obtain ⟨-, hl1, hl2⟩ := textB_parts HM.out.2
  rw [Hn.out] at hl1 hl2
  obtain ⟨ad, rfl⟩ := ints_some I0.out (by rw [Hn.out]; exact hl1)
  clear hq
  have DD2 := Lib.hid (fun a b M w h hab hb hM hl => DD.out ad a b M w h HM.out.1 HM.out.2 hab hb hM hl)
  clear DD
  go_enter Try.func49, Try.ntmps49
  go_wp2_with fail
  clear hw0
  refine (CC.out _ I0.out L0.out).mono ?_
  rintro e w1 ⟨he, hb1⟩
  rw [ho] at he; subst he
  have T1 := Lib.hid (T0.out.trans (hb1.mono (B' := w.heap.size) (by have := Z0.out; omega)))
  have I1 := Lib.hid (I0.out.below hb1); have L1 := Lib.hid (L0.out.below hb1)
  have P1 := Lib.hid (hold3 hb1 (by have := Z0.out; omega) P0.out)
  have Z1 : Hid (w.heap.size < w1.heap.size) := by show _ < _; have := Z0.out; have := hb1.size; omega
  clear p0 p1 p2 ho hb1 T0 I0 L0 P0 Z0 CC
  go_wp2_with fail
  go_loopw [7, 8, 19] (fun s f i wr => ∃ (j p : Nat) (a : Int), j ≤ q ∧ i = .int .i64 j ∧ f = .int .i64 p ∧ s = .int .i64 a ∧ p ≤ n ∧ 0 ≤ a ∧ a ≤ 9801 * (p : Int) ∧ Hid (brkF ⟨W, t, k⟩ zs p (ls.drop j) = true ∧ a + costF ⟨W, t, k⟩ zs p (ls.drop j) = costF ⟨W, t, k⟩ zs 0 ls) ∧ Below w1.heap.size w1 wr) (fun _ _ i _ => q - (intOf i).toNat)
  case atStart => exact ⟨0, 0, 0, Nat.zero_le _, rfl, rfl, rfl, Nat.zero_le _, by omega, by omega, ⟨HBr.out, Int.zero_add _⟩, Below.refl _ _⟩
  case round =>
    obtain ⟨j, p, a, hj, rfl, rfl, rfl, hp, ha0, ha1, HB, hb⟩ := hrel
    have B3 := Lib.hid hb
    have P3 := Lib.hid (hold3 hb Z1.out P1.out)
    have I3 := Lib.hid (I1.out.below hb)
    have L3 := Lib.hid (L1.out.below hb)
    have T3 := Lib.hid (T1.out.trans (hb.mono (B' := w.heap.size) (by have := Z1.out; omega)))
    have Z3 : Hid (w1.heap.size ≤ wr.heap.size) := hb.size
    clear hb
    obtain ⟨p0, p1, p2⟩ := P3.out
    by_cases hlt : j < q
    · obtain ⟨al, x, rfl, hx, hcx⟩ := L3.out.at_ (k := j) (by rw [Hq.out]; exact hlt)
      obtain ⟨u, rfl, hu0, hun, hlw, hbr⟩ := brkF_yes hx.out HB.out.1
      have hcb := costW_bound HO.out hun hlw
      have hrb := lineW_rise HM.out.1 HM.out.2 hun hlw
      have hco : costW ⟨W, t, k⟩ zs p (p + u) = if p + u = n then 0 else riseW ⟨W, t, k⟩ zs p (p + u) * riseW ⟨W, t, k⟩ zs p (p + u) := by unfold costW; rw [Hn.out]
      rw [Hn.out] at hun
      have HS : Hid (a + costW ⟨W, t, k⟩ zs p (p + u) + costF ⟨W, t, k⟩ zs (p + u) (ls.drop (j + 1)) = costF ⟨W, t, k⟩ zs 0 ls) := by show _ = _; have h := HB.out.2; rw [costF_at hx.out] at h; rw [← h]; simp only [Int.toNat_natCast]; omega
      have HBr2 := Lib.hid hbr
      obtain ⟨r, hr⟩ : ∃ r, p + u = r := ⟨_, rfl⟩
      have hpr : p < r := by omega
      have hcast : (p : Int) + (u : Int) = (r : Int) := by omega
      have e2 : IntKind.i64.wrap ((p : Int) + (u : Int)) = (r : Int) := by rw [IntKind.wrap_i64]; omega
      have e5 : IntKind.i64.wrap (r : Int) = (r : Int) := by rw [IntKind.wrap_i64]; omega
      have hru : r - p = u := by omega
      rw [hr] at HS hcb hun HBr2 hco hrb hlw
      have hca : ¬ c = p := by omega
      have har : p ≤ r := by omega
      have hrc : r ≤ c := by omega
      have i1 : (0 : Int) ≤ (p : Int) := by omega
      have i2 : (p : Int) ≤ (r : Int) := by omega
      have i3 : (r : Int) ≤ (c : Int) := by omega
      have i4 : (0 : Int) ≤ (r : Int) := by omega
      have D3 := fun w h => DD2.out p r u w h hpr hun hru hlw
      obtain ⟨z, hz⟩ : ∃ z, riseW ⟨W, t, k⟩ zs p r = z := ⟨_, rfl⟩
      rw [hz] at hco hrb D3
      have hsq : 0 ≤ z * z ∧ z * z ≤ 99 * 99 := ⟨Int.mul_nonneg hrb.1 hrb.1, Int.mul_le_mul hrb.2 hrb.2 hrb.1 (by omega)⟩
      have D4 := Lib.hid D3
      have e3 : IntKind.i64.wrap (z * z) = z * z := by rw [IntKind.wrap_i64]; omega
      have e4 : IntKind.i64.wrap (a + z * z) = a + z * z := by rw [IntKind.wrap_i64]; omega
      have HCO := Lib.hid hco; have HCB := Lib.hid hcb
      clear hbr hlw hr hu0 D3 hz hco hcb
      go_wp2_with fail
      have hz1 := Z1.out; have hz3 := Z3.out
      first
        | go_region_held3 (fun w' => w'.cell? ⟨w.heap.size, 0, none⟩ = some (.int .i64 W) ∧ w'.cell? ⟨w.heap.size, 1, none⟩ = some (.int .i64 t) ∧ w'.cell? ⟨w.heap.size, 2, none⟩ = some (.int .i64 k)) (first | go_keep | exact P4.out) (first
            | (go_at_call 96; refine (D4.out _ I3.out.drew).mono ?_; rintro e w4 ⟨rfl, hb4⟩; have hc4 : Below wr.heap.size wr w4 := undrew hb4; have P4 := Lib.hid (hold3 hc4 (by omega) P3.out); have T4 := Lib.hid (T3.out.trans (hc4.mono (B' := w.heap.size) (by omega))); have B4 := Lib.hid (B3.out.trans (hc4.mono (B' := w1.heap.size) (by omega))); clear hb4 hc4))
        | fail "the region"
      all_goals
        clear hca har hrc i1 i2 i3 i4 hz1 hz3
        by_cases hrn : r = n
        · subst hrn
          have HX : Hid (a + costF ⟨W, t, k⟩ zs r (ls.drop (j + 1)) = costF ⟨W, t, k⟩ zs 0 ls) := by show _ = _; have h1 := HCO.out; rw [if_pos rfl] at h1; have h := HS.out; rw [h1, Int.add_zero] at h; exact h
          clear HCO
          go_wp2
          go_roundw
          case rel => exact ⟨j + 1, r, a, by omega, by go_num, rfl, rfl, Nat.le_refl _, ha0, by omega, ⟨HBr2.out, HX.out⟩, B4.out⟩
          case measure => simp [intOf]; omega
        · have hrl : r < n := by omega
          have HX : Hid (a + z * z + costF ⟨W, t, k⟩ zs r (ls.drop (j + 1)) = costF ⟨W, t, k⟩ zs 0 ls) := by show _ = _; have h1 := HCO.out; rw [if_neg hrn] at h1; have h := HS.out; rw [h1] at h; exact h
          clear HCO hrn
          go_wp2
          go_roundw
          case rel => exact ⟨j + 1, r, a + z * z, by omega, by go_num, rfl, rfl, hun, by omega, by omega, ⟨HBr2.out, HX.out⟩, B4.out⟩
          case measure => simp [intOf]; omega
    · have hkn : j = q := by omega
      subst hkn
      have HF : Hid (a = costF ⟨W, t, k⟩ zs 0 ls) := by show _ = _; have h := HB.out.2; rw [costF_end Hq.out] at h; omega
      go_wp2
      go_ret
      exact ⟨ret_int (by rw [HR.out, HF.out]), T3.out⟩
end Go.Proofs.Ytpenmheacpapaaa
