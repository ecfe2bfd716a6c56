/-
  LineKind, IsBreaking, CostOf of the model by contract. Conditions: lengths and capacities within the reach of a slice.
-/
import Derived.Test.YtddkedinkgnboaaBrkS
namespace Go.Proofs.Ytddkedinkgnboaa
open Go.RowKit
set_option linter.unusedVariables false

set_option maxRecDepth 100000 in
set_option maxHeartbeats 3200000 in
theorem specIsBreaking_any (W t k : Int) (A : Option Addr) (n c : Nat) (zs : List Int) (Al : Option Addr) (q d : Nat) (ls : List Int) (w : World) (hn : zs.length = n) (hc : n ≤ c) (hcm : c ≤ maxLen) (h : Ints w A zs) (hq : ls.length = q) (hqm : q ≤ maxLen) (hl : Ints w Al ls) :
    Calls Try.prog 63 #[.agg #[.int .i64 W, .int .i64 t, .int .i64 k], .slice A n c, .slice Al q d] w fun e w' => e = .returned (.bool (isBrk ⟨W, t, k⟩ zs ls)) ∧ Below w.heap.size w w' := by
  have C := fun (w : World) (hI : Ints w A zs) => l4Ok_any W t k A n c zs w hn (by omega) hI
  have D := fun (ad : Addr) (a b M : Nat) (w : World) (hI : Ints w (some ad) zs) (hm : msrB ⟨W, t, k⟩ = true) (ht : textB zs = true) (hab : a < b) (hb : b ≤ n) (hM : b - a = M) => kindSeg_any W t k ad M (c - a) zs a b w hI hm ht hab (by omega) hM
  obtain ⟨w0, hw0, hb0, hz0, P⟩ := msWorld w W t k
  have T0 := Lib.hid hb0; have P0 := Lib.hid P; have Z0 := Lib.hid hz0
  have I0 := Lib.hid (h.below hb0); have L0 := Lib.hid (hl.below hb0)
  have CC := Lib.hid C; have DD := Lib.hid D; have Hn := Lib.hid hn; have Hq := Lib.hid hq
  obtain ⟨p0, p1, p2⟩ := P
  clear hb0 hz0 hn h C D hq hl
  unfold maxLen at hqm hcm
  cases ho : (msrB ⟨W, t, k⟩ && textB zs)
  · have HR : Hid (isBrk ⟨W, t, k⟩ zs ls = false) := by show _ = _; unfold isBrk; rw [okW_no ho]; rfl
    go_enter Try.func63, Try.ntmps63
    go_wp2_with fail
    clear hw0
    refine (CC.out _ I0.out).mono ?_
    rintro e w1 ⟨he, hb1⟩
    rw [ho] at he; subst he
    have T1 := Lib.hid (T0.out.trans (hb1.mono (B' := w.heap.size) (by have := Z0.out; omega)))
    clear hb1 p0 p1 p2 ho
    go_wp2
    go_ret
    exact ⟨ret_bool HR.out.symm, T1.out⟩
  have hq := ho
  rw [Bool.and_eq_true] at hq
  have HM := Lib.hid hq
  obtain ⟨-, hl1, hl2⟩ := textB_parts hq.2
  rw [Hn.out] at hl1 hl2
  obtain ⟨ad, rfl⟩ := ints_some I0.out (by rw [Hn.out]; exact hl1)
  clear hq
  have DD2 := Lib.hid (fun a b M w h hab hb hM => DD.out ad a b M w h HM.out.1 HM.out.2 hab hb hM)
  have HR : Hid (isBrk ⟨W, t, k⟩ zs ls = brkF ⟨W, t, k⟩ zs 0 ls) := by show _ = _; unfold isBrk okW; rw [ho]; rfl
  clear DD
  go_enter Try.func63, Try.ntmps63
  go_wp2_with fail
  clear hw0
  refine (CC.out _ I0.out).mono ?_
  rintro e w1 ⟨he, hb1⟩
  rw [ho] at he; subst he
  have T1 := Lib.hid (T0.out.trans (hb1.mono (B' := w.heap.size) (by have := Z0.out; omega)))
  have I1 := Lib.hid (I0.out.below hb1); have L1 := Lib.hid (L0.out.below hb1)
  have P1 := Lib.hid (hold3 hb1 (by have := Z0.out; omega) P0.out)
  have Z1 : Hid (w.heap.size < w1.heap.size) := by show _ < _; have := Z0.out; have := hb1.size; omega
  clear p0 p1 p2 ho hb1 T0 I0 L0 P0 Z0 CC
  go_wp2_with fail
  go_loopw [7, 17] (fun f i wr => ∃ j p : Nat, j ≤ q ∧ i = .int .i64 j ∧ f = .int .i64 p ∧ p ≤ n ∧ Hid (brkF ⟨W, t, k⟩ zs 0 ls = brkF ⟨W, t, k⟩ zs p (ls.drop j)) ∧ Below w1.heap.size w1 wr) (fun _ i _ => q - (intOf i).toNat)
  case atStart => exact ⟨0, 0, Nat.zero_le _, rfl, rfl, Nat.zero_le _, rfl, Below.refl _ _⟩
  case round =>
    obtain ⟨j, p, hj, rfl, rfl, hp, HB, hb⟩ := hrel
    have B2 := Lib.hid hb
    have P2 := Lib.hid (hold3 hb Z1.out P1.out)
    have I2 := Lib.hid (I1.out.below hb)
    have L2 := Lib.hid (L1.out.below hb)
    have T2 := Lib.hid (T1.out.trans (hb.mono (B' := w.heap.size) (by have := Z1.out; omega)))
    have Z2 : Hid (w1.heap.size ≤ wr.heap.size) := hb.size
    clear hb
    obtain ⟨p0, p1, p2⟩ := P2.out
    by_cases hlt : j < q
    · obtain ⟨al, x, rfl, hx, hcx⟩ := L2.out.at_ (k := j) (by rw [Hq.out]; exact hlt)
      have e1 : IntKind.i64.wrap ((n : Int) - (p : Int)) = (n : Int) - (p : Int) := by rw [IntKind.wrap_i64]; omega
      cases hin : inB x 1 ((n : Int) - (p : Int))
      · have HF : Hid (brkF ⟨W, t, k⟩ zs 0 ls = false) := by show _ = _; rw [HB.out, brkF_at hx.out, Hn.out, hin]; rfl
        go_wp2_with fail
        refine (l1In_any _ _ _ _).mono ?_
        rintro e w3 ⟨he, rfl⟩
        rw [hin] at he; subst he
        clear hin
        go_wp2
        go_ret
        exact ⟨ret_bool (by rw [HR.out, HF.out]), T2.out⟩
      · have hxr := inB_true hin
        obtain ⟨u, rfl⟩ : ∃ u : Nat, x = (u : Int) := ⟨x.toNat, by omega⟩
        have hu1 : p < p + u := by omega
        have hu2 : p + u ≤ n := by omega
        have HS : Hid (brkF ⟨W, t, k⟩ zs 0 ls = (lineW ⟨W, t, k⟩ zs p (p + u) && brkF ⟨W, t, k⟩ zs (p + u) (ls.drop (j + 1)))) := by show _ = _; rw [HB.out, brkF_at hx.out, Hn.out, hin, Bool.true_and]; rfl
        obtain ⟨r, hr⟩ : ∃ r, p + u = r := ⟨_, rfl⟩
        have hcast : (p : Int) + (u : Int) = (r : Int) := by omega
        have e2 : IntKind.i64.wrap ((p : Int) + (u : Int)) = (r : Int) := by rw [IntKind.wrap_i64]; omega
        have e5 : IntKind.i64.wrap (r : Int) = (r : Int) := by rw [IntKind.wrap_i64]; omega
        have HI := Lib.hid hin
        have hru : r - p = u := by omega
        rw [hr] at HS hu1 hu2
        have hca : ¬ c = p := by omega
        have har : p ≤ r := by omega
        have hrc : r ≤ c := by omega
        have i1 : (0 : Int) ≤ (p : Int) := by omega
        have i2 : (p : Int) ≤ (r : Int) := by omega
        have i3 : (r : Int) ≤ (c : Int) := by omega
        have i4 : (0 : Int) ≤ (r : Int) := by omega
        have HL : Hid (lineW ⟨W, t, k⟩ zs p r = (kindW ⟨W, t, k⟩ zs p r == 2 || (kindW ⟨W, t, k⟩ zs p r == 1 && decide (r = n)))) := by show _ = _; unfold lineW; rw [Hn.out]
        have D3 := fun w h => DD2.out p r u w h hu1 hu2 hru
        obtain ⟨K, hK⟩ : ∃ K, kindW ⟨W, t, k⟩ zs p r = K := ⟨_, rfl⟩
        have hK3 : K = 0 ∨ K = 1 ∨ K = 2 := by rw [← hK]; exact kindF_cases _ _ _
        rw [hK] at HL D3
        have D4 := Lib.hid D3
        clear hin hxr hr hK D3
        go_wp2_with fail
        refine (l1In_any _ _ _ _).mono ?_
        rintro e w3 ⟨he, rfl⟩
        rw [HI.out] at he; subst he
        go_wp2_with fail
        have hz1 := Z1.out; have hz2 := Z2.out
        first
          | go_region_held3 (fun w' => w'.cell? ⟨w.heap.size, 0, none⟩ = some (.int .i64 W) ∧ w'.cell? ⟨w.heap.size, 1, none⟩ = some (.int .i64 t) ∧ w'.cell? ⟨w.heap.size, 2, none⟩ = some (.int .i64 k)) (first | go_keep | exact P4.out) (first
              | (go_at_call 75; refine (D4.out _ I2.out.drew).mono ?_; rintro e w4 ⟨rfl, hb4⟩; have hc4 : Below wr.heap.size wr w4 := undrew hb4; have P4 := Lib.hid (hold3 hc4 (by omega) P2.out); have T4 := Lib.hid (T2.out.trans (hc4.mono (B' := w.heap.size) (by omega))); have B4 := Lib.hid (B2.out.trans (hc4.mono (B' := w1.heap.size) (by omega))); clear hb4 hc4))
          | fail "the region"
        all_goals
          clear hca har hrc i1 i2 i3 i4 hz1 hz2
          rcases hK3 with rfl | rfl | rfl
          · have HF : Hid (brkF ⟨W, t, k⟩ zs 0 ls = false) := by show _ = _; rw [HS.out, HL.out]; simp
            go_wp2
            go_ret
            exact ⟨ret_bool (by rw [HR.out, HF.out]), T4.out⟩
          · by_cases hrn : r = n
            · subst hrn
              have HF : Hid (brkF ⟨W, t, k⟩ zs 0 ls = brkF ⟨W, t, k⟩ zs r (ls.drop (j + 1))) := by show _ = _; rw [HS.out, HL.out]; simp
              go_wp2
              go_roundw
              case rel => exact ⟨j + 1, r, by omega, by go_num, rfl, Nat.le_refl _, HF, B4.out⟩
              case measure => simp [intOf]; omega
            · have HF : Hid (brkF ⟨W, t, k⟩ zs 0 ls = false) := by show _ = _; rw [HS.out, HL.out]; simp [hrn]
              have hrl : r < n := by omega
              clear hrn
              go_wp2
              go_ret
              exact ⟨ret_bool (by rw [HR.out, HF.out]), T4.out⟩
          · have HF : Hid (brkF ⟨W, t, k⟩ zs 0 ls = brkF ⟨W, t, k⟩ zs r (ls.drop (j + 1))) := by show _ = _; rw [HS.out, HL.out]; simp
            go_wp2
            go_roundw
            case rel => exact ⟨j + 1, r, by omega, by go_num, rfl, hu2, HF, B4.out⟩
            case measure => simp [intOf]; omega
    · have hkn : j = q := by omega
      subst hkn
      rw [brkF_end Hq.out, Hn.out] at HB
      by_cases hpn : p = n
      · subst hpn
        go_wp2
        go_ret
        exact ⟨ret_bool (by rw [HR.out, HB.out]; simp), T2.out⟩
      · have hd : ((p : Int) == (n : Int)) = false := by rw [beq_eq_false_iff_ne]; omega
        have hdx : Hid (decide (p = n) = false) := by show _ = _; exact decide_eq_false hpn
        clear hpn
        go_wp2
        go_ret
        exact ⟨ret_bool (by rw [HR.out, HB.out, hdx.out]), T2.out⟩
end Go.Proofs.Ytddkedinkgnboaa
