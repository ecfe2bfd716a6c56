/-
  BreakingIndex of the model by contract. Conditions: lengths and capacities within the reach of a slice.
-/
import Derived.Test.YtddkedinkgnboaaWaysS
import Derived.Test.YtddkedinkgnboaaBrkD
namespace Go.Proofs.Ytddkedinkgnboaa
open Go.RowKit
set_option linter.unusedVariables false

set_option maxRecDepth 100000 in
set_option maxHeartbeats 6400000 in
theorem specIndex_any (W t k : Int) (A : Option Addr) (n c : Nat) (zs : List Int) (Al : Option Addr) (q d : Nat) (ls : List Int) (w : World) (hn : zs.length = n) (hc : n ≤ c) (hcm : c ≤ maxLen) (h : Ints w A zs) (hq : ls.length = q) (hqm : q ≤ maxLen) (hl : Ints w Al ls) :
    Calls Try.prog 38 #[.agg #[.int .i64 W, .int .i64 t, .int .i64 k], .slice A n c, .slice Al q d] w fun e w' => e = .returned (.int .i64 (idxA ⟨W, t, k⟩ zs ls)) ∧ Below w.heap.size w w' := by
  have C := fun (w : World) (hI : Ints w A zs) (hL : Ints w Al ls) => specIsBreaking_any W t k A n c zs Al q d ls w hn hc hcm hI hq hqm hL
  have D := fun (ad : Addr) (w : World) (hI : Ints w (some ad) zs) (hm : msrB ⟨W, t, k⟩ = true) (ht : textB zs = true) => l4Ways_any W t k ad n c zs w hn hc hcm hI hm ht
  have E := fun (ad : Addr) (a q : Nat) (v : World) (hI : Ints v (some ad) zs) (hm : msrB ⟨W, t, k⟩ = true) (ht : textB zs = true) (hq : 1 ≤ q) (hb : a + q ≤ n) => l4Goes_any W t k ad n c zs a q v hn hc hcm hI hm ht hq hb
  obtain ⟨w0, hw0, hb0, hz0, P⟩ := msWorld w W t k
  have T0 := Lib.hid hb0; have P0 := Lib.hid P; have Z0 := Lib.hid hz0
  have I0 := Lib.hid ((IntsB.of h).keep (Nat.le_refl _) hb0); have L0 := Lib.hid ((IntsB.of hl).keep (Nat.le_refl _) hb0)
  have CC := Lib.hid C; have DD := Lib.hid D; have EE := Lib.hid E; have Hn := Lib.hid hn; have Hq := Lib.hid hq
  obtain ⟨p0, p1, p2⟩ := P
  clear hb0 hz0 hn h C D E hq hl
  unfold maxLen at hqm hcm
  cases ho : isBrk ⟨W, t, k⟩ zs ls
  · have HR : Hid (idxA ⟨W, t, k⟩ zs ls = -1) := by show _ = _; unfold idxA; rw [ho]; rfl
    have HO := Lib.hid ho
    clear ho
    go_enter Try.func38, Try.ntmps38
    go_wp2_with fail
    clear hw0
    refine (CC.out _ I0.out.ints L0.out.ints).mono ?_
    rintro e w1 ⟨he, hb1⟩
    rw [HO.out] at he; subst he
    have T1 := Lib.hid (T0.out.trans (hb1.mono (B' := w.heap.size) (by have := Z0.out; omega)))
    clear hb1 p0 p1 p2
    go_wp2
    go_ret
    exact ⟨ret_int HR.out.symm, T1.out⟩
  have HR : Hid (idxA ⟨W, t, k⟩ zs ls = idxF ⟨W, t, k⟩ zs 0 ls) := by show _ = _; unfold idxA; rw [ho]; rfl
  have hq := ho
  unfold isBrk at hq
  rw [Bool.and_eq_true] at hq
  have HO := Lib.hid ho
  have HBr := Lib.hid hq.2
  have HM := Lib.hid (okW_parts hq.1)
  obtain ⟨-, hl1, hl2⟩ := textB_parts HM.out.2
  have hz40 : Hid (zs.length ≤ 40) := hl2
  rw [Hn.out] at hl1 hl2
  obtain ⟨ad, rfl⟩ := ints_some I0.out.ints (by rw [Hn.out]; exact hl1)
  have DD2 := Lib.hid (fun w h => DD.out ad w h HM.out.1 HM.out.2)
  have EE2 := Lib.hid (fun a q v h hq hb => EE.out ad a q v h HM.out.1 HM.out.2 hq hb)
  clear hq ho DD EE
  go_enter Try.func38, Try.ntmps38
  go_wp2_with fail
  clear hw0
  refine (CC.out _ I0.out.ints L0.out.ints).mono ?_
  rintro e w1 ⟨he, hb1⟩
  rw [HO.out] at he; subst he
  have T1 := Lib.hid (T0.out.trans (hb1.mono (B' := w.heap.size) (by have := Z0.out; omega)))
  have I1 := Lib.hid (I0.out.keep (by have := Z0.out; omega) hb1); have L1 := Lib.hid (L0.out.keep (by have := Z0.out; omega) hb1)
  have P1 := Lib.hid (hold3 hb1 (by have := Z0.out; omega) P0.out)
  have z1 : w.heap.size < w1.heap.size := by have := Z0.out; have := hb1.size; omega
  clear p0 p1 p2 hb1 T0 I0 L0 P0 Z0 CC
  obtain ⟨p0, p1, p2⟩ := P1.out
  go_wp2_with fail
  refine (DD2.out _ I1.out.ints).mono ?_
  rintro e w2 ⟨g, N1, hN1, rfl, hg, hO, hb2⟩
  have T2 := Lib.hid (T1.out.trans (hb2.mono (B' := w.heap.size) (by omega)))
  have I2 := Lib.hid (I1.out.keep (by omega) hb2); have L2 := Lib.hid (L1.out.keep (by omega) hb2)
  have P2 := Lib.hid (hold3 hb2 z1 P1.out)
  have z2 : w.heap.size < w2.heap.size := by have := hb2.size; omega
  have O2 := Lib.hid hO; have HN1 := Lib.hid hN1
  clear p0 p1 p2 hb2 T1 I1 L1 P1 hO hg z1 hN1
  go_wp2
  go_loopw [8, 9, 23] (fun s f i wr => ∃ (j p : Nat) (x : Int), j ≤ q ∧ i = .int .i64 j ∧ f = .int .i64 p ∧ s = .int .i64 x ∧ p ≤ n ∧ 0 ≤ x ∧ Hid (brkF ⟨W, t, k⟩ zs p (ls.drop j) = true ∧ x + idxF ⟨W, t, k⟩ zs p (ls.drop j) = idxF ⟨W, t, k⟩ zs 0 ls) ∧ Below w2.heap.size w2 wr) (fun _ _ i _ => q - (intOf i).toNat)
  case atStart => exact ⟨0, 0, 0, Nat.zero_le _, rfl, rfl, rfl, Nat.zero_le _, Int.le_refl _, ⟨HBr.out, Int.zero_add _⟩, Below.refl _ _⟩
  case round =>
    obtain ⟨j, p, x, hj, rfl, rfl, rfl, hp, hx0, HB, hb⟩ := hrel
    have B3 := Lib.hid hb
    have P3 := Lib.hid (hold3 hb z2 P2.out)
    have I3 := Lib.hid (I2.out.keep (by omega) hb); have L3 := Lib.hid (L2.out.keep (by omega) hb)
    have T3 := Lib.hid (T2.out.trans (hb.mono (B' := w.heap.size) (by omega)))
    have O3 := Lib.hid (O2.out.below hb)
    have z3 : w2.heap.size ≤ wr.heap.size := hb.size
    clear hb
    by_cases hlt : j < q
    · obtain ⟨al, y, rfl, hx, hcx⟩ := L3.out.ints.at_ (k := j) (by rw [Hq.out]; exact hlt)
      obtain ⟨u, rfl, hu0, hun, hlw, hbr⟩ := brkF_yes hx.out HB.out.1
      have hidx := idxF_bound hz40.out (ls.drop (j + 1)) (p + u) hun hbr
      have hway0 := wayF_range (m := ⟨W, t, k⟩) hz40.out (Nat.zero_le zs.length)
      have hbef := befF_range (m := ⟨W, t, k⟩) hz40.out (show p ≤ zs.length by rw [Hn.out]; exact hp) (show p + u ≤ zs.length + 1 by omega)
      have hHB := HB.out.2
      rw [idxF_at hx.out, Int.toNat_natCast] at hHB
      have hall := idxF_bound hz40.out ls 0 (Nat.zero_le _) (by have := HO.out; unfold isBrk at this; rw [Bool.and_eq_true] at this; exact this.2)
      have hxm : x ≤ 1099511627776 := by omega
      have HX : Hid ((x + befF ⟨W, t, k⟩ zs p (p + u)) + idxF ⟨W, t, k⟩ zs (p + u) (ls.drop (j + 1)) = idxF ⟨W, t, k⟩ zs 0 ls) := by show _ = _; rw [← hHB]; omega
      have hx1 : 0 ≤ x + befF ⟨W, t, k⟩ zs p (p + u) := by omega
      have HBR := Lib.hid hbr
      rw [Hn.out] at hun
      clear hbr hlw hidx hway0 hbef hHB hall
      go_wp2
      rename_i wr1
      go_loopw [8, 12] (fun s i wr => ∃ v : Nat, 1 ≤ v ∧ v ≤ u ∧ i = .int .i64 v ∧ s = .int .i64 (x + befF ⟨W, t, k⟩ zs p (p + v)) ∧ Below w2.heap.size w2 wr) (fun _ i _ => u - (intOf i).toNat)
      case atStart => exact ⟨1, Nat.le_refl _, by omega, by go_num, by rw [befF_low (by omega)]; go_num, B3.out⟩
      case round =>
        obtain ⟨v, hv1, hv2, rfl, rfl, hb⟩ := hrel
        have B4 := Lib.hid hb
        have P4 := Lib.hid (hold3 hb z2 P2.out)
        have I4 := Lib.hid ((I2.out.keep (by omega) hb).ints)
        have O4 := Lib.hid (O2.out.below hb)
        have z4 : w2.heap.size ≤ wr.heap.size := hb.size
        obtain ⟨p0, p1, p2⟩ := P4.out
        have hbef := befF_range (m := ⟨W, t, k⟩) hz40.out (show p ≤ zs.length by rw [Hn.out]; exact hp) (show p + v ≤ zs.length + 1 by rw [Hn.out]; omega)
        obtain ⟨b, hbv⟩ : ∃ b, befF ⟨W, t, k⟩ zs p (p + v) = b := ⟨_, rfl⟩
        have HBV := Lib.hid hbv
        rw [hbv] at hbef
        obtain ⟨r, hr⟩ : ∃ r, p + v = r := ⟨_, rfl⟩
        have hcast : (p : Int) + (v : Int) = (r : Int) := by omega
        have er : IntKind.i64.wrap (r : Int) = (r : Int) := by rw [IntKind.wrap_i64]; omega
        have hr1 : p + (v + 1) = r + 1 := by omega
        have HR1 := Lib.hid hr1
        rw [hbv]
        rw [hr] at HBV
        clear hb hbv hr1
        by_cases hlt2 : v < u
        · have hvu : (v : Int) < (u : Int) := by omega
          have HC := Lib.hid (EE2.out p v wr I4.out hv1 (by omega))
          rw [hr] at HC
          have hrN : r ≤ n := by omega
          have hpr : p < r := by omega
          clear hr
          cases hlw : lineW ⟨W, t, k⟩ zs p r
          · have HE := Lib.hid (befF_no (m := ⟨W, t, k⟩) (zs := zs) (i := p) (p := r) (by rw [hlw]; simp))
            have HL := Lib.hid hlw
            clear hlw
            go_wp2_with (go_at_call 59; refine HC.out.mono ?_; rintro e w5 ⟨he, hb5⟩; rw [HL.out] at he; subst he; have B5 := Lib.hid (B4.out.trans (hb5.mono (B' := w2.heap.size) z4)); clear hb5)
            go_roundw
            case rel => exact ⟨v + 1, by omega, by omega, by go_num, by rw [HR1.out, HE.out, HBV.out], B5.out⟩
            case measure => simp [intOf]; omega
          · have HE := Lib.hid (befF_yes (m := ⟨W, t, k⟩) (zs := zs) hz40.out (i := p) (p := r) hpr (by rw [Hn.out]; exact hrN) hlw)
            have hwy := wayF_range (m := ⟨W, t, k⟩) hz40.out (i := r) (by rw [Hn.out]; exact hrN)
            have HL := Lib.hid hlw
            have hc5 : ∀ w5 : World, Below wr.heap.size wr w5 → w5.cell? ⟨g, r, none⟩ = some (.int .i64 (wayF ⟨W, t, k⟩ zs r)) := fun w5 h5 => by
              have h1 := own_cell (O4.out.below h5) (j := r) (by rw [rowE_len, Hn.out]; omega)
              rw [h1]; unfold wayF valE; rw [Hn.out]
            have HC5 := Lib.hid hc5
            obtain ⟨y, hy⟩ : ∃ y, wayF ⟨W, t, k⟩ zs r = y := ⟨_, rfl⟩
            rw [hy] at HE hwy HC5
            have i1 : (r : Int) < (N1 : Int) := by have := HN1.out; omega
            have e3 : IntKind.i64.wrap (x + b + y) = x + b + y := by rw [IntKind.wrap_i64]; omega
            clear hlw hc5 hy
            go_wp2_with (go_at_call 59; refine HC.out.mono ?_; rintro e w5 ⟨he, hb5⟩; rw [HL.out] at he; subst he; have B5 := Lib.hid (B4.out.trans (hb5.mono (B' := w2.heap.size) z4)); have hcr := HC5.out w5 hb5; clear hb5)
            go_roundw
            case rel => exact ⟨v + 1, by omega, by omega, by go_num, by rw [HR1.out, HE.out, HBV.out, Int.add_assoc], B5.out⟩
            case measure => simp [intOf]; omega
        · obtain rfl : v = u := by omega
          have e4 : p + v = r := hr
          have HX2 := HX; have HBR2 := HBR
          have hxb : 0 ≤ x + b := by have := hx1; rw [hr, HBV.out] at this; exact this
          rw [hr] at HX2 HBR2
          rw [HBV.out] at HX2
          clear hr e4 hx1 HX HBR
          go_wp2
          go_roundw
          case rel => exact ⟨j + 1, r, x + b, by omega, by go_num, rfl, rfl, by omega, hxb, ⟨HBR2.out, HX2.out⟩, B4.out⟩
          case measure => simp [intOf]; omega
    · obtain rfl : j = q := by omega
      have HE : Hid (x = idxF ⟨W, t, k⟩ zs 0 ls) := by show _ = _; have h := HB.out.2; rw [idxF_end Hq.out] at h; omega
      go_wp2
      go_ret
      exact ⟨ret_int (by rw [HR.out, HE.out]), T3.out⟩
end Go.Proofs.Ytddkedinkgnboaa
