/-
  l4Ways and CountBreakings of the model by contract. Conditions: the measure is one, the words are a text (for CountBreakings: lengths and capacities within the reach of a slice).
-/
import Derived.Test.YtddkedinkgnboaaWaysB
import Derived.Test.YtddkedinkgnboaaBrkS
namespace Go.Proofs.Ytddkedinkgnboaa
open Go.RowKit
set_option linter.unusedVariables false

theorem rowE_zero {m : Msr} {zs : List Int} {add : Int → Nat → Nat → Int → Int} {e z : Int} (d i : Nat) (h : i + d < zs.length) : (rowE m zs add e z d).getD i 0 = 0 := by
  induction d with
  | zero =>
    rw [rowE]
    simp only [List.getD]
    rw [List.getElem?_append_left (by simpa using h), List.getElem?_replicate, if_pos (by simpa using h)]
    rfl
  | succ d ih => rw [rowE, getD_set_ne (by omega)]; exact ih (by omega)
theorem set_same0 {l : List Int} {i : Nat} (h : i < l.length) (h0 : l.getD i 0 = 0) : l.set i 0 = l := by
  apply List.ext_getElem?
  intro j
  by_cases e : i = j
  · subst e
    rw [List.getElem?_set_self h]
    simp [List.getD, h] at h0
    rw [List.getElem?_eq_getElem h, h0]
  · rw [List.getElem?_set_ne e]

theorem made_own {w : World} {B g n c : Nat} (h : w.ownsRow B 3 1 (.slice (some ⟨g, 0, none⟩) n c) n (List.replicate n (.int .i64 0))) : Own w B (.slice (some ⟨g, 0, none⟩) n c) (List.replicate n 0) := by
  unfold Own
  rw [List.length_replicate, List.map_replicate]
  exact h
theorem below_store {B : Nat} {w w' : World} {g j : Nat} (h : Below B w w') (hg : B ≤ g) (u : Value) : Below B w (w'.setCell ⟨g, j, none⟩ u) := h.setCell (p := ⟨g, j, none⟩) hg u

set_option maxRecDepth 100000 in
set_option maxHeartbeats 6400000 in
theorem l4Ways_any (W t k : Int) (ad : Addr) (n c : Nat) (zs : List Int) (w : World) (hn : zs.length = n) (hc : n ≤ c) (hcm : c ≤ maxLen) (h : Ints w (some ad) zs) (hm : msrB ⟨W, t, k⟩ = true) (ht : textB zs = true) :
    Calls Try.prog 56 #[.agg #[.int .i64 W, .int .i64 t, .int .i64 k], .slice (some ad) n c] w fun e w' => ∃ g N1, N1 = n + 1 ∧ e = .returned (.slice (some ⟨g, 0, none⟩) N1 N1) ∧ w.heap.size ≤ g ∧ Own w' w.heap.size (.slice (some ⟨g, 0, none⟩) N1 N1) (rowE ⟨W, t, k⟩ zs addC 1 0 n) ∧ Below w.heap.size w w' := by
  obtain ⟨hz, hl1, hl2⟩ := textB_parts ht
  rw [hn] at hl1 hl2
  have CG := fun (a q : Nat) (v : World) (hI : Ints v (some ad) zs) (hq : 1 ≤ q) (hb : a + q ≤ n) => l4Goes_any W t k ad n c zs a q v hn hc hcm hI hm ht hq hb
  have HG := Lib.hid CG
  obtain ⟨N1, hN1⟩ : ∃ N1, n + 1 = N1 := ⟨_, rfl⟩
  have Hn := Lib.hid hn; have HN1 := Lib.hid hN1
  have hcast : (n : Int) + 1 = (N1 : Int) := by omega
  have e1 : IntKind.i64.wrap ((n : Int) + 1) = (N1 : Int) := by rw [IntKind.wrap_i64]; omega
  have hw1 : IntKind.i64.wrap ((n : Int) - 1) = (n : Int) - 1 := by rw [IntKind.wrap_i64]; omega
  obtain ⟨w0, hw0, hb0, hz0, P⟩ := msWorld w W t k
  have T0 := Lib.hid hb0; have P0 := Lib.hid P; have Z0 := Lib.hid hz0
  have I0 := Lib.hid ((IntsB.of h).keep (Nat.le_refl _) hb0)
  obtain ⟨p0, p1, p2⟩ := P
  clear hb0 hz0 hn h hm ht hc hcm CG hN1 hz
  go_enter Try.func56, Try.ntmps56
  go_wp2_with (at_make; refine wpl_make_int _ rfl (.tmp 10) rfl N1 _ rfl rfl (by omega) ?_; intro w1 hO0 hb; have hO := made_own hO0; obtain ⟨⟨y0, hy0⟩, hfz, hst⟩ := own_store hO (by simp) (show n < N1 by omega); have S1 := Lib.hid (hst 1); have T1 := Lib.hid (below_store hb (Nat.le_refl _) (j := n) (.int .i64 1)); clear hO0 hO hb hst)
  clear hw0 p0 p1 p2 hy0 hfz
  obtain ⟨g, hg⟩ : ∃ g, w0.heap.size = g := ⟨_, rfl⟩
  rw [hg] at S1 T1 ⊢
  have hz0 : w.heap.size < g := by have := Z0.out; omega
  obtain ⟨w2, hw2⟩ : ∃ w2, w1.setCell ⟨g, n, none⟩ (.int .i64 1) = w2 := ⟨_, rfl⟩
  rw [hw2] at S1 T1 ⊢
  have S2 : Hid (Own w2 g (.slice (some ⟨g, 0, none⟩) N1 N1) (rowE ⟨W, t, k⟩ zs addC 1 0 0)) := by
    show Own _ _ _ _
    rw [rowE, Hn.out, ← row_start, HN1.out]
    exact S1.out
  have HGz := Lib.hid hg
  clear hw2 S1 hg
  go_loopw [6] (fun i wr => ∃ d : Nat, d ≤ n ∧ i = .int .i64 ((n : Int) - 1 - d) ∧ Own wr g (.slice (some ⟨g, 0, none⟩) N1 N1) (rowE ⟨W, t, k⟩ zs addC 1 0 d) ∧ Below g w0 wr) (fun i _ => (intOf i + 1).toNat)
  case atStart => exact ⟨0, Nat.zero_le _, by go_num, S2.out, T1.out⟩
  case round =>
    obtain ⟨d, hd, rfl, hO, hb⟩ := hrel
    have HO := Lib.hid hO; have HB := Lib.hid hb
    clear hO hb S2 T1
    by_cases hlt : d < n
    · obtain ⟨a, ha⟩ : ∃ a : Nat, n - 1 - d = a := ⟨_, rfl⟩
      have han : a < n := by omega
      have HA := Lib.hid ha
      have hai : (n : Int) - 1 - (d : Int) = (a : Int) := by omega
      have hai2 : IntKind.i64.wrap ((a : Int) - 1) = (a : Int) - 1 := by rw [IntKind.wrap_i64]; omega
      rw [hai]
      obtain ⟨row, hrow⟩ : ∃ row, rowE ⟨W, t, k⟩ zs addC 1 0 d = row := ⟨_, rfl⟩
      have hlen : row.length = N1 := by rw [← hrow, rowE_len, Hn.out]; exact HN1.out
      have h0 : row.getD a 0 = 0 := by rw [← hrow]; exact rowE_zero d a (by rw [Hn.out]; omega)
      rw [hrow] at HO
      have HO2 : Hid (Own wr g (.slice (some ⟨g, 0, none⟩) N1 N1) (row.set a (accE addC 0 a row (endsTo ⟨W, t, k⟩ zs a (a + 1))))) := by
        show Own _ _ _ _
        rw [endsTo_low (by omega), show accE addC 0 a row [] = 0 from rfl, set_same0 (by rw [hlen]; omega) h0]
        exact HO.out
      have HRow := Lib.hid hrow; have HLen := Lib.hid hlen
      clear ha hrow hlen h0 HO hd hai
      go_wp2
      rename_i wr1
      go_loopw [7] (fun q wr => ∃ j : Nat, 1 ≤ j ∧ j ≤ n - a + 1 ∧ q = .int .i64 j ∧ Own wr g (.slice (some ⟨g, 0, none⟩) N1 N1) (row.set a (accE addC 0 a row (endsTo ⟨W, t, k⟩ zs a (a + j)))) ∧ Below g w0 wr) (fun q _ => n - a + 1 - (intOf q).toNat)
      case atStart => exact ⟨1, Nat.le_refl _, by omega, by go_num, HO2.out, HB.out⟩
      case round =>
        obtain ⟨j, hj1, hj2, rfl, hO, hb⟩ := hrel
        have HO := Lib.hid hO; have HB2 := Lib.hid hb
        clear hO hb HO2 HB
        have P2 := Lib.hid (hold3 HB2.out (by omega) P0.out)
        have I2 := Lib.hid ((I0.out.keep (by omega) HB2.out).ints)
        have hgz : g < wr.heap.size := by
          obtain ⟨g', m', c', e, -, -, -, -, -, hr⟩ := own_form2 HO.out (by rw [List.length_set, HLen.out]; omega)
          injection e with e1 e2 e3
          injection e1 with e1
          injection e1 with e1
          have := (World.ownsRow.lt hr g' rfl).2
          omega
        obtain ⟨p0, p1, p2⟩ := P2.out
        obtain ⟨r, hr⟩ : ∃ r, a + j = r := ⟨_, rfl⟩
        have hcr : (a : Int) + (j : Int) = (r : Int) := by omega
        have er : IntKind.i64.wrap (r : Int) = (r : Int) := by rw [IntKind.wrap_i64]; omega
        have hwj : IntKind.i64.wrap ((j : Int) + 1) = (j : Int) + 1 := by rw [IntKind.wrap_i64]; omega
        have hr1 : a + (j + 1) = r + 1 := by omega
        have HR := Lib.hid hr; have HR1 := Lib.hid hr1
        by_cases hlr : r ≤ n
        · have hrn : (r : Int) ≤ (n : Int) := by omega
          have HC := Lib.hid (HG.out a j wr I2.out hj1 (by omega))
          rw [hr] at HC HO
          clear hr hr1
          cases hl : lineW ⟨W, t, k⟩ zs a r
          · have HE := Lib.hid (endsTo_no (m := ⟨W, t, k⟩) (zs := zs) (a := a) (p := r) (by rw [hl]; simp))
            have HL := Lib.hid hl
            clear hl
            go_wp2_with (go_at_call 59; refine HC.out.mono ?_; rintro e w3 ⟨he, hb3⟩; rw [HL.out] at he; subst he; have O3 := Lib.hid (HO.out.below hb3); have B3 := Lib.hid (HB2.out.trans (hb3.mono (B' := g) (by omega))); clear hb3)
            go_roundw
            case rel => exact ⟨j + 1, by omega, by omega, by go_num, by rw [HR1.out, HE.out]; exact O3.out, B3.out⟩
            case measure => simp [intOf]; omega
          · have HE := Lib.hid (endsTo_yes (m := ⟨W, t, k⟩) (zs := zs) (a := a) (p := r) (by omega) hl)
            have HL := Lib.hid hl
            clear hl
            go_wp2_with (go_at_call 59; refine HC.out.mono ?_; rintro e w3 ⟨he, hb3⟩; rw [HL.out] at he; subst he; have O3 := Lib.hid (HO.out.below hb3); have B3 := Lib.hid (HB2.out.trans (hb3.mono (B' := g) (by omega))); clear hb3)
            have Hl2 : Hid ((row.set a (accE addC 0 a row (endsTo ⟨W, t, k⟩ zs a r))).length = N1) := by show _ = _; rw [List.length_set]; exact HLen.out
            have haN : a < N1 := by omega
            have hrN : r < N1 := by omega
            obtain ⟨-, hfz, hst⟩ := own_store O3.out Hl2.out haN
            have hca := own_cell O3.out (j := a) (by rw [Hl2.out]; exact haN)
            have hcc := own_cell O3.out (j := r) (by rw [Hl2.out]; exact hrN)
            rw [getD_set_eq (by rw [HLen.out]; exact haN)] at hca
            rw [getD_set_ne (by omega)] at hcc
            have HA2 := Lib.hid (accE_snoc addC 0 a row (endsTo ⟨W, t, k⟩ zs a r) r)
            obtain ⟨acc, hacc⟩ : ∃ acc, accE addC 0 a row (endsTo ⟨W, t, k⟩ zs a r) = acc := ⟨_, rfl⟩
            obtain ⟨y, hy⟩ : ∃ y, row.getD r 0 = y := ⟨_, rfl⟩
            rw [hacc] at hca HA2 hst
            rw [hy] at hcc HA2
            have HS := Lib.hid (hst (addC acc a r y))
            rw [set_set_same] at HS
            have BS := Lib.hid (below_store B3.out (Nat.le_refl _) (j := a) (.int .i64 (addC acc a r y)))
            have i1 : (0 : Int) ≤ (a : Int) := by omega
            have i2 : (a : Int) < (N1 : Int) := by omega
            have i3 : (0 : Int) ≤ (r : Int) := by omega
            have i4 : (r : Int) < (N1 : Int) := by omega
            clear hst hacc hy p0 p1 p2
            go_still_tail 14, (by kernel_rfl)
            go_wp2
            have hW : (w3.setCell { block := g, off := a } (.int .i64 (wrap64 (acc + y)))).drew = w3.drew.setCell ⟨g, a, none⟩ (.int .i64 (addC acc a r y)) := rfl
            go_roundw
            case rel => exact ⟨j + 1, by omega, by omega, by go_num, by rw [HR1.out, HE.out, HA2.out]; exact HS.out.drewN 1, below_drewN BS.out 1⟩
            case measure => simp [intOf]; omega
        · obtain rfl : j = n - a + 1 := by omega
          have HF : Hid (Own wr g (.slice (some ⟨g, 0, none⟩) N1 N1) (rowE ⟨W, t, k⟩ zs addC 1 0 (d + 1))) := by
            show Own _ _ _ _
            have h := HO.out
            rw [show a + (n - a + 1) = n + 1 by omega] at h
            rw [rowE, HRow.out, Hn.out, HA.out]
            exact h
          have hrn : decide ((r : Int) ≤ (n : Int)) = false := decide_eq_false (by omega)
          have hq : (a : Int) - 1 = (n : Int) - 1 - ((d + 1 : Nat) : Int) := by have := HA.out; omega
          have HQ := Lib.hid hq
          clear hr hr1 hq
          go_wp2
          go_roundw
          case rel => exact ⟨d + 1, by omega, by rw [HQ.out], HF.out, HB2.out⟩
          case measure => simp [intOf]
    · obtain rfl : d = n := by omega
      go_wp2
      go_ret
      exact ⟨g, N1, HN1.out.symm, rfl, by omega, own_base2 HO.out (by omega), T0.out.trans (HB.out.mono (by omega))⟩

set_option maxRecDepth 100000 in
set_option maxHeartbeats 3200000 in
theorem specCount_any (W t k : Int) (A : Option Addr) (n c : Nat) (zs : List Int) (w : World) (hn : zs.length = n) (hc : n ≤ c) (hcm : c ≤ maxLen) (h : Ints w A zs) :
    Calls Try.prog 22 #[.agg #[.int .i64 W, .int .i64 t, .int .i64 k], .slice A n c] w fun e w' => e = .returned (.int .i64 (cntA ⟨W, t, k⟩ zs)) ∧ Below w.heap.size w w' := by
  have C := fun (w : World) (hI : Ints w A zs) => l4Ok_any W t k A n c zs w hn (Nat.le_trans hc hcm) hI
  have D := fun (ad : Addr) (w : World) (hI : Ints w (some ad) zs) (hm : msrB ⟨W, t, k⟩ = true) (ht : textB zs = true) => l4Ways_any W t k ad n c zs w hn hc hcm hI hm ht
  obtain ⟨w0, hw0, hb0, hz0, P⟩ := msWorld w W t k
  have T0 := Lib.hid hb0; have P0 := Lib.hid P; have Z0 := Lib.hid hz0
  have I0 := Lib.hid (h.below hb0)
  have CC := Lib.hid C; have DD := Lib.hid D; have Hn := Lib.hid hn
  obtain ⟨p0, p1, p2⟩ := P
  clear hb0 hz0 hn h C D hc hcm
  cases ho : okW ⟨W, t, k⟩ zs
  · have HR : Hid (cntA ⟨W, t, k⟩ zs = -1) := by show _ = _; unfold cntA; rw [ho]; rfl
    have HO := Lib.hid ho
    clear ho
    go_enter Try.func22, Try.ntmps22
    go_wp2_with fail
    clear hw0
    refine (CC.out _ I0.out).mono ?_
    rintro e w1 ⟨he, hb1⟩
    rw [show (msrB ⟨W, t, k⟩ && textB zs) = false from HO.out] at he; subst he
    have T1 := Lib.hid (T0.out.trans (hb1.mono (B' := w.heap.size) (by have := Z0.out; omega)))
    clear hb1 p0 p1 p2
    go_wp2
    go_ret
    exact ⟨ret_int HR.out.symm, T1.out⟩
  have HR : Hid (cntA ⟨W, t, k⟩ zs = wayF ⟨W, t, k⟩ zs 0) := by show _ = _; unfold cntA; rw [ho]; rfl
  have HO := Lib.hid ho
  have HM := Lib.hid (okW_parts ho)
  obtain ⟨-, hl1, hl2⟩ := textB_parts HM.out.2
  rw [Hn.out] at hl1 hl2
  obtain ⟨ad, rfl⟩ := ints_some I0.out (by rw [Hn.out]; exact hl1)
  have DD2 := Lib.hid (fun w h => DD.out ad w h HM.out.1 HM.out.2)
  clear DD ho
  go_enter Try.func22, Try.ntmps22
  go_wp2_with fail
  clear hw0
  refine (CC.out _ I0.out).mono ?_
  rintro e w1 ⟨he, hb1⟩
  rw [show (msrB ⟨W, t, k⟩ && textB zs) = true from HO.out] at he; subst he
  have T1 := Lib.hid (T0.out.trans (hb1.mono (B' := w.heap.size) (by have := Z0.out; omega)))
  have I1 := Lib.hid (I0.out.below hb1)
  have P1 := Lib.hid (hold3 hb1 (by have := Z0.out; omega) P0.out)
  have Z1 : Hid (w.heap.size < w1.heap.size) := by show _ < _; have := Z0.out; have := hb1.size; omega
  clear p0 p1 p2 hb1 T0 I0 P0 Z0 CC
  obtain ⟨p0, p1, p2⟩ := P1.out
  go_wp2_with fail
  refine (DD2.out _ I1.out).mono ?_
  rintro e w2 ⟨g, N1, hN1, rfl, hg, hO, hb2⟩
  have T2 := Lib.hid (T1.out.trans (hb2.mono (B' := w.heap.size) (by have := Z1.out; omega)))
  have hc0 := own_cell hO (j := 0) (by rw [rowE_len]; omega)
  rw [show (rowE ⟨W, t, k⟩ zs addC 1 0 n).getD 0 0 = wayF ⟨W, t, k⟩ zs 0 from by unfold wayF valE; rw [Hn.out]] at hc0
  have i1 : (0 : Int) < (N1 : Int) := by omega
  clear hN1 hO hb2 p0 p1 p2 hg
  go_wp2
  go_ret
  exact ⟨ret_int HR.out.symm, T2.out⟩
end Go.Proofs.Ytddkedinkgnboaa
