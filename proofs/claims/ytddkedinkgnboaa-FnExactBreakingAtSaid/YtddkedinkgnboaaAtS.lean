/-
  BreakingAt of the model by contract. Conditions: lengths and capacities within the reach of a slice, an index of int's range.
-/
import Derived.Test.YtddkedinkgnboaaAtJ
import Derived.Test.YtddkedinkgnboaaPkC
namespace Go.Proofs.Ytddkedinkgnboaa
open Go.RowKit
set_option linter.unusedVariables false

set_option maxRecDepth 100000 in
set_option maxHeartbeats 6400000 in
theorem specAt_any (W t k : Int) (A : Option Addr) (n c : Nat) (zs : List Int) (i : Int) (L : List Int) (w : World) (hn : zs.length = n) (hc : n ≤ c) (hcm : c ≤ maxLen) (h : Ints w A zs) (hi : i ≤ 9223372036854775807) (hL : AtR ⟨W, t, k⟩ zs i L) :
    Calls Try.prog 37 #[.agg #[.int .i64 W, .int .i64 t, .int .i64 k], .slice A n c, .int .i64 i] w fun e w' => ∃ v, e = .returned (.tuple #[v, .bool (atB ⟨W, t, k⟩ zs i)]) ∧ Own w' w.heap.size v L ∧ Below w.heap.size w w' := by
  have C := fun (w : World) (hI : Ints w A zs) => l4Ok_any W t k A n c zs w hn (Nat.le_trans hc hcm) hI
  have CT := fun (w : World) (hI : Ints w A zs) => specCntB_any W t k A n c zs w hn hc hcm hI
  obtain ⟨w0, hw0, hb0, hz0, P⟩ := msWorld w W t k
  have T0 := Lib.hid hb0; have P0 := Lib.hid P; have Z0 := Lib.hid hz0
  have I0 := Lib.hid ((IntsB.of h).keep (Nat.le_refl _) hb0)
  have CC := Lib.hid C; have CCT := Lib.hid CT; have Hn := Lib.hid hn; have Hc := Lib.hid hc; have Hcm := Lib.hid hcm; have HL := Lib.hid hL
  obtain ⟨p0, p1, p2⟩ := P
  clear hb0 hz0 hn h C CT hc hcm hL
  cases ho : okW ⟨W, t, k⟩ zs
  · have HB : Hid (atB ⟨W, t, k⟩ zs i = false) := by show _ = _; unfold atB; rw [ho]; rfl
    have HE : Hid (L = []) := by show L = []; have := HL.out; unfold AtR at this; rw [HB.out] at this; simpa using this
    have HO := Lib.hid ho
    clear ho
    rw [HB.out]
    go_enter Try.func37, Try.ntmps37
    go_wp2_with fail
    clear hw0
    refine (CC.out _ I0.out.ints).mono ?_
    rintro e w1 ⟨he, hb1⟩
    rw [show (msrB ⟨W, t, k⟩ && textB zs) = false from HO.out] at he; subst he
    have T1 := Lib.hid (T0.out.trans (hb1.mono (B' := w.heap.size) (by have := Z0.out; omega)))
    clear hb1 p0 p1 p2
    go_wp2
    go_ret2
    exact ⟨_, rfl, by rw [HE.out]; exact World.ownsRow_nil _ _ _ _, T1.out⟩
  have HO := Lib.hid ho
  have HM := Lib.hid (okW_parts ho)
  obtain ⟨-, hl1, hl2⟩ := textB_parts HM.out.2
  have h40 : Hid (zs.length ≤ 40) := hl2
  rw [Hn.out] at hl1 hl2
  obtain ⟨ad, rfl⟩ := ints_some I0.out.ints (by rw [Hn.out]; exact hl1)
  have HCnt : Hid (cntA ⟨W, t, k⟩ zs = wayF ⟨W, t, k⟩ zs 0) := by show _ = _; unfold cntA; rw [ho]; rfl
  have HAB : Hid (atB ⟨W, t, k⟩ zs i = (decide (0 ≤ i) && decide (i < wayF ⟨W, t, k⟩ zs 0))) := by show _ = _; unfold atB; rw [ho]; rfl
  obtain ⟨X0, hX0⟩ : ∃ X, wayF ⟨W, t, k⟩ zs 0 = X := ⟨_, rfl⟩
  rw [hX0] at HCnt HAB
  have HX0 := Lib.hid hX0
  clear ho hX0
  by_cases hi0 : i < 0
  · have HB : Hid (atB ⟨W, t, k⟩ zs i = false) := by show _ = _; rw [HAB.out, decide_eq_false (by omega)]; rfl
    have HE : Hid (L = []) := by show L = []; have := HL.out; unfold AtR at this; rw [HB.out] at this; simpa using this
    rw [HB.out]
    have hneg : decide (i < 0) = true := decide_eq_true hi0
    go_enter Try.func37, Try.ntmps37
    go_wp2_with fail
    clear hw0
    refine (CC.out _ I0.out.ints).mono ?_
    rintro e w1 ⟨he, hb1⟩
    rw [show (msrB ⟨W, t, k⟩ && textB zs) = true from HO.out] at he; subst he
    have T1 := Lib.hid (T0.out.trans (hb1.mono (B' := w.heap.size) (by have := Z0.out; omega)))
    have P1 := Lib.hid (hold3 hb1 (by have := Z0.out; omega) P0.out)
    clear hb1 p0 p1 p2
    obtain ⟨p0, p1, p2⟩ := P1.out
    go_wp2
    go_ret2
    exact ⟨_, rfl, by rw [HE.out]; exact World.ownsRow_nil _ _ _ _, T1.out⟩
  have hneg : decide (i < 0) = false := decide_eq_false hi0
  by_cases hiw : X0 ≤ i
  · have HB : Hid (atB ⟨W, t, k⟩ zs i = false) := by show _ = _; rw [HAB.out, decide_eq_false (p := i < X0) (by omega), Bool.and_false]
    have HE : Hid (L = []) := by show L = []; have := HL.out; unfold AtR at this; rw [HB.out] at this; simpa using this
    rw [HB.out]
    have hge : decide (X0 ≤ i) = true := decide_eq_true hiw
    clear hi0
    go_enter Try.func37, Try.ntmps37
    go_wp2_with fail
    clear hw0
    refine (CC.out _ I0.out.ints).mono ?_
    rintro e w1 ⟨he, hb1⟩
    rw [show (msrB ⟨W, t, k⟩ && textB zs) = true from HO.out] at he; subst he
    have T1 := Lib.hid (T0.out.trans (hb1.mono (B' := w.heap.size) (by have := Z0.out; omega)))
    have I1 := Lib.hid (I0.out.keep (by have := Z0.out; omega) hb1)
    have P1 := Lib.hid (hold3 hb1 (by have := Z0.out; omega) P0.out)
    have hz1 : w.heap.size < w1.heap.size := by have := Z0.out; have := hb1.size; omega
    clear hb1 p0 p1 p2
    obtain ⟨p0, p1, p2⟩ := P1.out
    go_wp2_with (go_at_call 22; refine (CCT.out _ I1.out.ints).mono ?_; rintro e w2 ⟨he, hb2⟩; rw [HCnt.out] at he; subst he; have T2 := Lib.hid (T1.out.trans (hb2.mono (B' := w.heap.size) (by omega))); clear hb2)
    go_ret2
    exact ⟨_, rfl, by rw [HE.out]; exact World.ownsRow_nil _ _ _ _, T2.out⟩
  have hge : decide (X0 ≤ i) = false := decide_eq_false hiw
  have HB : Hid (atB ⟨W, t, k⟩ zs i = true) := by show _ = _; rw [HAB.out, decide_eq_true (by omega), decide_eq_true (by omega)]; rfl
  have HBr : Hid (brkF ⟨W, t, k⟩ zs 0 L = true ∧ idxF ⟨W, t, k⟩ zs 0 L = i) := by show _ ∧ _; have := HL.out; unfold AtR at this; rw [HB.out] at this; simpa using this
  have CG := Lib.hid (fun (a q : Nat) (v : World) (hI : Ints v (some ad) zs) (hq : 1 ≤ q) (hb : a + q ≤ n) => l4Goes_any W t k ad n c zs a q v Hn.out Hc.out Hcm.out hI HM.out.1 HM.out.2 hq hb)
  have CW := Lib.hid (fun (v : World) (hI : Ints v (some ad) zs) => l4Ways_any W t k ad n c zs v Hn.out Hc.out Hcm.out hI HM.out.1 HM.out.2)
  have hi00 : 0 ≤ i := by omega
  have hiX : i < X0 := by omega
  rw [HB.out]
  clear hi0 hiw
  go_enter Try.func37, Try.ntmps37
  go_wp2_with fail
  clear hw0
  refine (CC.out _ I0.out.ints).mono ?_
  rintro e w1 ⟨he, hb1⟩
  rw [show (msrB ⟨W, t, k⟩ && textB zs) = true from HO.out] at he; subst he
  have T1 := Lib.hid (T0.out.trans (hb1.mono (B' := w.heap.size) (by have := Z0.out; omega)))
  have I1 := Lib.hid (I0.out.keep (by have := Z0.out; omega) hb1)
  have P1 := Lib.hid (hold3 hb1 (by have := Z0.out; omega) P0.out)
  have hz1 : w.heap.size < w1.heap.size := by have := Z0.out; have := hb1.size; omega
  clear hb1 p0 p1 p2
  obtain ⟨p0, p1, p2⟩ := P1.out
  go_wp2_with (first
    | (go_at_call 22; refine (CCT.out _ I1.out.ints).mono ?_; rintro e w2 ⟨he, hb2⟩; rw [HCnt.out] at he; subst he; have T2 := Lib.hid (T1.out.trans (hb2.mono (B' := w.heap.size) (by omega))); have I2 := Lib.hid (I1.out.keep (by omega) hb2); have P2 := Lib.hid (hold3 hb2 hz1 P1.out); have hz2 : w.heap.size < w2.heap.size := (by have := hb2.size; omega); clear hb2 p0 p1 p2; obtain ⟨p0, p1, p2⟩ := P2.out)
    | (go_at_call 56; refine (CW.out _ I2.out.ints).mono ?_; rintro e w3 ⟨g, N1, hN1, rfl, hg, hO, hb3⟩; have T3 := Lib.hid (T2.out.trans (hb3.mono (B' := w.heap.size) (by omega))); have I3 := Lib.hid (I2.out.keep (by omega) hb3); have P3 := Lib.hid (hold3 hb3 hz2 P2.out); have hz3 : w.heap.size < w3.heap.size := (by have := hb3.size; omega); have O3 := Lib.hid hO; have HN1 := Lib.hid hN1; clear hb3 p0 p1 p2 hO hN1 hg))
  obtain ⟨B, hB⟩ : ∃ b, w3.heap.size = b := ⟨_, rfl⟩
  obtain ⟨w4, hw4⟩ : ∃ v, w3.alloc (.cells #[] 3) = v := ⟨_, rfl⟩
  have hb4 : Below B w3 w4 := by rw [← hw4, ← hB]; exact below_new _ _
  have O4 : Hid (Own w4 B (.slice (some ⟨B, 0, none⟩) 0 0) []) := by show Own _ _ _ _; rw [← hw4, ← hB]; exact World.ownsRow_lit w3 #[] 0 (Nat.le_refl _) (Nat.zero_le _) rfl
  have HB4 := Lib.hid hb4; have HBz := Lib.hid hB
  have hzB : w.heap.size < B := by rw [← hB]; exact hz3
  rw [hw4, hB]
  clear hw4 hb4 hB hz3
  go_loopw [2, 9, 10] (fun ix u a wr => ∃ (p : Nat) (x : Int) (ls rest : List Int) (A : Option Addr) (m d : Nat), p ≤ n ∧ a = .int .i64 p ∧ ix = .int .i64 x ∧ u = .slice A m d ∧ ls.length ≤ p ∧ Own wr B (.slice A m d) ls ∧ Hid (L = ls ++ rest ∧ brkF ⟨W, t, k⟩ zs p rest = true ∧ idxF ⟨W, t, k⟩ zs p rest = x) ∧ Below B w3 wr) (fun _ _ a _ => n - (intOf a).toNat)
  case atStart => exact ⟨0, i, [], L, _, 0, 0, Nat.zero_le _, rfl, rfl, rfl, Nat.le_refl _, O4.out, ⟨rfl, HBr.out.1, HBr.out.2⟩, HB4.out⟩
  case round =>
    clear O4 HB4
    obtain ⟨p, x, ls, rest, A, m, d, hp, rfl, rfl, rfl, hlp, hO, hF, hb⟩ := hrel
    have HO1 := Lib.hid hO; have HB1 := Lib.hid hb
    have hzr : B ≤ wr.heap.size := by have := hb.size; have := HBz.out; omega
    clear hO hb
    by_cases hlt : p < n
    · obtain ⟨y, r', hrest⟩ : ∃ y r', rest = y :: r' := by
        cases rest with
        | nil => have h1 := hF.out.2.1; rw [brkF, decide_eq_true_eq, Hn.out] at h1; omega
        | cons y r' => exact ⟨y, r', rfl⟩
      have hF2 := hF.out
      rw [hrest, brkF, Bool.and_eq_true, Bool.and_eq_true, idxF] at hF2
      obtain ⟨hF3, ⟨hy, hlu, hbr⟩, hix⟩ := hF2
      have hy2 := inB_true hy
      obtain ⟨u, rfl⟩ : ∃ u : Nat, y = (u : Int) := ⟨y.toNat, by omega⟩
      rw [Int.toNat_natCast] at hlu hbr hix
      rw [Hn.out] at hy2
      have hir := idxF_bound h40.out r' (p + u) (by rw [Hn.out]; omega) hbr
      have hbu := befF_range (m := ⟨W, t, k⟩) h40.out (show p ≤ zs.length by rw [Hn.out]; exact hp) (show p + u ≤ zs.length + 1 by rw [Hn.out]; omega)
      have hwu := wayF_range (m := ⟨W, t, k⟩) h40.out (show p + u ≤ zs.length by rw [Hn.out]; omega)
      have hu1 : 1 ≤ u := by omega
      have hun : p + u ≤ n := by omega
      have HF3 := Lib.hid hF3; have HLu := Lib.hid hlu; have HBr2 := Lib.hid hbr; have HIx := Lib.hid hix; have HIr := Lib.hid hir
      have hx0 : 0 ≤ x ∧ x ≤ 2199023255552 := by omega
      have hxb := Lib.hid hx0
      clear hrest hF3 hlu hbr hix hir hy hy2 hF hbu hwu hx0
      go_wp2
      rename_i wr1
      go_loopw [2, 11] (fun ix a wr => ∃ v : Nat, 1 ≤ v ∧ v ≤ u ∧ a = .int .i64 v ∧ ix = .int .i64 (x - befF ⟨W, t, k⟩ zs p (p + v)) ∧ Own wr B (.slice A m d) ls ∧ Below B w3 wr) (fun _ a _ => u - (intOf a).toNat)
      case atStart => exact ⟨1, Nat.le_refl _, hu1, by go_num, by rw [befF_low (by omega)]; go_num, HO1.out, HB1.out⟩
      case round =>
        clear HO1 HB1 hzr
        obtain ⟨v, hv1, hv2, rfl, rfl, hO, hb⟩ := hrel
        have HO2 := Lib.hid hO; have HB2 := Lib.hid hb
        have hzr : B ≤ wr.heap.size := by have := hb.size; have := HBz.out; omega
        have P5 := Lib.hid (hold3 hb hzB P3.out)
        have I5 := Lib.hid ((I3.out.keep (by omega) hb).ints)
        have O5 := Lib.hid (O3.out.below (by rw [HBz.out]; exact hb))
        obtain ⟨p0, p1, p2⟩ := P5.out
        have HC := Lib.hid (CG.out p v wr I5.out hv1 (by omega))
        obtain ⟨r, hr⟩ : ∃ r, p + v = r := ⟨_, rfl⟩
        have hcast : (p : Int) + (v : Int) = (r : Int) := by omega
        have er : IntKind.i64.wrap (r : Int) = (r : Int) := by rw [IntKind.wrap_i64]; omega
        have hr1 : p + (v + 1) = r + 1 := by omega
        have HR1 := Lib.hid hr1
        have hrn : r ≤ n := by omega
        have hpr : p < r := by omega
        have hbe := befF_range (m := ⟨W, t, k⟩) h40.out (show p ≤ zs.length by rw [Hn.out]; exact hp) (show r ≤ zs.length + 1 by rw [Hn.out]; omega)
        have hwe := wayF_range (m := ⟨W, t, k⟩) h40.out (show r ≤ zs.length by rw [Hn.out]; exact hrn)
        have HW5 : Hid (∀ w5 : World, Below wr.heap.size wr w5 → w5.cell? ⟨g, r, none⟩ = some (.int .i64 (wayF ⟨W, t, k⟩ zs r))) := fun w5 h5 => by
          have h1 := own_cell (O5.out.below h5) (j := r) (by rw [rowE_len, Hn.out]; omega)
          rw [h1]; unfold wayF valE; rw [Hn.out]
        have i1 : (r : Int) < (N1 : Int) := by have := HN1.out; omega
        have hx0 := hxb.out
        have hir := HIr.out; have hix := HIx.out
        rw [hr] at HC ⊢
        clear hb hO hr1
        by_cases hlt2 : v < u
        · cases hl : lineW ⟨W, t, k⟩ zs p r
          · have HE := Lib.hid (befF_no (m := ⟨W, t, k⟩) (zs := zs) (i := p) (p := r) (by rw [hl]; simp))
            have HLn := Lib.hid hl
            obtain ⟨b, hbb⟩ : ∃ b, befF ⟨W, t, k⟩ zs p r = b := ⟨_, rfl⟩
            have HBB := Lib.hid hbb
            rw [hbb]
            clear hl hr hbe hwe hir hix hx0 hbb
            go_wp2_with (first
              | (go_at_call 59; refine HC.out.mono ?_; rintro e w5 ⟨he, hb5⟩; rw [HLn.out] at he; subst he; have B5 := Lib.hid (HB2.out.trans (hb5.mono (B' := B) hzr)); have O6 := Lib.hid (HO2.out.below hb5); have P6 := Lib.hid (hold3 B5.out hzB P3.out); have I6 := Lib.hid ((I3.out.keep (by omega) B5.out).ints); have HC6 := Lib.hid (CG.out p v w5 I6.out hv1 (by omega)); have hz5 : B ≤ w5.heap.size := (Nat.le_trans hzr hb5.size); clear hb5 p0 p1 p2 HC; obtain ⟨p0, p1, p2⟩ := P6.out)
              | (go_at_call 59; refine HC6.out.mono ?_; rintro e w6 ⟨he, hb6⟩; rw [show p + v = r from by omega, HLn.out] at he; subst he; have B6 := Lib.hid (B5.out.trans (hb6.mono (B' := B) hz5)); have O7 := Lib.hid (O6.out.below hb6); clear hb6))
            go_roundw
            case rel => exact ⟨v + 1, by omega, by omega, by go_num, by rw [HR1.out, HE.out, HBB.out], O7.out, B6.out⟩
            case measure => simp [intOf]; omega
          · have hE := befF_yes (m := ⟨W, t, k⟩) (zs := zs) h40.out (i := p) (p := r) hpr (by rw [Hn.out]; exact hrn) hl
            have hmono := befF_mono (m := ⟨W, t, k⟩) h40.out (i := p) (p := r + 1) (p + u - r - 1) (by rw [Hn.out]; omega)
            rw [show r + 1 + (p + u - r - 1) = p + u by omega] at hmono
            have HE := Lib.hid hE
            have HLn := Lib.hid hl
            obtain ⟨b, hbb⟩ : ∃ b, befF ⟨W, t, k⟩ zs p r = b := ⟨_, rfl⟩
            obtain ⟨y, hyy⟩ : ∃ y, wayF ⟨W, t, k⟩ zs r = y := ⟨_, rfl⟩
            rw [hbb] at HE hE hbe ⊢
            rw [hyy] at HE hE HW5 hwe
            have hge2 : decide (y ≤ x - b) = true := decide_eq_true (by omega)
            have e5 : IntKind.i64.wrap (x - b - y) = x - b - y := by rw [IntKind.wrap_i64]; omega
            have e6 : Hid (x - b - y = x - befF ⟨W, t, k⟩ zs p (p + (v + 1))) := by show _ = _; rw [HR1.out, HE.out]; omega
            clear hl hr hbe hwe hir hix hx0 hbb hyy hE hmono
            go_wp2_with (first
              | (go_at_call 59; refine HC.out.mono ?_; rintro e w5 ⟨he, hb5⟩; rw [HLn.out] at he; subst he; have B5 := Lib.hid (HB2.out.trans (hb5.mono (B' := B) hzr)); have O6 := Lib.hid (HO2.out.below hb5); have P6 := Lib.hid (hold3 B5.out hzB P3.out); have I6 := Lib.hid ((I3.out.keep (by omega) B5.out).ints); have HC6 := Lib.hid (CG.out p v w5 I6.out hv1 (by omega)); have hz5 : B ≤ w5.heap.size := (Nat.le_trans hzr hb5.size); have hcw := HW5.out w5 hb5; have HB5 := Lib.hid hb5; clear hb5 p0 p1 p2 HC; obtain ⟨p0, p1, p2⟩ := P6.out)
              | (go_at_call 59; refine HC6.out.mono ?_; rintro e w6 ⟨he, hb6⟩; rw [show p + v = r from by omega, HLn.out] at he; subst he; have B6 := Lib.hid (B5.out.trans (hb6.mono (B' := B) hz5)); have O7 := Lib.hid (O6.out.below hb6); clear hcw; have hcw2 := HW5.out w6 (HB5.out.trans (hb6.mono HB5.out.size)); clear hb6))
            go_roundw
            case rel => exact ⟨v + 1, by omega, by omega, by go_num, by rw [← e6.out], O7.out, B6.out⟩
            case measure => simp [intOf]; omega
        · obtain rfl : v = u := by omega
          have hlr : lineW ⟨W, t, k⟩ zs p r = true := by rw [← hr]; exact HLu.out
          have HLr := Lib.hid hlr
          rw [hr] at hix
          have hir2 : idxF ⟨W, t, k⟩ zs r r' < wayF ⟨W, t, k⟩ zs r ∧ 0 ≤ idxF ⟨W, t, k⟩ zs r r' := by rw [← hr]; exact ⟨hir.2, hir.1⟩
          have HBr3 : Hid (brkF ⟨W, t, k⟩ zs r r' = true) := by show _ = _; rw [← hr]; exact HBr2.out
          have HF4 : Hid (L = (ls ++ [(v : Int)]) ++ r') := by show _ = _; rw [HF3.out]; simp
          obtain ⟨b, hbb⟩ : ∃ b, befF ⟨W, t, k⟩ zs p r = b := ⟨_, rfl⟩
          obtain ⟨y, hyy⟩ : ∃ y, wayF ⟨W, t, k⟩ zs r = y := ⟨_, rfl⟩
          rw [hbb] at hix hbe ⊢
          rw [hyy] at HW5 hwe hir2
          have hge2 : decide (y ≤ x - b) = false := decide_eq_false (by omega)
          have HXi : Hid (idxF ⟨W, t, k⟩ zs r r' = x - b) := by show _ = _; omega
          obtain ⟨N5, hN5⟩ : ∃ N, (ls ++ [(v : Int)]).length = N := ⟨_, rfl⟩
          have HN5 := Lib.hid hN5
          have hN5b : N5 ≤ r := by rw [← hN5]; simp; omega
          clear hr hbe hwe hir hir2 hix hx0 hbb hyy hlr hN5 HIr HIx HBr2 HF3
          go_wp2_with (first
            | (go_at_call 59; refine HC.out.mono ?_; rintro e w5 ⟨he, hb5⟩; rw [HLr.out] at he; subst he; have B5 := Lib.hid (HB2.out.trans (hb5.mono (B' := B) hzr)); have O6 := Lib.hid (HO2.out.below hb5); have hz5 : B ≤ w5.heap.size := (Nat.le_trans hzr hb5.size); have hcw := HW5.out w5 hb5; clear hb5 p0 p1 p2)
            | (at_builtin; refine wpl_push w5 rfl (.tmp 66) (.tmp 68) rfl B _ ls (v : Int) rfl rfl O6.out hz5 (by omega) ?_; intro v6 w6 hO6 hb6; have B6 := Lib.hid (B5.out.trans hb6); obtain ⟨A6, c6, hv6, _⟩ := hO6.form; rw [HN5.out] at hv6; subst hv6; have O7 := Lib.hid hO6; clear hO6 hb6 O6 B5))
          go_roundw
          case rel => exact ⟨r, x - b, ls ++ [(v : Int)], r', A6, N5, c6, hrn, rfl, rfl, rfl, by rw [HN5.out]; exact hN5b, O7.out, ⟨HF4.out, HBr3.out, HXi.out⟩, B6.out⟩
          case measure => simp [intOf]; omega
    · obtain rfl : p = n := by omega
      have HLs : Hid (L = ls) := by
        show _ = _
        cases rest with
        | nil => rw [hF.out.1]; simp
        | cons y r' =>
          have h1 := hF.out.2.1
          rw [brkF, Bool.and_eq_true] at h1
          have := inB_true h1.1
          rw [Hn.out] at this; omega
      go_wp2
      go_ret2
      exact ⟨_, rfl, by rw [HLs.out]; exact own_base2 HO1.out (by omega), T3.out.trans (HB1.out.mono (by omega))⟩
end Go.Proofs.Ytddkedinkgnboaa
