/-
  BestBreaking of the model by contract. Conditions: lengths and capacities within the reach of a slice.
-/
import Derived.Test.YtddkedinkgnboaaBestM
import Derived.Test.YtddkedinkgnboaaBest
import Derived.Test.YtddkedinkgnboaaPkC
import Derived.OwnWalk
namespace Go.Proofs.Ytddkedinkgnboaa
open Go.RowKit
set_option linter.unusedVariables false

theorem own_keepB {w w' : World} {B b : Nat} {v : Value} {zs : List Int} (h : Own w B v zs) (hv : ∀ k, v.ownBlock = some k → k < b) (hb : Below b w w') : Own w' B v zs := by
  unfold Own at *
  exact row_below h hv hb

set_option maxRecDepth 100000 in
set_option maxHeartbeats 12800000 in
theorem specBest_any (W t k : Int) (A : Option Addr) (n c : Nat) (zs : List Int) (w : World) (hn : zs.length = n) (hc : n ≤ c) (hcm : c ≤ maxLen) (h : Ints w A zs) :
    Calls Try.prog 39 #[.agg #[.int .i64 W, .int .i64 t, .int .i64 k], .slice A n c] w fun e w' => ∃ v, e = .returned (.tuple #[v, .int .i64 (bstC ⟨W, t, k⟩ zs), .bool (bstA ⟨W, t, k⟩ zs).isSome]) ∧ Own w' w.heap.size v ((bstA ⟨W, t, k⟩ zs).getD []) ∧ Below w.heap.size w w' := by
  have C := fun (w : World) (hI : Ints w A zs) => l4Ok_any W t k A n c zs w hn (Nat.le_trans hc hcm) hI
  have CT := fun (w : World) (hI : Ints w A zs) => specCntB_any W t k A n c zs w hn hc hcm hI
  obtain ⟨w0, hw0, hb0, hz0, P⟩ := msWorld w W t k
  have T0 := Lib.hid hb0; have P0 := Lib.hid P; have Z0 := Lib.hid hz0
  have I0 := Lib.hid ((IntsB.of h).keep (Nat.le_refl _) hb0)
  have CC := Lib.hid C; have CCT := Lib.hid CT; have Hn := Lib.hid hn; have Hc := Lib.hid hc; have Hcm := Lib.hid hcm
  obtain ⟨p0, p1, p2⟩ := P
  clear hb0 hz0 hn h C CT hc hcm
  cases ho : okW ⟨W, t, k⟩ zs
  · have HR : Hid (bstA ⟨W, t, k⟩ zs = none ∧ bstC ⟨W, t, k⟩ zs = 0) := by show _ ∧ _; unfold bstA bstC; rw [ho]; exact ⟨rfl, rfl⟩
    have HO := Lib.hid ho
    clear ho
    rw [HR.out.1, HR.out.2]
    go_enter Try.func39, Try.ntmps39
    go_wp2_with fail
    clear hw0
    refine (CC.out _ I0.out.ints).mono ?_
    rintro e w1 ⟨he, hb1⟩
    rw [show (msrB ⟨W, t, k⟩ && textB zs) = false from HO.out] at he; subst he
    have T1 := Lib.hid (T0.out.trans (hb1.mono (B' := w.heap.size) (by have := Z0.out; omega)))
    have I1 := Lib.hid (I0.out.keep (by have := Z0.out; omega) hb1)
    have P1 := Lib.hid (hold3 hb1 (by have := Z0.out; omega) P0.out)
    have hz1 : w.heap.size < w1.heap.size := by have := Z0.out; have := hb1.size; omega
    clear hb1 p0 p1 p2
    obtain ⟨p0, p1, p2⟩ := P1.out
    go_wp2
    go_ret3
    exact ⟨_, rfl, World.ownsRow_nil _ _ _ _, T1.out⟩
  have HO := Lib.hid ho
  have HOK := Lib.hid ho
  have HM := Lib.hid (okW_parts ho)
  obtain ⟨-, hl1, hl2⟩ := textB_parts HM.out.2
  have h40 : Hid (zs.length ≤ 40) := hl2
  rw [Hn.out] at hl1 hl2
  obtain ⟨ad, rfl⟩ := ints_some I0.out.ints (by rw [Hn.out]; exact hl1)
  have hway := lst_way ho h40.out (Nat.zero_le zs.length)
  have hwr := wayF_range (m := ⟨W, t, k⟩) h40.out (Nat.zero_le zs.length)
  have HCnt : Hid (cntA ⟨W, t, k⟩ zs = wayF ⟨W, t, k⟩ zs 0) := by show _ = _; unfold cntA; rw [ho]; rfl
  obtain ⟨X0, hX0⟩ : ∃ X, wayF ⟨W, t, k⟩ zs 0 = X := ⟨_, rfl⟩
  rw [hX0] at HCnt hway hwr
  clear hX0
  by_cases hd : lstF ⟨W, t, k⟩ zs 0 < dearC
  · have HR : Hid (bstA ⟨W, t, k⟩ zs = some (bstF ⟨W, t, k⟩ zs (n + 1) 0) ∧ bstC ⟨W, t, k⟩ zs = lstF ⟨W, t, k⟩ zs 0) := by
      show _ ∧ _
      unfold bstA bstC; rw [ho, decide_eq_true hd, Hn.out]; exact ⟨rfl, rfl⟩
    have hX : (X0 == 0) = false := by rw [beq_eq_false_iff_ne]; have := hway.1 hd; omega
    have HD0 := Lib.hid hd
    obtain ⟨x0, hx0⟩ : ∃ x, lstF ⟨W, t, k⟩ zs 0 = x := ⟨_, rfl⟩
    have HX0 := Lib.hid hx0
    rw [HR.out.1, HR.out.2, hx0]
    clear hx0
    have CG := Lib.hid (fun (a q : Nat) (v : World) (hI : Ints v (some ad) zs) (hq : 1 ≤ q) (hb : a + q ≤ n) => l4Goes_any W t k ad n c zs a q v Hn.out Hc.out Hcm.out hI HM.out.1 HM.out.2 hq hb)
    have CW := Lib.hid (fun (v : World) (hI : Ints v (some ad) zs) => l4Ways_any W t k ad n c zs v Hn.out Hc.out Hcm.out hI HM.out.1 HM.out.2)
    have DD := Lib.hid (fun (a b M : Nat) (v : World) (hI : Ints v (some ad) zs) (hab : a < b) (hb : b ≤ n) (hM : b - a = M) (hl : lineW ⟨W, t, k⟩ zs a b = true) => riseSeg_any W t k ad M (c - a) zs a b v hI HM.out.1 HM.out.2 hab (by rw [Hn.out]; exact hb) hM hl)
    obtain ⟨N1, hN1⟩ : ∃ N1, n + 1 = N1 := ⟨_, rfl⟩
    have HN1 := Lib.hid hN1
    have hcast : (n : Int) + 1 = (N1 : Int) := by omega
    have e1 : IntKind.i64.wrap ((n : Int) + 1) = (N1 : Int) := by rw [IntKind.wrap_i64]; omega
    have hw1 : IntKind.i64.wrap ((n : Int) - 1) = (n : Int) - 1 := by rw [IntKind.wrap_i64]; omega
    have hN1b : N1 ≤ 41 := by omega
    have hcm2 : c ≤ 9223372036854775807 := by have := Hcm.out; unfold maxLen at this; omega
    have hnc := Hc.out
    clear ho hd hway hwr hN1
    go_enter Try.func39, Try.ntmps39
    go_wp2_with fail
    clear hw0
    refine (CC.out _ I0.out.ints).mono ?_
    rintro e w1 ⟨he, hb1⟩
    rw [show (msrB ⟨W, t, k⟩ && textB zs) = true from HO.out] at he; subst he
    have T1 := Lib.hid (T0.out.trans (hb1.mono (B' := w.heap.size) (by have := Z0.out; omega)))
    have I1 := Lib.hid (I0.out.keep (by have := Z0.out; omega) hb1)
    have P1 := Lib.hid (hold3 hb1 (by have := Z0.out; omega) P0.out)
    have hz1 : w.heap.size < w1.heap.size := by have := Z0.out; have := hb1.size; omega
    clear hb1 p0 p1 p2
    obtain ⟨p0, p1, p2⟩ := P1.out
    go_wp2_with (first
      | (go_at_call 22; refine (CCT.out _ I1.out.ints).mono ?_; rintro e w2 ⟨he, hb2⟩; rw [HCnt.out] at he; subst he; have T2 := Lib.hid (T1.out.trans (hb2.mono (B' := w.heap.size) (by omega))); have I2 := Lib.hid (I1.out.keep (by omega) hb2); have P2 := Lib.hid (hold3 hb2 hz1 P1.out); have hz2 : w.heap.size < w2.heap.size := (by have := hb2.size; omega); clear hb2 p0 p1 p2; obtain ⟨p0, p1, p2⟩ := P2.out)
      | (go_at_call 56; refine (CW.out _ I2.out.ints).mono ?_; rintro e w3 ⟨gw, N2, hN2, rfl, hgw, hO, hb3⟩; obtain rfl : N2 = N1 := (by have := HN1.out; omega); have T3 := Lib.hid (T2.out.trans (hb3.mono (B' := w.heap.size) (by omega))); have I3 := Lib.hid (I2.out.keep (by omega) hb3); have P3 := Lib.hid (hold3 hb3 hz2 P2.out); have hz3 : w.heap.size < w3.heap.size := (by have := hb3.size; omega); have O3 := Lib.hid hO; clear hb3 p0 p1 p2 hO hN2 hgw)
      | (at_make; refine wpl_make_int _ rfl (.tmp 31) rfl N2 _ rfl rfl (by omega) ?_; intro w4 hO0 hb4; have OC4 := Lib.hid (made_own hO0); have B4 := Lib.hid hb4; clear hO0 hb4)
      | (at_make; refine wpl_make_int _ rfl (.tmp 35) rfl N2 _ rfl rfl (by omega) ?_; intro w5 hO0 hb5; have OF5 := Lib.hid (made_own hO0); have B5 := Lib.hid hb5; clear hO0 hb5))
    obtain ⟨gc, hgc⟩ : ∃ b, w3.heap.size = b := ⟨_, rfl⟩
    obtain ⟨gf, hgf⟩ : ∃ b, w4.heap.size = b := ⟨_, rfl⟩
    have hgcf : gc < gf := by rw [← hgf, ← hgc]; exact (World.ownsRow.lt OC4.out w3.heap.size rfl).2
    have HGC := Lib.hid hgc
    rw [hgc] at OC4 B4 hz3 ⊢
    rw [hgf] at OF5 B5 ⊢
    have OC5 := Lib.hid (OC4.out.below (by rw [hgf]; exact B5.out))
    have BB5 := Lib.hid (B4.out.trans (B5.out.mono (B' := gc) (by omega)))
    have HD5 : Hid (bstD ⟨W, t, k⟩ zs 0 (List.replicate N2 0) (List.replicate N2 0)) := by show bstD _ _ _ _ _; have := bstD_zero ⟨W, t, k⟩ zs; rw [Hn.out, HN1.out] at this; exact this
    clear hgc hgf OC4 B4 B5
    go_loopw [10] (fun i wr => ∃ (d : Nat) (cs fs : List Int), d ≤ n ∧ i = .int .i64 ((n : Int) - 1 - d) ∧ Own wr gc (.slice (some ⟨gc, 0, none⟩) N2 N2) cs ∧ Own wr gf (.slice (some ⟨gf, 0, none⟩) N2 N2) fs ∧ Hid (bstD ⟨W, t, k⟩ zs d cs fs) ∧ Below gc w3 wr) (fun i _ => (intOf i + 1).toNat)
    case atStart => exact ⟨0, _, _, Nat.zero_le _, by go_num, OC5.out, OF5.out, HD5, BB5.out⟩
    case round =>
      obtain ⟨d, cs0, fs0, hd, rfl, hOC, hOF, HBD, hb⟩ := hrel
      have OC := Lib.hid hOC; have OF := Lib.hid hOF; have HB := Lib.hid hb
      clear hOC hOF hb OC5 OF5 HD5 BB5
      by_cases hlt : d < n
      · obtain ⟨a, ha⟩ : ∃ a : Nat, n - 1 - d = a := ⟨_, rfl⟩
        have han : a < n := by omega
        have HA := Lib.hid ha; have HDn := Lib.hid hlt
        have hai : (n : Int) - 1 - (d : Int) = (a : Int) := by omega
        have hai2 : IntKind.i64.wrap ((a : Int) - 1) = (a : Int) - 1 := by rw [IntKind.wrap_i64]; omega
        have HBW : Hid (bstW ⟨W, t, k⟩ zs a (a + 1) cs0 fs0) := bstD_open HBD.out (by rw [Hn.out]; exact ha) (by rw [Hn.out]; exact hlt)
        have hdq : (a : Int) - 1 = (n : Int) - 1 - ((d + 1 : Nat) : Int) := by omega
        have HQ := Lib.hid hdq
        rw [hai]
        clear ha hd hai hlt HBD hdq
        go_wp2
        rename_i wr1
        go_loopw [11] (fun q wr => ∃ (j : Nat) (cs fs : List Int), 1 ≤ j ∧ j ≤ n - a + 1 ∧ q = .int .i64 j ∧ Own wr gc (.slice (some ⟨gc, 0, none⟩) N2 N2) cs ∧ Own wr gf (.slice (some ⟨gf, 0, none⟩) N2 N2) fs ∧ Hid (bstW ⟨W, t, k⟩ zs a (a + j) cs fs) ∧ Below gc w3 wr) (fun q _ => n - a + 1 - (intOf q).toNat)
        case atStart => exact ⟨1, _, _, Nat.le_refl _, by omega, by go_num, OC.out, OF.out, HBW, HB.out⟩
        case round =>
          obtain ⟨j, cs, fs, hj1, hj2, rfl, hOC, hOF, HW, hb⟩ := hrel
          clear OC OF HBW HB
          have OC := Lib.hid hOC; have OF := Lib.hid hOF; have HB := Lib.hid hb
          have P5 := Lib.hid (hold3 hb hz3 P3.out)
          have I5 := Lib.hid ((I3.out.keep (by omega) hb).ints)
          have O5 := Lib.hid (O3.out.below (by rw [HGC.out]; exact hb))
          have hzr : gc ≤ wr.heap.size := by have := hb.size; have := HGC.out; omega
          obtain ⟨p0, p1, p2⟩ := P5.out
          obtain ⟨r, hr⟩ : ∃ r, a + j = r := ⟨_, rfl⟩
          have hcr : (a : Int) + (j : Int) = (r : Int) := by omega
          have er : IntKind.i64.wrap (r : Int) = (r : Int) := by rw [IntKind.wrap_i64]; omega
          have hr1 : a + (j + 1) = r + 1 := by omega
          have HR1 := Lib.hid hr1
          clear hOC hOF hb
          by_cases hrn : r ≤ n
          · have HC := Lib.hid (CG.out a j wr I5.out hj1 (by omega))
            have hrn2 : decide ((r : Int) ≤ (n : Int)) = true := decide_eq_true (by omega)
            have hpr : a < r := by omega
            have hru : r - a = j := by omega
            have i1 : (r : Int) < (N2 : Int) := by have := HN1.out; omega
            have i2 : (a : Int) < (N2 : Int) := by have := HN1.out; omega
            have haN : a < N2 := by have := HN1.out; omega
            have hrN : r < N2 := by have := HN1.out; omega
            have hcsl := HW.out.1; have hfsl := HW.out.2.1
            rw [Hn.out, HN1.out] at hcsl hfsl
            have HCL := Lib.hid hcsl; have HFL := Lib.hid hfsl
            have hwe := wayF_range (m := ⟨W, t, k⟩) h40.out (show r ≤ zs.length by rw [Hn.out]; exact hrn)
            have hwd := lst_way HOK.out h40.out (show r ≤ zs.length by rw [Hn.out]; exact hrn)
            have HW5 : Hid (∀ w5 : World, Below wr.heap.size wr w5 → w5.cell? ⟨gw, r, none⟩ = some (.int .i64 (wayF ⟨W, t, k⟩ zs r))) := fun w5 h5 => by
              have h1 := own_cell (O5.out.below h5) (j := r) (by rw [rowE_len, Hn.out]; omega)
              rw [h1]; unfold wayF valE; rw [Hn.out]
            rw [hr] at HC HW
            clear hr hr1 hcsl hfsl
            cases hl : lineW ⟨W, t, k⟩ zs a r
            · have HLn := Lib.hid hl
              have HWn : Hid (bstW ⟨W, t, k⟩ zs a (r + 1) cs fs) := bstW_same HW.out (fun h => cst_no h HLn.out)
              clear hl hwe hwd
              go_wp2_with (go_at_call 59; refine HC.out.mono ?_; rintro e w5 ⟨he, hb5⟩; rw [HLn.out] at he; subst he; have B6 := Lib.hid (HB.out.trans (hb5.mono (B' := gc) hzr)); have OC6 := Lib.hid (OC.out.below hb5); have OF6 := Lib.hid (OF.out.below hb5); clear hb5)
              go_roundw
              case rel => exact ⟨j + 1, cs, fs, by omega, by omega, by go_num, OC6.out, OF6.out, by rw [HR1.out]; exact HWn, B6.out⟩
              case measure => simp [intOf]; omega
            · have HLn := Lib.hid hl
              obtain ⟨yw, hyw⟩ : ∃ y, wayF ⟨W, t, k⟩ zs r = y := ⟨_, rfl⟩
              rw [hyw] at HW5 hwe hwd
              by_cases hd : lstF ⟨W, t, k⟩ zs r < dearC
              · have hcrd := bstW_read HW.out hpr (by rw [Hn.out]; exact hrn) hd
                have hcand := cst_cand HOK.out h40.out hpr (by rw [Hn.out]; exact hrn) hl hd
                have hlb := (lst_bound HOK.out _ r rfl (by rw [Hn.out]; exact hrn)).1
                have hrb := lineW_rise HM.out.1 HM.out.2 (show r ≤ zs.length by rw [Hn.out]; exact hrn) hl
                have hco : costW ⟨W, t, k⟩ zs a r = if r = n then 0 else riseW ⟨W, t, k⟩ zs a r * riseW ⟨W, t, k⟩ zs a r := by unfold costW; rw [Hn.out]
                have hy0 : (yw == 0) = false := by rw [beq_eq_false_iff_ne]; have := hwd.1 hd; omega
                have HD := Lib.hid hd
                have D3 := fun w h => DD.out a r j w h hpr hrn hru hl
                obtain ⟨z, hz⟩ : ∃ z, riseW ⟨W, t, k⟩ zs a r = z := ⟨_, rfl⟩
                obtain ⟨v, hv⟩ : ∃ v, lstF ⟨W, t, k⟩ zs r = v := ⟨_, rfl⟩
                obtain ⟨y, hy⟩ : ∃ y, costW ⟨W, t, k⟩ zs a r + v = y := ⟨_, rfl⟩
                obtain ⟨x, hx⟩ : ∃ x, cs.getD a 0 = x := ⟨_, rfl⟩
                obtain ⟨f, hf⟩ : ∃ f, fs.getD a 0 = f := ⟨_, rfl⟩
                rw [hz] at hco hrb D3
                rw [hv] at hcrd hcand hlb
                rw [hy] at hcand
                have HY : Hid (costW ⟨W, t, k⟩ zs a r + lstF ⟨W, t, k⟩ zs r = y) := by show _ = _; rw [hv]; exact hy
                have HX := Lib.hid hx; have HF := Lib.hid hf
                have hsq : 0 ≤ z * z ∧ z * z ≤ 99 * 99 := ⟨Int.mul_nonneg hrb.1 hrb.1, Int.mul_le_mul hrb.2 hrb.2 hrb.1 (by omega)⟩
                rw [hco] at hy
                unfold dearC at hcand hlb
                have D4 := Lib.hid D3
                -- what stands in the rows, whatever has been called
                have KC : Hid (∀ w', Below wr.heap.size wr w' → w'.cell? ⟨gc, r, none⟩ = some (.int .i64 v) ∧ w'.cell? ⟨gc, a, none⟩ = some (.int .i64 x) ∧ w'.cell? ⟨gf, a, none⟩ = some (.int .i64 f) ∧ w'.frozen? ⟨gc, a, none⟩ = false ∧ (w'.setCell ⟨gc, a, none⟩ (.int .i64 y)).frozen? ⟨gf, a, none⟩ = false ∧ (w'.setCell ⟨gc, a, none⟩ (.int .i64 y)).cell? ⟨gf, a, none⟩ = some (.int .i64 f)) := fun w' h => by
                  have o1 := OC.out.below h; have o2 := OF.out.below h
                  have c1 := own_cell o1 (j := r) (by rw [HCL.out]; exact hrN)
                  have c2 := own_cell o1 (j := a) (by rw [HCL.out]; exact haN)
                  have c3 := own_cell o2 (j := a) (by rw [HFL.out]; exact haN)
                  rw [hcrd] at c1; rw [hx] at c2; rw [hf] at c3
                  have o3 : Own (w'.setCell ⟨gc, a, none⟩ (.int .i64 y)) gf (.slice (some ⟨gf, 0, none⟩) N2 N2) fs := o2.setOther _ _ (fun g e => by cases e; show gf ≠ gc; omega)
                  have c4 := own_cell o3 (j := a) (by rw [HFL.out]; exact haN)
                  rw [hf] at c4
                  exact ⟨c1, c2, c3, (own_store o1 HCL.out haN).2.1, (own_store o3 HFL.out haN).2.1, c4⟩
                have KS : Hid (∀ w', Below wr.heap.size wr w' → Own ((w'.setCell ⟨gc, a, none⟩ (.int .i64 y)).setCell ⟨gf, a, none⟩ (.int .i64 (j : Int))) gc (.slice (some ⟨gc, 0, none⟩) N2 N2) (cs.set a y) ∧ Own ((w'.setCell ⟨gc, a, none⟩ (.int .i64 y)).setCell ⟨gf, a, none⟩ (.int .i64 (j : Int))) gf (.slice (some ⟨gf, 0, none⟩) N2 N2) (fs.set a (j : Int)) ∧ Below gc w3 ((w'.setCell ⟨gc, a, none⟩ (.int .i64 y)).setCell ⟨gf, a, none⟩ (.int .i64 (j : Int)))) := fun w' h => by
                  have o1 := OC.out.below h; have o2 := OF.out.below h
                  have o3 : Own (w'.setCell ⟨gc, a, none⟩ (.int .i64 y)) gf (.slice (some ⟨gf, 0, none⟩) N2 N2) fs := o2.setOther _ _ (fun g e => by cases e; show gf ≠ gc; omega)
                  exact ⟨((own_store o1 HCL.out haN).2.2 y).setOther _ _ (fun g e => by cases e; show gc ≠ gf; omega), (own_store o3 HFL.out haN).2.2 (j : Int), below_store (below_store (HB.out.trans (h.mono hzr)) (Nat.le_refl _) _) (Nat.le_of_lt hgcf) _⟩
                have hca : ¬ c = a := by omega
                have har : a ≤ r := by omega
                have hrc : r ≤ c := by omega
                have i3 : (0 : Int) ≤ (a : Int) := by omega
                have i4 : (a : Int) ≤ (r : Int) := by omega
                have i5 : (r : Int) ≤ (c : Int) := by omega
                have i6 : (0 : Int) ≤ (r : Int) := by omega
                clear hl hwe hwd hyw hd hcrd hx hf hz hv D3
                go_wp2_with (go_at_call 59; refine HC.out.mono ?_; rintro e w5 ⟨he, hb5⟩; rw [HLn.out] at he; subst he; have HB5 := Lib.hid hb5; have hcw := HW5.out w5 hb5; have P6 := Lib.hid (hold3 (HB.out.trans (hb5.mono (B' := gc) hzr)) hz3 P3.out); have I6 := Lib.hid (I5.out.below hb5); have hz5 : wr.heap.size ≤ w5.heap.size := hb5.size; have hzw : w.heap.size < w5.heap.size := (by omega); clear p0 p1 p2 hb5; obtain ⟨p0, p1, p2⟩ := P6.out)
                first
                  | go_region_held3 (fun w' => w'.cell? ⟨w.heap.size, 0, none⟩ = some (.int .i64 W) ∧ w'.cell? ⟨w.heap.size, 1, none⟩ = some (.int .i64 t) ∧ w'.cell? ⟨w.heap.size, 2, none⟩ = some (.int .i64 k)) (first | go_keep | exact P7.out) (first
                      | (go_at_call 64; refine (D4.out _ I6.out.drew).mono ?_; rintro e w6 ⟨rfl, hb6⟩; have hc6 : Below w5.heap.size w5 w6 := undrew hb6; have HB6 := Lib.hid (HB5.out.trans (hc6.mono (B' := wr.heap.size) hz5)); have P7 := Lib.hid (hold3 hc6 hzw P6.out); clear hb6 hc6))
                  | fail "the region"
                all_goals
                  clear hca har hrc i3 i4 i5 i6 hz5 hzw hcw
                  have hKC := KC.out w6 HB6.out
                  obtain ⟨k1, k2, k3, k4, k5, k6⟩ := hKC
                  have hKS := KS.out w6 HB6.out
                  have SC := Lib.hid hKS.1; have SF := Lib.hid hKS.2.1; have BS := Lib.hid hKS.2.2
                  have OC6 := Lib.hid (OC.out.below HB6.out); have OF6 := Lib.hid (OF.out.below HB6.out); have B6 := Lib.hid (HB.out.trans (HB6.out.mono (B' := gc) hzr))
                  clear hKS KC KS
                  by_cases hrne : r = n
                  · rw [if_pos hrne] at hy
                    have hre : ((r : Int) == (n : Int)) = true := by rw [beq_iff_eq]; omega
                    clear hrne hsq
                    obtain rfl : y = v := by omega
                    clear hy
                    have e7 : IntKind.i64.wrap ((0 : Int) * 0) = 0 := by decide
                    have e8 : IntKind.i64.wrap (0 + y) = y := by rw [IntKind.wrap_i64]; omega
                    have e9 : IntKind.i64.wrap y = y := by rw [IntKind.wrap_i64]; omega
                    by_cases hf0 : f = 0
                    · have HWn : Hid (bstW ⟨W, t, k⟩ zs a (r + 1) (cs.set a y) (fs.set a (j : Int))) := by show bstW _ _ _ _ _ _; refine bstW_set HW.out (by rw [Hn.out]; omega) ?_; rw [show (j : Int) = (r : Int) - a by omega]; exact cst_take HOK.out h40.out HW.out.2.2.2.2.2 hpr (by rw [Hn.out]; exact hrn) HLn.out HD.out HY.out (.inl (by rw [HF.out]; exact hf0))
                      have hfe : (f == 0) = true := by rw [beq_iff_eq]; exact hf0
                      clear hf0
                      go_wp2
                      go_roundw
                      case rel => exact ⟨j + 1, cs.set a y, fs.set a (j : Int), by omega, by omega, by go_num, SC.out, SF.out, by rw [HR1.out]; exact HWn, BS.out⟩
                      case measure => simp [intOf]; omega
                    · have hfe : (f == 0) = false := by rw [beq_eq_false_iff_ne]; exact hf0
                      by_cases hyx : y < x
                      · have HWn : Hid (bstW ⟨W, t, k⟩ zs a (r + 1) (cs.set a y) (fs.set a (j : Int))) := by show bstW _ _ _ _ _ _; refine bstW_set HW.out (by rw [Hn.out]; omega) ?_; rw [show (j : Int) = (r : Int) - a by omega]; exact cst_take HOK.out h40.out HW.out.2.2.2.2.2 hpr (by rw [Hn.out]; exact hrn) HLn.out HD.out HY.out (.inr (by rw [HX.out]; exact hyx))
                        have hlt : decide (y < x) = true := decide_eq_true hyx
                        clear hf0 hyx
                        go_wp2
                        go_roundw
                        case rel => exact ⟨j + 1, cs.set a y, fs.set a (j : Int), by omega, by omega, by go_num, SC.out, SF.out, by rw [HR1.out]; exact HWn, BS.out⟩
                        case measure => simp [intOf]; omega
                      · have HWn : Hid (bstW ⟨W, t, k⟩ zs a (r + 1) cs fs) := bstW_same HW.out (fun h => cst_keep HOK.out h hpr (by rw [Hn.out]; exact hrn) HLn.out HY.out (by rw [HF.out]; exact hf0) (by rw [HX.out]; exact hyx))
                        have hlt : decide (y < x) = false := decide_eq_false hyx
                        clear hf0 hyx
                        go_wp2
                        go_roundw
                        case rel => exact ⟨j + 1, cs, fs, by omega, by omega, by go_num, OC6.out, OF6.out, by rw [HR1.out]; exact HWn, B6.out⟩
                        case measure => simp [intOf]; omega
                  · rw [if_neg hrne] at hy
                    have hre : ((r : Int) == (n : Int)) = false := by rw [beq_eq_false_iff_ne]; omega
                    clear hrne
                    have e7 : IntKind.i64.wrap (z * z) = z * z := by rw [IntKind.wrap_i64]; omega
                    have e8 : IntKind.i64.wrap (z * z + v) = y := by rw [IntKind.wrap_i64]; omega
                    by_cases hf0 : f = 0
                    · have HWn : Hid (bstW ⟨W, t, k⟩ zs a (r + 1) (cs.set a y) (fs.set a (j : Int))) := by show bstW _ _ _ _ _ _; refine bstW_set HW.out (by rw [Hn.out]; omega) ?_; rw [show (j : Int) = (r : Int) - a by omega]; exact cst_take HOK.out h40.out HW.out.2.2.2.2.2 hpr (by rw [Hn.out]; exact hrn) HLn.out HD.out HY.out (.inl (by rw [HF.out]; exact hf0))
                      have hfe : (f == 0) = true := by rw [beq_iff_eq]; exact hf0
                      clear hf0
                      go_wp2
                      go_roundw
                      case rel => exact ⟨j + 1, cs.set a y, fs.set a (j : Int), by omega, by omega, by go_num, SC.out, SF.out, by rw [HR1.out]; exact HWn, BS.out⟩
                      case measure => simp [intOf]; omega
                    · have hfe : (f == 0) = false := by rw [beq_eq_false_iff_ne]; exact hf0
                      by_cases hyx : y < x
                      · have HWn : Hid (bstW ⟨W, t, k⟩ zs a (r + 1) (cs.set a y) (fs.set a (j : Int))) := by show bstW _ _ _ _ _ _; refine bstW_set HW.out (by rw [Hn.out]; omega) ?_; rw [show (j : Int) = (r : Int) - a by omega]; exact cst_take HOK.out h40.out HW.out.2.2.2.2.2 hpr (by rw [Hn.out]; exact hrn) HLn.out HD.out HY.out (.inr (by rw [HX.out]; exact hyx))
                        have hlt : decide (y < x) = true := decide_eq_true hyx
                        clear hf0 hyx
                        go_wp2
                        go_roundw
                        case rel => exact ⟨j + 1, cs.set a y, fs.set a (j : Int), by omega, by omega, by go_num, SC.out, SF.out, by rw [HR1.out]; exact HWn, BS.out⟩
                        case measure => simp [intOf]; omega
                      · have HWn : Hid (bstW ⟨W, t, k⟩ zs a (r + 1) cs fs) := bstW_same HW.out (fun h => cst_keep HOK.out h hpr (by rw [Hn.out]; exact hrn) HLn.out HY.out (by rw [HF.out]; exact hf0) (by rw [HX.out]; exact hyx))
                        have hlt : decide (y < x) = false := decide_eq_false hyx
                        clear hf0 hyx
                        go_wp2
                        go_roundw
                        case rel => exact ⟨j + 1, cs, fs, by omega, by omega, by go_num, OC6.out, OF6.out, by rw [HR1.out]; exact HWn, B6.out⟩
                        case measure => simp [intOf]; omega
              · have HWn : Hid (bstW ⟨W, t, k⟩ zs a (r + 1) cs fs) := bstW_same HW.out (fun h => cst_dear HOK.out h hpr (by rw [Hn.out]; exact hrn) HLn.out hd)
                have hyz : (yw == 0) = true := by rw [beq_iff_eq]; have : ¬ 0 < yw := fun h => hd (hwd.2 h); omega
                clear hl hwe hwd hyw hd
                go_wp2_with (go_at_call 59; refine HC.out.mono ?_; rintro e w5 ⟨he, hb5⟩; rw [HLn.out] at he; subst he; have B6 := Lib.hid (HB.out.trans (hb5.mono (B' := gc) hzr)); have OC6 := Lib.hid (OC.out.below hb5); have OF6 := Lib.hid (OF.out.below hb5); have hcw := HW5.out w5 hb5; clear hb5)
                go_roundw
                case rel => exact ⟨j + 1, cs, fs, by omega, by omega, by go_num, OC6.out, OF6.out, by rw [HR1.out]; exact HWn, B6.out⟩
                case measure => simp [intOf]; omega
          · obtain rfl : j = n - a + 1 := by omega
            have HF : Hid (bstD ⟨W, t, k⟩ zs (d + 1) cs fs) := by
              have h := HW.out
              rw [show a + (n - a + 1) = n + 1 by omega] at h
              exact bstW_shut (a := a) (by rw [Hn.out]; exact h) (by rw [Hn.out]; exact HA.out) (by rw [Hn.out]; exact HDn.out)
            have hrn2 : decide ((r : Int) ≤ (n : Int)) = false := decide_eq_false (by omega)
            clear hr hr1
            go_wp2
            go_roundw
            case rel => exact ⟨d + 1, cs, fs, by have := HDn.out; omega, by rw [HQ.out], OC.out, OF.out, HF, HB.out⟩
            case measure => simp [intOf]
      · have hdn : d = n := by omega
        rw [hdn] at HBD
        have hzr : gc ≤ wr.heap.size := by have := HB.out.size; have := HGC.out; omega
        go_wp2
        obtain ⟨B, hB⟩ : ∃ b, wr.heap.size = b := ⟨_, rfl⟩
        obtain ⟨w9, hw9⟩ : ∃ v, wr.alloc (.cells #[] 3) = v := ⟨_, rfl⟩
        have hb9 : Below B wr w9 := by rw [← hw9, ← hB]; exact below_new _ _
        have OL9 : Hid (Own w9 B (.slice (some ⟨B, 0, none⟩) 0 0) []) := by show Own _ _ _ _; rw [← hw9, ← hB]; exact World.ownsRow_lit wr #[] 0 (Nat.le_refl _) (Nat.zero_le _) rfl
        have hz9 : B ≤ w9.heap.size := by rw [← hB]; exact hb9.size
        have OC9 := Lib.hid (OC.out.below (by rw [hB]; exact hb9)); have OF9 := Lib.hid (OF.out.below (by rw [hB]; exact hb9))
        have T9 := Lib.hid (T3.out.trans ((HB.out.trans (hb9.mono (B' := gc) (by omega))).mono (B' := w.heap.size) (by omega)))
        have hwB : w.heap.size ≤ B := by omega
        have hcl := HBD.out.1; have hfl := HBD.out.2.1
        rw [Hn.out, HN1.out] at hcl hfl
        have c00 : cs0.getD 0 0 = lstF ⟨W, t, k⟩ zs 0 := cst_val (HBD.out.2.2.1 0 (by rw [Hn.out]; omega) (by rw [Hn.out]; omega)) (by rw [Hn.out]; omega) HD0.out
        have HCL := Lib.hid hcl; have HFL := Lib.hid hfl; have HC0 := Lib.hid c00
        have hgB : gf < B := by rw [← hB]; exact (World.ownsRow.lt OF.out gf rfl).2
        have i00 : (0 : Int) < (N2 : Int) := by have := HN1.out; omega
        rw [hw9, hB]
        clear hw9 hb9 hB OC OF HB hzr hcl hfl c00 hlt hdn hd
        go_loopw [14, 15] (fun u a wr => ∃ (p fu : Nat) (ls : List Int) (A : Option Addr) (m d : Nat), p ≤ n ∧ a = .int .i64 p ∧ u = .slice A m d ∧ ls.length ≤ p ∧ Own wr B (.slice A m d) ls ∧ Hid (n < fu + p ∧ lstF ⟨W, t, k⟩ zs p < dearC ∧ ls ++ bstF ⟨W, t, k⟩ zs fu p = bstF ⟨W, t, k⟩ zs (n + 1) 0) ∧ Below B w9 wr) (fun _ a _ => n - (intOf a).toNat)
        case atStart => exact ⟨0, n + 1, [], _, 0, 0, Nat.zero_le _, by go_num, rfl, Nat.le_refl _, OL9.out, ⟨by omega, HD0.out, rfl⟩, Below.refl _ _⟩
        case round =>
          obtain ⟨p, fu, ls, A, m, d, hp, rfl, rfl, hlp, hO, HF, hb⟩ := hrel
          clear OL9
          have HO1 := Lib.hid hO; have HB1 := Lib.hid hb
          have hzr : B ≤ wr.heap.size := Nat.le_trans hz9 hb.size
          have OC1 : Hid (Own wr gc (.slice (some ⟨gc, 0, none⟩) N2 N2) cs0) := own_keepB OC9.out (fun g e => by cases e; show gc < B; omega) hb
          have OF1 : Hid (Own wr gf (.slice (some ⟨gf, 0, none⟩) N2 N2) fs0) := own_keepB OF9.out (fun g e => by cases e; show gf < B; omega) hb
          clear hO hb
          by_cases hlt : p < n
          · obtain ⟨f2, rfl⟩ : ∃ f2, fu = f2 + 1 := ⟨fu - 1, by have := HF.out.1; omega⟩
            obtain ⟨q, q1, q2, q3, q4, q5⟩ := cst_next HOK.out (HBD.out.2.2.1 p (by rw [Hn.out]; omega) (by rw [Hn.out]; exact hlt)) (by rw [Hn.out]; exact hlt) HF.out.2.1
            rw [Hn.out] at q2
            have hF3 := HF.out.2.2
            rw [q5 f2] at hF3
            obtain ⟨f, hf⟩ : ∃ f, fs0.getD p 0 = f := ⟨_, rfl⟩
            rw [hf] at hF3 q3
            have HF4 : Hid (n < f2 + q ∧ lstF ⟨W, t, k⟩ zs q < dearC ∧ (ls ++ [f]) ++ bstF ⟨W, t, k⟩ zs f2 q = bstF ⟨W, t, k⟩ zs (n + 1) 0) := ⟨by have := HF.out.1; omega, q4, by rw [← hF3]; simp⟩
            have e5 : IntKind.i64.wrap ((p : Int) + f) = (q : Int) := by rw [IntKind.wrap_i64]; omega
            have hcf := own_cell OF1.out (j := p) (by rw [HFL.out, ← HN1.out]; omega)
            rw [hf] at hcf
            have HKf := Lib.hid hf
            have i7 : (p : Int) < (N2 : Int) := by have := HN1.out; omega
            obtain ⟨N5, hN5⟩ : ∃ N, (ls ++ [f]).length = N := ⟨_, rfl⟩
            have HN5 := Lib.hid hN5
            have hN5b : N5 ≤ q := by rw [← hN5]; simp; omega
            clear HF hF3 hf q3 q4 q5 hN5
            go_wp2_with (at_builtin; refine wpl_push wr rfl (.tmp 123) (.tmp 128) rfl B _ ls f rfl rfl HO1.out hzr (by omega) ?_; intro v6 w6 hO6 hb6; have B6 := Lib.hid (HB1.out.trans hb6); have hcf6 := own_cell (own_keepB OF1.out (fun g e => by cases e; show gf < B; omega) hb6) (j := p) (by rw [HFL.out, ← HN1.out]; omega); rw [HKf.out] at hcf6; obtain ⟨A6, c6, hv6, _⟩ := hO6.form; rw [HN5.out] at hv6; subst hv6; have O7 := Lib.hid hO6; clear hO6 hb6 hcf)
            go_roundw
            case rel => exact ⟨q, f2, ls ++ [f], A6, N5, c6, q2, rfl, rfl, by rw [HN5.out]; exact hN5b, O7.out, HF4, B6.out⟩
            case measure => simp [intOf]; omega
          · have hpn : p = n := by omega
            have HLs : Hid (ls = bstF ⟨W, t, k⟩ zs (n + 1) 0) := by
              show _ = _
              obtain ⟨f2, rfl⟩ : ∃ f2, fu = f2 + 1 := ⟨fu - 1, by have := HF.out.1; omega⟩
              have h := HF.out.2.2
              rw [bstF, if_pos (by rw [Hn.out]; exact hpn), List.append_nil] at h
              exact h
            have hcc := own_cell OC1.out (j := 0) (by rw [HCL.out, ← HN1.out]; omega)
            rw [HC0.out, HX0.out] at hcc
            clear HF hlt
            obtain rfl := hpn
            go_wp2
            go_region
            go_wp2
            go_ret3
            exact ⟨_, rfl, by rw [← HLs.out]; exact (own_base2 HO1.out hwB), (T9.out.trans (HB1.out.mono (B' := w.heap.size) hwB)).drew⟩
  · have HR : Hid (bstA ⟨W, t, k⟩ zs = none ∧ bstC ⟨W, t, k⟩ zs = 0) := by show _ ∧ _; unfold bstA bstC; rw [ho, decide_eq_false hd]; exact ⟨rfl, rfl⟩
    have hX : (X0 == 0) = true := by rw [beq_iff_eq]; have : ¬ 0 < X0 := fun h => hd (hway.2 h); omega
    rw [HR.out.1, HR.out.2]
    clear ho hd hway hwr
    go_enter Try.func39, Try.ntmps39
    go_wp2_with fail
    clear hw0
    refine (CC.out _ I0.out.ints).mono ?_
    rintro e w1 ⟨he, hb1⟩
    rw [show (msrB ⟨W, t, k⟩ && textB zs) = true from HO.out] at he; subst he
    have T1 := Lib.hid (T0.out.trans (hb1.mono (B' := w.heap.size) (by have := Z0.out; omega)))
    have I1 := Lib.hid (I0.out.keep (by have := Z0.out; omega) hb1)
    have P1 := Lib.hid (hold3 hb1 (by have := Z0.out; omega) P0.out)
    have hz1 : w.heap.size < w1.heap.size := by have := Z0.out; have := hb1.size; omega
    clear hb1 p0 p1 p2
    obtain ⟨p0, p1, p2⟩ := P1.out
    go_wp2_with (go_at_call 22; refine (CCT.out _ I1.out.ints).mono ?_; rintro e w2 ⟨he, hb2⟩; rw [HCnt.out] at he; subst he; have T2 := Lib.hid (T1.out.trans (hb2.mono (B' := w.heap.size) (by omega))); have I2 := Lib.hid (I1.out.keep (by omega) hb2); have P2 := Lib.hid (hold3 hb2 hz1 P1.out); have hz2 : w.heap.size < w2.heap.size := (by have := hb2.size; omega); clear hb2 p0 p1 p2; obtain ⟨p0, p1, p2⟩ := P2.out)
    go_ret3
    exact ⟨_, rfl, World.ownsRow_nil _ _ _ _, T2.out⟩
end Go.Proofs.Ytddkedinkgnboaa
