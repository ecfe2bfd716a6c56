/-
  FnAscending: its walk. No condition.
-/
import Derived.Test.YtddkedinkgnboaaDrawA
import Derived.Test.YtddkedinkgnboaaAtJ
import Derived.Test.YtddkedinkgnboaaPkC
import Derived.Outline
namespace Go.Proofs.Ytddkedinkgnboaa
open Go.RowKit
set_option linter.unusedVariables false

/-- of two breakings, the one with the smaller index has the smaller line where they first differ -/
theorem idxF_less {m : Msr} {zs : List Int} (hz : zs.length ≤ 40) : ∀ (l1 l2 : List Int) (p : Nat), p ≤ zs.length → brkF m zs p l1 = true → brkF m zs p l2 = true → idxF m zs p l1 < idxF m zs p l2 →
    ∃ (K : Nat) (x y : Int), l1[K]? = some x ∧ l2[K]? = some y ∧ x < y ∧ ∀ j, j < K → l1[j]? = l2[j]?
  | [], [], _, _, _, _, h => by simp [idxF] at h
  | [], x :: r, p, hp, h1, h2, _ => by
    have : p = zs.length := by simpa [brkF] using h1
    rw [brkF, Bool.and_eq_true] at h2
    have := inB_true h2.1
    omega
  | x :: r, [], p, hp, h1, h2, _ => by
    have : p = zs.length := by simpa [brkF] using h2
    rw [brkF, Bool.and_eq_true] at h1
    have := inB_true h1.1
    omega
  | x :: r, y :: t, p, hp, h1, h2, h3 => by
    rw [brkF, Bool.and_eq_true, Bool.and_eq_true] at h1 h2
    have hx := inB_true h1.1
    have hy := inB_true h2.1
    obtain ⟨u, rfl⟩ : ∃ u : Nat, x = (u : Int) := ⟨x.toNat, by omega⟩
    obtain ⟨v, rfl⟩ : ∃ v : Nat, y = (v : Int) := ⟨y.toNat, by omega⟩
    simp only [Int.toNat_natCast] at h1 h2
    rw [idxF, idxF, Int.toNat_natCast, Int.toNat_natCast] at h3
    have b1 := idxF_bound hz r (p + u) (by omega) h1.2.2
    have b2 := idxF_bound hz t (p + v) (by omega) h2.2.2
    have w1 := befF_yes hz (show p < p + u by omega) (by omega) h1.2.1
    have w2 := befF_yes hz (show p < p + v by omega) (by omega) h2.2.1
    rcases Nat.lt_trichotomy u v with h | h | h
    · exact ⟨0, u, v, rfl, rfl, by omega, fun j hj => absurd hj (by omega)⟩
    · subst h
      obtain ⟨K, x, y, e1, e2, e3, e4⟩ := idxF_less hz r t (p + u) (by omega) h1.2.2 h2.2.2 (by omega)
      refine ⟨K + 1, x, y, by simpa using e1, by simpa using e2, e3, fun j hj => ?_⟩
      cases j with
      | zero => rfl
      | succ j => simpa using e4 j (by omega)
    · have := befF_mono (m := m) hz (i := p) (p := p + v + 1) (u - v - 1) (by omega)
      rw [show p + v + 1 + (u - v - 1) = p + u by omega] at this
      omega

set_option maxRecDepth 100000 in
set_option maxHeartbeats 6400000 in
theorem fnAscending_walk (A : Option Addr) (n c : Nat) (bs : List Int) (w : World) (hn : bs.length = n) (hm : n ≤ maxLen) (h : Bytes w A bs) (wf : ∀ z ∈ bs, (Lit.int .u8 z).wf = true) :
    Calls Try.prog 4 #[.slice A n c] w fun e w' => e = .returned (.bool true) ∧ Below w.heap.size w w' := by
  have H := Lib.hid h; have Hn := Lib.hid hn; have Hwf := Lib.hid wf
  clear h hn wf
  have hm0 := hm
  unfold maxLen at hm
  by_cases hbig : 1048576 < n
  · go_enter Try.func4, Try.ntmps4
    go_wp2
    go_ret
    exact ⟨rfl, Below.refl _ _⟩
  go_enter Try.func4, Try.ntmps4
  go_wp2_with fail
  refine (drawAt_any _ _ _ bs _ Hn.out hm0 H.out Hwf.out).mono ?_
  rintro e w1 ⟨W, t, k, Aw, m, c1, zs, i, rfl, hl, hm1, hmc, hcm, hi0, hi9, hO1, hb1⟩
  have I1 := Lib.hid (IntsB.of (own_intsA hO1)); have Hl := Lib.hid hl; have T1 := Lib.hid hb1
  have z1 := hb1.size
  have Hmc := Lib.hid hmc; have Hcm := Lib.hid hcm
  have hm2 : m ≤ maxLen := by unfold maxLen; omega
  clear hO1 hl hb1 hcm
  obtain ⟨wa, hwa⟩ : ∃ wa, w1.alloc (.cells #[.int .i64 W, .int .i64 t, .int .i64 k] 24) = wa := ⟨_, rfl⟩
  have hb2 : Below w1.heap.size w1 wa := by rw [← hwa]; exact below_new _ _
  have Pa : Hid (wa.cell? ⟨w1.heap.size, 0, none⟩ = some (.int .i64 W) ∧ wa.cell? ⟨w1.heap.size, 1, none⟩ = some (.int .i64 t) ∧ wa.cell? ⟨w1.heap.size, 2, none⟩ = some (.int .i64 k)) := by show _ ∧ _; rw [← hwa]; exact lay3 w1 _ _ _ _
  have za : w1.heap.size < wa.heap.size := by rw [← hwa]; simp
  have Ia := Lib.hid (I1.out.keep (Nat.le_refl _) hb2); have Ta := Lib.hid (T1.out.trans (hb2.mono z1))
  clear hb2 I1 T1
  obtain ⟨p0, p1, p2⟩ := Pa.out
  obtain ⟨C, hC⟩ : ∃ C, cntA ⟨W, t, k⟩ zs = C := ⟨_, rfl⟩
  have HC := Lib.hid hC
  have hC0 : okW ⟨W, t, k⟩ zs = true → 0 ≤ C ∧ C ≤ 1099511627776 := fun ho => by
    obtain ⟨-, -, h40⟩ := textB_parts (okW_parts ho).2
    have hwr := wayF_range (m := ⟨W, t, k⟩) h40 (Nat.zero_le zs.length)
    rw [show wayF ⟨W, t, k⟩ zs 0 = C by rw [← hC]; unfold cntA; rw [ho]; rfl] at hwr
    exact hwr
  have hC1 : okW ⟨W, t, k⟩ zs = false → C = -1 := fun ho => by rw [← hC]; unfold cntA; rw [ho]; rfl
  have hAB : ∀ s, atB ⟨W, t, k⟩ zs s = (okW ⟨W, t, k⟩ zs && decide (0 ≤ s) && decide (s < C)) := fun s => by
    unfold atB; rw [← hC]; unfold cntA
    cases okW ⟨W, t, k⟩ zs <;> rfl
  obtain ⟨L, hL, hL2⟩ := atR_ex ⟨W, t, k⟩ zs i
  have HL := Lib.hid hL
  clear hC
  cases hB : atB ⟨W, t, k⟩ zs i
  · have hE : L = [] := by have := hL; unfold AtR at this; rw [hB] at this; simpa using this
    subst hE
    have HB := Lib.hid hB
    have hor : i < 0 ∨ C ≤ i := by
      rw [hAB] at hB
      cases ho : okW ⟨W, t, k⟩ zs
      · have := hC1 ho; omega
      · rw [ho] at hB; simp at hB; omega
    clear hL hL2 hAB hB hC0 hC1
    by_cases hneg : i < 0
    · have d1 : decide (i < 0) = true := decide_eq_true hneg
      clear hor
      go_wp2_with (first
          | (go_at_call 18; clear hwa; refine (implAt_any W t k Aw m c1 zs i [] wa Hl.out Hmc.out Hcm.out Ia.out.ints (by omega) HL.out).mono ?_; rintro e wb ⟨v, rfl, hO, hb⟩; rw [HB.out]; obtain ⟨AL, cL, rfl, hI, _⟩ := hO.form; have Lb := Lib.hid hI; clear hO hI; have Pb := Lib.hid (hold3 hb za Pa.out); have Ib := Lib.hid (Ia.out.keep (by omega) hb); have Tb := Lib.hid (Ta.out.trans (hb.mono (B' := w.heap.size) (by omega))); have zb : w1.heap.size < wb.heap.size := (Nat.lt_of_lt_of_le za hb.size); clear hb p0 p1 p2; obtain ⟨p0, p1, p2⟩ := Pb.out))
      go_ret
      exact ⟨rfl, Tb.out⟩
    · have d1 : decide (i < 0) = false := decide_eq_false hneg
      have d2 : decide (C ≤ i) = true := decide_eq_true (by omega)
      clear hor
      go_wp2_with (first
          | (go_at_call 18; clear hwa; refine (implAt_any W t k Aw m c1 zs i [] wa Hl.out Hmc.out Hcm.out Ia.out.ints (by omega) HL.out).mono ?_; rintro e wb ⟨v, rfl, hO, hb⟩; rw [HB.out]; obtain ⟨AL, cL, rfl, hI, _⟩ := hO.form; have Lb := Lib.hid hI; clear hO hI; have Pb := Lib.hid (hold3 hb za Pa.out); have Ib := Lib.hid (Ia.out.keep (by omega) hb); have Tb := Lib.hid (Ta.out.trans (hb.mono (B' := w.heap.size) (by omega))); have zb : w1.heap.size < wb.heap.size := (Nat.lt_of_lt_of_le za hb.size); clear hb p0 p1 p2; obtain ⟨p0, p1, p2⟩ := Pb.out)
          | (go_at_call 22; refine (specCntB_any W t k Aw m c1 zs wb Hl.out Hmc.out Hcm.out Ib.out.ints).mono ?_; rintro e wd ⟨rfl, hb⟩; rw [HC.out]; have Pd := Lib.hid (hold3 hb zb Pb.out); have Id := Lib.hid (Ib.out.keep (by omega) hb); have Td := Lib.hid (Tb.out.trans (hb.mono (B' := w.heap.size) (by omega))); have zd : w1.heap.size < wd.heap.size := (Nat.lt_of_lt_of_le zb hb.size); clear hb p0 p1 p2; obtain ⟨p0, p1, p2⟩ := Pd.out))
      go_ret
      exact ⟨rfl, Td.out⟩
  have ho : okW ⟨W, t, k⟩ zs = true := by
    rw [hAB] at hB
    cases h : okW ⟨W, t, k⟩ zs
    · rw [h] at hB; cases hB
    · rfl
  obtain ⟨hC2, hC3⟩ := hC0 ho
  have hin : 0 ≤ i ∧ i < C := by rw [hAB, ho] at hB; simpa using hB
  obtain ⟨i0, i1⟩ := hin
  have hne : (i == 9223372036854775807) = false := by rw [beq_eq_false_iff_ne]; omega
  have HB := Lib.hid hB
  obtain ⟨M, hM, hM2⟩ := atR_ex ⟨W, t, k⟩ zs (i + 1)
  have HM := Lib.hid hM
  have hw1 : IntKind.i64.wrap (i + 1) = i + 1 := by rw [IntKind.wrap_i64]; omega
  cases hB2 : atB ⟨W, t, k⟩ zs (i + 1)
  · have hE : M = [] := by have := hM; unfold AtR at this; rw [hB2] at this; simpa using this
    subst hE
    have HB2 := Lib.hid hB2
    have hle : C ≤ i + 1 := by
      rw [hAB, ho] at hB2
      simp at hB2; omega
    have d2 : decide (C ≤ i + 1) = true := decide_eq_true hle
    clear hL hL2 hAB hB hC0 hC1 hB2 hM hM2 ho hle
    go_wp2_with (first
        | (go_at_call 18; clear hwa; refine (implAt_any W t k Aw m c1 zs i L wa Hl.out Hmc.out Hcm.out Ia.out.ints (by omega) HL.out).mono ?_; rintro e wb ⟨v, rfl, hO, hb⟩; rw [HB.out]; obtain ⟨AL, cL, rfl, hI, _⟩ := hO.form; have Lb := Lib.hid hI; clear hO hI; have Pb := Lib.hid (hold3 hb za Pa.out); have Ib := Lib.hid (Ia.out.keep (by omega) hb); have Tb := Lib.hid (Ta.out.trans (hb.mono (B' := w.heap.size) (by omega))); have zb : w1.heap.size < wb.heap.size := (Nat.lt_of_lt_of_le za hb.size); clear hb p0 p1 p2; obtain ⟨p0, p1, p2⟩ := Pb.out)
        | (go_at_call 18; refine (implAt_any W t k Aw m c1 zs _ [] wb Hl.out Hmc.out Hcm.out Ib.out.ints (by omega) HM.out).mono ?_; rintro e wd ⟨v, rfl, hO, hb⟩; rw [HB2.out]; obtain ⟨AL, cL, rfl, hI, _⟩ := hO.form; have Ld := Lib.hid hI; clear hO hI; have Pd := Lib.hid (hold3 hb zb Pb.out); have Id := Lib.hid (Ib.out.keep (by omega) hb); have Td := Lib.hid (Tb.out.trans (hb.mono (B' := w.heap.size) (by omega))); have zd : w1.heap.size < wd.heap.size := (Nat.lt_of_lt_of_le zb hb.size); clear hb p0 p1 p2; obtain ⟨p0, p1, p2⟩ := Pd.out)
        | (go_at_call 22; refine (specCntB_any W t k Aw m c1 zs wd Hl.out Hmc.out Hcm.out Id.out.ints).mono ?_; rintro e we ⟨rfl, hb⟩; rw [HC.out]; have Pe := Lib.hid (hold3 hb zd Pd.out); have Ie := Lib.hid (Id.out.keep (by omega) hb); have Te := Lib.hid (Td.out.trans (hb.mono (B' := w.heap.size) (by omega))); have ze : w1.heap.size < we.heap.size := (Nat.lt_of_lt_of_le zd hb.size); clear hb p0 p1 p2; obtain ⟨p0, p1, p2⟩ := Pe.out))
    go_ret
    exact ⟨rfl, Te.out⟩
  · have HB2 := Lib.hid hB2
    have h1 := hL
    have h2 := hM
    unfold AtR at h1 h2
    rw [hB] at h1
    rw [hB2] at h2
    simp only [if_true] at h1 h2
    obtain ⟨-, -, h40⟩ := textB_parts (okW_parts ho).2
    obtain ⟨K, x, y, e1, e2, e3, e4⟩ := idxF_less h40 L M 0 (Nat.zero_le _) h1.1 h2.1 (by omega)
    obtain ⟨n1, hn1⟩ : ∃ q, L.length = q := ⟨_, rfl⟩
    obtain ⟨n2, hn2⟩ : ∃ q, M.length = q := ⟨_, rfl⟩
    have k1 : K < n1 := by rw [← hn1]; exact (List.getElem?_eq_some_iff.1 e1).1
    have k2 : K < n2 := by rw [← hn2]; exact (List.getElem?_eq_some_iff.1 e2).1
    have hm1 : n1 ≤ 1048576 := by omega
    have hm2 : n2 ≤ 1048576 := by omega
    have E1 := Lib.hid e1; have E2 := Lib.hid e2; have E4 := Lib.hid e4; have N1 := Lib.hid hn1; have N2 := Lib.hid hn2; have HI1 := Lib.hid i1
    clear hL hL2 hAB hB hC0 hC1 hB2 hM hM2 ho h1 h2 h40 e1 e2 e4
    go_wp2_with (first
        | (go_at_call 18; clear hwa; refine (implAt_any W t k Aw m c1 zs i L wa Hl.out Hmc.out Hcm.out Ia.out.ints (by omega) HL.out).mono ?_; rintro e wb ⟨v, rfl, hO, hb⟩; rw [HB.out]; obtain ⟨AL, cL, rfl, hI, _⟩ := hO.form; have Lb := Lib.hid hI; clear hO hI; have Pb := Lib.hid (hold3 hb za Pa.out); have Ib := Lib.hid (Ia.out.keep (by omega) hb); have Tb := Lib.hid (Ta.out.trans (hb.mono (B' := w.heap.size) (by omega))); have zb : w1.heap.size < wb.heap.size := (Nat.lt_of_lt_of_le za hb.size); clear hb p0 p1 p2; obtain ⟨p0, p1, p2⟩ := Pb.out)
        | (go_at_call 18; refine (implAt_any W t k Aw m c1 zs _ M wb Hl.out Hmc.out Hcm.out Ib.out.ints (by omega) HM.out).mono ?_; rintro e wd ⟨v, rfl, hO, hb⟩; rw [HB2.out]; obtain ⟨AM, cM, rfl, hI, _⟩ := hO.form; have Md := Lib.hid hI; clear hO hI; have Pd := Lib.hid (hold3 hb zb Pb.out); have Id := Lib.hid (Ib.out.keep (by omega) hb); have Td := Lib.hid (Tb.out.trans (hb.mono (B' := w.heap.size) (by omega))); have zd : w1.heap.size < wd.heap.size := (Nat.lt_of_lt_of_le zb hb.size); have Ld := Lib.hid (Lb.out.below hb); clear hb p0 p1 p2; obtain ⟨p0, p1, p2⟩ := Pd.out))
    go_loopw [10] (fun i wr => ∃ j : Nat, j ≤ K ∧ i = .int .i64 j ∧ ∃ q, wr = wd.drewN q) (fun i _ => K - (intOf i).toNat)
    case atStart => exact ⟨0, Nat.zero_le _, rfl, 0, rfl⟩
    case round =>
      obtain ⟨j, hj, rfl, q, rfl⟩ := hrel
      obtain ⟨ad, u, rfl, hu, hc⟩ := Ld.out.at_ (k := j) (by rw [N1.out]; omega)
      obtain ⟨bd, v, rfl, hv, hd⟩ := Md.out.at_ (k := j) (by rw [N2.out]; omega)
      have hu2 := hu.out; have hv2 := hv.out
      by_cases hjK : j < K
      · obtain rfl : u = v := by have := E4.out j hjK; rw [hu2, hv2] at this; injection this
        clear hu2 hv2
        go_wp2
        go_quiet (fail)
        go_wp2
        go_roundw
        case rel => exact ⟨j + 1, by omega, by go_num, _, rfl⟩
        case measure => simp [intOf]; omega
      · obtain rfl : j = K := by omega
        obtain rfl : u = x := by have := E1.out; rw [hu2] at this; injection this
        obtain rfl : v = y := by have := E2.out; rw [hv2] at this; injection this
        have g1 : (u == v) = false := by rw [beq_eq_false_iff_ne]; omega
        have g2 : (u != v) = true := by rw [bne_iff_ne]; omega
        have g3 : decide (u < v) = true := decide_eq_true e3
        clear hu2 hv2
        go_wp2
        go_quiet (fail)
        go_wp2
        go_quiet (fail)
        go_wp2
        go_ret
        exact ⟨rfl, below_drewN (below_drewN (below_drewN Td.out _) _) _⟩
end Go.Proofs.Ytddkedinkgnboaa
