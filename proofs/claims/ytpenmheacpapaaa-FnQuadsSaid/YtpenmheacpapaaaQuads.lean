/-
  FnQuads: its walk. No condition.
-/
import Derived.Test.YtpenmheacpapaaaDrawG
import Derived.Test.YtpenmheacpapaaaQuadN
import Derived.Test.YtpenmheacpapaaaQuadS
import Derived.Test.YtpenmheacpapaaaQuadI
import Derived.Test.YtpenmheacpapaaaLater
namespace Go.Proofs.Ytpenmheacpapaaa
open Go.RowKit
set_option linter.unusedVariables false

/-- a slice's address behind the cut at l -/
def cutA (A : Option Addr) (c l : Nat) : Option Addr := if c = l then A else A.map (fun a => a.add l)
theorem add_add (ad : Addr) (l j : Nat) : (ad.add l).add j = ad.add (l + j) := by by_cases hq0 : l = 0 <;> by_cases hj0 : j = 0 <;> simp [Addr.add, hq0, hj0, Nat.add_assoc]
theorem cnt_some {qs : List Int} {y : Int} (h : y ∈ qs) : ((cntOf qs y : Int) == 0) = false := by
  have h1 : 0 < cntOf qs y := by unfold cntOf; exact List.count_pos_iff.2 h
  have h2 : (cntOf qs y : Int) ≠ 0 := by omega
  simpa using h2
theorem cntq {A : Option Addr} {n c k : Nat} {zs : List Int} {y : Int} {w : World} (hn : zs.length = n) (hm : n ≤ maxLen) (h : Ints w A zs) :
    Calls Try.prog 62 #[.slice A n c, .int .i64 y] (w.drewN k) fun e w'' => e = .returned (.int .i64 (cntOf zs y : Int)) ∧ ∃ m, w'' = w.drewN m := by
  have h' : Ints (w.drewN k) A zs := h
  refine (lawCount_any A n c zs y _ hn hm h').mono ?_
  rintro e w' ⟨rfl, rfl⟩
  exact ⟨rfl, k, rfl⟩
theorem both_at {zs ls L : List Int} {N m i : Nat} (hL : L = ls.reverse ++ (zs ++ ls)) (hz : zs.length = m) (hn : ls.length = N) (hi : i < N) :
    L[i]? = L[N + (m + N) - 1 - i]? ∧ ∃ y, L[i]? = some y ∧ y ∈ ls := by
  subst hL hz hn
  have h1 : (ls.reverse ++ (zs ++ ls))[i]? = ls[ls.length - 1 - i]? := by
    rw [List.getElem?_append_left (by rw [List.length_reverse]; exact hi), List.getElem?_reverse (by exact hi)]
  have h2 : (ls.reverse ++ (zs ++ ls))[ls.length + (zs.length + ls.length) - 1 - i]? = ls[ls.length - 1 - i]? := by
    rw [List.getElem?_append_right (by rw [List.length_reverse]; omega), List.length_reverse, List.getElem?_append_right (by omega)]
    congr 1; omega
  refine ⟨by rw [h1, h2], ls[ls.length - 1 - i], ?_, List.getElem_mem _⟩
  rw [h1, List.getElem?_eq_getElem]
theorem ints_cut {w : World} {b : Nat} {A : Option Addr} {c l : Nat} {zs : List Int} (h : IntsB w b A zs) (hc : zs.length ≤ c) : IntsB w b (cutA A c l) (zs.drop l) := fun hn => by
  rw [List.length_drop] at hn
  obtain ⟨ad, rfl, hb, hcell⟩ := h (by omega)
  refine ⟨ad.add l, by unfold cutA; rw [if_neg (by omega)]; rfl, by rw [block_add]; exact hb, fun j hj => ?_⟩
  rw [List.length_drop] at hj
  rw [show (ad.add l).add j = ad.add (l + j) from by by_cases hq0 : l = 0 <;> by_cases hj0 : j = 0 <;> simp [Addr.add, hq0, hj0, Nat.add_assoc], hcell (l + j) (by omega)]
  simp [List.getD, List.getElem?_drop]

set_option maxRecDepth 100000 in
set_option maxHeartbeats 3200000 in
theorem fnQuads_walk (A : Option Addr) (n c : Nat) (bs : List Int) (w : World) (hn : bs.length = n) (hm : n ≤ maxLen) (h : Bytes w A bs) (wf : ∀ z ∈ bs, (Lit.int .u8 z).wf = true) :
    Calls Try.prog 19 #[.slice A n c] w fun e w' => e = .returned (.bool true) ∧ Below w.heap.size w w' := by
  have H := Lib.hid h; have Hn := Lib.hid hn; have Hwf := Lib.hid wf
  clear h hn wf
  have hm0 := hm
  unfold maxLen at hm
  by_cases hbig : 1048576 < n
  · go_enter Try.func19, Try.ntmps19
    go_wp2
    go_ret
    exact ⟨rfl, Below.refl _ _⟩
  go_enter Try.func19, Try.ntmps19
  go_wp2_with fail
  refine (drawQuad_any _ _ _ bs _ Hn.out hm0 H.out Hwf.out).mono ?_
  rintro e w1 ⟨W, t, k, gb, m, c1, zs, Ad, md, cd, qs, rfl, hl, hm1, hmc, hcm, hO1, hl2, hm12, hO2, hb1⟩
  have I1 := Lib.hid (IntsB.of (own_ints1 hO1)); have J1 := Lib.hid (IntsB.of hO2); have Hl := Lib.hid hl; have Hl2 := Lib.hid hl2; have T1 := Lib.hid hb1
  have z1 := hb1.size
  have hm2 : m ≤ maxLen := by unfold maxLen; omega
  have hmd2 : md ≤ maxLen := by unfold maxLen; omega
  clear hO1 hO2 hl hl2 hb1 hcm
  obtain ⟨wa, hwa⟩ : ∃ wa, w1.alloc (.cells #[.int .i64 W, .int .i64 t, .int .i64 k] 24) = wa := ⟨_, rfl⟩
  have hb2 : Below w1.heap.size w1 wa := by rw [← hwa]; exact below_new _ _
  have Pa : Hid (wa.cell? ⟨w1.heap.size, 0, none⟩ = some (.int .i64 W) ∧ wa.cell? ⟨w1.heap.size, 1, none⟩ = some (.int .i64 t) ∧ wa.cell? ⟨w1.heap.size, 2, none⟩ = some (.int .i64 k)) := by show _ ∧ _; rw [← hwa]; exact lay3 w1 _ _ _ _
  have za : w1.heap.size < wa.heap.size := by rw [← hwa]; simp
  have Ia := Lib.hid (I1.out.keep (Nat.le_refl _) hb2); have Ja := Lib.hid (J1.out.keep (Nat.le_refl _) hb2); have Ta := Lib.hid (T1.out.trans (hb2.mono z1))
  clear hb2 I1 J1 T1
  obtain ⟨L1, R1⟩ := qdRes_ex ⟨W, t, k⟩ false zs qs
  obtain ⟨L2, R2⟩ := qdRes_ex ⟨W, t, k⟩ true zs qs
  have R1 := Lib.hid R1; have R2 := Lib.hid R2
  obtain ⟨p0, p1, p2⟩ := Pa.out
  go_wp2_with fail
  clear hwa
  refine (implQuad_any W t k _ m c1 zs _ md cd qs L1 _ Hl.out (by omega) Ia.out.ints Hl2.out (by omega) Ja.out.ints R1.out).mono ?_
  clear p0 p1 p2
  rintro e wb ⟨v, rfl, hO, hb⟩
  obtain ⟨A6, c6, hv, _, _, hc6, hc6m⟩ := hO.form
  subst hv
  have Xb := Lib.hid (IntsB.of (own_ints1 hO))
  clear hO
  have Pb := Lib.hid (hold3 hb za Pa.out)
  have Ib := Lib.hid (Ia.out.keep (by omega) hb)
  have Jb := Lib.hid (Ja.out.keep (by first | exact Nat.le_refl _ | omega) hb)
  have Tb := Lib.hid (Ta.out.trans (hb.mono (B' := w.heap.size) (by omega)))
  have zb : w1.heap.size < wb.heap.size := Nat.lt_of_lt_of_le za hb.size
  have yb := hb.size
  clear hb Pa Ia Ta Ja
  obtain ⟨p0, p1, p2⟩ := Pb.out
  go_wp2_with fail
  refine (implCenter_any W t k _ m c1 zs _ md cd qs L2 _ Hl.out (by omega) Ib.out.ints Hl2.out (by omega) Jb.out.ints R2.out).mono ?_
  clear p0 p1 p2
  rintro e wc ⟨v, rfl, hO, hb⟩
  obtain ⟨A8, c8, hv, _, _, hc8, hc8m⟩ := hO.form
  subst hv
  have Yc := Lib.hid (IntsB.of (own_ints1 hO))
  clear hO
  have Pc := Lib.hid (hold3 hb zb Pb.out)
  have Ic := Lib.hid (Ib.out.keep (by omega) hb)
  have Jc := Lib.hid (Jb.out.keep (by first | exact Nat.le_refl _ | omega) hb)
  have Xc := Lib.hid (Xb.out.keep (by first | exact Nat.le_refl _ | omega) hb)
  have Tc := Lib.hid (Tb.out.trans (hb.mono (B' := w.heap.size) (by omega)))
  have zc : w1.heap.size < wc.heap.size := Nat.lt_of_lt_of_le zb hb.size
  have yc := hb.size
  clear hb Pb Ib Tb Jb Xb
  obtain ⟨p0, p1, p2⟩ := Pc.out
  go_wp2_with fail
  refine (specQuad_any W t k _ m c1 zs _ md cd qs L1 _ Hl.out (by omega) Ic.out.ints Hl2.out (by omega) Jc.out.ints R1.out).mono ?_
  clear p0 p1 p2
  rintro e wd ⟨v, rfl, hO, hb⟩
  obtain ⟨A10, c10, hv, _, _, hc10, hc10m⟩ := hO.form
  subst hv
  have Zd := Lib.hid (IntsB.of (own_ints1 hO))
  clear hO
  have Pd := Lib.hid (hold3 hb zc Pc.out)
  have Id := Lib.hid (Ic.out.keep (by omega) hb)
  have Jd := Lib.hid (Jc.out.keep (by first | exact Nat.le_refl _ | omega) hb)
  have Xd := Lib.hid (Xc.out.keep (by first | exact Nat.le_refl _ | omega) hb)
  have Yd := Lib.hid (Yc.out.keep (by first | exact Nat.le_refl _ | omega) hb)
  have Td := Lib.hid (Tc.out.trans (hb.mono (B' := w.heap.size) (by omega)))
  have zd : w1.heap.size < wd.heap.size := Nat.lt_of_lt_of_le zc hb.size
  have yd := hb.size
  clear hb Pc Ic Tc Jc Xc Yc
  obtain ⟨p0, p1, p2⟩ := Pd.out
  cases hq : qdB ⟨W, t, k⟩ zs qs
  · rw [show L1.length = 0 by rw [R1.out.2.1 hq]; rfl]
    clear p0 p1 p2
    go_wp2
    go_ret
    exact ⟨rfl, Td.out⟩
  have hq2 := hq
  unfold qdB at hq2
  rw [Bool.and_eq_true] at hq2
  have hg := hq2.1
  have HQ := Lib.hid (quads_mem hq2.2)
  obtain ⟨hms, hli, _⟩ := goodB_parts hg
  have hf : fitsB ⟨W, t, k⟩ zs = true := by unfold goodB at hg; rw [hms] at hg; simpa using hg
  obtain ⟨l1, e1, m1, f1, n1⟩ := res_left (R1.out.1 hq) hf
  obtain ⟨l2, e2, m2, f2, n2⟩ := res_both (R2.out.1 hq) hf
  have G1 : Hid (goodB ⟨W, t, k⟩ L1 = true) := by show _ = _; unfold goodB; rw [hms, f1]; rfl
  have G2 : Hid (goodB ⟨W, t, k⟩ L2 = true) := by show _ = _; unfold goodB; rw [hms, f2]; rfl
  have E1 := Lib.hid e1; have E2 := Lib.hid e2; have M1 := Lib.hid m1; have M2 := Lib.hid m2; have N1 := Lib.hid n1; have N2 := Lib.hid n2
  have b1 := R1.out.2.2; have b2 := R2.out.2.2
  obtain ⟨x1, hx1⟩ : ∃ x, L1.length = x := ⟨_, rfl⟩
  obtain ⟨x2, hx2⟩ : ∃ x, L2.length = x := ⟨_, rfl⟩
  obtain ⟨N, hN⟩ : ∃ x, l2.length = x := ⟨_, rfl⟩
  have hs1 : x1 = m + l1.length := by rw [← hx1, E1.out, List.length_append, Hl.out]
  have hs2 : x2 = N + (m + N) := by rw [← hx2, E2.out, List.length_append, List.length_append, List.length_reverse, Hl.out, hN]
  rw [hx1] at b1 hc6 ⊢
  rw [hx2] at b2 hc8 ⊢
  have HX1 := Lib.hid hx1; have HX2 := Lib.hid hx2; have HN := Lib.hid hN
  clear hx1 hx2 hN e1 e2 m1 m2 n1 n2 f1 f2 hq hq2 hg hms hli hf R1 R2 Zd hc10 hc10m p0 p1 p2
  unfold maxLen at hc6m hc8m
  have HS1 := Lib.hid hs1; have HS2 := Lib.hid hs2
  have u1 : m ≤ x1 := by omega
  have u2 : N + m ≤ x2 := by omega
  have d1 : decide ((x1 : Int) < (m : Int)) = false := decide_eq_false (by omega)
  have d2 : decide ((x2 : Int) < (m : Int)) = false := decide_eq_false (by omega)
  have d3 : (x2 : Int) - (m : Int) = 2 * (N : Int) := by omega
  have d4 : (2 * (N : Int)) % 2 = 0 := by omega
  have d5 : (2 * (N : Int)) / 2 = (N : Int) := by omega
  have d6 : m ≤ c6 := by omega
  have d7 : N + m ≤ c8 := by omega
  have t1 : decide (L1.take m = zs) = true := by rw [E1.out]; exact decide_eq_true (by rw [List.take_append_of_le_length (by rw [Hl.out]; exact Nat.le_refl _), List.take_of_length_le (by rw [Hl.out]; exact Nat.le_refl _)])
  have t2 : decide ((L2.drop N).take m = zs) = true := by rw [E2.out]; exact decide_eq_true (by rw [List.drop_left' (by rw [List.length_reverse]; exact HN.out), List.take_append_of_le_length (by rw [Hl.out]; exact Nat.le_refl _), List.take_of_length_le (by rw [Hl.out]; exact Nat.le_refl _)])
  have HT2 := Lib.hid t2
  have HK1 : Hid ((L1.take m).length = m) := by show _ = _; rw [List.length_take, HX1.out]; omega
  have HK2 : Hid (((L2.drop N).take m).length = m) := by show _ = _; rw [List.length_take, List.length_drop, HX2.out]; omega
  clear hs1 hs2 t2
  go_wp2_with fail
  have hq := lawInts_any A6 (some ⟨gb, 0, none⟩) m c6 m c1 (L1.take m) zs wd HK1.out Hl.out hm2 hm2 (intsB_pre Xd.out).ints Id.out.ints
  rw [t1] at hq
  refine hq.mono ?_
  clear hq t1 d1 d2 d4 d6
  rintro e we ⟨kk, rfl, hwe⟩
  have hb : Below wd.heap.size wd we := by rw [hwe]; exact below_drewN (Below.refl _ _) _
  clear hwe
  have Pe := Lib.hid (hold3 hb zd Pd.out)
  have Ie := Lib.hid (Id.out.keep (by omega) hb)
  have Je := Lib.hid (Jd.out.keep (by first | exact Nat.le_refl _ | omega) hb)
  have Xe := Lib.hid (Xd.out.keep (by first | exact Nat.le_refl _ | omega) hb)
  have Ye := Lib.hid (Yd.out.keep (by first | exact Nat.le_refl _ | omega) hb)
  have Te := Lib.hid (Td.out.trans (hb.mono (B' := w.heap.size) (by omega)))
  have ze : w1.heap.size < we.heap.size := Nat.lt_of_lt_of_le zd hb.size
  have ye := hb.size
  clear hb Pd Id Td Jd Xd Yd
  obtain ⟨AN, hAN⟩ : ∃ AN, (if c8 = N then A8 else Option.map (fun x => x.add N) A8) = AN := ⟨_, rfl⟩
  have HC : Ints we AN ((L2.drop N).take m) := by have h := (intsB_pre (k := m) (ints_cut (l := N) Ye.out (c := c8) (by rw [HX2.out]; exact hc8))).ints; unfold cutA at h; rw [hAN] at h; exact h
  have HC := Lib.hid HC
  go_wp2_with fail
  have hq := lawInts_any AN (some ⟨gb, 0, none⟩) m (c8 - N) m c1 ((L2.drop N).take m) zs we HK2.out Hl.out hm2 hm2 HC.out Ie.out.ints
  rw [HT2.out] at hq
  refine hq.mono ?_
  clear hq d3 d5 HC
  rintro e wf ⟨kk2, rfl, hwe⟩
  clear hAN
  have hb : Below we.heap.size we wf := by rw [hwe]; exact below_drewN (Below.refl _ _) _
  clear hwe
  have Pf := Lib.hid (hold3 hb ze Pe.out)
  have If := Lib.hid (Ie.out.keep (by omega) hb)
  have Jf := Lib.hid (Je.out.keep (by first | exact Nat.le_refl _ | omega) hb)
  have Xf := Lib.hid (Xe.out.keep (by first | exact Nat.le_refl _ | omega) hb)
  have Yf := Lib.hid (Ye.out.keep (by first | exact Nat.le_refl _ | omega) hb)
  have Tf := Lib.hid (Te.out.trans (hb.mono (B' := w.heap.size) (by omega)))
  have zf : w1.heap.size < wf.heap.size := Nat.lt_of_lt_of_le ze hb.size
  have yf := hb.size
  clear hb Pe Ie Te Je Xe Ye
  obtain ⟨p0, p1, p2⟩ := Pf.out
  go_wp2_with fail
  have hq := implFitN_any W t k none 0 0 [] A6 x1 c6 L1 wf rfl (by omega) (Ints.nil _ _) HX1.out (by omega) hc6 (by unfold maxLen; omega) Xf.out.ints
  rw [cfI_all G1.out, HX1.out] at hq
  refine hq.mono ?_
  clear hq p0 p1 p2
  rintro e wg ⟨rfl, hb⟩
  have Pg := Lib.hid (hold3 hb zf Pf.out)
  have Ig := Lib.hid (If.out.keep (by omega) hb)
  have Jg := Lib.hid (Jf.out.keep (by first | exact Nat.le_refl _ | omega) hb)
  have Xg := Lib.hid (Xf.out.keep (by first | exact Nat.le_refl _ | omega) hb)
  have Yg := Lib.hid (Yf.out.keep (by first | exact Nat.le_refl _ | omega) hb)
  have Tg := Lib.hid (Tf.out.trans (hb.mono (B' := w.heap.size) (by omega)))
  have zg : w1.heap.size < wg.heap.size := Nat.lt_of_lt_of_le zf hb.size
  have yg := hb.size
  clear hb Pf If Tf Jf Xf Yf
  obtain ⟨p0, p1, p2⟩ := Pg.out
  go_wp2_with fail
  have hq := implFitN_any W t k none 0 0 [] A8 x2 c8 L2 wg rfl (by omega) (Ints.nil _ _) HX2.out (by omega) hc8 (by unfold maxLen; omega) Yg.out.ints
  rw [cfI_all G2.out, HX2.out] at hq
  refine hq.mono ?_
  clear hq p0 p1 p2
  rintro e wh ⟨rfl, hb⟩
  have Ph := Lib.hid (hold3 hb zg Pg.out)
  have Ih := Lib.hid (Ig.out.keep (by omega) hb)
  have Jh := Lib.hid (Jg.out.keep (by first | exact Nat.le_refl _ | omega) hb)
  have Xh := Lib.hid (Xg.out.keep (by first | exact Nat.le_refl _ | omega) hb)
  have Yh := Lib.hid (Yg.out.keep (by first | exact Nat.le_refl _ | omega) hb)
  have Th := Lib.hid (Tg.out.trans (hb.mono (B' := w.heap.size) (by omega)))
  have zh : w1.heap.size < wh.heap.size := Nat.lt_of_lt_of_le zg hb.size
  have yh := hb.size
  clear hb Pg Ig Tg Jg Xg Yg
  obtain ⟨D, hD⟩ : ∃ D, x1 - m = D := ⟨_, rfl⟩
  have HD : Hid (x1 = m + D) := by show _ = _; omega
  obtain ⟨Am, hAm⟩ : ∃ Am, (if c6 = m then A6 else Option.map (fun x => x.add m) A6) = Am := ⟨_, rfl⟩
  have HX : Hid (Ints wh Am (L1.drop m)) := by have h := (ints_cut (l := m) Xh.out (c := c6) (by rw [HX1.out]; exact hc6)).ints; unfold cutA at h; rw [hAm] at h; exact h
  go_wp2_with fail
  clear hAm
  go_loop [136] (fun i => ∃ j : Nat, j ≤ D ∧ i = .int .i64 j) (fun i => D - (intOf i).toNat)
  case atStart => exact ⟨0, Nat.zero_le _, rfl⟩
  case round =>
    obtain ⟨j, hj, rfl⟩ := hrel
    by_cases hlt : j < D
    · have hx := HD.out
      obtain ⟨ad, y, rfl, hy, hc⟩ := HX.out.at_ (k := j) (by rw [List.length_drop, HX1.out]; omega)
      have hyq : y ∈ qs := M1.out y (by
        have h := hy.out
        rw [E1.out, List.drop_left' Hl.out] at h
        exact List.mem_of_getElem? h)
      have hc2 := cnt_some hyq
      clear hx hyq hy
      go_wp2_with fail
      refine (lawCount_any Ad md cd qs y _ Hl2.out hmd2 Jh.out.ints).mono ?_
      rintro e wi ⟨rfl, rfl⟩
      go_wp2
      go_round
      case rel => exact ⟨j + 1, by omega, by go_num⟩
      case measure => simp [intOf]; omega
    · obtain rfl : j = D := by omega
      go_wp2_with fail
      go_loopw [15] (fun i wr => ∃ i2 q : Nat, i2 ≤ N ∧ i = .int .i64 i2 ∧ wr = wh.drewN q) (fun i _ => N - (intOf i).toNat)
      case atStart => exact ⟨0, 0, Nat.zero_le _, rfl, rfl⟩
      case round =>
        obtain ⟨i2, q, hi, rfl, hwr⟩ := hrel
        have Yr : Ints wr A8 L2 := by rw [hwr]; exact Yh.out.ints
        have Jr : Ints wr Ad qs := by rw [hwr]; exact Jh.out.ints
        have HW := Lib.hid hwr
        clear hwr
        by_cases hlt2 : i2 < N
        · obtain ⟨e3, y, e4, e5⟩ := both_at E2.out Hl.out HN.out hlt2
          have hx2 := HS2.out
          obtain ⟨p, hp⟩ : ∃ p, x2 - 1 - i2 = p := ⟨_, rfl⟩
          obtain ⟨ad, y1, rfl, hy1, hc1⟩ := Yr.at_ (k := i2) (by rw [HX2.out]; omega)
          obtain ⟨ad2, y2, hade, hy2, hc2⟩ := Yr.at_ (k := p) (by rw [HX2.out]; omega)
          injection hade with hade; subst hade
          have g1 := hy1.out; have g2 := hy2.out
          rw [e4] at g1; injection g1 with g1; subst g1
          rw [← hp, hx2, ← e3, e4] at g2; injection g2 with g2; subst g2
          have hcn := cnt_some (M2.out y e5)
          have a1 : IntKind.i64.wrap ((x2 : Int) - 1) = (x2 : Int) - 1 := by rw [IntKind.wrap_i64]; omega
          have a2 : IntKind.i64.wrap ((x2 : Int) - 1 - (i2 : Int)) = (p : Int) := by rw [IntKind.wrap_i64]; omega
          have a3 : p < x2 := by omega
          have a4 : i2 < x2 := by omega
          clear e3 e4 e5 hx2 hp hy1 hy2 Yr
          go_wp2_with fail
          go_quiet ((go_at_call 62; exact cntq Hl2.out hmd2 Jr))
          go_wp2
          go_roundw
          case rel => exact ⟨i2 + 1, _, by omega, by go_num, by rw [HW.out]; exact World.drewN_drewN _ _ _⟩
          case measure => simp [intOf]; omega
        · obtain rfl : i2 = N := by omega
          have hb : Below wh.heap.size wh wr := by rw [HW.out]; exact below_drewN (Below.refl _ _) _
          clear HW Yr Jr
          have Pr := Lib.hid (hold3 hb zh Ph.out)
          have Ir := Lib.hid (Ih.out.keep (by omega) hb)
          have Jr := Lib.hid (Jh.out.keep (by first | exact Nat.le_refl _ | omega) hb)
          have Xr := Lib.hid (Xh.out.keep (by first | exact Nat.le_refl _ | omega) hb)
          have Yr := Lib.hid (Yh.out.keep (by first | exact Nat.le_refl _ | omega) hb)
          have Tr := Lib.hid (Th.out.trans (hb.mono (B' := w.heap.size) (by omega)))
          have zr : w1.heap.size < wr.heap.size := Nat.lt_of_lt_of_le zh hb.size
          have yr := hb.size
          clear hb Ph Ih Th Jh Xh Yh
          go_wp2_with fail
          go_loopw [174] (fun i ws => ∃ j3 : Nat, j3 ≤ md ∧ i = .int .i64 j3 ∧ Below wr.heap.size wr ws) (fun i _ => md - (intOf i).toNat)
          case atStart => exact ⟨0, Nat.zero_le _, rfl, Below.refl _ _⟩
          case round =>
            obtain ⟨j3, hj3, rfl, hb⟩ := hrel
            have Ps := Lib.hid (hold3 hb zr Pr.out)
            have Js := Lib.hid (Jr.out.keep (by omega) hb)
            have Xs := Lib.hid (Xr.out.keep (by omega) hb)
            have Ys := Lib.hid (Yr.out.keep (by omega) hb)
            have Ts := Lib.hid (Tr.out.trans (hb.mono (B' := w.heap.size) (by omega)))
            have Bs := Lib.hid hb
            have ys := hb.size
            have zs2 : w1.heap.size < wr.heap.size := by omega
            clear hb Pr Jr Xr Yr Tr Ir
            by_cases hlt3 : j3 < md
            case neg =>
              obtain rfl : j3 = md := by omega
              go_wp2
              go_ret
              exact ⟨rfl, Ts.out⟩
            obtain ⟨ad, y, rfl, hy, hc⟩ := Js.out.ints.at_ (k := j3) (by rw [Hl2.out]; exact hlt3)
            have hyq := mem_at hy.out
            have V1 := Lib.hid (cfI_none G1.out (HQ.out y hyq) (N1.out y hyq))
            have V2 := Lib.hid (cfI_pair (fits_pair (N2.out y hyq)))
            obtain ⟨v1, hv1⟩ : ∃ v1, wr.alloc (.cells #[.int .i64 y] 3) = v1 := ⟨_, rfl⟩
            have hb : Below wr.heap.size wr v1 := by rw [← hv1]; exact below_new _ _
            have hI : Ints v1 (some ⟨wr.heap.size, 0, none⟩) [y] := by rw [← hv1]; exact (lit_ints wr [y]).ints
            have HI := Lib.hid hI
            have Pt := Lib.hid (hold3 hb zs2 Ps.out)
            have Jt := Lib.hid (Js.out.keep (by omega) hb)
            have Xt := Lib.hid (Xs.out.keep (by omega) hb)
            have Yt := Lib.hid (Ys.out.keep (by omega) hb)
            have Bt := Lib.hid (Bs.out.trans (hb.mono (by omega)))
            have yt := hb.size
            have zt : w1.heap.size < v1.heap.size := by omega
            clear hb hI hy hyq
            obtain ⟨p0, p1, p2⟩ := Ps.out
            go_wp2_with fail
            clear hv1 p0 p1 p2 hc
            have hq := implFitN_any W t k A6 x1 c6 L1 (some ⟨wr.heap.size, 0, none⟩) 1 1 [y] v1 HX1.out (by omega) Xt.out.ints rfl (by omega) (Nat.le_refl _) (by unfold maxLen; omega) HI.out
            rw [V1.out] at hq
            refine hq.mono ?_
            clear hq HI V1 Ps Js Xs Ys
            rintro e v2 ⟨rfl, hb⟩
            have Pu := Lib.hid (hold3 hb zt Pt.out)
            have Ju := Lib.hid (Jt.out.keep (by omega) hb)
            have Xu := Lib.hid (Xt.out.keep (by omega) hb)
            have Yu := Lib.hid (Yt.out.keep (by omega) hb)
            have Bu := Lib.hid (Bt.out.trans (hb.mono (by omega)))
            have yu := hb.size
            have zu : w1.heap.size < v2.heap.size := by omega
            clear hb Pt Jt Xt Yt Bt
            obtain ⟨v3, hv3⟩ : ∃ v3, v2.alloc (.cells #[.int .i64 y, .int .i64 y] 3) = v3 := ⟨_, rfl⟩
            have hb : Below v2.heap.size v2 v3 := by rw [← hv3]; exact below_new _ _
            have hI : Ints v3 (some ⟨v2.heap.size, 0, none⟩) [y, y] := by rw [← hv3]; exact (lit_ints v2 [y, y]).ints
            have HI := Lib.hid hI
            have Yv := Lib.hid (Yu.out.keep (by omega) hb)
            have Bv := Lib.hid (Bu.out.trans (hb.mono (by omega)))
            have yv := hb.size
            clear hb hI
            obtain ⟨p0, p1, p2⟩ := Pu.out
            go_wp2_with fail
            clear hv3 p0 p1 p2
            have hq := implFitN_any W t k A8 x2 c8 L2 (some ⟨v2.heap.size, 0, none⟩) 2 2 [y, y] v3 HX2.out (by omega) Yv.out.ints rfl (by omega) (Nat.le_refl _) (by unfold maxLen; omega) HI.out
            obtain ⟨q3, hq3⟩ : ∃ q3, cfI ⟨W, t, k⟩ L2 [y, y] = q3 := ⟨_, rfl⟩
            rw [hq3] at hq V2
            refine hq.mono ?_
            clear hq HI hq3
            rintro e v4 ⟨rfl, hb⟩
            have Bw := Lib.hid (Bv.out.trans (hb.mono (by omega)))
            have hz : (q3 == 2) = false := by simpa using V2.out
            have hz2 : decide (q3 = 2) = false := decide_eq_false V2.out
            clear hb
            go_wp2
            go_roundw
            case rel => exact ⟨j3 + 1, by omega, by go_num, Bw.out⟩
            case measure => simp [intOf]; omega
end Go.Proofs.Ytpenmheacpapaaa
