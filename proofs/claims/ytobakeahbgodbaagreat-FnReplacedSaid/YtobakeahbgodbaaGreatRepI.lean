/-
  A word replaced in a galley, by the program: lineOf, setBehind by contract. Conditions: a font of lengths of at most 2^20, a galley that is one, rows of strings of the call's own.
-/
import Derived.Test.YtobakeahbgodbaaGreatRepM
import Derived.Test.YtobakeahbgodbaaGreatPkI
import Derived.Test.YtobakeahbgodbaaGreatPkD
namespace Go.Proofs.YtobakeahbgodbaaGreat
open Go.RowKit Go.Shelf
set_option linter.unusedVariables false

set_option maxRecDepth 100000 in
set_option maxHeartbeats 1600000 in
theorem lineOf_any (m : Msr) (zs : List Int) (A : Option Addr) (n c : Nat) (g : List ByteArray) (x : Int) (w : World) (hn : g.length = n) (hm : szL g ≤ 1048576) (h : Strs w A g) (hbr : brkF m zs 0 (cnts g) = true) (h40 : zs.length ≤ 40) :
    Calls Tryz.prog 36 #[.slice A n c, .int .i64 x] w fun e w' => ∃ K P : Nat, e = .returned (.tuple #[.int .i64 K, .int .i64 P]) ∧ lnI x (cnts g) 0 0 = (K, P) ∧ K ≤ n ∧ P ≤ 40 ∧ (P = 0 ∨ (P : Int) ≤ x) ∧ Below w.heap.size w w' := by
  have Hn := Lib.hid hn; have HM := Lib.hid hm; have H := Lib.hid h
  obtain ⟨R, hR⟩ : ∃ R, cnts g = R := ⟨_, rfl⟩
  have HRe := Lib.hid hR
  rw [hR] at hbr
  have HR : Hid (R.length = n) := by show _ = _; rw [← hR, cnts_len, hn]
  have hn2 : n ≤ 1048576 := by have := szL_len g; omega
  have HB0 : Hid (brkF m zs 0 (R.drop 0) = true) := by show _ = _; rw [List.drop_zero]; exact hbr
  obtain ⟨KP, hKP⟩ : ∃ X, lnI x (cnts g) 0 0 = X := ⟨_, rfl⟩
  have HK := Lib.hid hKP
  have HL0 : Hid (lnI x (R.drop 0) 0 0 = KP) := by show _ = _; rw [List.drop_zero, ← hR]; exact hKP
  clear hn hm h hR hbr hKP
  go_enter Tryz.func36, Tryz.ntmps36
  go_wp2_with fail
  refine (breakingOf_any _ _ _ g _ Hn.out HM.out H.out).mono ?_
  rintro e w1 ⟨v, rfl, hO, hb1⟩
  rw [HRe.out] at hO
  obtain ⟨Al, cl, rfl, hIl, -, -, -⟩ := hO.form
  rw [HR.out]
  have HI := Lib.hid hIl; have HB := Lib.hid hb1
  clear hO hIl hb1
  go_wp2
  go_loopw [6, 12] (fun b i wr => ∃ k p : Nat, k ≤ n ∧ p ≤ zs.length ∧ b = .int .i64 p ∧ i = .int .i64 k ∧ Hid (brkF m zs p (R.drop k) = true) ∧ Hid (lnI x (R.drop k) p k = KP) ∧ Hid (p = 0 ∨ (p : Int) ≤ x) ∧ Below w1.heap.size w1 wr) (fun _ i _ => n - (intOf i).toNat)
  case atStart => exact ⟨0, 0, Nat.zero_le _, Nat.zero_le _, rfl, rfl, HB0.out, HL0.out, .inl rfl, Below.refl _ _⟩
  case round =>
    clear HB0 HL0
    obtain ⟨k, p, hk, hp, rfl, rfl, hbr, hln, hpx, hb⟩ := hrel
    have HBr := Lib.hid hb
    by_cases hlt : k < n
    · obtain ⟨ad, y, rfl, hx, hcx⟩ := (HI.out.below hb).at_ (k := k) (by rw [HR.out]; exact hlt)
      obtain ⟨q, rfl, hq1, hq2, -, hbr2⟩ := brkF_yes hx.out hbr.out
      obtain ⟨r, hr⟩ : ∃ r, p + q = r := ⟨_, rfl⟩
      have hst := hln.out
      rw [lnI_at hx.out, hr] at hst
      rw [hr] at hbr2 hq2
      have HST := Lib.hid hst; have HBR := Lib.hid hbr2
      have a1 : (p : Int) + (q : Int) = (r : Int) := by omega
      clear hb hx hst hbr2 hbr hln hr
      by_cases hxr : x < (r : Int)
      · have HKP : Hid (KP = (k, p)) := by show _ = _; rw [← HST.out, if_pos hxr]
        go_wp2
        go_ret2
        exact ⟨k, p, rfl, by rw [HK.out, HKP.out], hk, by omega, hpx.out, HB.out.trans (HBr.out.mono (HB.out.size))⟩
      · have HS2 : Hid (lnI x (R.drop (k + 1)) r (k + 1) = KP) := by show _ = _; rw [← HST.out, if_neg hxr]
        clear HST
        go_wp2
        go_roundw
        case rel => exact ⟨k + 1, r, by omega, by omega, rfl, by go_num, HBR.out, HS2.out, .inr (by omega), HBr.out⟩
        case measure => simp [intOf]; omega
    · have hkn : k = n := by omega
      subst hkn
      have HKP : Hid (KP = (k, p)) := by show _ = _; rw [← hln.out, lnI_end HR.out]
      clear hb hbr hln
      go_wp2
      go_ret2
      exact ⟨k, p, rfl, by rw [HK.out, HKP.out], Nat.le_refl _, by omega, hpx.out, HB.out.trans (HBr.out.mono (HB.out.size))⟩

theorem sparts2 (w : World) (A1 : Option Addr) (n1 c1 : Nat) (zs1 : List ByteArray) (A2 : Option Addr) (n2 c2 : Nat) (zs2 : List ByteArray) (T : TypeId) (h1 : zs1.length = n1) (h2 : zs2.length = n2) (i1 : StrsB w w.heap.size A1 zs1) (i2 : StrsB w w.heap.size A2 zs2) :
    SPartsAt (w.alloc (.cells #[.slice A1 n1 c1, .slice A2 n2 c2] T)) ⟨w.heap.size, 0, none⟩ (w.heap.size + 1) [⟨A1, n1, c1, zs1⟩, ⟨A2, n2, c2, zs2⟩] := by
  have hb : Below w.heap.size w (w.alloc (.cells #[.slice A1 n1 c1, .slice A2 n2 c2] T)) := (Below.refl _ _).alloc (Nat.le_refl _) _
  refine ⟨Nat.lt_succ_self _, fun j p hp => ?_⟩
  have wide : ∀ {A : Option Addr} {zs : List ByteArray}, StrsB w w.heap.size A zs → StrsB (w.alloc (.cells #[.slice A1 n1 c1, .slice A2 n2 c2] T)) (w.heap.size + 1) A zs := fun h hn => by
    obtain ⟨ad, e, hl, hc⟩ := (h.keep (Nat.le_refl _) hb) hn
    exact ⟨ad, e, by omega, hc⟩
  match j, hp with
  | 0, hp =>
    simp at hp; subst hp
    exact ⟨by rw [add_zero_at, World.cell?_alloc_at _ _ _ _ rfl]; rfl, h1, wide i1⟩
  | 1, hp =>
    simp at hp; subst hp
    exact ⟨by rw [add_zero_at, World.cell?_alloc_at _ _ _ _ rfl]; rfl, h2, wide i2⟩

set_option maxRecDepth 100000 in
set_option maxHeartbeats 1600000 in
theorem setBehind_any (lo hi : Nat) (v : Value) (f : Fnt) (W t k : Int) (Aa : Option Addr) (n c : Nat) (a : List ByteArray) (Bw : Nat) (A3 : Option Addr) (n3 c3 : Nat) (ws : List ByteArray) (w : World) (h : FontV w lo hi v f) (hhi : hi ≤ w.heap.size) (hsm : Small f) (hn : a.length = n) (hn1 : n ≤ 1000) (ha : Strs w Aa a) (hn3 : ws.length = n3) (h3 : OwnS w Bw (.slice A3 n3 c3) ws) (hz : szL ws ≤ 2097151) :
    Calls Tryz.prog 39 #[v, .agg #[.int .i64 W, .int .i64 t, .int .i64 k], .slice Aa n c, .slice A3 n3 c3] w fun e w' => ∃ u, e = .returned (.tuple #[u, .bool (setA f ⟨W, t, k⟩ a ws).isSome]) ∧ OwnS w' w.heap.size u (setR f ⟨W, t, k⟩ a ws) ∧ Below w.heap.size w w' := by
  obtain ⟨A, d, A2, d2, hv, hrest⟩ := id h
  obtain ⟨p, hp⟩ : ∃ p, f.ws.length = p := ⟨_, rfl⟩
  obtain ⟨q, hq⟩ : ∃ p, f.cs.length = p := ⟨_, rfl⟩
  obtain ⟨t0, ht⟩ : ∃ s, f.s = s := ⟨_, rfl⟩
  rw [hp, hq, ht] at hv
  obtain ⟨w0, hw0, hb0, hz0, K0⟩ := mxWorld w #[.string t0, .slice A p d, .slice A2 q d2] 25
  obtain ⟨w1, hw1, hb1, hz1, K1⟩ := mxWorld w0 #[.int .i64 W, .int .i64 t, .int .i64 k] 27
  have T1 := Lib.hid (hb0.trans (hb1.mono (B' := w.heap.size) (by omega)))
  have HV1 := Lib.hid (h.below hhi T1.out)
  have HK1 := Lib.hid (K0.below hb1 (by omega))
  rw [hz0] at K1 hz1
  have HM1 := Lib.hid K1; have HSm := Lib.hid hsm
  have z1 : w.heap.size + 2 ≤ w1.heap.size := by omega
  rw [hv] at HV1
  rw [hv]
  obtain ⟨c0, c1, c2⟩ := (show w1.cell? ⟨w.heap.size, 0, none⟩ = some (.string t0) ∧ w1.cell? ⟨w.heap.size, 1, none⟩ = some (.slice A p d) ∧ w1.cell? ⟨w.heap.size, 2, none⟩ = some (.slice A2 q d2) from ⟨cellOfBlk HK1.out 0, cellOfBlk HK1.out 1, cellOfBlk HK1.out 2⟩)
  obtain ⟨p0, p1, p2⟩ := (show w1.cell? ⟨w.heap.size + 1, 0, none⟩ = some (.int .i64 W) ∧ w1.cell? ⟨w.heap.size + 1, 1, none⟩ = some (.int .i64 t) ∧ w1.cell? ⟨w.heap.size + 1, 2, none⟩ = some (.int .i64 k) from ⟨cellOfBlk HM1.out 0, cellOfBlk HM1.out 1, cellOfBlk HM1.out 2⟩)
  have AR1 := Lib.hid ((StrsB.of ha).keep (Nat.le_refl _) T1.out); have OW1 := Lib.hid (h3.below T1.out)
  have Hn := Lib.hid hn; have Hn3 := Lib.hid hn3
  clear h hv hrest hp hq ht hb0 hz1 K0 K1 hb1 hsm hn ha h3 hn3
  rcases Nat.eq_zero_or_pos n3 with hn0 | hnp
  · have hws : ws = [] := List.eq_nil_of_length_eq_zero (by rw [Hn3.out]; exact hn0)
    have HS : Hid (setA f ⟨W, t, k⟩ a ws = some a) := by show _ = _; unfold setA; rw [if_pos hws]
    have HSR : Hid (setR f ⟨W, t, k⟩ a ws = a) := by show _ = _; unfold setR; rw [if_pos hws]
    clear hws
    subst hn0
    rw [HS.out, HSR.out]
    go_enter Tryz.func39, Tryz.ntmps39
    go_wp2_with fail
    clear hw0 hw1 hz0
    refine (sclone_any _ _ _ a _ Hn.out (by omega) (StrsB.of AR1.out.ints)).mono ?_
    rintro e w2 ⟨u, rfl, hO, hb2⟩
    have HO := Lib.hid hO; have T2 := Lib.hid (T1.out.trans (hb2.mono (by omega)))
    clear hO hb2 c0 c1 c2 p0 p1 p2
    go_wp2
    go_ret2
    exact ⟨_, rfl, owns_base HO.out (by omega), T2.out⟩
  have hws : ws ≠ [] := fun e => by rw [e] at Hn3; have := Hn3.out; simp at this; omega
  have HS : Hid (setA f ⟨W, t, k⟩ a ws = (galA f ⟨W, t, k⟩ (gtS ws)).map (a ++ ·)) := by show _ = _; unfold setA; rw [if_neg hws]
  have HSR : Hid (setR f ⟨W, t, k⟩ a ws = a ++ (galA f ⟨W, t, k⟩ (gtS ws)).getD []) := by show _ = _; unfold setR; rw [if_neg hws]
  have HGS : Hid ((gtS ws).size ≤ 2097151) := Nat.le_trans (gtS_size ws) hz
  have HGL := Lib.hid (galA_sz (f := f) (m := ⟨W, t, k⟩) (s := gtS ws)).2
  rw [HS.out, HSR.out]
  rcases OW1.out.2 with ⟨-, hz0⟩ | ⟨gb, cap, cur, hv3, hg3, hh3, hnc, hcm3, -⟩
  · exact absurd hz0 (by have := Hn3.out; omega)
  injection hv3 with e1 e2 e3
  subst e1; subst e3
  clear hws HS HSR e2 hnc hcm3
  have hg4 := (Array.getElem?_eq_some_iff.1 hh3).1
  have hnc : n3 ≤ c3 := by
    obtain ⟨A', c', hv', -, -, h1, h2⟩ := OW1.out.form
    injection hv' with _ _ e
    subst e
    have := Hn3.out; omega
  clear hh3
  go_enter Tryz.func39, Tryz.ntmps39
  go_wp2
  clear hw0 hw1 hz0
  go_wp2_with fail
  refine wp_region_plan (.take 0 (.take 1 (.take 2 (.one 3 (.one 4 (.take 5 (.take 6 (.take 7 (.take 8 (.take 9 .done)))))))))) (fun w' => (w'.cell? ⟨w.heap.size, 0, none⟩ = some (.string t0) ∧ w'.cell? ⟨w.heap.size, 1, none⟩ = some (.slice A p d) ∧ w'.cell? ⟨w.heap.size, 2, none⟩ = some (.slice A2 q d2)) ∧ (w'.cell? ⟨w.heap.size + 1, 0, none⟩ = some (.int .i64 W) ∧ w'.cell? ⟨w.heap.size + 1, 1, none⟩ = some (.int .i64 t) ∧ w'.cell? ⟨w.heap.size + 1, 2, none⟩ = some (.int .i64 k))) (by kernel_rfl) (by kernel_rfl) (by kernel_rfl) (by intro c a d v w h; cases d <;> exact h) ⟨⟨cellOfBlk HK1.out 0, cellOfBlk HK1.out 1, cellOfBlk HK1.out 2⟩, ⟨cellOfBlk HM1.out 0, cellOfBlk HM1.out 1, cellOfBlk HM1.out 2⟩⟩ ?_
  clear c0 c1 c2 p0 p1 p2
  refine plan_quiet rfl (by rfl) (v := ?_) ?_ ?_; rotate_left; (intro w1 hSw; obtain ⟨⟨h0, h1, h2⟩, ⟨h3, h4, h5⟩⟩ := hSw; go_simp; try (with_reducible rfl)); (try simp only [Act.put, List.setIfInBounds_toArray, List.set_cons_zero, List.set_cons_succ])
  refine plan_quiet rfl (by rfl) (v := ?_) ?_ ?_; rotate_left; (intro w1 hSw; obtain ⟨⟨h0, h1, h2⟩, ⟨h3, h4, h5⟩⟩ := hSw; go_simp; try (with_reducible rfl)); (try simp only [Act.put, List.setIfInBounds_toArray, List.set_cons_zero, List.set_cons_succ])
  refine plan_quiet rfl (by rfl) (v := ?_) ?_ ?_; rotate_left; (intro w1 hSw; obtain ⟨⟨h0, h1, h2⟩, ⟨h3, h4, h5⟩⟩ := hSw; go_simp; try (with_reducible rfl)); (try simp only [Act.put, List.setIfInBounds_toArray, List.set_cons_zero, List.set_cons_succ])
  refine plan_step rfl (fun Kc hK => ?_)
  rw [if_pos (by rfl)]
  go_simp
  have hd : Below w1.heap.size w1 w1.drew := (Below.refl _ _).drew
  refine (blanksO_any _ gb 0 n3 c3 ws _ Hn3.out rfl (Nat.le_trans hz (by decide)) hnc (by show gb < w1.heap.size; exact hg4) (Strs.drew (owns_rd OW1.out))).mono ?_
  rintro e w2 ⟨rfl, hb'⟩
  have hb := undrew hb'
  clear hb' hd
  have T2 := Lib.hid (T1.out.trans (hb.mono (by omega))); have HM2 := Lib.hid (HM1.out.below hb (by omega)); have HK2 := Lib.hid (HK1.out.below hb (by omega)); have HV2 := Lib.hid (HV1.out.below (by omega) hb); have z2 : w.heap.size + 2 ≤ w2.heap.size := by have := hb.size; omega
  have AR2 := Lib.hid (AR1.out.keep (by omega) hb)
  clear hb T1 HM1 HK1 HV1 AR1
  refine hK.out _ _ ⟨⟨cellOfBlk HK2.out 0, cellOfBlk HK2.out 1, cellOfBlk HK2.out 2⟩, ⟨cellOfBlk HM2.out 0, cellOfBlk HM2.out 1, cellOfBlk HM2.out 2⟩⟩ ?_
  clear hK Kc
  refine plan_step rfl (fun Kc hK => ?_)
  rw [if_pos (by rfl)]
  go_simp
  refine (implGal_any lo hi _ f W t k (gtS ws) _ HV2.out (by omega) HSm.out HGS.out).mono ?_
  rintro e w3 ⟨u, rfl, hO, hb⟩
  obtain ⟨Au, cu, rfl, -, -, -, -⟩ := hO.form
  obtain ⟨r, hr⟩ : ∃ r, ((galA f ⟨W, t, k⟩ (gtS ws)).getD []).length = r := ⟨_, rfl⟩
  rw [hr] at hO HGL ⊢
  have HR := Lib.hid hr
  clear hr
  have T3 := Lib.hid (T2.out.trans (hb.mono (by omega))); have HM3 := Lib.hid (HM2.out.below hb (by omega)); have HK3 := Lib.hid (HK2.out.below hb (by omega)); have HV3 := Lib.hid (HV2.out.below (by omega) hb); have z3 : w.heap.size + 2 ≤ w3.heap.size := by have := hb.size; omega
  have AR3 := Lib.hid (AR2.out.keep (by omega) hb)
  clear hb T2 HM2 HK2 HV2 AR2
  have HO3 := Lib.hid hO
  clear hO
  refine hK.out _ _ ⟨⟨cellOfBlk HK3.out 0, cellOfBlk HK3.out 1, cellOfBlk HK3.out 2⟩, ⟨cellOfBlk HM3.out 0, cellOfBlk HM3.out 1, cellOfBlk HM3.out 2⟩⟩ ?_
  clear hK Kc
  refine plan_quiet rfl (by rfl) (v := ?_) ?_ ?_; rotate_left; (intro w1 hSw; obtain ⟨⟨h0, h1, h2⟩, ⟨h3, h4, h5⟩⟩ := hSw; go_simp; try (with_reducible rfl)); (try simp only [Act.put, List.setIfInBounds_toArray, List.set_cons_zero, List.set_cons_succ])
  refine plan_quiet rfl (by rfl) (v := ?_) ?_ ?_; rotate_left; (intro w1 hSw; obtain ⟨⟨h0, h1, h2⟩, ⟨h3, h4, h5⟩⟩ := hSw; go_simp; try (with_reducible rfl)); (try simp only [Act.put, List.setIfInBounds_toArray, List.set_cons_zero, List.set_cons_succ])
  refine plan_quiet rfl (by rfl) (v := ?_) ?_ ?_; rotate_left; (intro w1 hSw; obtain ⟨⟨h0, h1, h2⟩, ⟨h3, h4, h5⟩⟩ := hSw; go_simp; try (with_reducible rfl)); (try simp only [Act.put, List.setIfInBounds_toArray, List.set_cons_zero, List.set_cons_succ])
  refine plan_quiet rfl (by rfl) (v := ?_) ?_ ?_; rotate_left; (intro w1 hSw; obtain ⟨⟨h0, h1, h2⟩, ⟨h3, h4, h5⟩⟩ := hSw; go_simp; try (with_reducible rfl)); (try simp only [Act.put, List.setIfInBounds_toArray, List.set_cons_zero, List.set_cons_succ])
  refine plan_quiet rfl (by rfl) (v := ?_) ?_ ?_; rotate_left; (intro w1 hSw; obtain ⟨⟨h0, h1, h2⟩, ⟨h3, h4, h5⟩⟩ := hSw; go_simp; try (with_reducible rfl)); (try simp only [Act.put, List.setIfInBounds_toArray, List.set_cons_zero, List.set_cons_succ])
  refine plan_end ?_
  obtain ⟨G, hG⟩ : ∃ G, (galA f ⟨W, t, k⟩ (gtS ws)).getD [] = G := ⟨_, rfl⟩
  rw [hG] at HO3 HR
  have HGe := Lib.hid hG
  have HP := Lib.hid (sparts2 w3 Aa n c a Au r cu G 28 Hn.out HR.out (StrsB.of AR3.out.ints) (StrsB.of (owns_rd HO3.out)))
  have HW : Hid (Below w3.heap.size w3 (w3.alloc (.cells #[.slice Aa n c, .slice Au r cu] 28))) := (Below.refl _ _).alloc (Nat.le_refl _) _
  have HFL : Hid ((sflat [⟨Aa, n, c, a⟩, ⟨Au, r, cu, G⟩]) = a ++ G) := by show _ = _; simp [sflat]
  have HFN : Hid ((sflat [⟨Aa, n, c, a⟩, ⟨Au, r, cu, G⟩]).length ≤ 1048576) := by show _ ≤ _; rw [HFL.out, List.length_append, Hn.out, HR.out]; have := HGL.out; omega
  clear hG
  go_wp2_with fail
  refine (sconcat_any ⟨w3.heap.size, 0, none⟩ (w3.heap.size + 1) 2 2 [⟨Aa, n, c, a⟩, ⟨Au, r, cu, G⟩] _ rfl (by omega) (by simp) HP.out HFN.out).mono ?_
  rintro e w4 ⟨v4, rfl, hO4, hb4⟩
  rw [HFL.out] at hO4
  have HO4 := Lib.hid (owns_base hO4 (show w3.heap.size ≤ _ from HW.out.size)); have T4 := Lib.hid (T3.out.trans ((HW.out.trans (hb4.mono HW.out.size)).mono (by omega)))
  clear hO4 hb4
  go_wp2
  go_ret2
  refine ⟨_, ?_, by rw [HGe.out]; exact owns_base HO4.out (by omega), T4.out⟩
  simp
end Go.Proofs.YtobakeahbgodbaaGreat
