/-
  A word replaced in a galley, by the program: ReplaceWord by contract. Conditions: a font of lengths of at most 2^20, a galley of at most 2^20 bytes that is a row of the call's own, a text of at most 2^20 bytes.
-/
import Derived.Test.YtobakeahbgodbaaGreatRepI
namespace Go.Proofs.YtobakeahbgodbaaGreat
open Go.RowKit Go.Shelf
set_option linter.unusedVariables false

/-- GalleyText of any part of a row -/
theorem implGTs_any (A : Option Addr) (n c : Nat) (zs : List ByteArray) (w : World) (hn : zs.length = n) (hm : szL zs ≤ 1048576) (hA : 0 < n → ∃ g o, A = some ⟨g, o, none⟩ ∧ g < w.heap.size) (hc : n ≤ c) (h : Strs w A zs) :
    Calls Tryz.prog 11 #[.slice A n c] w fun e w' => e = .returned (.string (gtS zs)) ∧ Below w.heap.size w w' := by
  rcases Nat.eq_zero_or_pos n with h0 | h0
  · subst h0
    have hzs : zs = [] := List.eq_nil_of_length_eq_zero hn
    have HG : Hid (gtS zs = ⟨#[]⟩) := by show _ = _; subst hzs; rfl
    clear hzs hn hm h hA hc
    go_enter Tryz.func11, Tryz.ntmps11
    go_wp2_with (first
      | (go_at_call 83; refine (Tryz.strings_Join_none _ _ _ _).mono ?_; rintro e w' ⟨rfl, rfl⟩)
      | go_in)
    go_ret
    exact ⟨by rw [HG.out]; rfl, Below.refl _ _⟩
  · obtain ⟨g, o, hA, hg⟩ := hA h0
    have H := Lib.hid h; have Hn := Lib.hid hn; have Hm := Lib.hid hm; have HA := Lib.hid hA
    clear h hn hm hA
    go_enter Tryz.func11, Tryz.ntmps11
    go_wp2_with fail
    refine (blanksO_any _ g o n c zs _ Hn.out HA.out (Nat.le_trans Hm.out (by decide)) hc hg H.out).mono ?_
    rintro e w1 ⟨rfl, hb1⟩
    have HB := Lib.hid hb1
    clear hb1
    go_wp2
    go_ret
    exact ⟨rfl, HB.out⟩
theorem wf_sub {x : Int} {P : Nat} (wx : (Lit.int .i64 x).wf = true) (hP : P ≤ 40) (h : P = 0 ∨ (P : Int) ≤ x) : (Lit.int .i64 (x - P)).wf = true ∧ wrap64 (x - P) = x - P := by
  have hfr : -9223372036854775808 ≤ x ∧ x ≤ 9223372036854775807 := by simpa [Lit.wf, IntKind.min, IntKind.max, IntKind.signed, IntKind.bits] using wx
  refine ⟨?_, by unfold wrap64; omega⟩
  simp [Lit.wf, IntKind.min, IntKind.max, IntKind.signed, IntKind.bits]
  omega
set_option maxRecDepth 100000 in
set_option maxHeartbeats 3200000 in
theorem implRep_any (lo hi B : Nat) (v : Value) (f : Fnt) (W t k : Int) (Ag : Option Addr) (n c : Nat) (g : List ByteArray) (x : Int) (tx : ByteArray) (w : World) (h : FontV w lo hi v f) (hhi : hi ≤ w.heap.size) (hsm : Small f) (hn : g.length = n) (hm : szL g ≤ 1048576) (hg : OwnS w B (.slice Ag n c) g) (wx : (Lit.int .i64 x).wf = true) (ht1 : tx.size ≤ 1048576) :
    Calls Tryz.prog 7 #[v, .agg #[.int .i64 W, .int .i64 t, .int .i64 k], .slice Ag n c, .int .i64 x, .string tx] w fun e w' => ∃ u, e = .returned (.tuple #[u, .bool (repA f ⟨W, t, k⟩ g x tx).isSome]) ∧ OwnS w' w.heap.size u ((repA f ⟨W, t, k⟩ g x tx).getD []) ∧ Below w.heap.size w w' := by
  obtain ⟨A, d, A2, d2, hv, hrest⟩ := id h
  obtain ⟨p, hp⟩ : ∃ p, f.ws.length = p := ⟨_, rfl⟩
  obtain ⟨q, hq⟩ : ∃ p, f.cs.length = p := ⟨_, rfl⟩
  obtain ⟨t0, ht⟩ : ∃ s, f.s = s := ⟨_, rfl⟩
  rw [hp, hq, ht] at hv
  obtain ⟨w0, hw0, hb0, hz0, K0⟩ := mxWorld w #[.string t0, .slice A p d, .slice A2 q d2] 25
  obtain ⟨w1, hw1, hb1, hz1, K1⟩ := mxWorld w0 #[.int .i64 W, .int .i64 t, .int .i64 k] 27
  have T1 := Lib.hid (hb0.trans (hb1.mono (B' := w.heap.size) (by omega)))
  have HV1 := Lib.hid (h.below hhi T1.out)
  have HK1 := Lib.hid (K0.below hb1 (by omega))
  rw [hz0] at K1 hz1
  have HM1 := Lib.hid K1; have HSm := Lib.hid hsm
  have z1 : w.heap.size + 2 ≤ w1.heap.size := by omega
  rw [hv] at HV1
  rw [hv]
  obtain ⟨c0, c1, c2⟩ := (show w1.cell? ⟨w.heap.size, 0, none⟩ = some (.string t0) ∧ w1.cell? ⟨w.heap.size, 1, none⟩ = some (.slice A p d) ∧ w1.cell? ⟨w.heap.size, 2, none⟩ = some (.slice A2 q d2) from ⟨cellOfBlk HK1.out 0, cellOfBlk HK1.out 1, cellOfBlk HK1.out 2⟩)
  obtain ⟨p0, p1, p2⟩ := (show w1.cell? ⟨w.heap.size + 1, 0, none⟩ = some (.int .i64 W) ∧ w1.cell? ⟨w.heap.size + 1, 1, none⟩ = some (.int .i64 t) ∧ w1.cell? ⟨w.heap.size + 1, 2, none⟩ = some (.int .i64 k) from ⟨cellOfBlk HM1.out 0, cellOfBlk HM1.out 1, cellOfBlk HM1.out 2⟩)
  have HO1 := Lib.hid (hg.below T1.out)
  have Hn := Lib.hid hn; have HSz := Lib.hid hm; have WX := Lib.hid wx
  clear h hv hrest hp hq ht hb0 hz1 K0 K1 hb1 hsm hg hn hm wx
  cases hB : galB f ⟨W, t, k⟩ g
  · have HB := Lib.hid hB
    have HR := Lib.hid (repA_no (x := x) (tx := tx) hB)
    clear hB
    rw [HR.out]
    go_enter Tryz.func7, Tryz.ntmps7
    go_wp2_with fail
    clear hw0 hw1 hz0
    refine (implGalOk_any lo hi _ _ f W t k _ _ _ g _ HV1.out (by omega) HSm.out Hn.out HSz.out HO1.out).mono ?_
    rintro e w2 ⟨rfl, hb⟩
    rw [HB.out]
    have T2 := Lib.hid (T1.out.trans (hb.mono (by omega))); have HM2 := Lib.hid (HM1.out.below hb (by omega)); have HK2 := Lib.hid (HK1.out.below hb (by omega)); have HV2 := Lib.hid (HV1.out.below (by omega) hb); have z2 : w.heap.size + 2 ≤ w2.heap.size := by have := hb.size; omega
    clear hb T1 HM1 HK1 HV1 
    clear c0 c1 c2 p0 p1 p2
    go_wp2
    go_ret2
    exact ⟨_, rfl, World.ownsRow_nil _ _ _ _, T2.out⟩
  have HB := Lib.hid hB
  have HPt := Lib.hid (galB_parts hB)
  have HLz := Lib.hid (fun K => repL_sz hB K)
  have h40 : (wwL f (gtS g)).length ≤ 40 := by rw [HPt.out.2.2.1]; exact HPt.out.2.2.2.1
  clear hB
  go_enter Tryz.func7, Tryz.ntmps7
  go_wp2_with fail
  clear hw0 hw1 hz0
  refine (implGalOk_any lo hi _ _ f W t k _ _ _ g _ HV1.out (by omega) HSm.out Hn.out HSz.out HO1.out).mono ?_
  rintro e w2 ⟨rfl, hb⟩
  rw [HB.out]
  have T2 := Lib.hid (T1.out.trans (hb.mono (by omega))); have HM2 := Lib.hid (HM1.out.below hb (by omega)); have HK2 := Lib.hid (HK1.out.below hb (by omega)); have HV2 := Lib.hid (HV1.out.below (by omega) hb); have z2 : w.heap.size + 2 ≤ w2.heap.size := by have := hb.size; omega
  have HO2 := Lib.hid (HO1.out.below hb)
  clear hb T1 HM1 HK1 HV1 HO1
  clear c0 c1 c2 p0 p1 p2
  go_wp2_with fail
  refine (lineOf_any ⟨W, t, k⟩ (wwL f (gtS g)) _ _ _ g x _ Hn.out HSz.out (owns_rd HO2.out) HPt.out.2.1 h40).mono ?_
  rintro e w3 ⟨K, P, rfl, hl, hKn, hP, hPx, hb⟩
  have T3 := Lib.hid (T2.out.trans (hb.mono (by omega))); have HM3 := Lib.hid (HM2.out.below hb (by omega)); have HK3 := Lib.hid (HK2.out.below hb (by omega)); have HV3 := Lib.hid (HV2.out.below (by omega) hb); have z3 : w.heap.size + 2 ≤ w3.heap.size := by have := hb.size; omega
  have HO3 := Lib.hid (HO2.out.below hb)
  clear hb T2 HM2 HK2 HV2 HO2
  have HR := Lib.hid (repA_at (x := x) (tx := tx) HB.out hl)
  obtain ⟨hwf, hwr⟩ := wf_sub WX.out hP hPx
  have HWF := Lib.hid hwf
  obtain ⟨xp, hxp⟩ : ∃ y, x - (P : Int) = y := ⟨_, rfl⟩
  rw [hxp] at HWF hwr
  have hwr2 : IntKind.i64.wrap xp = xp := by rw [IntKind.wrap_i64]; unfold wrap64 at hwr; exact hwr
  have HXP := Lib.hid hxp
  clear hl hwf hPx hwr
  obtain ⟨A', cc, hv', hI, hAd, hnc, hcm⟩ := HO3.out.form
  rw [Hn.out] at hv' hnc
  injection hv' with e1 _ e3
  subst e1; subst e3
  unfold maxLen at hcm
  obtain ⟨n1, hn1⟩ : ∃ y, n - K = y := ⟨_, rfl⟩
  have SD := fun (w : World) (h : Strs w Ag g) => strs_from (c := c) (l := K) h (by rw [Hn.out]; exact hnc)
  obtain ⟨AN, hAN⟩ : ∃ AN, (if c = K then Ag else Option.map (fun x => x.add K) Ag) = AN := ⟨_, rfl⟩
  rw [hAN] at SD
  have HSD := Lib.hid (SD _ hI)
  have HAd : Hid (0 < n1 → ∃ gb o, AN = some ⟨gb, o, none⟩ ∧ gb < w3.heap.size) := fun h0 => by
    have hs := hI
    obtain ⟨ad, hA, -⟩ := hs (by rw [Hn.out]; omega)
    obtain ⟨gb, e, -, hlt⟩ := hAd ad hA
    refine ⟨gb, K, ?_, hlt⟩
    rw [← hAN, if_neg (by omega), hA, e]
    by_cases hk0 : K = 0 <;> simp [Addr.add, hk0]
  have HDl : Hid ((g.drop K).length = n1) := by show _ = _; rw [List.length_drop, Hn.out]; exact hn1
  have HDz : Hid (szL (g.drop K) ≤ 1048576) := Nat.le_trans (szL_drop g K) HSz.out
  have hKc : K ≤ c := by omega
  have a1 : (n : Int) - (K : Int) = (n1 : Int) := by omega
  clear hI hAd SD
  go_wp2_with fail
  refine (implGTs_any AN n1 (c - K) (g.drop K) _ HDl.out HDz.out HAd.out (by omega) HSD.out).mono ?_
  rintro e w4 ⟨rfl, hb⟩
  clear hAN HSD HAd a1
  have T4 := Lib.hid (T3.out.trans (hb.mono (by omega))); have HM4 := Lib.hid (HM3.out.below hb (by omega)); have HK4 := Lib.hid (HK3.out.below hb (by omega)); have HV4 := Lib.hid (HV3.out.below (by omega) hb); have z4 : w.heap.size + 2 ≤ w4.heap.size := by have := hb.size; omega
  have HO4 := Lib.hid (HO3.out.below hb)
  clear hb T3 HM3 HK3 HV3 HO3
  go_wp2_with fail
  refine (wordsOf_own (gtS (g.drop K)) _ (Nat.le_trans (HLz.out K).2 (by decide))).mono ?_
  rintro e w5 ⟨vL, rfl, hO, hb⟩
  have hlz := (HLz.out K).1
  have hll : (repL g K).length ≤ 80081 := Nat.le_trans (szL_len _) (HLz.out K).1
  change OwnS _ _ _ (repL g K) at hO
  obtain ⟨L, hL⟩ : ∃ L, repL g K = L := ⟨_, rfl⟩
  rw [hL] at hO hlz hll
  obtain ⟨AL, cL, rfl, -, -, hcL, hcLm⟩ := hO.form
  obtain ⟨nL, hnL⟩ : ∃ y, L.length = y := ⟨_, rfl⟩
  rw [hnL] at hcL hll hO ⊢
  have HLe := Lib.hid hL; have HnL := Lib.hid hnL; have HLsz := Lib.hid hlz
  clear hL hnL hlz
  have T5 := Lib.hid (T4.out.trans (hb.mono (by omega))); have HM5 := Lib.hid (HM4.out.below hb (by omega)); have HK5 := Lib.hid (HK4.out.below hb (by omega)); have HV5 := Lib.hid (HV4.out.below (by omega) hb); have z5 : w.heap.size + 2 ≤ w5.heap.size := by have := hb.size; omega
  have HO5 := Lib.hid (HO4.out.below hb)
  clear hb T4 HM4 HK4 HV4 HO4
  have HQ5 := Lib.hid hO
  clear hO
  go_wp2_with fail
  refine (wordsOf_own tx _ (by omega)).mono ?_
  rintro e w6 ⟨vT, rfl, hO, hb⟩
  have htz := szL_words tx
  have hth := wordsB_half tx
  obtain ⟨TW, hTW⟩ : ∃ L, wordsB tx = L := ⟨_, rfl⟩
  rw [hTW] at hO htz hth
  obtain ⟨AT, cT, rfl, -, -, hcT, hcTm⟩ := hO.form
  obtain ⟨nT, hnT⟩ : ∃ y, TW.length = y := ⟨_, rfl⟩
  rw [hnT] at hcT hth hO ⊢
  have HTe := Lib.hid hTW; have HnT := Lib.hid hnT; have HTsz := Lib.hid htz
  clear hTW hnT htz
  have T6 := Lib.hid (T5.out.trans (hb.mono (by omega))); have HM6 := Lib.hid (HM5.out.below hb (by omega)); have HK6 := Lib.hid (HK5.out.below hb (by omega)); have HV6 := Lib.hid (HV5.out.below (by omega) hb); have z6 : w.heap.size + 2 ≤ w6.heap.size := by have := hb.size; omega
  have HO6 := Lib.hid (HO5.out.below hb)
  have HQ6 := Lib.hid (HQ5.out.below hb)
  clear hb T5 HM5 HK5 HV5 HO5 HQ5
  have HW6 := Lib.hid hO
  clear hO
  go_wp2_with fail
  refine (implApl_any _ _ _ _ _ _ L TW xp 1 _ HnL.out HnT.out (by omega) hcL hcLm (owns_rd HQ6.out) (owns_rd HW6.out) HWF.out (by decide)).mono ?_
  rintro e w7 ⟨vA, rfl, hO, hb⟩
  have T7 := Lib.hid (T6.out.trans (hb.mono (by omega))); have HM7 := Lib.hid (HM6.out.below hb (by omega)); have HK7 := Lib.hid (HK6.out.below hb (by omega)); have HV7 := Lib.hid (HV6.out.below (by omega) hb); have z7 : w.heap.size + 2 ≤ w7.heap.size := by have := hb.size; omega
  have HO7 := Lib.hid (HO6.out.below hb)
  clear hb T6 HM6 HK6 HV6 HO6
  clear HQ6 HW6
  cases hap : aplB nL xp 1
  · have HRn : Hid (repA f ⟨W, t, k⟩ g x tx = none) := by
      show _ = _
      rw [HR.out]
      refine repC_no ?_
      rw [HLe.out, HnL.out, HXP.out]; exact hap
    clear hO hap
    go_wp2
    go_ret2
    exact ⟨_, by rw [HRn.out]; rfl, by rw [HRn.out]; exact World.ownsRow_nil _ _ _ _, T7.out⟩
  have HAP : Hid (aplB (repL g K).length (x - P) 1 = true) := by show _ = _; rw [HLe.out, HnL.out, HXP.out]; exact hap
  obtain ⟨ws, hws⟩ : ∃ y, aplL L TW xp 1 = y := ⟨_, rfl⟩
  have hwz := aplL_sz (zs := L) (ls := TW) (f := xp) (o := 1)
  have HWS : Hid (aplL (repL g K) (wordsB tx) (x - P) 1 = ws) := by show _ = _; rw [HLe.out, HTe.out, HXP.out]; exact hws
  rw [hws] at hO hwz
  have HWz : Hid (szL ws ≤ 2097151) := by show _ ≤ _; have := HLsz.out; have := HTsz.out; omega
  obtain ⟨AW, cW, rfl, -, -, -, -⟩ := hO.form
  obtain ⟨nW, hnW⟩ : ∃ y, ws.length = y := ⟨_, rfl⟩
  rw [hnW] at hO ⊢
  have HnW := Lib.hid hnW; have HWo := Lib.hid hO
  have HTkl : Hid ((g.take K).length = K) := by show _ = _; rw [List.length_take, Hn.out]; omega
  have HTkz : Hid (szL (g.take K) ≤ 80080) := Nat.le_trans (szL_take g K) HPt.out.2.2.2.2.1
  have hK40 : K ≤ 1000 := by have := HPt.out.2.2.2.2.2.1; rw [Hn.out] at this; omega
  clear hO hap hws hnW hwz
  go_wp2_with fail
  refine wp_region_plan (.take 0 (.take 1 (.take 2 (.take 3 (.take 4 (.take 5 (.one 6 (.take 7 (.take 8 (.take 9 (.take 10 (.take 11 .done)))))))))))) (fun w' => (w'.cell? ⟨w.heap.size, 0, none⟩ = some (.string t0) ∧ w'.cell? ⟨w.heap.size, 1, none⟩ = some (.slice A p d) ∧ w'.cell? ⟨w.heap.size, 2, none⟩ = some (.slice A2 q d2)) ∧ (w'.cell? ⟨w.heap.size + 1, 0, none⟩ = some (.int .i64 W) ∧ w'.cell? ⟨w.heap.size + 1, 1, none⟩ = some (.int .i64 t) ∧ w'.cell? ⟨w.heap.size + 1, 2, none⟩ = some (.int .i64 k))) (by kernel_rfl) (by kernel_rfl) (by kernel_rfl) (by intro c a d v w h; cases d <;> exact h) ⟨⟨cellOfBlk HK7.out 0, cellOfBlk HK7.out 1, cellOfBlk HK7.out 2⟩, ⟨cellOfBlk HM7.out 0, cellOfBlk HM7.out 1, cellOfBlk HM7.out 2⟩⟩ ?_
  refine plan_quiet rfl (by rfl) (v := ?_) ?_ ?_; rotate_left; (intro w1 hSw; obtain ⟨⟨h0, h1, h2⟩, ⟨h3, h4, h5⟩⟩ := hSw; go_simp; try (with_reducible rfl)); (try simp only [Act.put, List.setIfInBounds_toArray, List.set_cons_zero, List.set_cons_succ])
  refine plan_quiet rfl (by rfl) (v := ?_) ?_ ?_; rotate_left; (intro w1 hSw; obtain ⟨⟨h0, h1, h2⟩, ⟨h3, h4, h5⟩⟩ := hSw; go_simp; try (with_reducible rfl)); (try simp only [Act.put, List.setIfInBounds_toArray, List.set_cons_zero, List.set_cons_succ])
  refine plan_quiet rfl (by rfl) (v := ?_) ?_ ?_; rotate_left; (intro w1 hSw; obtain ⟨⟨h0, h1, h2⟩, ⟨h3, h4, h5⟩⟩ := hSw; go_simp; try (with_reducible rfl)); (try simp only [Act.put, List.setIfInBounds_toArray, List.set_cons_zero, List.set_cons_succ])
  refine plan_quiet rfl (by rfl) (v := ?_) ?_ ?_; rotate_left; (intro w1 hSw; obtain ⟨⟨h0, h1, h2⟩, ⟨h3, h4, h5⟩⟩ := hSw; go_simp; try (with_reducible rfl)); (try simp only [Act.put, List.setIfInBounds_toArray, List.set_cons_zero, List.set_cons_succ])
  refine plan_quiet rfl (by rfl) (v := ?_) ?_ ?_; rotate_left; (intro w1 hSw; obtain ⟨⟨h0, h1, h2⟩, ⟨h3, h4, h5⟩⟩ := hSw; go_simp; try (with_reducible rfl)); (try simp only [Act.put, List.setIfInBounds_toArray, List.set_cons_zero, List.set_cons_succ])
  refine plan_quiet rfl (by rfl) (v := ?_) ?_ ?_; rotate_left; (intro w1 hSw; obtain ⟨⟨h0, h1, h2⟩, ⟨h3, h4, h5⟩⟩ := hSw; go_simp; try (with_reducible rfl)); (try simp only [Act.put, List.setIfInBounds_toArray, List.set_cons_zero, List.set_cons_succ])
  refine plan_step rfl (fun Kc hK => ?_)
  rw [if_pos (by rfl)]
  go_simp
  have hd : Below w7.heap.size w7 w7.drew := (Below.refl _ _).drew
  refine (setBehind_any lo hi _ f W t k Ag K c (g.take K) _ _ _ _ ws _ (HV7.out.below (B := w7.heap.size) (by omega) hd) (by show hi ≤ w7.heap.size; omega) HSm.out HTkl.out hK40 (Strs.drew (strs_take (owns_rd HO7.out))) HnW.out (OwnS.drew HWo.out) HWz.out).mono ?_
  rintro e w8 ⟨u, rfl, hO, hb'⟩
  have hb := undrew hb'
  clear hb' hd
  have T8 := Lib.hid (T7.out.trans (hb.mono (by omega))); have HM8 := Lib.hid (HM7.out.below hb (by omega)); have HK8 := Lib.hid (HK7.out.below hb (by omega)); have HV8 := Lib.hid (HV7.out.below (by omega) hb); have z8 : w.heap.size + 2 ≤ w8.heap.size := by have := hb.size; omega
  have HO8 := Lib.hid (HO7.out.below hb)
  clear hb T7 HM7 HK7 HV7 HO7
  refine hK.out _ _ ⟨⟨cellOfBlk HK8.out 0, cellOfBlk HK8.out 1, cellOfBlk HK8.out 2⟩, ⟨cellOfBlk HM8.out 0, cellOfBlk HM8.out 1, cellOfBlk HM8.out 2⟩⟩ ?_
  clear hK Kc
  refine plan_quiet rfl (by rfl) (v := ?_) ?_ ?_; rotate_left; (intro w1 hSw; obtain ⟨⟨h0, h1, h2⟩, ⟨h3, h4, h5⟩⟩ := hSw; go_simp; try (with_reducible rfl)); (try simp only [Act.put, List.setIfInBounds_toArray, List.set_cons_zero, List.set_cons_succ])
  refine plan_quiet rfl (by rfl) (v := ?_) ?_ ?_; rotate_left; (intro w1 hSw; obtain ⟨⟨h0, h1, h2⟩, ⟨h3, h4, h5⟩⟩ := hSw; go_simp; try (with_reducible rfl)); (try simp only [Act.put, List.setIfInBounds_toArray, List.set_cons_zero, List.set_cons_succ])
  refine plan_quiet rfl (by rfl) (v := ?_) ?_ ?_; rotate_left; (intro w1 hSw; obtain ⟨⟨h0, h1, h2⟩, ⟨h3, h4, h5⟩⟩ := hSw; go_simp; try (with_reducible rfl)); (try simp only [Act.put, List.setIfInBounds_toArray, List.set_cons_zero, List.set_cons_succ])
  refine plan_quiet rfl (by rfl) (v := ?_) ?_ ?_; rotate_left; (intro w1 hSw; obtain ⟨⟨h0, h1, h2⟩, ⟨h3, h4, h5⟩⟩ := hSw; go_simp; try (with_reducible rfl)); (try simp only [Act.put, List.setIfInBounds_toArray, List.set_cons_zero, List.set_cons_succ])
  refine plan_quiet rfl (by rfl) (v := ?_) ?_ ?_; rotate_left; (intro w1 hSw; obtain ⟨⟨h0, h1, h2⟩, ⟨h3, h4, h5⟩⟩ := hSw; go_simp; try (with_reducible rfl)); (try simp only [Act.put, List.setIfInBounds_toArray, List.set_cons_zero, List.set_cons_succ])
  refine plan_end ?_
  cases hst : setA f ⟨W, t, k⟩ (g.take K) ws with
  | none =>
    have HRn : Hid (repA f ⟨W, t, k⟩ g x tx = none) := by show _ = _; rw [HR.out]; exact repC_set HAP.out (by rw [HWS.out]; exact hst)
    have HST := Lib.hid hst
    clear hst hO
    simp only [Option.isSome_none]
    go_wp2
    go_ret2
    exact ⟨_, by rw [HRn.out]; rfl, by rw [HRn.out]; exact World.ownsRow_nil _ _ _ _, T8.out⟩
  | some cg =>
    have e1 := setA_some hst
    have hz1 := setR_sz (f := f) (m := ⟨W, t, k⟩) (a := g.take K) (ws := ws)
    rw [e1] at hO hz1
    obtain ⟨Ac, cc, rfl, -, -, -, -⟩ := hO.form
    obtain ⟨nc, hnc⟩ : ∃ y, cg.length = y := ⟨_, rfl⟩
    rw [hnc] at hO ⊢
    have HST := Lib.hid hst; have Hnc := Lib.hid hnc; have HC8 := Lib.hid hO; have HCz : Hid (szL cg ≤ 1048576) := by show _ ≤ _; have := HTkz.out; omega
    clear hst hO hnc hz1 e1
    simp only [Option.isSome_some]
    obtain ⟨⟨c0, c1, c2⟩, ⟨p0, p1, p2⟩⟩ := (show (w8.cell? ⟨w.heap.size, 0, none⟩ = some (.string t0) ∧ w8.cell? ⟨w.heap.size, 1, none⟩ = some (.slice A p d) ∧ w8.cell? ⟨w.heap.size, 2, none⟩ = some (.slice A2 q d2)) ∧ (w8.cell? ⟨w.heap.size + 1, 0, none⟩ = some (.int .i64 W) ∧ w8.cell? ⟨w.heap.size + 1, 1, none⟩ = some (.int .i64 t) ∧ w8.cell? ⟨w.heap.size + 1, 2, none⟩ = some (.int .i64 k)) from ⟨⟨cellOfBlk HK8.out 0, cellOfBlk HK8.out 1, cellOfBlk HK8.out 2⟩, ⟨cellOfBlk HM8.out 0, cellOfBlk HM8.out 1, cellOfBlk HM8.out 2⟩⟩)
    cases hB2 : galB f ⟨W, t, k⟩ cg
    · have HB2 := Lib.hid hB2
      have HRn : Hid (repA f ⟨W, t, k⟩ g x tx = none) := by show _ = _; rw [HR.out]; exact repC_bad HAP.out (by rw [HWS.out]; exact HST.out) hB2
      clear hB2
      go_wp2_with fail
      refine (implGalOk_any lo hi _ _ f W t k _ _ _ cg _ HV8.out (by omega) HSm.out Hnc.out HCz.out HC8.out).mono ?_
      rintro e w9 ⟨rfl, hb⟩
      rw [HB2.out]
      have T9 := Lib.hid (T8.out.trans (hb.mono (by omega))); have HM9 := Lib.hid (HM8.out.below hb (by omega)); have HK9 := Lib.hid (HK8.out.below hb (by omega)); have HV9 := Lib.hid (HV8.out.below (by omega) hb); have z9 : w.heap.size + 2 ≤ w9.heap.size := by have := hb.size; omega
      have HC9 := Lib.hid (HC8.out.below hb)
      clear hb T8 HM8 HK8 HV8 HC8
      clear c0 c1 c2 p0 p1 p2
      go_wp2
      go_ret2
      exact ⟨_, by rw [HRn.out]; rfl, by rw [HRn.out]; exact World.ownsRow_nil _ _ _ _, T9.out⟩
    · have HB2 := Lib.hid hB2
      have HRn : Hid (repA f ⟨W, t, k⟩ g x tx = some cg) := by show _ = _; rw [HR.out]; exact repC_good HAP.out (by rw [HWS.out]; exact HST.out) hB2
      clear hB2
      go_wp2_with fail
      refine (implGalOk_any lo hi _ _ f W t k _ _ _ cg _ HV8.out (by omega) HSm.out Hnc.out HCz.out HC8.out).mono ?_
      rintro e w9 ⟨rfl, hb⟩
      rw [HB2.out]
      have T9 := Lib.hid (T8.out.trans (hb.mono (by omega))); have HM9 := Lib.hid (HM8.out.below hb (by omega)); have HK9 := Lib.hid (HK8.out.below hb (by omega)); have HV9 := Lib.hid (HV8.out.below (by omega) hb); have z9 : w.heap.size + 2 ≤ w9.heap.size := by have := hb.size; omega
      have HC9 := Lib.hid (HC8.out.below hb)
      clear hb T8 HM8 HK8 HV8 HC8
      clear c0 c1 c2 p0 p1 p2
      go_wp2
      go_ret2
      exact ⟨_, by rw [HRn.out]; rfl, by rw [HRn.out]; exact owns_base HC9.out (show w.heap.size ≤ w7.heap.size by omega), T9.out⟩
end Go.Proofs.YtobakeahbgodbaaGreat
