/-
  A word replaced in a galley, by the model: ReplaceWord by contract. Conditions: a font of lengths of at most 2^20, a galley and a text of at most 2^20 bytes.
-/
import Derived.Test.YtobakeahbgodbaaGreatRepP
import Derived.Test.YtobakeahbgodbaaGreatPkI
namespace Go.Proofs.YtobakeahbgodbaaGreat
open Go.RowKit
set_option linter.unusedVariables false

theorem lnI_neg {x : Int} {m : Msr} {zs ls : List Int} (hx : x < 0) (hb : brkF m zs 0 ls = true) : lnI x ls 0 0 = (0, 0) := by
  cases ls with
  | nil => rfl
  | cons c r =>
    obtain ⟨q, rfl, hq, -, -, -⟩ := brkF_yes (ls := c :: r) (k := 0) rfl hb
    have h := lnI_at (x := x) (ls := (q : Int) :: r) (p := 0) (k := 0) (q := q) rfl
    rw [List.drop_zero] at h
    rw [h, if_pos (by omega)]
theorem repA_neg {f : Fnt} {m : Msr} {g : List ByteArray} {x : Int} {tx : ByteArray} (h : galB f m g = true) (hx : x < 0) : repA f m g x tx = none := by
  rw [repA_at h (lnI_neg hx (galB_parts h).2.1)]
  refine repC_no ?_
  unfold aplB inB
  rw [Bool.and_eq_false_iff]
  exact .inl (decide_eq_false (by omega))
theorem repL_end {g : List ByteArray} {n : Nat} (h : g.length = n) : repL g n = [] := by
  unfold repL
  rw [List.drop_of_length_le (by omega)]
  rw [words_join]; rfl
theorem repC_end {f : Fnt} {m : Msr} {g : List ByteArray} {n P : Nat} {x : Int} {tx : ByteArray} (h : g.length = n) (hx : (P : Int) ≤ x) : repC f m g n P x tx = none := by
  refine repC_no ?_
  rw [repL_end h]
  unfold aplB inB
  rw [Bool.and_eq_false_iff, decide_eq_false_iff_not, decide_eq_false_iff_not]
  simp; omega
theorem repL_line {g : List ByteArray} {k : Nat} {s : ByteArray} (h : g[k]? = some s) : (wordsB s).length ≤ (repL g k).length := by
  obtain ⟨hk, e⟩ := List.getElem?_eq_some_iff.1 h
  unfold repL
  rw [words_join, List.drop_eq_getElem_cons hk, e, List.map_cons, List.flatten_cons, List.length_append]
  omega
set_option maxRecDepth 100000 in
set_option maxHeartbeats 3200000 in
theorem specRep_any (lo hi : Nat) (v : Value) (f : Fnt) (W t k : Int) (Ag : Option Addr) (n c : Nat) (g : List ByteArray) (x : Int) (tx : ByteArray) (w : World) (h : FontV w lo hi v f) (hhi : hi ≤ w.heap.size) (hsm : Small f) (hn : g.length = n) (hm : szL g ≤ 1048576) (hnc : n ≤ c) (hcm : c ≤ maxLen) (hg : Strs w Ag g) (wx : (Lit.int .i64 x).wf = true) (ht1 : tx.size ≤ 1048576) :
    Calls Tryz.prog 8 #[v, .agg #[.int .i64 W, .int .i64 t, .int .i64 k], .slice Ag n c, .int .i64 x, .string tx] w fun e w' => ∃ u, e = .returned (.tuple #[u, .bool (repA f ⟨W, t, k⟩ g x tx).isSome]) ∧ OwnS w' w.heap.size u ((repA f ⟨W, t, k⟩ g x tx).getD []) ∧ Below w.heap.size w w' := by
  obtain ⟨A, d, A2, d2, hv, hrest⟩ := id h
  obtain ⟨p0', hp⟩ : ∃ p, f.ws.length = p := ⟨_, rfl⟩
  obtain ⟨q, hq⟩ : ∃ p, f.cs.length = p := ⟨_, rfl⟩
  obtain ⟨t0, ht⟩ : ∃ s, f.s = s := ⟨_, rfl⟩
  rw [hp, hq, ht] at hv
  obtain ⟨w0, hw0, hb0, hz0, K0⟩ := mxWorld w #[.string t0, .slice A p0' d, .slice A2 q d2] 25
  obtain ⟨w1, hw1, hb1, hz1, K1⟩ := mxWorld w0 #[.int .i64 W, .int .i64 t, .int .i64 k] 27
  have T1 := Lib.hid (hb0.trans (hb1.mono (B' := w.heap.size) (by omega)))
  have HV1 := Lib.hid (h.below hhi T1.out)
  have HK1 := Lib.hid (K0.below hb1 (by omega))
  rw [hz0] at K1 hz1
  have HM1 := Lib.hid K1; have HSm := Lib.hid hsm
  have z1 : w.heap.size + 2 ≤ w1.heap.size := by omega
  rw [hv] at HV1
  rw [hv]
  obtain ⟨c0, c1, c2⟩ := (show w1.cell? ⟨w.heap.size, 0, none⟩ = some (.string t0) ∧ w1.cell? ⟨w.heap.size, 1, none⟩ = some (.slice A p0' d) ∧ w1.cell? ⟨w.heap.size, 2, none⟩ = some (.slice A2 q d2) from ⟨cellOfBlk HK1.out 0, cellOfBlk HK1.out 1, cellOfBlk HK1.out 2⟩)
  obtain ⟨p0, p1, p2⟩ := (show w1.cell? ⟨w.heap.size + 1, 0, none⟩ = some (.int .i64 W) ∧ w1.cell? ⟨w.heap.size + 1, 1, none⟩ = some (.int .i64 t) ∧ w1.cell? ⟨w.heap.size + 1, 2, none⟩ = some (.int .i64 k) from ⟨cellOfBlk HM1.out 0, cellOfBlk HM1.out 1, cellOfBlk HM1.out 2⟩)

  have HG1 := Lib.hid (hg.below T1.out)
  have Hn := Lib.hid hn; have HSz := Lib.hid hm
  have hxr : -9223372036854775808 ≤ x ∧ x ≤ 9223372036854775807 := by simpa [Lit.wf, IntKind.min, IntKind.max, IntKind.signed, IntKind.bits] using wx
  obtain ⟨hx1, hx2⟩ := hxr
  unfold maxLen at hcm
  clear h hv hrest hp hq ht hb0 hz1 K0 K1 hb1 hsm hg hn hm wx
  cases hB : galB f ⟨W, t, k⟩ g
  · have HB := Lib.hid hB
    have HR := Lib.hid (repA_no (x := x) (tx := tx) hB)
    clear hB
    rw [HR.out]
    go_enter Tryz.func8, Tryz.ntmps8
    go_wp2_with fail
    clear hw0 hw1 hz0
    refine (specGalOk_any lo hi _ f W t k _ _ _ g _ HV1.out (by omega) HSm.out Hn.out HSz.out HG1.out).mono ?_
    rintro e w2 ⟨rfl, hb⟩
    rw [HB.out]
    have T2 := Lib.hid (T1.out.trans (hb.mono (by omega))); have HM2 := Lib.hid (HM1.out.below hb (by omega)); have HK2 := Lib.hid (HK1.out.below hb (by omega)); have HV2 := Lib.hid (HV1.out.below (by omega) hb); have z2 : w.heap.size + 2 ≤ w2.heap.size := by have := hb.size; omega
    have HG2 := Lib.hid (HG1.out.below hb)
    clear hb T1 HM1 HK1 HV1 HG1
    clear c0 c1 c2 p0 p1 p2
    go_wp2
    go_ret2
    exact ⟨_, rfl, World.ownsRow_nil _ _ _ _, T2.out⟩
  have HB := Lib.hid hB
  have HPt := Lib.hid (galB_parts hB)
  have HLz := Lib.hid (fun K => repL_sz hB K)
  have h40 : (wwL f (gtS g)).length ≤ 40 := by rw [HPt.out.2.2.1]; exact HPt.out.2.2.2.1
  by_cases hx0 : x < 0
  · have HR := Lib.hid (repA_neg (tx := tx) hB hx0)
    clear hB
    rw [HR.out]
    go_enter Tryz.func8, Tryz.ntmps8
    go_wp2_with fail
    clear hw0 hw1 hz0
    refine (specGalOk_any lo hi _ f W t k _ _ _ g _ HV1.out (by omega) HSm.out Hn.out HSz.out HG1.out).mono ?_
    rintro e w2 ⟨rfl, hb⟩
    rw [HB.out]
    have T2 := Lib.hid (T1.out.trans (hb.mono (by omega))); have HM2 := Lib.hid (HM1.out.below hb (by omega)); have HK2 := Lib.hid (HK1.out.below hb (by omega)); have HV2 := Lib.hid (HV1.out.below (by omega) hb); have z2 : w.heap.size + 2 ≤ w2.heap.size := by have := hb.size; omega
    have HG2 := Lib.hid (HG1.out.below hb)
    clear hb T1 HM1 HK1 HV1 HG1
    clear c0 c1 c2 p0 p1 p2
    go_wp2
    go_ret2
    exact ⟨_, rfl, World.ownsRow_nil _ _ _ _, T2.out⟩
  clear hB
  have hx3 : 0 ≤ x := by omega
  obtain ⟨R, hR⟩ : ∃ R, cnts g = R := ⟨_, rfl⟩
  have HRe := Lib.hid hR
  have HRl : Hid (R.length = n) := by show _ = _; rw [← hR, cnts_len, Hn.out]
  have HB0 : Hid (brkF ⟨W, t, k⟩ (wwL f (gtS g)) 0 (R.drop 0) = true) := by show _ = _; rw [List.drop_zero, ← hR]; exact HPt.out.2.1
  obtain ⟨KP, hKP⟩ : ∃ X, lnI x (cnts g) 0 0 = X := ⟨_, rfl⟩
  have HK := Lib.hid hKP
  have HL0 : Hid (lnI x (R.drop 0) 0 0 = KP) := by show _ = _; rw [List.drop_zero, ← hR]; exact hKP
  have hn40 : n ≤ 40 := by have := HPt.out.2.2.2.2.2.1; rw [Hn.out] at this; exact this
  clear hR hKP
  go_enter Tryz.func8, Tryz.ntmps8
  go_wp2_with fail
  clear hw0 hw1 hz0
  refine (specGalOk_any lo hi _ f W t k _ _ _ g _ HV1.out (by omega) HSm.out Hn.out HSz.out HG1.out).mono ?_
  rintro e w2 ⟨rfl, hb⟩
  rw [HB.out]
  have T2 := Lib.hid (T1.out.trans (hb.mono (by omega))); have HM2 := Lib.hid (HM1.out.below hb (by omega)); have HK2 := Lib.hid (HK1.out.below hb (by omega)); have HV2 := Lib.hid (HV1.out.below (by omega) hb); have z2 : w.heap.size + 2 ≤ w2.heap.size := by have := hb.size; omega
  have HG2 := Lib.hid (HG1.out.below hb)
  clear hb T1 HM1 HK1 HV1 HG1
  clear c0 c1 c2 p0 p1 p2
  go_wp2
  go_loopw [3, 12] (fun i b wr => ∃ (j p : Nat) (y : Int), j ≤ n ∧ p ≤ (wwL f (gtS g)).length ∧ i = .int .i64 y ∧ b = .int .i64 j ∧ Hid (y = x - p) ∧ 0 ≤ y ∧ y ≤ 9223372036854775807 ∧ Hid (brkF ⟨W, t, k⟩ (wwL f (gtS g)) p (R.drop j) = true) ∧ Hid (lnI x (R.drop j) p j = KP) ∧ Below w2.heap.size w2 wr) (fun _ b _ => n - (intOf b).toNat)
  case atStart => exact ⟨0, 0, x, Nat.zero_le _, Nat.zero_le _, rfl, rfl, by show _ = _; simp, hx3, hx2, HB0.out, HL0.out, Below.refl _ _⟩
  case round =>
    clear HB0 HL0
    obtain ⟨j, p, y, hj, hp, rfl, rfl, hy, hy0, hy9, hbr, hln, hb⟩ := hrel
    have zr := hb.size
    have HBr := Lib.hid hb
    clear hb
    by_cases hlt : j < n
    · obtain ⟨ad, s, hAd, hs, hcs⟩ := (HG2.out.below HBr.out).at_ (k := j) (by rw [Hn.out]; exact hlt)
      have HAd := Lib.hid hAd
      subst hAd
      have hxl := szL_mem (smem_at hs.out)
      have hsz : s.size ≤ 1048576 := by have := HSz.out; omega
      have hxq : R[j]? = some ((wordsB s).length : Int) := by rw [← HRe.out]; exact cnts_at hs.out
      have hql := repL_line hs.out
      obtain ⟨q, hq⟩ : ∃ q, (wordsB s).length = q := ⟨_, rfl⟩
      rw [hq] at hxq hql
      have Hq := Lib.hid hq
      obtain ⟨q', hqq, hq1, hq2, -, hbr2⟩ := brkF_yes hxq hbr.out
      have hqq' : q' = q := by omega
      subst hqq'
      have hst := hln.out
      rw [lnI_at hxq] at hst
      have HST := Lib.hid hst; have HBR := Lib.hid hbr2
      have hq40 : q' ≤ 40 := by omega
      clear hxl hxq hst hbr2 hbr hln hqq hq
      go_wp2_with fail
      refine (l6Words_any s _ (by omega)).mono ?_
      rintro e w3 ⟨vw, rfl, hO, hb⟩
      obtain ⟨Aw, cw, rfl, -, -, -, -⟩ := hO.form
      rw [Hq.out]
      have HB3 := Lib.hid (HBr.out.trans (hb.mono zr))
      have hcs3 := (hb.cell (p := ad.add j) (World.block_lt_of_cell? _ _ hcs)).trans hcs
      have z3 := HB3.out.size
      clear hO hb HBr hcs zr
      by_cases hyq : (q' : Int) ≤ y
      · have HS2 : Hid (lnI x (R.drop (j + 1)) (p + q') (j + 1) = KP) := by show _ = _; rw [← HST.out, if_neg (by have := hy.out; omega)]
        clear HST
        go_wp2_with fail
        refine (l6Words_any s _ (by omega)).mono ?_
        rintro e w4 ⟨vw, rfl, hO, hb⟩
        obtain ⟨Aw2, cw2, rfl, -, -, -, -⟩ := hO.form
        rw [Hq.out]
        have HB4 := Lib.hid (HB3.out.trans (hb.mono z3))
        clear hO hb HB3 hcs3
        go_wp2
        go_roundw
        case rel => exact ⟨j + 1, p + q', y - q', by omega, by omega, rfl, by go_num, by show _ = _; have := hy.out; omega, by omega, by omega, HBR.out, HS2.out, HB4.out⟩
        case measure => simp [intOf]; omega
      · have HKP : Hid (KP = (j, p)) := by show _ = _; rw [← HST.out, if_pos (by have := hy.out; omega)]
        have HR := Lib.hid (repA_at (x := x) (tx := tx) HB.out (HK.out.trans HKP.out))
        clear HST HBR HKP hcs3
        obtain ⟨yN, rfl⟩ := Int.eq_ofNat_of_zero_le hy0
        obtain ⟨y1, hy1⟩ : ∃ u, yN + 1 = u := ⟨_, rfl⟩
        have HY := Lib.hid hy.out
        have T3 := Lib.hid (T2.out.trans (HB3.out.mono (by omega))); have HM3 := Lib.hid (HM2.out.below HB3.out (by omega)); have HK3 := Lib.hid (HK2.out.below HB3.out (by omega)); have HV3 := Lib.hid (HV2.out.below (by omega) HB3.out); have HG3 := Lib.hid (HG2.out.below HB3.out)
        have z3b : w.heap.size + 2 ≤ w3.heap.size := by omega
        have hap : aplB (repL g j).length (x - p) 1 = true := (aplB_iff _ _ _).2 ⟨by have := hy.out; omega, by omega, by have := hy.out; omega⟩
        have HAP := Lib.hid hap
        obtain ⟨n1, hn1⟩ : ∃ u, n - j = u := ⟨_, rfl⟩
        have a1 : (n : Int) - (j : Int) = (n1 : Int) := by omega
        have HSD : Hid (Strs w3 (some (ad.add j)) (g.drop j)) := by
          have h := strs_from (c := c) (l := j) HG3.out (by rw [Hn.out]; exact hnc)
          rw [if_neg (by omega)] at h
          exact h
        have HDl : Hid ((g.drop j).length = n1) := by show _ = _; rw [List.length_drop, Hn.out]; exact hn1
        have HDz : Hid (szL (g.drop j) ≤ 2097152) := Nat.le_trans (szL_drop g j) (Nat.le_trans HSz.out (by decide))
        clear HB3 T2 HM2 HK2 HV2 HG2 hap hy hs
        go_wp2_with fail
        refine (l6Join_any (some (ad.add j)) n1 (c - j) (g.drop j) _ HDl.out HDz.out HSD.out).mono ?_
        rintro e w' ⟨rfl, rfl⟩
        clear HSD a1
        go_wp2_with fail
        refine (l6Words_any (gtS (g.drop j)) _ (Nat.le_trans (HLz.out j).2 (by decide))).mono ?_
        rintro e w5 ⟨vL, rfl, hO, hb⟩
        have hlz := (HLz.out j).1
        have hll : (repL g j).length ≤ 80081 := Nat.le_trans (szL_len _) (HLz.out j).1
        change OwnS _ _ _ (repL g j) at hO
        obtain ⟨L, hL⟩ : ∃ L, repL g j = L := ⟨_, rfl⟩
        rw [hL] at hO hlz hll hql
        obtain ⟨AL, cL, rfl, hIL, -, hcL, hcLm⟩ := hO.form
        obtain ⟨nL, hnL⟩ : ∃ y, L.length = y := ⟨_, rfl⟩
        rw [hnL] at hcL hll hO hql ⊢
        unfold maxLen at hcLm
        have HLe := Lib.hid hL; have HnL := Lib.hid hnL; have HLsz := Lib.hid hlz; have HL5 := Lib.hid hIL
        have T5 := Lib.hid (T3.out.trans (hb.mono (by omega))); have HM5 := Lib.hid (HM3.out.below hb (by omega)); have HK5 := Lib.hid (HK3.out.below hb (by omega)); have HV5 := Lib.hid (HV3.out.below (by omega) hb); have HG5 := Lib.hid (HG3.out.below hb); have z5 : w.heap.size + 2 ≤ w5.heap.size := by have := hb.size; omega
        clear hL hnL hlz hIL hO hb T3 HM3 HK3 HV3 HG3
        have htz := szL_words tx
        have hth := wordsB_half tx
        obtain ⟨TW, hTW⟩ : ∃ L, wordsB tx = L := ⟨_, rfl⟩
        have HTe := Lib.hid hTW
        rw [hTW] at htz hth
        have HTz := Lib.hid htz
        obtain ⟨nT, hnT⟩ : ∃ y, TW.length = y := ⟨_, rfl⟩
        have HnT := Lib.hid hnT
        rw [hnT] at hth
        clear htz hTW hnT
        have HE : Hid (OwnS (w5.alloc (.cells #[] 9)) w5.heap.size (.slice (some ⟨w5.heap.size, 0, none⟩) 0 0) []) := World.ownsRow_lit w5 #[] 0 (Nat.le_refl _) (Nat.zero_le _) rfl
        have HBA := Lib.hid ((Below.refl w5.heap.size w5).alloc (Nat.le_refl _) (.cells #[] 9))
        have HTk : Hid ((L.take yN).length = yN) := by show _ = _; rw [List.length_take, HnL.out]; omega
        obtain ⟨t3, ht3⟩ : ∃ u, nL - y1 = u := ⟨_, rfl⟩
        have HDr : Hid ((L.drop y1).length = t3) := by show _ = _; rw [List.length_drop, HnL.out]; exact ht3
        obtain ⟨AN, hAN⟩ : ∃ AN, (if cL = y1 then AL else Option.map (fun x => x.add y1) AL) = AN := ⟨_, rfl⟩
        have HSD2 : Hid (∀ w', Strs w' AL L → Strs w' AN (L.drop y1)) := fun w' h => by
          have h2 := strs_from (c := cL) (l := y1) h (by rw [HnL.out]; exact hcL)
          rw [hAN] at h2
          exact h2
        have HTa : Hid ((g.take j).length = j) := by show _ = _; rw [List.length_take, Hn.out]; omega
        have b1 : (yN : Int) + 1 = (y1 : Int) := by omega
        have b2 : (nL : Int) - (y1 : Int) = (t3 : Int) := by omega
        have b3 : yN ≤ cL := by omega
        have b4 : y1 ≤ cL := by omega
        have b5 : j ≤ c := by omega
        have b6 : y1 ≤ nL := by omega
        clear hn1
        go_wp2_with (first
          | (at_builtin; refine wpls_append_any _ rfl (.tmp 60) (.tmp 63) rfl w5.heap.size (.slice (some ⟨w5.heap.size, 0, none⟩) 0 0) [] (L.take yN) AL yN cL rfl rfl HTk.out (strs_take (HL5.out.below HBA.out)) HE.out (by simp) (by simp; omega) ?_; intro v6 w6 hO6 hg6 hv6; have HB6 := Lib.hid (HBA.out.trans ((Below.refl w5.heap.size _).grown hg6 (by simp) (fun k hk => (World.ownsRow.lt HE.out k hk).1))); have HO6 := Lib.hid hO6; clear hO6 hg6 hv6)
          | fail)
        refine (l6Words_any tx _ (by omega)).mono ?_
        rintro e w7 ⟨vT, rfl, hO, hb⟩
        rw [HTe.out] at hO
        obtain ⟨AT, cT, rfl, hIT, -, -, -⟩ := hO.form
        rw [HnT.out]
        have HIT := Lib.hid hIT
        have HB7 := Lib.hid (HB6.out.trans (hb.mono HB6.out.size)); have HO7 := Lib.hid (HO6.out.below hb)
        clear hO hIT hb HB6 HO6 HE HBA
        have HWS : Hid (aplL (repL g j) (wordsB tx) (x - p) 1 = (([] ++ L.take yN) ++ TW) ++ L.drop y1) := by
          show _ = _
          unfold aplL
          rw [if_pos HAP.out, HLe.out, HTe.out, show x - (p : Int) = (yN : Int) by have := HY.out; omega, Int.toNat_natCast, show (1 : Int).toNat = 1 from rfl, hy1, List.nil_append]
        have hwz := aplL_sz (zs := repL g j) (ls := wordsB tx) (f := x - p) (o := 1)
        obtain ⟨ws, hws⟩ : ∃ u, (([] ++ L.take yN) ++ TW) ++ L.drop y1 = u := ⟨_, rfl⟩
        have HW0 := Lib.hid hws
        rw [HWS.out, HLe.out, HTe.out, hws] at hwz
        rw [hws] at HWS
        have HWz : Hid (szL ws ≤ 2097151) := by show _ ≤ _; have := HLsz.out; have := HTz.out; omega
        obtain ⟨n9, hn9⟩ : ∃ u, ws.length = u := ⟨_, rfl⟩
        have Hn9 := Lib.hid hn9
        have HTkz : Hid (szL (g.take j) ≤ 80080) := Nat.le_trans (szL_take g j) HPt.out.2.2.2.2.1
        clear hwz hws hn9
        rcases Nat.eq_zero_or_pos n9 with hn0 | hnp
        · have hw0 : ws = [] := List.eq_nil_of_length_eq_zero (by rw [Hn9.out]; exact hn0)
          have HST : Hid (setA f ⟨W, t, k⟩ (g.take j) (aplL (repL g j) (wordsB tx) (x - p) 1) = some (g.take j)) := by show _ = _; rw [HWS.out]; unfold setA; rw [if_pos hw0]
          clear hw0
          subst hn0
          go_wp2_with (first
            | (at_builtin; refine wpls_append_any _ rfl (.tmp 64) (.tmp 66) rfl w5.heap.size v6 ([] ++ L.take yN) TW AT nT cT rfl rfl HnT.out HIT.out HO7.out HB7.out.size (by rw [List.nil_append, HTk.out]; omega) ?_; intro v8 w8 hO8 hg8 hv8; have HB8 := Lib.hid (HB7.out.trans ((Below.refl w5.heap.size _).grown hg8 HB7.out.size (fun k hk => (World.ownsRow.lt HO7.out k hk).1))); have HO8 := Lib.hid hO8; clear hO8 hg8 hv8)
            | (at_builtin; refine wpls_append_any _ rfl (.tmp 68) (.tmp 72) rfl w5.heap.size v8 (([] ++ L.take yN) ++ TW) (L.drop y1) AN t3 (cL - y1) rfl rfl HDr.out (HSD2.out _ (HL5.out.below HB8.out)) HO8.out HB8.out.size (by rw [List.nil_append, List.length_append, HTk.out, HnT.out]; omega) ?_; intro v9 w9 hO9 hg9 hv9; have HB9 := Lib.hid (HB8.out.trans ((Below.refl w5.heap.size _).grown hg9 HB8.out.size (fun k hk => (World.ownsRow.lt HO8.out k hk).1))); rw [HW0.out] at hO9; obtain ⟨A9, c9, rfl, hI9, -, hc9, hcm9⟩ := hO9.form; rw [Hn9.out] at hO9 hc9 ⊢; clear hI9; have HO9 := Lib.hid hO9; have z9 := HB9.out.size; have HE2 : Hid (OwnS (w9.alloc (.cells #[] 9)) w9.heap.size (.slice (some ⟨w9.heap.size, 0, none⟩) 0 0) []) := World.ownsRow_lit w9 #[] 0 (Nat.le_refl _) (Nat.zero_le _) rfl; have HBA2 := Lib.hid ((Below.refl w9.heap.size w9).alloc (Nat.le_refl _) (.cells #[] 9)); clear hO9 hg9 hv9)
            | (at_builtin; refine wpls_append_any _ rfl (.tmp 74) (.tmp 77) rfl w9.heap.size (.slice (some ⟨w9.heap.size, 0, none⟩) 0 0) [] (g.take j) (some ad) j c rfl rfl HTa.out (strs_take ((HG5.out.below HB9.out).below HBA2.out)) HE2.out (by simp) (by simp; omega) ?_; intro va wa hOa hga hva; have HBa := Lib.hid (HBA2.out.trans ((Below.refl w9.heap.size _).grown hga (by simp) (fun k hk => (World.ownsRow.lt HE2.out k hk).1))); rw [List.nil_append] at hOa; obtain ⟨Aa, ca, rfl, hIa, -, hca, hcma⟩ := hOa.form; rw [HTa.out] at hOa hca ⊢; have HIa := Lib.hid hIa; clear hIa; have HOa := Lib.hid hOa; clear hOa hga hva; have HI9 := Lib.hid (owns_rd (HO9.out.below HBa.out)); have HBb := Lib.hid (HB9.out.trans (HBa.out.mono z9)); have Ta := Lib.hid (T5.out.trans (HBb.out.mono (by omega))); have HMa := Lib.hid (HM5.out.below HBb.out (by omega)); have HKa := Lib.hid (HK5.out.below HBb.out (by omega)); have HVa := Lib.hid (HV5.out.below (by omega) HBb.out); have za : w5.heap.size ≤ wa.heap.size := HBb.out.size; have zb : w9.heap.size ≤ wa.heap.size := HBa.out.size; have HOa2 := HOa; (have z2 : w.heap.size + 2 ≤ wa.heap.size := by omega); obtain ⟨⟨c0, c1, c2⟩, ⟨p0, p1, p2⟩⟩ := (show (wa.cell? ⟨w.heap.size, 0, none⟩ = some (.string t0) ∧ wa.cell? ⟨w.heap.size, 1, none⟩ = some (.slice A p0' d) ∧ wa.cell? ⟨w.heap.size, 2, none⟩ = some (.slice A2 q d2)) ∧ (wa.cell? ⟨w.heap.size + 1, 0, none⟩ = some (.int .i64 W) ∧ wa.cell? ⟨w.heap.size + 1, 1, none⟩ = some (.int .i64 t) ∧ wa.cell? ⟨w.heap.size + 1, 2, none⟩ = some (.int .i64 k)) from ⟨⟨cellOfBlk HKa.out 0, cellOfBlk HKa.out 1, cellOfBlk HKa.out 2⟩, ⟨cellOfBlk HMa.out 0, cellOfBlk HMa.out 1, cellOfBlk HMa.out 2⟩⟩)))
          cases hB2 : galB f ⟨W, t, k⟩ (g.take j)
          · have HB2 := Lib.hid hB2
            have HRn : Hid (repA f ⟨W, t, k⟩ g x tx = none) := by show _ = _; rw [HR.out]; exact repC_bad HAP.out HST.out hB2
            clear hB2
            refine (specGalOk_any lo hi _ f W t k _ _ _ (g.take j) _ HVa.out (by omega) HSm.out HTa.out (Nat.le_trans HTkz.out (by decide)) HIa.out).mono ?_
            rintro e wc ⟨rfl, hb⟩
            rw [HB2.out]
            have Tc := Lib.hid (Ta.out.trans (hb.mono (by omega)))
            clear hb c0 c1 c2 p0 p1 p2
            go_wp2
            go_ret2
            exact ⟨_, by rw [HRn.out]; rfl, by rw [HRn.out]; exact World.ownsRow_nil _ _ _ _, Tc.out⟩
          · have HB2 := Lib.hid hB2
            have HRn : Hid (repA f ⟨W, t, k⟩ g x tx = some (g.take j)) := by show _ = _; rw [HR.out]; exact repC_good HAP.out HST.out hB2
            clear hB2
            refine (specGalOk_any lo hi _ f W t k _ _ _ (g.take j) _ HVa.out (by omega) HSm.out HTa.out (Nat.le_trans HTkz.out (by decide)) HIa.out).mono ?_
            rintro e wc ⟨rfl, hb⟩
            rw [HB2.out]
            have Tc := Lib.hid (Ta.out.trans (hb.mono (by omega))); have HOc := Lib.hid (HOa2.out.below hb)
            clear hb c0 c1 c2 p0 p1 p2
            go_wp2
            go_ret2
            exact ⟨_, by rw [HRn.out]; rfl, by rw [HRn.out]; exact owns_base HOc.out (by omega), Tc.out⟩
        have hwn : ws ≠ [] := fun e => by have h := Hn9.out; rw [e] at h; simp at h; omega
        have HSA : Hid (setA f ⟨W, t, k⟩ (g.take j) (aplL (repL g j) (wordsB tx) (x - p) 1) = (galA f ⟨W, t, k⟩ (gtS ws)).map ((g.take j) ++ ·)) := by show _ = _; rw [HWS.out]; unfold setA; rw [if_neg hwn]
        have HGS : Hid ((gtS ws).size ≤ 2097151) := Nat.le_trans (gtS_size ws) HWz.out
        have HGL := Lib.hid (galA_sz (f := f) (m := ⟨W, t, k⟩) (s := gtS ws))
        clear hwn
        go_wp2_with (first
          | (at_builtin; refine wpls_append_any _ rfl (.tmp 64) (.tmp 66) rfl w5.heap.size v6 ([] ++ L.take yN) TW AT nT cT rfl rfl HnT.out HIT.out HO7.out HB7.out.size (by rw [List.nil_append, HTk.out]; omega) ?_; intro v8 w8 hO8 hg8 hv8; have HB8 := Lib.hid (HB7.out.trans ((Below.refl w5.heap.size _).grown hg8 HB7.out.size (fun k hk => (World.ownsRow.lt HO7.out k hk).1))); have HO8 := Lib.hid hO8; clear hO8 hg8 hv8)
          | (at_builtin; refine wpls_append_any _ rfl (.tmp 68) (.tmp 72) rfl w5.heap.size v8 (([] ++ L.take yN) ++ TW) (L.drop y1) AN t3 (cL - y1) rfl rfl HDr.out (HSD2.out _ (HL5.out.below HB8.out)) HO8.out HB8.out.size (by rw [List.nil_append, List.length_append, HTk.out, HnT.out]; omega) ?_; intro v9 w9 hO9 hg9 hv9; have HB9 := Lib.hid (HB8.out.trans ((Below.refl w5.heap.size _).grown hg9 HB8.out.size (fun k hk => (World.ownsRow.lt HO8.out k hk).1))); rw [HW0.out] at hO9; obtain ⟨A9, c9, rfl, hI9, -, hc9, hcm9⟩ := hO9.form; rw [Hn9.out] at hO9 hc9 ⊢; clear hI9; have HO9 := Lib.hid hO9; have z9 := HB9.out.size; have HE2 : Hid (OwnS (w9.alloc (.cells #[] 9)) w9.heap.size (.slice (some ⟨w9.heap.size, 0, none⟩) 0 0) []) := World.ownsRow_lit w9 #[] 0 (Nat.le_refl _) (Nat.zero_le _) rfl; have HBA2 := Lib.hid ((Below.refl w9.heap.size w9).alloc (Nat.le_refl _) (.cells #[] 9)); clear hO9 hg9 hv9)
          | (at_builtin; refine wpls_append_any _ rfl (.tmp 74) (.tmp 77) rfl w9.heap.size (.slice (some ⟨w9.heap.size, 0, none⟩) 0 0) [] (g.take j) (some ad) j c rfl rfl HTa.out (strs_take ((HG5.out.below HB9.out).below HBA2.out)) HE2.out (by simp) (by simp; omega) ?_; intro va wa hOa hga hva; have HBa := Lib.hid (HBA2.out.trans ((Below.refl w9.heap.size _).grown hga (by simp) (fun k hk => (World.ownsRow.lt HE2.out k hk).1))); rw [List.nil_append] at hOa; obtain ⟨Aa, ca, rfl, hIa, -, hca, hcma⟩ := hOa.form; rw [HTa.out] at hOa hca ⊢; have HIa := Lib.hid hIa; clear hIa; have HOa := Lib.hid hOa; clear hOa hga hva))
        have HI9 := Lib.hid (owns_rd (HO9.out.below HBa.out))
        have HBb := Lib.hid (HB9.out.trans (HBa.out.mono z9))
        have Ta := Lib.hid (T5.out.trans (HBb.out.mono (by omega))); have HMa := Lib.hid (HM5.out.below HBb.out (by omega)); have HKa := Lib.hid (HK5.out.below HBb.out (by omega)); have HVa := Lib.hid (HV5.out.below (by omega) HBb.out)
        have za : w5.heap.size ≤ wa.heap.size := HBb.out.size
        have zb : w9.heap.size ≤ wa.heap.size := HBa.out.size
        have HOa2 := HOa
        have z2 : w.heap.size + 2 ≤ wa.heap.size := by omega
        clear hAN ht3 b1 b2 b3 b4 b5 b6 HO9 HOa HBa HB9 HB7 HB8 HO7 HO8 HBA2 HE2 HIT HSD2 T5 HM5 HK5 HV5 HBb hy1
        refine wp_region_plan (.take 0 (.take 1 (.take 2 (.one 3 (.one 4 (.take 5 (.take 6 (.take 7 (.take 8 (.take 9 .done)))))))))) (fun w' => (w'.cell? ⟨w.heap.size, 0, none⟩ = some (.string t0) ∧ w'.cell? ⟨w.heap.size, 1, none⟩ = some (.slice A p0' d) ∧ w'.cell? ⟨w.heap.size, 2, none⟩ = some (.slice A2 q d2)) ∧ (w'.cell? ⟨w.heap.size + 1, 0, none⟩ = some (.int .i64 W) ∧ w'.cell? ⟨w.heap.size + 1, 1, none⟩ = some (.int .i64 t) ∧ w'.cell? ⟨w.heap.size + 1, 2, none⟩ = some (.int .i64 k))) (by kernel_rfl) (by kernel_rfl) (by kernel_rfl) (by intro c a d v w h; cases d <;> exact h) ⟨⟨cellOfBlk HKa.out 0, cellOfBlk HKa.out 1, cellOfBlk HKa.out 2⟩, ⟨cellOfBlk HMa.out 0, cellOfBlk HMa.out 1, cellOfBlk HMa.out 2⟩⟩ ?_
        refine plan_quiet rfl (by rfl) (v := ?_) ?_ ?_; rotate_left; (intro w1 hSw; obtain ⟨⟨h0, h1, h2⟩, ⟨h3, h4, h5⟩⟩ := hSw; go_simp; try (with_reducible rfl)); (try simp only [Act.put, List.setIfInBounds_toArray, List.set_cons_zero, List.set_cons_succ])
        refine plan_quiet rfl (by rfl) (v := ?_) ?_ ?_; rotate_left; (intro w1 hSw; obtain ⟨⟨h0, h1, h2⟩, ⟨h3, h4, h5⟩⟩ := hSw; go_simp; try (with_reducible rfl)); (try simp only [Act.put, List.setIfInBounds_toArray, List.set_cons_zero, List.set_cons_succ])
        refine plan_quiet rfl (by rfl) (v := ?_) ?_ ?_; rotate_left; (intro w1 hSw; obtain ⟨⟨h0, h1, h2⟩, ⟨h3, h4, h5⟩⟩ := hSw; go_simp; try (with_reducible rfl)); (try simp only [Act.put, List.setIfInBounds_toArray, List.set_cons_zero, List.set_cons_succ])
        refine plan_step rfl (fun Kc hK => ?_)
        rw [if_pos (by rfl)]
        go_simp
        refine (l6Join_any A9 n9 c9 ws _ Hn9.out (Nat.le_trans HWz.out (by decide)) (Strs.drew HI9.out)).mono ?_
        rintro e w' ⟨rfl, rfl⟩
        refine hK.out _ _ ⟨⟨cellOfBlk HKa.out 0, cellOfBlk HKa.out 1, cellOfBlk HKa.out 2⟩, ⟨cellOfBlk HMa.out 0, cellOfBlk HMa.out 1, cellOfBlk HMa.out 2⟩⟩ ?_
        clear hK Kc
        refine plan_step rfl (fun Kc hK => ?_)
        rw [if_pos (by rfl)]
        go_simp
        have hd : Below wa.heap.size wa wa.drew := (Below.refl _ _).drew
        refine (specGal_any lo hi _ f W t k (gtS ws) _ (HVa.out.below (B := wa.heap.size) (by omega) hd) (by show hi ≤ wa.heap.size; omega) HSm.out HGS.out).mono ?_
        rintro e wc ⟨u, rfl, hO, hb'⟩
        have hb := undrew hb'
        clear hb' hd
        have Tc := Lib.hid (Ta.out.trans (hb.mono (by omega))); have HMc := Lib.hid (HMa.out.below hb (by omega)); have HKc := Lib.hid (HKa.out.below hb (by omega)); have HVc := Lib.hid (HVa.out.below (by omega) hb); have HOc := Lib.hid (HOa2.out.below hb)
        have zc1 : wa.heap.size ≤ wc.heap.size := hb.size
        have HOg : Hid (OwnS wc wa.heap.size u ((galA f ⟨W, t, k⟩ (gtS ws)).getD [])) := hO
        clear hO hb Ta HMa HKa HVa HOa2 HI9 HIa
        refine hK.out _ _ ⟨⟨cellOfBlk HKc.out 0, cellOfBlk HKc.out 1, cellOfBlk HKc.out 2⟩, ⟨cellOfBlk HMc.out 0, cellOfBlk HMc.out 1, cellOfBlk HMc.out 2⟩⟩ ?_
        clear hK Kc
        refine plan_quiet rfl (by rfl) (v := ?_) ?_ ?_; rotate_left; (intro w1 hSw; obtain ⟨⟨h0, h1, h2⟩, ⟨h3, h4, h5⟩⟩ := hSw; go_simp; try (with_reducible rfl)); (try simp only [Act.put, List.setIfInBounds_toArray, List.set_cons_zero, List.set_cons_succ])
        refine plan_quiet rfl (by rfl) (v := ?_) ?_ ?_; rotate_left; (intro w1 hSw; obtain ⟨⟨h0, h1, h2⟩, ⟨h3, h4, h5⟩⟩ := hSw; go_simp; try (with_reducible rfl)); (try simp only [Act.put, List.setIfInBounds_toArray, List.set_cons_zero, List.set_cons_succ])
        refine plan_quiet rfl (by rfl) (v := ?_) ?_ ?_; rotate_left; (intro w1 hSw; obtain ⟨⟨h0, h1, h2⟩, ⟨h3, h4, h5⟩⟩ := hSw; go_simp; try (with_reducible rfl)); (try simp only [Act.put, List.setIfInBounds_toArray, List.set_cons_zero, List.set_cons_succ])
        refine plan_quiet rfl (by rfl) (v := ?_) ?_ ?_; rotate_left; (intro w1 hSw; obtain ⟨⟨h0, h1, h2⟩, ⟨h3, h4, h5⟩⟩ := hSw; go_simp; try (with_reducible rfl)); (try simp only [Act.put, List.setIfInBounds_toArray, List.set_cons_zero, List.set_cons_succ])
        refine plan_quiet rfl (by rfl) (v := ?_) ?_ ?_; rotate_left; (intro w1 hSw; obtain ⟨⟨h0, h1, h2⟩, ⟨h3, h4, h5⟩⟩ := hSw; go_simp; try (with_reducible rfl)); (try simp only [Act.put, List.setIfInBounds_toArray, List.set_cons_zero, List.set_cons_succ])
        refine plan_end ?_
        cases hga : galA f ⟨W, t, k⟩ (gtS ws) with
        | none =>
          have HRn : Hid (repA f ⟨W, t, k⟩ g x tx = none) := by show _ = _; rw [HR.out]; exact repC_set HAP.out (by rw [HSA.out, hga]; rfl)
          clear hga
          simp only [Option.isSome_none]
          go_wp2
          go_ret2
          exact ⟨_, by rw [HRn.out]; rfl, by rw [HRn.out]; exact World.ownsRow_nil _ _ _ _, Tc.out⟩
        | some G =>
          rw [hga] at HOg HGL
          have hOg : OwnS wc wa.heap.size u G := HOg.out
          have hGz : szL G ≤ 80080 := HGL.out.1
          have hGl : G.length ≤ 40 := HGL.out.2
          have HST : Hid (setA f ⟨W, t, k⟩ (g.take j) (aplL (repL g j) (wordsB tx) (x - p) 1) = some (g.take j ++ G)) := by show _ = _; rw [HSA.out, hga]; rfl
          obtain ⟨Au, cu, rfl, hIu, -, -, -⟩ := hOg.form
          obtain ⟨r, hr⟩ : ∃ u, G.length = u := ⟨_, rfl⟩
          rw [hr] at hGl ⊢
          have Hr := Lib.hid hr; have HIu := Lib.hid hIu
          have HCz : Hid (szL (g.take j ++ G) ≤ 1048576) := by show _ ≤ _; rw [szL_app]; have := HTkz.out; omega
          clear hga hOg hGz hIu hr HOg
          simp only [Option.isSome_some]
          have zc : w9.heap.size ≤ wc.heap.size := by omega
          obtain ⟨nd, hnd⟩ : ∃ u, (g.take j ++ G).length = u := ⟨_, rfl⟩
          have Hnd := Lib.hid hnd
          have z7 : w.heap.size + 2 ≤ w9.heap.size := by omega
          clear hnd
          go_wp2_with (at_builtin; refine wpls_append_any _ rfl (.tmp 92) (.tmp 93) rfl w9.heap.size (.slice Aa j ca) (g.take j) G Au r cu rfl rfl Hr.out HIu.out HOc.out zc (by rw [HTa.out]; omega) ?_; intro vd wd hOd hgd hvd; have HBd := Lib.hid ((Below.refl w9.heap.size _).grown hgd zc (fun k hk => (World.ownsRow.lt HOc.out k hk).1)); obtain ⟨Ad, cd, rfl, hId, -, -, -⟩ := hOd.form; rw [Hnd.out] at hOd ⊢; have HId := Lib.hid hId; have HOd := Lib.hid hOd; clear hId hOd hgd hvd; (have zd : w9.heap.size ≤ wd.heap.size := Nat.le_trans zc HBd.out.size); have Td := Lib.hid (Tc.out.trans (HBd.out.mono (by omega))); have HMd := Lib.hid (HMc.out.below HBd.out (by omega)); have HKd := Lib.hid (HKc.out.below HBd.out (by omega)); have HVd := Lib.hid (HVc.out.below (B := w9.heap.size) (by omega) HBd.out); obtain ⟨⟨c0, c1, c2⟩, ⟨p0, p1, p2⟩⟩ := (show (wd.cell? ⟨w.heap.size, 0, none⟩ = some (.string t0) ∧ wd.cell? ⟨w.heap.size, 1, none⟩ = some (.slice A p0' d) ∧ wd.cell? ⟨w.heap.size, 2, none⟩ = some (.slice A2 q d2)) ∧ (wd.cell? ⟨w.heap.size + 1, 0, none⟩ = some (.int .i64 W) ∧ wd.cell? ⟨w.heap.size + 1, 1, none⟩ = some (.int .i64 t) ∧ wd.cell? ⟨w.heap.size + 1, 2, none⟩ = some (.int .i64 k)) from ⟨⟨cellOfBlk HKd.out 0, cellOfBlk HKd.out 1, cellOfBlk HKd.out 2⟩, ⟨cellOfBlk HMd.out 0, cellOfBlk HMd.out 1, cellOfBlk HMd.out 2⟩⟩))
          cases hB2 : galB f ⟨W, t, k⟩ (g.take j ++ G)
          · have HB2 := Lib.hid hB2
            have HRn : Hid (repA f ⟨W, t, k⟩ g x tx = none) := by show _ = _; rw [HR.out]; exact repC_bad HAP.out HST.out hB2
            clear hB2
            refine (specGalOk_any lo hi _ f W t k _ _ _ (g.take j ++ G) _ HVd.out (by omega) HSm.out Hnd.out HCz.out HId.out).mono ?_
            rintro e we ⟨rfl, hb⟩
            rw [HB2.out]
            have Te := Lib.hid (Td.out.trans (hb.mono (by omega)))
            clear hb c0 c1 c2 p0 p1 p2
            go_wp2
            go_ret2
            exact ⟨_, by rw [HRn.out]; rfl, by rw [HRn.out]; exact World.ownsRow_nil _ _ _ _, Te.out⟩
          · have HB2 := Lib.hid hB2
            have HRn : Hid (repA f ⟨W, t, k⟩ g x tx = some (g.take j ++ G)) := by show _ = _; rw [HR.out]; exact repC_good HAP.out HST.out hB2
            clear hB2
            refine (specGalOk_any lo hi _ f W t k _ _ _ (g.take j ++ G) _ HVd.out (by omega) HSm.out Hnd.out HCz.out HId.out).mono ?_
            rintro e we ⟨rfl, hb⟩
            rw [HB2.out]
            have Te := Lib.hid (Td.out.trans (hb.mono (by omega))); have HOe := Lib.hid (HOd.out.below hb)
            clear hb c0 c1 c2 p0 p1 p2
            go_wp2
            go_ret2
            exact ⟨_, by rw [HRn.out]; rfl, by rw [HRn.out]; exact owns_base HOe.out (by omega), Te.out⟩
    · have hjn : j = n := by omega
      subst hjn
      have HKP : Hid (KP = (j, p)) := by show _ = _; rw [← hln.out, lnI_end HRl.out]
      have HR : Hid (repA f ⟨W, t, k⟩ g x tx = none) := by
        show _ = _
        rw [repA_at (x := x) (tx := tx) HB.out (HK.out.trans HKP.out)]
        exact repC_end Hn.out (by have := hy.out; omega)
      clear hbr hln HKP
      go_wp2
      go_ret2
      exact ⟨_, by rw [HR.out]; rfl, by rw [HR.out]; exact World.ownsRow_nil _ _ _ _, T2.out.trans (HBr.out.mono (by omega))⟩
end Go.Proofs.YtobakeahbgodbaaGreat
