/-
  The exact law of WordWidths: its walk. No condition.
-/
import Derived.Test.YthoepelgmplcmaaWrdP
import Derived.Test.YthoepelgmplcmaaFontT
import Derived.Test.YthoepelgmplcmaaMarkS
import Derived.Test.YthoepelgmplcmaaMchK
import Derived.Test.YthoepelgmplcmaaMchL
import Derived.Test.YthoepelgmplcmaaPkD
import Derived.Test.YthoepelgmplcmaaPkA
import Derived.Test.YthoepelgmplcmaaLnKit
namespace Go.Proofs.Ythoepelgmplcmaa
open Go.RowKit
set_option linter.unusedVariables false

theorem Blk.threeF {w : World} {B : Nat} {x y z : Value} {T : TypeId} (h : Blk w B #[x, y, z] T) : w.cell? ⟨B, 0, none⟩ = some x ∧ w.cell? ⟨B, 1, none⟩ = some y ∧ w.cell? ⟨B, 2, none⟩ = some z :=
  ⟨cellOfBlk h 0, cellOfBlk h 1, cellOfBlk h 2⟩
theorem fontFormF {w : World} {lo hi n m : Nat} {v : Value} {f : Fnt} {s : ByteArray} (h : FontV w lo hi v f) (hs : Hid (f.s = s)) (hn : Hid (f.ws.length = n)) (hm : Hid (f.cs.length = m)) : ∃ A c A2 d, v = .agg #[.string s, .slice A n c, .slice A2 m d] := by
  obtain ⟨A, c, A2, d, hv, -⟩ := h
  rw [hs.out, hn.out, hm.out] at hv
  exact ⟨A, c, A2, d, hv⟩
set_option maxRecDepth 100000 in
set_option maxHeartbeats 6400000 in
theorem fnExactWordWidths_walk (lo hi : Nat) (v : Value) (f : Fnt) (t : ByteArray) (w : World) (h : FontV w lo hi v f) (hhi : hi ≤ w.heap.size) (ht0 : t.size ≤ maxLen) :
    Calls Try.prog 12 #[v, .string t] w fun e w' => e = .returned (.bool true) ∧ Below w.heap.size w w' := by
  obtain ⟨s, hs0⟩ : ∃ s, f.s = s := ⟨_, rfl⟩
  obtain ⟨n, hn⟩ : ∃ n, f.ws.length = n := ⟨_, rfl⟩
  obtain ⟨m, hm⟩ : ∃ m, f.cs.length = m := ⟨_, rfl⟩
  have HSZ := Lib.hid hs0; have HNZ := Lib.hid hn; have HMZ := Lib.hid hm
  obtain ⟨A, c, B, d, rfl⟩ := fontFormF h HSZ HNZ HMZ
  obtain ⟨w0, hw0, hb0, hz0, K0⟩ := mxWorld w #[.string s, .slice A n c, .slice B m d] 50
  have P0 := Lib.hid K0; have T0 := Lib.hid hb0; have V0 := Lib.hid (h.below hhi hb0)
  have s0 : w.heap.size < w0.heap.size := K0.lt
  obtain ⟨Pc0, Pc1, Pc2⟩ := P0.out.threeF
  clear h hb0 hz0 K0 hs0 hn hm
  by_cases htz : ¬ t.size ≤ 1048576
  · have ht9 : decide ((1048576 : Int) < (t.size : Int)) = true := decide_eq_true (by omega)
    go_enter Try.func12, Try.ntmps12
    go_wp2_with fail
    all_goals first | (go_ret; exact ⟨rfl, by first | exact T0.out | (rw [hw0]; exact T0.out)⟩) | skip
  have htz : t.size ≤ 1048576 := by omega
  by_cases hbig : (1048576 : Int) < f.big
  · have Hk := Lib.hid (takeOff_bad hbig)
    go_enter Try.func12, Try.ntmps12
    go_wp2_with fail
    clear hw0
    refine (szFont_any lo hi _ f _ w0 V0.out (by omega) (by omega)).mono ?_
    rintro e w1 ⟨rfl, hb1⟩
    rw [Hk.out]
    have T1 := Lib.hid (T0.out.trans (hb1.mono (by omega)))
    clear hb1 Pc0 Pc1 Pc2
    go_wp2
    go_ret
    exact ⟨rfl, T1.out⟩
  have Hk := Lib.hid (takeOff_good hbig)
  have HS := Lib.hid (big_small hbig)
  have hk0 : decide (1048576 - (f.big : Int) < 0) = false := decide_eq_false (by omega)
  go_enter Try.func12, Try.ntmps12
  go_wp2_with fail
  clear hw0
  refine (szFont_any lo hi _ f _ w0 V0.out (by omega) (by omega)).mono ?_
  rintro e w1 ⟨rfl, hb⟩
  rw [Hk.out]
  clear Pc0 Pc1 Pc2
  have s1 : w0.heap.size ≤ w1.heap.size := hb.size
  have P1 := Lib.hid (P0.out.below hb (by omega))
  have T1 := Lib.hid (T0.out.trans (hb.mono (by omega)))
  have V1 := Lib.hid (V0.out.below (by omega) hb)
  clear P0 T0 V0
  clear hb
  have yP_1 : w.heap.size < w1.heap.size := by omega
  obtain ⟨Pc0, Pc1, Pc2⟩ := P1.out.threeF
  obtain ⟨nn, hnn⟩ : ∃ x, (wwL f t).length = x := ⟨_, rfl⟩
  have hn20 : nn ≤ 1048576 := by rw [← hnn]; exact Nat.le_trans (wwL_len f t) (by decide)
  obtain ⟨ok, hok⟩ : ∃ x, wwB f t = x := ⟨_, rfl⟩
  have HN := Lib.hid hnn; have Hok := Lib.hid hok
  clear hnn hok
  have hne : (ok != ok) = false := by simp
  go_wp2_with fail
  refine (toFont_any lo hi _ f w1 V1.out (by omega) HS.out).mono ?_
  rintro e w2 ⟨vs, rfl, hO, hb⟩
  obtain ⟨As, cs, Bs, ds, rfl⟩ := fontFormF hO.font HSZ HNZ HMZ
  clear Pc0 Pc1 Pc2
  have s2 : w1.heap.size ≤ w2.heap.size := hb.size
  have P2 := Lib.hid (P1.out.below hb (by omega))
  have T2 := Lib.hid (T1.out.trans (hb.mono (by omega)))
  have V2 := Lib.hid (V1.out.below (by omega) hb)
  clear P1 T1 V1
  clear hb
  have yP_2 : w.heap.size < w2.heap.size := by omega
  have S2 := Lib.hid (hO)
  obtain ⟨Pc0, Pc1, Pc2⟩ := P2.out.threeF
  clear hO
  go_wp2_with fail
  refine (specWords_any _ _ _ f t w2 S2.out.font (by omega) HS.out htz).mono ?_
  rintro e w3 ⟨u, rfl, hO, hb⟩
  obtain ⟨Au, cu, rfl, -, -, -, -⟩ := hO.form
  have Ut := fun k hk => World.ownsRow.lt hO k hk
  rw [HN.out] at Ut hO ⊢
  rw [Hok.out]
  clear Pc0 Pc1 Pc2
  have s3 : w2.heap.size ≤ w3.heap.size := hb.size
  have P3 := Lib.hid (P2.out.below hb (by omega))
  have T3 := Lib.hid (T2.out.trans (hb.mono (by omega)))
  have V3 := Lib.hid (V2.out.below (by omega) hb)
  have S3 := Lib.hid (S2.out.below hb)
  clear P2 T2 V2 S2
  clear hb
  have yP_3 : w.heap.size < w3.heap.size := by omega
  have U3 := Lib.hid (hO)
  obtain ⟨Pc0, Pc1, Pc2⟩ := P3.out.threeF
  clear hO
  clear S3
  go_wp2_with fail
  refine (toFont_any lo hi _ f w3 V3.out (by omega) HS.out).mono ?_
  rintro e w4 ⟨vx, rfl, hO, hb⟩
  obtain ⟨Ax, cx, Bx, dx, rfl⟩ := fontFormF hO.font HSZ HNZ HMZ
  clear Pc0 Pc1 Pc2
  have s4 : w3.heap.size ≤ w4.heap.size := hb.size
  have P4 := Lib.hid (P3.out.below hb (by omega))
  have T4 := Lib.hid (T3.out.trans (hb.mono (by omega)))
  have V4 := Lib.hid (V3.out.below (by omega) hb)
  have U4 := Lib.hid (U3.out.below hb)
  clear P3 T3 V3 U3
  clear hb
  have yP_4 : w.heap.size < w4.heap.size := by omega
  have X4 := Lib.hid (hO)
  obtain ⟨Pc0, Pc1, Pc2⟩ := P4.out.threeF
  clear hO
  go_wp2_with fail
  obtain ⟨w5, hw, hb, hz, hK⟩ := mxWorld w4 #[.string s, .slice Ax n cx, .slice Bx m dx] 25
  rw [hw]
  clear hw hz
  clear Pc0 Pc1 Pc2
  have s5 : w4.heap.size ≤ w5.heap.size := hb.size
  have P5 := Lib.hid (P4.out.below hb (by omega))
  have T5 := Lib.hid (T4.out.trans (hb.mono (by omega)))
  have V5 := Lib.hid (V4.out.below (by omega) hb)
  have U5 := Lib.hid (U4.out.below hb)
  have X5 := Lib.hid (X4.out.below hb)
  clear P4 T4 V4 U4 X4
  clear hb
  have yP_5 : w.heap.size < w5.heap.size := by omega
  have J5 := Lib.hid (hK)
  have yJ : w4.heap.size < w5.heap.size := hK.lt
  clear hK
  obtain ⟨Pc0, Pc1, Pc2⟩ := P5.out.threeF
  obtain ⟨Jc0, Jc1, Jc2⟩ := J5.out.threeF
  refine (implWords_any _ _ _ f t w5 X5.out.font (by omega) HS.out htz).mono ?_
  rintro e w6 ⟨u, rfl, hO, hb⟩
  obtain ⟨Ag, cg, rfl, -, -, -, -⟩ := hO.form
  have Gt := fun k hk => World.ownsRow.lt hO k hk
  rw [HN.out] at Gt hO ⊢
  rw [Hok.out]
  clear Pc0 Pc1 Pc2
  clear Jc0 Jc1 Jc2
  have s6 : w5.heap.size ≤ w6.heap.size := hb.size
  have P6 := Lib.hid (P5.out.below hb (by omega))
  have T6 := Lib.hid (T5.out.trans (hb.mono (by omega)))
  have V6 := Lib.hid (V5.out.below (by omega) hb)
  have U6 := Lib.hid (U5.out.below hb)
  have X6 := Lib.hid (X5.out.below hb)
  have J6 := Lib.hid (J5.out.below hb (by omega))
  clear P5 T5 V5 U5 X5 J5
  clear hb
  have yP_6 : w.heap.size < w6.heap.size := by omega
  have yJ_6 : w4.heap.size < w6.heap.size := by omega
  have G6 := Lib.hid (hO)
  obtain ⟨Pc0, Pc1, Pc2⟩ := P6.out.threeF
  obtain ⟨Jc0, Jc1, Jc2⟩ := J6.out.threeF
  clear hO
  go_wp2_with fail
  refine (eqIntS_t _ _ _ _ _ (wwL f t) w6 HN.out hn20 (own_intsQ G6.out) (own_intsQ U6.out)).mono ?_
  rintro e w7 ⟨rfl, hb⟩
  clear Pc0 Pc1 Pc2
  clear Jc0 Jc1 Jc2
  have s7 : w6.heap.size ≤ w7.heap.size := hb.size
  have P7 := Lib.hid (P6.out.below hb (by omega))
  have T7 := Lib.hid (T6.out.trans (hb.mono (by omega)))
  have V7 := Lib.hid (V6.out.below (by omega) hb)
  have U7 := Lib.hid (U6.out.below hb)
  have X7 := Lib.hid (X6.out.below hb)
  have J7 := Lib.hid (J6.out.below hb (by omega))
  have G7 := Lib.hid (G6.out.below hb)
  clear P6 T6 V6 U6 X6 J6 G6
  clear hb
  have yP_7 : w.heap.size < w7.heap.size := by omega
  have yJ_7 : w4.heap.size < w7.heap.size := by omega
  obtain ⟨Pc0, Pc1, Pc2⟩ := P7.out.threeF
  obtain ⟨Jc0, Jc1, Jc2⟩ := J7.out.threeF
  go_wp2_with fail
  refine wp_region_plan (.take 0 (.take 1 (.one 2 (.one 3 (.one 4 .done))))) (fun w' => (w'.cell? ⟨w4.heap.size, 0, none⟩ = some (.string s) ∧ w'.cell? ⟨w4.heap.size, 1, none⟩ = some (.slice Ax n cx) ∧ w'.cell? ⟨w4.heap.size, 2, none⟩ = some (.slice Bx m dx)) ∧ (w'.cell? ⟨w.heap.size, 0, none⟩ = some (.string s) ∧ w'.cell? ⟨w.heap.size, 1, none⟩ = some (.slice A n c) ∧ w'.cell? ⟨w.heap.size, 2, none⟩ = some (.slice B m d))) (by kernel_rfl) (by kernel_rfl) (by kernel_rfl) (by intro c a d v w h; cases d <;> exact h) ⟨J7.out.threeF, P7.out.threeF⟩ ?_
  clear Pc0 Pc1 Pc2
  clear Jc0 Jc1 Jc2
  refine plan_quiet rfl (by rfl) (v := ?_) ?_ ?_; rotate_left; (intro w1 hSw; obtain ⟨⟨h0, h1, h2⟩, ⟨h0', h1', h2'⟩⟩ := hSw; go_simp; try (with_reducible rfl)); (try simp only [Act.put, List.setIfInBounds_toArray, List.set_cons_zero, List.set_cons_succ])
  refine plan_quiet rfl (by rfl) (v := ?_) ?_ ?_; rotate_left; (intro w1 hSw; obtain ⟨⟨h0, h1, h2⟩, ⟨h0', h1', h2'⟩⟩ := hSw; go_simp; try (with_reducible rfl)); (try simp only [Act.put, List.setIfInBounds_toArray, List.set_cons_zero, List.set_cons_succ])
  refine plan_step rfl (fun K hK => ?_)
  rw [if_pos (by rfl)]
  go_simp
  have hd : Below w7.heap.size w7 w7.drew := (Below.refl _ _).drew
  refine (toFont_any lo hi _ f w7.drew (V7.out.below (B := w7.heap.size) (by omega) hd) (by show hi ≤ w7.heap.size; omega) HS.out).mono ?_
  rintro e w8 ⟨vz, rfl, hO, hb'⟩
  have hb := undrew hb'
  clear hb' hd
  obtain ⟨Az, cz, Bz, dz, rfl⟩ := fontFormF hO.font HSZ HNZ HMZ
  have s8 : w7.heap.size ≤ w8.heap.size := hb.size
  have P8 := Lib.hid (P7.out.below hb (by omega))
  have T8 := Lib.hid (T7.out.trans (hb.mono (by omega)))
  have V8 := Lib.hid (V7.out.below (by omega) hb)
  have U8 := Lib.hid (U7.out.below hb)
  have X8 := Lib.hid (X7.out.below hb)
  have J8 := Lib.hid (J7.out.below hb (by omega))
  have G8 := Lib.hid (G7.out.below hb)
  clear P7 T7 V7 U7 X7 J7 G7
  clear hb
  have yP_8 : w.heap.size < w8.heap.size := by omega
  have yJ_8 : w4.heap.size < w8.heap.size := by omega
  have Z8 := Lib.hid (hO)
  clear hO
  refine hK.out _ _ ⟨J8.out.threeF, P8.out.threeF⟩ ?_
  clear hK K
  refine plan_step rfl (fun K hK => ?_)
  rw [if_pos (by rfl)]
  go_simp
  refine (eqFont_same _ _ _ _ _ _ f w8 X8.out.font Z8.out.font (by omega) (by omega) HS.out).mono ?_
  rintro e w9 ⟨rfl, hb⟩
  have s9 : w8.heap.size ≤ w9.heap.size := hb.size
  have P9 := Lib.hid (P8.out.below hb (by omega))
  have T9 := Lib.hid (T8.out.trans (hb.mono (by omega)))
  have V9 := Lib.hid (V8.out.below (by omega) hb)
  have U9 := Lib.hid (U8.out.below hb)
  have X9 := Lib.hid (X8.out.below hb)
  have J9 := Lib.hid (J8.out.below hb (by omega))
  have G9 := Lib.hid (G8.out.below hb)
  have Z9 := Lib.hid (Z8.out.below hb)
  clear P8 T8 V8 U8 X8 J8 G8 Z8
  clear hb
  have yP_9 : w.heap.size < w9.heap.size := by omega
  have yJ_9 : w4.heap.size < w9.heap.size := by omega
  refine hK.out _ _ ⟨J9.out.threeF, P9.out.threeF⟩ ?_
  clear hK K
  refine plan_step rfl (fun K hK => ?_)
  rw [if_pos (by rfl)]
  go_simp
  refine hK.out _ _ ⟨J9.out.threeF, P9.out.threeF⟩ ?_
  clear hK K
  refine plan_end ?_
  clear Z9
  obtain ⟨Pc0, Pc1, Pc2⟩ := P9.out.threeF
  obtain ⟨Jc0, Jc1, Jc2⟩ := J9.out.threeF
  have hm1 : decide (1 + (n : Int) + (m : Int) < 0) = false := decide_eq_false (by omega)
  go_wp2_with fail
  refine (markFont_wide _ _ _ f 1 w9 X9.out (by omega) (by omega) HS.out (by omega) (by omega)).mono ?_
  rintro e w10 ⟨rfl, hc⟩
  rw [HNZ.out, HMZ.out]
  clear X9
  clear Pc0 Pc1 Pc2
  clear Jc0 Jc1 Jc2
  have s10 : w9.heap.size ≤ w10.heap.size := hc.size
  have P10 := Lib.hid (P9.out.chg hc (by omega))
  have T10 := Lib.hid (T9.out.trans ((hc.below (by omega)).mono (by omega)))
  have V10 := Lib.hid (V9.out.chg hc (by omega) (by omega))
  have U10 := Lib.hid (hc.own U9.out (fun x hx => by have := Ut x hx; omega))
  have J10 := Lib.hid (J9.out.chg hc (by omega))
  have G10 := Lib.hid (hc.own G9.out (fun x hx => by have := Gt x hx; omega))
  clear P9 T9 V9 U9 J9 G9
  clear hc
  have yP_10 : w.heap.size < w10.heap.size := by omega
  have yJ_10 : w4.heap.size < w10.heap.size := by omega
  obtain ⟨Pc0, Pc1, Pc2⟩ := P10.out.threeF
  obtain ⟨Jc0, Jc1, Jc2⟩ := J10.out.threeF
  go_wp2_with fail
  refine (eqIntS_t _ _ _ _ _ (wwL f t) w10 HN.out hn20 (own_intsQ G10.out) (own_intsQ U10.out)).mono ?_
  rintro e w11 ⟨rfl, hb⟩
  clear Pc0 Pc1 Pc2
  clear Jc0 Jc1 Jc2
  have s11 : w10.heap.size ≤ w11.heap.size := hb.size
  have P11 := Lib.hid (P10.out.below hb (by omega))
  have T11 := Lib.hid (T10.out.trans (hb.mono (by omega)))
  have V11 := Lib.hid (V10.out.below (by omega) hb)
  have U11 := Lib.hid (U10.out.below hb)
  have J11 := Lib.hid (J10.out.below hb (by omega))
  have G11 := Lib.hid (G10.out.below hb)
  clear P10 T10 V10 U10 J10 G10
  clear hb
  have yP_11 : w.heap.size < w11.heap.size := by omega
  have yJ_11 : w4.heap.size < w11.heap.size := by omega
  obtain ⟨Pc0, Pc1, Pc2⟩ := P11.out.threeF
  obtain ⟨Jc0, Jc1, Jc2⟩ := J11.out.threeF
  have hm2 : decide (1 + (nn : Int) < 0) = false := decide_eq_false (by omega)
  go_wp2_with fail
  refine (markIntS_any _ _ 1 (wwL f t) w11 (by omega) (by omega) (by rw [HN.out]; exact hn20) G11.out).mono ?_
  rintro e w12 ⟨rfl, hO, hg⟩
  rw [HN.out] at hO
  rw [HN.out]
  have hc := Chg.of_grown hg Gt
  clear hg
  clear G11
  clear Pc0 Pc1 Pc2
  clear Jc0 Jc1 Jc2
  have s12 : w11.heap.size ≤ w12.heap.size := hc.size
  have P12 := Lib.hid (P11.out.chg hc (by omega))
  have T12 := Lib.hid (T11.out.trans ((hc.below (by omega)).mono (by omega)))
  have V12 := Lib.hid (V11.out.chg hc (by omega) (by omega))
  have U12 := Lib.hid (hc.own U11.out (fun x hx => by have := Ut x hx; omega))
  have J12 := Lib.hid (J11.out.chg hc (by omega))
  clear P11 T11 V11 U11 J11
  clear hc
  have yP_12 : w.heap.size < w12.heap.size := by omega
  have yJ_12 : w4.heap.size < w12.heap.size := by omega
  have H12 := Lib.hid (hO)
  clear hO
  have Ht := Gt
  obtain ⟨Pc0, Pc1, Pc2⟩ := P12.out.threeF
  obtain ⟨Jc0, Jc1, Jc2⟩ := J12.out.threeF
  have hne2 : ((1 + (nn : Int)) != (1 + (nn : Int))) = false := by simp
  go_wp2_with fail
  refine (heldIntS_any _ nn _ 1 w12 (by omega) (by omega) hn20 (own_intsQ H12.out)).mono ?_
  rintro e w' ⟨rfl, rfl⟩
  go_wp2_with fail
  refine (toFont_any lo hi _ f w12 V12.out (by omega) HS.out).mono ?_
  rintro e w13 ⟨vq, rfl, hO, hb⟩
  obtain ⟨Aq, cq, Bq, dq, rfl⟩ := fontFormF hO.font HSZ HNZ HMZ
  clear Pc0 Pc1 Pc2
  clear Jc0 Jc1 Jc2
  have s13 : w12.heap.size ≤ w13.heap.size := hb.size
  have P13 := Lib.hid (P12.out.below hb (by omega))
  have T13 := Lib.hid (T12.out.trans (hb.mono (by omega)))
  have V13 := Lib.hid (V12.out.below (by omega) hb)
  have U13 := Lib.hid (U12.out.below hb)
  have J13 := Lib.hid (J12.out.below hb (by omega))
  have H13 := Lib.hid (H12.out.below hb)
  clear P12 T12 V12 U12 J12 H12
  clear hb
  have yP_13 : w.heap.size < w13.heap.size := by omega
  have yJ_13 : w4.heap.size < w13.heap.size := by omega
  have S13 := Lib.hid (hO)
  obtain ⟨Pc0, Pc1, Pc2⟩ := P13.out.threeF
  obtain ⟨Jc0, Jc1, Jc2⟩ := J13.out.threeF
  clear hO
  go_wp2_with fail
  refine (implWords_any _ _ _ f t w13 S13.out.font (by omega) HS.out htz).mono ?_
  rintro e w14 ⟨u, rfl, hO, hb⟩
  obtain ⟨Ah, ch, rfl, -, -, -, -⟩ := hO.form
  have Et := fun k hk => World.ownsRow.lt hO k hk
  rw [HN.out] at Et hO ⊢
  rw [Hok.out]
  clear Pc0 Pc1 Pc2
  clear Jc0 Jc1 Jc2
  have s14 : w13.heap.size ≤ w14.heap.size := hb.size
  have P14 := Lib.hid (P13.out.below hb (by omega))
  have T14 := Lib.hid (T13.out.trans (hb.mono (by omega)))
  have V14 := Lib.hid (V13.out.below (by omega) hb)
  have U14 := Lib.hid (U13.out.below hb)
  have J14 := Lib.hid (J13.out.below hb (by omega))
  have H14 := Lib.hid (H13.out.below hb)
  have S14 := Lib.hid (S13.out.below hb)
  clear P13 T13 V13 U13 J13 H13 S13
  clear hb
  have yP_14 : w.heap.size < w14.heap.size := by omega
  have yJ_14 : w4.heap.size < w14.heap.size := by omega
  have E14 := Lib.hid (hO)
  obtain ⟨Pc0, Pc1, Pc2⟩ := P14.out.threeF
  obtain ⟨Jc0, Jc1, Jc2⟩ := J14.out.threeF
  clear hO
  clear S14
  go_wp2_with fail
  refine (eqIntS_t _ _ _ _ _ (wwL f t) w14 HN.out hn20 (own_intsQ E14.out) (own_intsQ U14.out)).mono ?_
  rintro e w15 ⟨rfl, hb⟩
  clear Pc0 Pc1 Pc2
  clear Jc0 Jc1 Jc2
  have s15 : w14.heap.size ≤ w15.heap.size := hb.size
  have P15 := Lib.hid (P14.out.below hb (by omega))
  have T15 := Lib.hid (T14.out.trans (hb.mono (by omega)))
  have V15 := Lib.hid (V14.out.below (by omega) hb)
  have U15 := Lib.hid (U14.out.below hb)
  have J15 := Lib.hid (J14.out.below hb (by omega))
  have H15 := Lib.hid (H14.out.below hb)
  have E15 := Lib.hid (E14.out.below hb)
  clear P14 T14 V14 U14 J14 H14 E14
  clear hb
  have yP_15 : w.heap.size < w15.heap.size := by omega
  have yJ_15 : w4.heap.size < w15.heap.size := by omega
  obtain ⟨Pc0, Pc1, Pc2⟩ := P15.out.threeF
  obtain ⟨Jc0, Jc1, Jc2⟩ := J15.out.threeF
  go_wp2_with fail
  refine (heldIntS_any _ nn _ 1 w15 (by omega) (by omega) hn20 (own_intsQ H15.out)).mono ?_
  rintro e w' ⟨rfl, rfl⟩
  go_wp2
  go_ret
  exact ⟨rfl, T15.out⟩
end Go.Proofs.Ythoepelgmplcmaa
