/-
  DrawReplaceWord: whatever the bytes, a font of at most 24 letters, a measure, a galley of at most 40 strings, a number and a short text, in memory of the call's own. Condition: the bytes are bytes.
-/
import Derived.Test.YtobakeahbgodbaaGreatDrawGl
import Derived.Test.YtobakeahbgodbaaGreatDrawFi
namespace Go.Proofs.YtobakeahbgodbaaGreat
open Go.RowKit
set_option linter.unusedVariables false

theorem chgAt (w : World) (b o : Nat) (u : Value) : Chg b (b + 1) w (w.setCell ⟨b, o, none⟩ u) :=
  ⟨rfl, rfl, rfl, by simp [World.setCell], fun k hk hn => Below.heap_setCell _ _ _ _ (by show k ≠ b; omega)⟩
set_option maxRecDepth 100000 in
set_option maxHeartbeats 12800000 in
theorem drawRep_any (A : Option Addr) (n c : Nat) (bs : List Int) (w : World) (hn : bs.length = n) (hm : n ≤ maxLen) (h : Bytes w A bs) (wf : ∀ z ∈ bs, (Lit.int .u8 z).wf = true) :
    Calls Tryz.prog 6 #[.slice A n c] w fun e w' => ∃ v f X Y Z Ag k c1 gl x tx, e = .returned (.tuple #[v, .agg #[.int .i64 X, .int .i64 Y, .int .i64 Z], .slice Ag k c1, .int .i64 x, .string tx]) ∧ FontV w' w.heap.size w'.heap.size v f ∧ f.s.size ≤ 24 ∧ f.ws.length ≤ 24 ∧ f.cs.length ≤ 24 ∧ gl.length = k ∧ k ≤ 40 ∧ szL gl ≤ 200000 ∧ OwnS w' w.heap.size (.slice Ag k c1) gl ∧ -1 ≤ x ∧ x ≤ 400000 ∧ tx.size ≤ 2000 ∧ Below w.heap.size w w' := by
  have Hn := Lib.hid hn; have Hwf := Lib.hid wf
  obtain ⟨wa, hwa, hba, hza, Ra⟩ := mxWorld w #[.string ⟨#[]⟩, .slice none 0 0, .slice none 0 0] 25
  obtain ⟨w0, hw0, hb0, hz0, Na⟩ := mxWorld wa #[.int .i64 0, .int .i64 0, .int .i64 0] 27
  obtain ⟨o1, ho1⟩ : ∃ y, w.heap.size = y := ⟨_, rfl⟩
  obtain ⟨o2, ho2⟩ : ∃ y, wa.heap.size = y := ⟨_, rfl⟩
  have HO1 := Lib.hid ho1
  rw [ho1] at hba hza Ra
  rw [ho2] at hb0 hz0 Na hza
  have hoo : o1 < o2 := by omega
  have H := Lib.hid (bytes_below (bytes_below h (by rw [ho1]; exact hba)) (by rw [ho2]; exact hb0))
  have T0 := hba.trans (hb0.mono (by omega : o1 ≤ o2))
  have R0 := Ra.below hb0 (by omega)
  go_enter Tryz.func6, Tryz.ntmps6
  clear hza
  go_wp2_with fail
  clear hwa hw0 ho1 ho2 hn wf h hba Ra hb0
  refine (l01New_any _ _ _ bs _ Hn.out hm H.out Hwf.out).mono ?_
  rintro e w1 ⟨rfl, hc1, hb1, hs1⟩
  obtain ⟨g, hg⟩ : ∃ g, w0.heap.size = g := ⟨_, rfl⟩
  rw [hg] at hc1 hs1 hb1 hz0
  rw [hg]
  have T1 := Lib.hid (T0.trans (hb1.mono (by omega : o1 ≤ g)))
  have R1 := Lib.hid (R0.below hb1 (by omega)); have N1 := Lib.hid (Na.below hb1 (by omega))
  have hgw : g < w1.heap.size := hc1.lt
  have HC1 := Lib.hid hc1
  have hgo : o2 < g := by omega
  clear hb1 T0 R0 Na H hg Hwf hc1 hs1 hz0 Hn
  go_wp2_with fail
  refine (l2Any_any g w1 HC1.out).mono ?_
  rintro e w2 ⟨v, s, ws, cs, rfl, hF⟩
  obtain ⟨A, n, c, A2, m, d, rfl, hs24, hws, hn24, hcs, hm24, hO1, hO2, hcm⟩ := hF
  have hm2 := hcm.2
  have R2 := Lib.hid (R1.out.moved hm2 (by omega)); have N2 := Lib.hid (N1.out.moved hm2 (by omega)); have T2 := Lib.hid (T1.out.trans (hm2.below (by omega) (by omega))); have P2 := Lib.hid hO1; have D2 := Lib.hid hO2; have C2 := Lib.hid hcm
  have z2 : o2 < w2.heap.size := by have := hm2.size; omega
  have hsz2 : w1.heap.size ≤ w2.heap.size := hm2.size
  have HWS := Lib.hid hws; have HCS := Lib.hid hcs
  clear R1 N1 T1 HC1 hO1 hO2 hcm hm2 hws hcs
  go_wp2_with fail
  obtain ⟨w3, hw3, hb3, hz3, hX3⟩ := mxWorld w2 #[.string s, .slice A n c, .slice A2 m d] 25
  obtain ⟨b, hnb⟩ : ∃ y, w2.heap.size = y := ⟨_, rfl⟩
  rw [hw3, hnb]
  rw [hnb] at hX3 hz3
  have hb : o2 < b := by omega
  have hbg : g < b := by have := C2.out.lt; omega
  have zz3 : b < w3.heap.size := by omega
  have z3 : o2 < w3.heap.size := by have := hb3.size; omega
  have C3 := Lib.hid (C2.out.step hb3)
  have R3 := Lib.hid (R2.out.below hb3 (by omega))
  have N3 := Lib.hid (N2.out.below hb3 (by omega))
  have P3 := Lib.hid (P2.out.below hb3)
  have D3 := Lib.hid (D2.out.below hb3)
  have T3 := Lib.hid (T2.out.trans (hb3.mono (by omega)))
  clear C2 R2 N2 P2 D2 T2
  have K3 := Lib.hid hX3
  clear hX3 hb3 hw3 hnb hz3
  replace z3 := zz3
  refine (l6Measure_any g w3 C3.out.1).mono ?_
  rintro e w4 ⟨X, Y, Z, rfl, hcm⟩
  have hm4 := hcm.2
  have hgz3 := C3.out.lt
  have z4 : b < w4.heap.size := by have := hm4.size; omega
  have C4 := Lib.hid (C3.out.trans hcm)
  have R4 := Lib.hid (R3.out.moved hm4 (by omega))
  have N4 := Lib.hid (N3.out.moved hm4 (by omega))
  have P4 := Lib.hid (P3.out.grown_lt hm4 (fun k hk => by injection hk with hk; omega))
  have D4 := Lib.hid (D3.out.grown_lt hm4 (fun k hk => by injection hk with hk; omega))
  have T4 := Lib.hid (T3.out.trans (hm4.below (by omega) (by omega)))
  have K4 := Lib.hid (K3.out.moved hm4 (by omega))
  clear C3 R3 N3 P3 D3 T3 K3
  clear hm4 hcm
  obtain ⟨b0, b1, b2_⟩ := (show w4.cell? ⟨b, 0, none⟩ = some (.string s) ∧ w4.cell? ⟨b, 1, none⟩ = some (.slice A n c) ∧ w4.cell? ⟨b, 2, none⟩ = some (.slice A2 m d) from ⟨cellOfBlk K4.out 0, cellOfBlk K4.out 1, cellOfBlk K4.out 2⟩)
  go_upto_region 4 with fail
  clear b0 b1 b2_
  obtain ⟨w5, hw5, hb5, hz5, hX5⟩ := mxWorld w4 #[.int .i64 X, .int .i64 Y, .int .i64 Z] 27
  obtain ⟨b2, hnb⟩ : ∃ y, w4.heap.size = y := ⟨_, rfl⟩
  rw [hw5, hnb]
  rw [hnb] at hX5 hz5
  have hb2 : b < b2 := by omega
  have hb2g : g < b2 := by have := C4.out.lt; omega
  have zz5 : b2 < w5.heap.size := by omega
  have z5 : b < w5.heap.size := by have := hb5.size; omega
  have C5 := Lib.hid (C4.out.step hb5)
  have R5 := Lib.hid (R4.out.below hb5 (by omega))
  have N5 := Lib.hid (N4.out.below hb5 (by omega))
  have P5 := Lib.hid (P4.out.below hb5)
  have D5 := Lib.hid (D4.out.below hb5)
  have T5 := Lib.hid (T4.out.trans (hb5.mono (by omega)))
  have K5 := Lib.hid (K4.out.below hb5 (by omega))
  clear C4 R4 N4 P4 D4 T4 K4
  have L5 := Lib.hid hX5
  clear hX5 hb5 hw5 hnb hz5
  replace z5 := zz5
  obtain ⟨b0, b1, b2_, l0, l1, l2⟩ := (show w5.cell? ⟨b, 0, none⟩ = some (.string s) ∧ w5.cell? ⟨b, 1, none⟩ = some (.slice A n c) ∧ w5.cell? ⟨b, 2, none⟩ = some (.slice A2 m d) ∧ w5.cell? ⟨b2, 0, none⟩ = some (.int .i64 X) ∧ w5.cell? ⟨b2, 1, none⟩ = some (.int .i64 Y) ∧ w5.cell? ⟨b2, 2, none⟩ = some (.int .i64 Z) from ⟨cellOfBlk K5.out 0, cellOfBlk K5.out 1, cellOfBlk K5.out 2, cellOfBlk L5.out 0, cellOfBlk L5.out 1, cellOfBlk L5.out 2⟩)
  go_wp2_with fail
  clear b0 b1 b2_ l0 l1 l2
  have hW : ws.length = n := HWS.out
  have hC : cs.length = m := HCS.out
  have hFV : FontV w5 w1.heap.size w5.heap.size (.agg #[.string s, .slice A n c, .slice A2 m d]) ⟨s, ws, cs⟩ := ⟨A, c, A2, d, by rw [← hW, ← hC], by rw [← hW] at *; exact IntsI.of_own P5.out, by rw [← hC] at *; exact IntsI.of_own D5.out, by have := (own_caps P5.out).1; show ws.length ≤ c; omega, (own_caps P5.out).2, by have := (own_caps D5.out).1; show cs.length ≤ d; omega, (own_caps D5.out).2, by show s.size ≤ maxLen; unfold maxLen; omega⟩
  have hSm : Small ⟨s, ws, cs⟩ := ⟨by show s.size ≤ _; omega, by show ws.length ≤ _; omega, by show cs.length ≤ _; omega⟩
  clear hW hC
  refine (l6Galley_any g w1.heap.size w5.heap.size s A A2 n c m d ws cs X Y Z w5 C5.out.1 hFV (Nat.le_refl _) hSm hs24 hgw).mono ?_
  rintro e w6 ⟨Ag, k, c1, gl, rfl, hgk, hk40, hgsz, hG, hcm⟩
  have hm6 := hcm.2
  clear hFV hSm
  have hgz5 := C5.out.lt
  have z6 : b2 < w6.heap.size := by have := hm6.size; omega
  have C6 := Lib.hid (C5.out.trans hcm)
  have R6 := Lib.hid (R5.out.moved hm6 (by omega))
  have N6 := Lib.hid (N5.out.moved hm6 (by omega))
  have P6 := Lib.hid (P5.out.grown_lt hm6 (fun k hk => by injection hk with hk; omega))
  have D6 := Lib.hid (D5.out.grown_lt hm6 (fun k hk => by injection hk with hk; omega))
  have T6 := Lib.hid (T5.out.trans (hm6.below (by omega) (by omega)))
  have K6 := Lib.hid (K5.out.moved hm6 (by omega))
  have L6 := Lib.hid (L5.out.moved hm6 (by omega))
  clear C5 R5 N5 P5 D5 T5 K5 L5
  obtain ⟨gB, hgB⟩ : ∃ y, w5.heap.size + 2 = y := ⟨_, rfl⟩
  have hbg : b2 < gB := by omega
  rw [hgB] at hG
  have G6 := Lib.hid hG
  have HK := Lib.hid hgk
  clear hgk hcm hm6 hG hgB
  go_wp2_with fail
  refine (l6Join_any Ag k c1 gl w6 HK.out (by omega) (owns_rd G6.out)).mono ?_
  rintro e w7 ⟨rfl, rfl⟩
  have hgt := gtS_size gl
  go_wp2_with fail
  refine (l6Words_any (gtS gl) w6 (by omega)).mono ?_
  rintro e w7 ⟨u7, rfl, hO7, hb7⟩
  have hwl : (wordsB (gtS gl)).length ≤ 200001 := by have := szL_words (gtS gl); have := szL_len (wordsB (gtS gl)); omega
  obtain ⟨A7, c7, rfl, -⟩ := hO7.form
  obtain ⟨nw, hnw⟩ : ∃ y, (wordsB (gtS gl)).length = y := ⟨_, rfl⟩
  rw [hnw] at hwl ⊢
  clear hO7 hnw
  have z7 : b2 < w7.heap.size := by have := hb7.size; omega
  have C7 := Lib.hid (C6.out.step hb7)
  have R7 := Lib.hid (R6.out.below hb7 (by omega))
  have N7 := Lib.hid (N6.out.below hb7 (by omega))
  have P7 := Lib.hid (P6.out.below hb7)
  have D7 := Lib.hid (D6.out.below hb7)
  have T7 := Lib.hid (T6.out.trans (hb7.mono (by omega)))
  have K7 := Lib.hid (K6.out.below hb7 (by omega))
  have L7 := Lib.hid (L6.out.below hb7 (by omega))
  have G7 := Lib.hid (G6.out.below hb7)
  clear C6 R6 N6 P6 D6 T6 K6 L6 G6
  clear hb7
  go_wp2_with fail
  refine (below_cm w1 g _ w7 (by omega) C7.out).mono ?_
  rintro e w8 ⟨x8, rfl, hx8, hc8, hm8⟩
  have hgz7 := C7.out.lt
  have z8 : b2 < w8.heap.size := by have := hm8.size; omega
  have C8 := Lib.hid (hc8)
  have R8 := Lib.hid (R7.out.moved hm8 (by omega))
  have N8 := Lib.hid (N7.out.moved hm8 (by omega))
  have P8 := Lib.hid (P7.out.grown_lt hm8 (fun k hk => by injection hk with hk; omega))
  have D8 := Lib.hid (D7.out.grown_lt hm8 (fun k hk => by injection hk with hk; omega))
  have T8 := Lib.hid (T7.out.trans (hm8.below (by omega) (by omega)))
  have K8 := Lib.hid (K7.out.moved hm8 (by omega))
  have L8 := Lib.hid (L7.out.moved hm8 (by omega))
  have G8 := Lib.hid (G7.out.grown_lt hm8 (fun k hk => by injection hk with hk; omega))
  clear C7 R7 N7 P7 D7 T7 K7 L7 G7
  clear hc8 hm8
  go_wp2_with fail
  refine (below_cm w1 g 2 w8 (by omega) C8.out).mono ?_
  rintro e w9 ⟨x9, rfl, hx9, hc9, hm9⟩
  have hgz8 := C8.out.lt
  have z9 : b2 < w9.heap.size := by have := hm9.size; omega
  have C9 := Lib.hid (hc9)
  have R9 := Lib.hid (R8.out.moved hm9 (by omega))
  have N9 := Lib.hid (N8.out.moved hm9 (by omega))
  have P9 := Lib.hid (P8.out.grown_lt hm9 (fun k hk => by injection hk with hk; omega))
  have D9 := Lib.hid (D8.out.grown_lt hm9 (fun k hk => by injection hk with hk; omega))
  have T9 := Lib.hid (T8.out.trans (hm9.below (by omega) (by omega)))
  have K9 := Lib.hid (K8.out.moved hm9 (by omega))
  have L9 := Lib.hid (L8.out.moved hm9 (by omega))
  have G9 := Lib.hid (G8.out.grown_lt hm9 (fun k hk => by injection hk with hk; omega))
  clear C8 R8 N8 P8 D8 T8 K8 L8 G8
  obtain ⟨ix, hix⟩ : ∃ y : Int, (x8 : Int) - (x9 : Int) = y := ⟨_, rfl⟩
  have e1 : IntKind.i64.wrap ix = ix := by rw [IntKind.wrap_i64]; omega
  have hi0 : -1 ≤ ix ∧ ix ≤ 400000 := by omega
  clear hc9 hm9
  obtain ⟨b0, b1, b2_, l0, l1, l2⟩ := (show w9.cell? ⟨b, 0, none⟩ = some (.string s) ∧ w9.cell? ⟨b, 1, none⟩ = some (.slice A n c) ∧ w9.cell? ⟨b, 2, none⟩ = some (.slice A2 m d) ∧ w9.cell? ⟨b2, 0, none⟩ = some (.int .i64 X) ∧ w9.cell? ⟨b2, 1, none⟩ = some (.int .i64 Y) ∧ w9.cell? ⟨b2, 2, none⟩ = some (.int .i64 Z) from ⟨cellOfBlk K9.out 0, cellOfBlk K9.out 1, cellOfBlk K9.out 2, cellOfBlk L9.out 0, cellOfBlk L9.out 1, cellOfBlk L9.out 2⟩)
  go_wp2_with fail
  clear hix e1 b0 b1 b2_ l0 l1 l2 hx8 hx9
  refine (l6Text_any g s A A2 n c m d w9 C9.out.1 (by omega)).mono ?_
  rintro e w10 ⟨t, rfl, ht, hcm⟩
  have hm10 := hcm.2
  have hgz9 := C9.out.lt
  have z10 : b2 < w10.heap.size := by have := hm10.size; omega
  have C10 := Lib.hid (C9.out.trans hcm)
  have R10 := Lib.hid (R9.out.moved hm10 (by omega))
  have N10 := Lib.hid (N9.out.moved hm10 (by omega))
  have P10 := Lib.hid (P9.out.grown_lt hm10 (fun k hk => by injection hk with hk; omega))
  have D10 := Lib.hid (D9.out.grown_lt hm10 (fun k hk => by injection hk with hk; omega))
  have T10 := Lib.hid (T9.out.trans (hm10.below (by omega) (by omega)))
  have K10 := Lib.hid (K9.out.moved hm10 (by omega))
  have L10 := Lib.hid (L9.out.moved hm10 (by omega))
  have G10 := Lib.hid (G9.out.grown_lt hm10 (fun k hk => by injection hk with hk; omega))
  clear C9 R9 N9 P9 D9 T9 K9 L9 G9
  clear hm10 hcm
  go_wp2_with fail
  refine (l6Words_any t w10 (by omega)).mono ?_
  rintro e w11 ⟨u11, rfl, hO11, hb11⟩
  obtain ⟨A11, c11, rfl, hS11, -, hc11, hcm11⟩ := hO11.form
  have htz := szL_words t
  have htl := szL_len (wordsB t)
  obtain ⟨tw, htw⟩ : ∃ y, wordsB t = y := ⟨_, rfl⟩
  rw [htw] at hS11 hO11 hc11 htz htl ⊢
  obtain ⟨nt, hnt⟩ : ∃ y, tw.length = y := ⟨_, rfl⟩
  rw [hnt] at hc11 htl hO11 ⊢
  have HNT := Lib.hid hnt; have S11 := Lib.hid hO11; have hg10 : g < w10.heap.size := C10.out.lt
  clear hO11 htw hnt hS11
  have z11 : b2 < w11.heap.size := by have := hb11.size; omega
  have C11 := Lib.hid (C10.out.step hb11)
  have R11 := Lib.hid (R10.out.below hb11 (by omega))
  have N11 := Lib.hid (N10.out.below hb11 (by omega))
  have P11 := Lib.hid (P10.out.below hb11)
  have D11 := Lib.hid (D10.out.below hb11)
  have T11 := Lib.hid (T10.out.trans (hb11.mono (by omega)))
  have K11 := Lib.hid (K10.out.below hb11 (by omega))
  have L11 := Lib.hid (L10.out.below hb11 (by omega))
  have G11 := Lib.hid (G10.out.below hb11)
  clear C10 R10 N10 P10 D10 T10 K10 L10 G10
  clear hb11
  go_upto_if 41 with fail
  go_cut [12] from 14 (fun tv wx => ∃ tx : ByteArray, tv = .string tx ∧ tx.size ≤ 2000 ∧ Hid (CM w1 wx g) ∧ Hid (Blk wx o1 #[.string ⟨#[]⟩, .slice none 0 0, .slice none 0 0] 25) ∧ Hid (Blk wx o2 #[.int .i64 0, .int .i64 0, .int .i64 0] 27) ∧ Hid (Own wx w1.heap.size (.slice A n c) ws) ∧ Hid (Own wx w1.heap.size (.slice A2 m d) cs) ∧ Hid (Below o1 w wx) ∧ Hid (Blk wx b #[.string s, .slice A n c, .slice A2 m d] 25) ∧ Hid (Blk wx b2 #[.int .i64 X, .int .i64 Y, .int .i64 Z] 27) ∧ Hid (OwnS wx gB (.slice Ag k c1) gl) ∧ b2 < wx.heap.size)
  case first =>
    by_cases hn0 : 0 < nt
    · by_cases h3 : 3 ≤ nt
      · have hnti : (0 : Int) < (nt : Int) := by omega
        have h3i : (3 : Int) ≤ (nt : Int) := by omega
        have h3j : ¬ (nt : Int) < 3 := by omega
        go_wp2_with fail
        refine (below_cm w1 g _ w11 (by omega) C11.out).mono ?_
        rintro e w12 ⟨q, rfl, hq, hc12, hm12⟩
        have hSq : Hid (Strs w12 A11 (tw.take q)) := by show Strs _ _ _; exact strs_take (owns_rd (S11.out.grown_lt hm12 (fun k hk => by injection hk with hk; omega)))
        have hgz11 := C11.out.lt
        have z12 : b2 < w12.heap.size := by have := hm12.size; omega
        have C12 := Lib.hid (hc12)
        have R12 := Lib.hid (R11.out.moved hm12 (by omega))
        have N12 := Lib.hid (N11.out.moved hm12 (by omega))
        have P12 := Lib.hid (P11.out.grown_lt hm12 (fun k hk => by injection hk with hk; omega))
        have D12 := Lib.hid (D11.out.grown_lt hm12 (fun k hk => by injection hk with hk; omega))
        have T12 := Lib.hid (T11.out.trans (hm12.below (by omega) (by omega)))
        have K12 := Lib.hid (K11.out.moved hm12 (by omega))
        have L12 := Lib.hid (L11.out.moved hm12 (by omega))
        have G12 := Lib.hid (G11.out.grown_lt hm12 (fun k hk => by injection hk with hk; omega))
        clear C11 R11 N11 P11 D11 T11 K11 L11 G11
        have hqn : q ≤ nt := by omega
        have hqc : (q : Int) ≤ (c11 : Int) := by omega
        have hqc2 : q ≤ c11 := by omega
        have hq0 : (0 : Int) ≤ (q : Int) := by omega
        have hlq : (tw.take q).length = q := by rw [List.length_take, HNT.out]; omega
        have htk := szL_take tw q
        clear hc12 hm12 hq
        go_wp2_with fail
        refine (l6Join_any A11 q c11 (tw.take q) w12 hlq (by omega) hSq.out).mono ?_
        rintro e w13 ⟨rfl, rfl⟩
        have hgz := gtS_size (tw.take q)
        go_wp2
        go_meet
        case rel => exact ⟨gtS (tw.take q), rfl, by omega, C12.out, R12.out, N12.out, P12.out, D12.out, T12.out, K12.out, L12.out, G12.out, z12⟩
      · have hnti : (0 : Int) < (nt : Int) := by omega
        have h3i : ¬ (3 : Int) ≤ (nt : Int) := by omega
        have h3j : (nt : Int) < 3 := by omega
        have h3k : (nt : Int) ≤ 3 := by omega
        go_wp2_with fail
        refine (below_cm w1 g _ w11 (by omega) C11.out).mono ?_
        rintro e w12 ⟨q, rfl, hq, hc12, hm12⟩
        have hSq : Hid (Strs w12 A11 (tw.take q)) := by show Strs _ _ _; exact strs_take (owns_rd (S11.out.grown_lt hm12 (fun k hk => by injection hk with hk; omega)))
        have hgz11 := C11.out.lt
        have z12 : b2 < w12.heap.size := by have := hm12.size; omega
        have C12 := Lib.hid (hc12)
        have R12 := Lib.hid (R11.out.moved hm12 (by omega))
        have N12 := Lib.hid (N11.out.moved hm12 (by omega))
        have P12 := Lib.hid (P11.out.grown_lt hm12 (fun k hk => by injection hk with hk; omega))
        have D12 := Lib.hid (D11.out.grown_lt hm12 (fun k hk => by injection hk with hk; omega))
        have T12 := Lib.hid (T11.out.trans (hm12.below (by omega) (by omega)))
        have K12 := Lib.hid (K11.out.moved hm12 (by omega))
        have L12 := Lib.hid (L11.out.moved hm12 (by omega))
        have G12 := Lib.hid (G11.out.grown_lt hm12 (fun k hk => by injection hk with hk; omega))
        clear C11 R11 N11 P11 D11 T11 K11 L11 G11
        have hqn : q ≤ nt := by omega
        have hqc : (q : Int) ≤ (c11 : Int) := by omega
        have hqc2 : q ≤ c11 := by omega
        have hq0 : (0 : Int) ≤ (q : Int) := by omega
        have hlq : (tw.take q).length = q := by rw [List.length_take, HNT.out]; omega
        have htk := szL_take tw q
        clear hc12 hm12 hq
        go_wp2_with fail
        refine (l6Join_any A11 q c11 (tw.take q) w12 hlq (by omega) hSq.out).mono ?_
        rintro e w13 ⟨rfl, rfl⟩
        have hgz := gtS_size (tw.take q)
        go_wp2
        go_meet
        case rel => exact ⟨gtS (tw.take q), rfl, by omega, C12.out, R12.out, N12.out, P12.out, D12.out, T12.out, K12.out, L12.out, G12.out, z12⟩
    · have hnti : ¬ (0 : Int) < (nt : Int) := by omega
      go_wp2
      go_meet
      case rel => exact ⟨t, rfl, by omega, C11.out, R11.out, N11.out, P11.out, D11.out, T11.out, K11.out, L11.out, G11.out, z11⟩
  case rest =>
    obtain ⟨tx, rfl, htx, C20, R20, N20, P20, D20, T20, K20, L20, G20, z20⟩ := hcut
    clear C11 R11 N11 P11 D11 T11 K11 L11 G11 z11 S11 HNT
    obtain ⟨w20, h20⟩ : ∃ x, x = wc := ⟨_, rfl⟩
    subst h20
    go_wp2_with fail
    refine wp_region_plan (.take 0 (.take 1 (.take 2 (.take 3 (.take 4 (.one 5 (.one 6 (.take 7 (.take 8 (.take 9 .done)))))))))) (fun w' => w'.cell? ⟨b, 0, none⟩ = some (.string s) ∧ w'.cell? ⟨b, 1, none⟩ = some (.slice A n c) ∧ w'.cell? ⟨b, 2, none⟩ = some (.slice A2 m d) ∧ w'.cell? ⟨b2, 0, none⟩ = some (.int .i64 X) ∧ w'.cell? ⟨b2, 1, none⟩ = some (.int .i64 Y) ∧ w'.cell? ⟨b2, 2, none⟩ = some (.int .i64 Z)) (by kernel_rfl) (by kernel_rfl) (by kernel_rfl) (by intro c a d v w h; cases d <;> exact h) ⟨cellOfBlk K20.out 0, cellOfBlk K20.out 1, cellOfBlk K20.out 2, cellOfBlk L20.out 0, cellOfBlk L20.out 1, cellOfBlk L20.out 2⟩ ?_
    obtain ⟨w21, hwd⟩ : ∃ x, w20.drew = x := ⟨_, rfl⟩
    have C21 : Hid (CM w1 w21 g) := by show CM w1 w21 g; rw [← hwd]; exact CM.drew C20.out
    have R21 : Hid (Blk w21 o1 #[.string ⟨#[]⟩, .slice none 0 0, .slice none 0 0] 25) := by show Blk w21 o1 #[.string ⟨#[]⟩, .slice none 0 0, .slice none 0 0] 25; rw [← hwd]; exact R20.out
    have N21 : Hid (Blk w21 o2 #[.int .i64 0, .int .i64 0, .int .i64 0] 27) := by show Blk w21 o2 #[.int .i64 0, .int .i64 0, .int .i64 0] 27; rw [← hwd]; exact N20.out
    have P21 : Hid (Own w21 w1.heap.size (.slice A n c) ws) := by show Own w21 w1.heap.size (.slice A n c) ws; rw [← hwd]; exact Own.drew P20.out
    have D21 : Hid (Own w21 w1.heap.size (.slice A2 m d) cs) := by show Own w21 w1.heap.size (.slice A2 m d) cs; rw [← hwd]; exact Own.drew D20.out
    have T21 : Hid (Below o1 w w21) := by show Below o1 w w21; rw [← hwd]; exact T20.out.drew
    have K21 : Hid (Blk w21 b #[.string s, .slice A n c, .slice A2 m d] 25) := by show Blk w21 b #[.string s, .slice A n c, .slice A2 m d] 25; rw [← hwd]; exact K20.out
    have L21 : Hid (Blk w21 b2 #[.int .i64 X, .int .i64 Y, .int .i64 Z] 27) := by show Blk w21 b2 #[.int .i64 X, .int .i64 Y, .int .i64 Z] 27; rw [← hwd]; exact L20.out
    have G21 : Hid (OwnS w21 gB (.slice Ag k c1) gl) := by show OwnS w21 gB (.slice Ag k c1) gl; rw [← hwd]; exact G20.out
    have z21 : b2 < w21.heap.size := by rw [← hwd]; exact z20
    rw [hwd]
    clear hwd C20 R20 N20 P20 D20 T20 K20 L20 G20
    refine plan_quiet rfl (by rfl) (v := ?_) ?_ ?_; rotate_left; (intro w1 hSw; obtain ⟨h0, h1, h2, h3, h4, h5⟩ := hSw; go_simp; try (with_reducible rfl)); (try simp only [Act.put, List.setIfInBounds_toArray, List.set_cons_zero, List.set_cons_succ])
    refine plan_quiet rfl (by rfl) (v := ?_) ?_ ?_; rotate_left; (intro w1 hSw; obtain ⟨h0, h1, h2, h3, h4, h5⟩ := hSw; go_simp; try (with_reducible rfl)); (try simp only [Act.put, List.setIfInBounds_toArray, List.set_cons_zero, List.set_cons_succ])
    refine plan_quiet rfl (by rfl) (v := ?_) ?_ ?_; rotate_left; (intro w1 hSw; obtain ⟨h0, h1, h2, h3, h4, h5⟩ := hSw; go_simp; try (with_reducible rfl)); (try simp only [Act.put, List.setIfInBounds_toArray, List.set_cons_zero, List.set_cons_succ])
    refine plan_quiet rfl (by rfl) (v := ?_) ?_ ?_; rotate_left; (intro w1 hSw; obtain ⟨h0, h1, h2, h3, h4, h5⟩ := hSw; go_simp; try (with_reducible rfl)); (try simp only [Act.put, List.setIfInBounds_toArray, List.set_cons_zero, List.set_cons_succ])
    refine plan_quiet rfl (by rfl) (v := ?_) ?_ ?_; rotate_left; (intro w1 hSw; obtain ⟨h0, h1, h2, h3, h4, h5⟩ := hSw; go_simp; try (with_reducible rfl)); (try simp only [Act.put, List.setIfInBounds_toArray, List.set_cons_zero, List.set_cons_succ])
    have ff := R21.out.warm
    obtain ⟨q0, q1, q2⟩ := (show w21.cell? ⟨o1, 0, none⟩ = some (.string ⟨#[]⟩) ∧ w21.cell? ⟨o1, 1, none⟩ = some (.slice none 0 0) ∧ w21.cell? ⟨o1, 2, none⟩ = some (.slice none 0 0) from ⟨cellOfBlk R21.out 0, cellOfBlk R21.out 1, cellOfBlk R21.out 2⟩)
    obtain ⟨w22, hy⟩ : ∃ x, (((w21.setCell ⟨o1, 0, none⟩ (.string s)).setCell ⟨o1, 1, none⟩ (.slice A n c)).setCell ⟨o1, 2, none⟩ (.slice A2 m d)) = x := ⟨_, rfl⟩
    have R22 : Hid (Blk w22 o1 #[.string s, .slice A n c, .slice A2 m d] 25) := by show Blk w22 o1 #[.string s, .slice A n c, .slice A2 m d] 25; rw [← hy]; exact (heapSet (i := 2) (heapSet (i := 1) (heapSet (i := 0) R21.out (.string s)) (.slice A n c)) (.slice A2 m d))
    have N22 : Hid (Blk w22 o2 #[.int .i64 0, .int .i64 0, .int .i64 0] 27) := by show Blk w22 o2 #[.int .i64 0, .int .i64 0, .int .i64 0] 27; rw [← hy]; exact (((N21.out.other _ _ (by show o2 ≠ o1; omega)).other _ _ (by show o2 ≠ o1; omega)).other _ _ (by show o2 ≠ o1; omega))
    have K22 : Hid (Blk w22 b #[.string s, .slice A n c, .slice A2 m d] 25) := by show Blk w22 b #[.string s, .slice A n c, .slice A2 m d] 25; rw [← hy]; exact (((K21.out.other _ _ (by show b ≠ o1; omega)).other _ _ (by show b ≠ o1; omega)).other _ _ (by show b ≠ o1; omega))
    have L22 : Hid (Blk w22 b2 #[.int .i64 X, .int .i64 Y, .int .i64 Z] 27) := by show Blk w22 b2 #[.int .i64 X, .int .i64 Y, .int .i64 Z] 27; rw [← hy]; exact (((L21.out.other _ _ (by show b2 ≠ o1; omega)).other _ _ (by show b2 ≠ o1; omega)).other _ _ (by show b2 ≠ o1; omega))
    have P22 : Hid (Own w22 w1.heap.size (.slice A n c) ws) := by show Own w22 w1.heap.size (.slice A n c) ws; rw [← hy]; exact (((P21.out.setO ⟨o1, 0, none⟩ (.string s) (fun k hk => by have := (World.ownsRow.lt P21.out k hk).1; show k ≠ o1; omega)).setO ⟨o1, 1, none⟩ (.slice A n c) (fun k hk => by have := (World.ownsRow.lt P21.out k hk).1; show k ≠ o1; omega)).setO ⟨o1, 2, none⟩ (.slice A2 m d) (fun k hk => by have := (World.ownsRow.lt P21.out k hk).1; show k ≠ o1; omega))
    have D22 : Hid (Own w22 w1.heap.size (.slice A2 m d) cs) := by show Own w22 w1.heap.size (.slice A2 m d) cs; rw [← hy]; exact (((D21.out.setO ⟨o1, 0, none⟩ (.string s) (fun k hk => by have := (World.ownsRow.lt D21.out k hk).1; show k ≠ o1; omega)).setO ⟨o1, 1, none⟩ (.slice A n c) (fun k hk => by have := (World.ownsRow.lt D21.out k hk).1; show k ≠ o1; omega)).setO ⟨o1, 2, none⟩ (.slice A2 m d) (fun k hk => by have := (World.ownsRow.lt D21.out k hk).1; show k ≠ o1; omega))
    have T22 : Hid (Below o1 w w22) := by show Below o1 w w22; rw [← hy]; exact (((T21.out.setCell (p := ⟨o1, 0, none⟩) (by show o1 ≤ o1; omega) (.string s)).setCell (p := ⟨o1, 1, none⟩) (by show o1 ≤ o1; omega) (.slice A n c)).setCell (p := ⟨o1, 2, none⟩) (by show o1 ≤ o1; omega) (.slice A2 m d))
    have G22 : Hid (OwnS w22 gB (.slice Ag k c1) gl) := by show OwnS w22 gB (.slice Ag k c1) gl; rw [← hy]; exact (chg_ownS (chgAt _ o1 2 (.slice A2 m d)) (chg_ownS (chgAt _ o1 1 (.slice A n c)) (chg_ownS (chgAt _ o1 0 (.string s)) G21.out (fun k hk => by have := (World.ownsRow.lt G21.out k hk).1; omega)) (fun k hk => by have := (World.ownsRow.lt G21.out k hk).1; omega)) (fun k hk => by have := (World.ownsRow.lt G21.out k hk).1; omega))
    have z22 : b2 < w22.heap.size := by rw [← hy, setCell_size, setCell_size, setCell_size]; exact z21
    refine plan_step rfl (fun Kc hK => ?_)
    rw [if_pos (by rfl)]
    go_simp
    (try rw [hy])
    clear hy ff q0 q1 q2 R21 N21 K21 L21 P21 D21 T21 G21 C21
    refine hK.out _ _ ⟨cellOfBlk K22.out 0, cellOfBlk K22.out 1, cellOfBlk K22.out 2, cellOfBlk L22.out 0, cellOfBlk L22.out 1, cellOfBlk L22.out 2⟩ ?_
    clear hK Kc
    have ff := N22.out.warm
    obtain ⟨q0, q1, q2⟩ := (show w22.cell? ⟨o2, 0, none⟩ = some (.int .i64 0) ∧ w22.cell? ⟨o2, 1, none⟩ = some (.int .i64 0) ∧ w22.cell? ⟨o2, 2, none⟩ = some (.int .i64 0) from ⟨cellOfBlk N22.out 0, cellOfBlk N22.out 1, cellOfBlk N22.out 2⟩)
    obtain ⟨w23, hy⟩ : ∃ x, (((w22.setCell ⟨o2, 0, none⟩ (.int .i64 X)).setCell ⟨o2, 1, none⟩ (.int .i64 Y)).setCell ⟨o2, 2, none⟩ (.int .i64 Z)) = x := ⟨_, rfl⟩
    have R23 : Hid (Blk w23 o1 #[.string s, .slice A n c, .slice A2 m d] 25) := by show Blk w23 o1 #[.string s, .slice A n c, .slice A2 m d] 25; rw [← hy]; exact (((R22.out.other _ _ (by show o1 ≠ o2; omega)).other _ _ (by show o1 ≠ o2; omega)).other _ _ (by show o1 ≠ o2; omega))
    have N23 : Hid (Blk w23 o2 #[.int .i64 X, .int .i64 Y, .int .i64 Z] 27) := by show Blk w23 o2 #[.int .i64 X, .int .i64 Y, .int .i64 Z] 27; rw [← hy]; exact (heapSet (i := 2) (heapSet (i := 1) (heapSet (i := 0) N22.out (.int .i64 X)) (.int .i64 Y)) (.int .i64 Z))
    have K23 : Hid (Blk w23 b #[.string s, .slice A n c, .slice A2 m d] 25) := by show Blk w23 b #[.string s, .slice A n c, .slice A2 m d] 25; rw [← hy]; exact (((K22.out.other _ _ (by show b ≠ o2; omega)).other _ _ (by show b ≠ o2; omega)).other _ _ (by show b ≠ o2; omega))
    have L23 : Hid (Blk w23 b2 #[.int .i64 X, .int .i64 Y, .int .i64 Z] 27) := by show Blk w23 b2 #[.int .i64 X, .int .i64 Y, .int .i64 Z] 27; rw [← hy]; exact (((L22.out.other _ _ (by show b2 ≠ o2; omega)).other _ _ (by show b2 ≠ o2; omega)).other _ _ (by show b2 ≠ o2; omega))
    have P23 : Hid (Own w23 w1.heap.size (.slice A n c) ws) := by show Own w23 w1.heap.size (.slice A n c) ws; rw [← hy]; exact (((P22.out.setO ⟨o2, 0, none⟩ (.int .i64 X) (fun k hk => by have := (World.ownsRow.lt P22.out k hk).1; show k ≠ o2; omega)).setO ⟨o2, 1, none⟩ (.int .i64 Y) (fun k hk => by have := (World.ownsRow.lt P22.out k hk).1; show k ≠ o2; omega)).setO ⟨o2, 2, none⟩ (.int .i64 Z) (fun k hk => by have := (World.ownsRow.lt P22.out k hk).1; show k ≠ o2; omega))
    have D23 : Hid (Own w23 w1.heap.size (.slice A2 m d) cs) := by show Own w23 w1.heap.size (.slice A2 m d) cs; rw [← hy]; exact (((D22.out.setO ⟨o2, 0, none⟩ (.int .i64 X) (fun k hk => by have := (World.ownsRow.lt D22.out k hk).1; show k ≠ o2; omega)).setO ⟨o2, 1, none⟩ (.int .i64 Y) (fun k hk => by have := (World.ownsRow.lt D22.out k hk).1; show k ≠ o2; omega)).setO ⟨o2, 2, none⟩ (.int .i64 Z) (fun k hk => by have := (World.ownsRow.lt D22.out k hk).1; show k ≠ o2; omega))
    have T23 : Hid (Below o1 w w23) := by show Below o1 w w23; rw [← hy]; exact (((T22.out.setCell (p := ⟨o2, 0, none⟩) (by show o1 ≤ o2; omega) (.int .i64 X)).setCell (p := ⟨o2, 1, none⟩) (by show o1 ≤ o2; omega) (.int .i64 Y)).setCell (p := ⟨o2, 2, none⟩) (by show o1 ≤ o2; omega) (.int .i64 Z))
    have G23 : Hid (OwnS w23 gB (.slice Ag k c1) gl) := by show OwnS w23 gB (.slice Ag k c1) gl; rw [← hy]; exact (chg_ownS (chgAt _ o2 2 (.int .i64 Z)) (chg_ownS (chgAt _ o2 1 (.int .i64 Y)) (chg_ownS (chgAt _ o2 0 (.int .i64 X)) G22.out (fun k hk => by have := (World.ownsRow.lt G22.out k hk).1; omega)) (fun k hk => by have := (World.ownsRow.lt G22.out k hk).1; omega)) (fun k hk => by have := (World.ownsRow.lt G22.out k hk).1; omega))
    have z23 : b2 < w23.heap.size := by rw [← hy, setCell_size, setCell_size, setCell_size]; exact z22
    refine plan_step rfl (fun Kc hK => ?_)
    rw [if_pos (by rfl)]
    go_simp
    (try rw [hy])
    clear hy ff q0 q1 q2 R22 N22 K22 L22 P22 D22 T22 G22
    refine hK.out _ _ ⟨cellOfBlk K23.out 0, cellOfBlk K23.out 1, cellOfBlk K23.out 2, cellOfBlk L23.out 0, cellOfBlk L23.out 1, cellOfBlk L23.out 2⟩ ?_
    clear hK Kc
    refine plan_quiet rfl (by rfl) (v := ?_) ?_ ?_; rotate_left; (intro w1 hSw; obtain ⟨h0, h1, h2, h3, h4, h5⟩ := hSw; go_simp; try (with_reducible rfl)); (try simp only [Act.put, List.setIfInBounds_toArray, List.set_cons_zero, List.set_cons_succ])
    refine plan_quiet rfl (by rfl) (v := ?_) ?_ ?_; rotate_left; (intro w1 hSw; obtain ⟨h0, h1, h2, h3, h4, h5⟩ := hSw; go_simp; try (with_reducible rfl)); (try simp only [Act.put, List.setIfInBounds_toArray, List.set_cons_zero, List.set_cons_succ])
    refine plan_quiet rfl (by rfl) (v := ?_) ?_ ?_; rotate_left; (intro w1 hSw; obtain ⟨h0, h1, h2, h3, h4, h5⟩ := hSw; go_simp; try (with_reducible rfl)); (try simp only [Act.put, List.setIfInBounds_toArray, List.set_cons_zero, List.set_cons_succ])
    refine plan_end ?_
    go_wp2
    obtain ⟨r0, r1, r2, s0, s1, s2⟩ := (show w23.cell? ⟨o1, 0, none⟩ = some (.string s) ∧ w23.cell? ⟨o1, 1, none⟩ = some (.slice A n c) ∧ w23.cell? ⟨o1, 2, none⟩ = some (.slice A2 m d) ∧ w23.cell? ⟨o2, 0, none⟩ = some (.int .i64 X) ∧ w23.cell? ⟨o2, 1, none⟩ = some (.int .i64 Y) ∧ w23.cell? ⟨o2, 2, none⟩ = some (.int .i64 Z) from ⟨cellOfBlk R23.out 0, cellOfBlk R23.out 1, cellOfBlk R23.out 2, cellOfBlk N23.out 0, cellOfBlk N23.out 1, cellOfBlk N23.out 2⟩)
    (try simp only [Exit.inBlock, Exit.then])
    refine bodyPost_ret (v := .tuple #[.agg #[.string s, .slice A n c, .slice A2 m d], .agg #[.int .i64 X, .int .i64 Y, .int .i64 Z], .slice Ag k c1, .int .i64 ix, .string tx]) (by simp [results, Tryz.results6, go_sem, r0, r1, r2, s0, s1, s2]) rfl ?_
    have hW : ws.length = n := HWS.out
    have hC : cs.length = m := HCS.out
    subst hW; subst hC
    have hzw : w.heap.size ≤ w1.heap.size := by have := HO1.out; omega
    exact ⟨_, ⟨s, ws, cs⟩, X, Y, Z, Ag, k, c1, gl, ix, tx, rfl, ⟨A, c, A2, d, rfl, IntsI.of_own (own_base P23.out hzw), IntsI.of_own (own_base D23.out hzw), (own_caps P23.out).1, (own_caps P23.out).2, (own_caps D23.out).1, (own_caps D23.out).2, by show s.size ≤ maxLen; unfold maxLen; omega⟩, hs24, hn24, hm24, HK.out, hk40, hgsz, owns_base G23.out (by have := HO1.out; omega), hi0.1, hi0.2, htx, by rw [HO1.out]; exact T23.out⟩
end Go.Proofs.YtobakeahbgodbaaGreat
