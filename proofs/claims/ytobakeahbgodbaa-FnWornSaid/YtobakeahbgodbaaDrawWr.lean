/-
  The draws of a font with a magazine and more: DrawWearMatrix. Whatever the bytes: a font of at most 24 letters, a magazine of at most 24 rows of at most 21 matrices, numbers. Condition: the bytes are bytes.
-/
import Derived.Test.YtobakeahbgodbaaDrawBo
import Derived.Test.YtobakeahbgodbaaDrawFi
namespace Go.Proofs.Ytobakeahbgodbaa
open Go.RowKit
set_option linter.unusedVariables false

/-- a font and a magazine in memory of the call's own, as a draw returns them -/
def MagD (w w' : World) (u v : Value) (f : Fnt) (ms : List (List Mat)) : Prop :=
  ∃ B nn cc, v = .slice (some ⟨B, 0, none⟩) nn cc ∧ f.s.size ≤ 24 ∧ f.ws.length ≤ 24 ∧ f.cs.length ≤ 24 ∧ (∀ x ∈ f.cs, 0 ≤ x ∧ x ≤ 128) ∧ ms.length = nn ∧ nn ≤ cc ∧ cc ≤ 24 ∧ StkB 21 ms ∧
    FontV w' w.heap.size w'.heap.size u f ∧ MagI w' w.heap.size w'.heap.size (some ⟨B, 0, none⟩) ms ∧ Below w.heap.size w w'
set_option maxRecDepth 100000 in
set_option maxHeartbeats 12800000 in
theorem drawWear_any (A : Option Addr) (n c : Nat) (bs : List Int) (w : World) (hn : bs.length = n) (hm : n ≤ maxLen) (h : Bytes w A bs) (wf : ∀ z ∈ bs, (Lit.int .u8 z).wf = true) :
    Calls Try.prog 9 #[.slice A n c] w fun e w' => ∃ u v f ms ch i t, e = .returned (.tuple #[u, v, .int .i64 ch, .int .i64 i, .int .i64 t]) ∧ MagD w w' u v f ms := by
  have Hn := Lib.hid hn; have Hwf := Lib.hid wf
  obtain ⟨w0, hw0, hb0, hz0, R0⟩ := mxWorld w #[.string ⟨#[]⟩, .slice none 0 0, .slice none 0 0] 25
  obtain ⟨o1, ho1⟩ : ∃ y, w.heap.size = y := ⟨_, rfl⟩
  have HO1 := Lib.hid ho1
  rw [ho1] at hb0 hz0 R0
  have H := Lib.hid (bytes_below h (by rw [ho1]; exact hb0))
  go_enter Try.func9, Try.ntmps9
  go_wp2_with fail
  clear hw0 ho1 hn wf h
  refine (l01New_any _ _ _ bs _ Hn.out hm H.out Hwf.out).mono ?_
  rintro e w1 ⟨rfl, hc1, hb1, hs1⟩
  obtain ⟨g, hg⟩ : ∃ g, w0.heap.size = g := ⟨_, rfl⟩
  rw [hg] at hc1 hs1 hb1 hz0
  rw [hg]
  have T1 := Lib.hid (hb0.trans (hb1.mono (by omega : o1 ≤ g)))
  have R1 := Lib.hid (R0.below hb1 (by omega))
  have hgw : g < w1.heap.size := hc1.lt
  have HC1 := Lib.hid hc1
  have hgo : o1 < g := by omega
  clear hb1 hb0 R0 H hg Hwf hc1 hs1 hz0
  clear Hn
  go_wp2_with fail
  refine (l2Both_any g w1 HC1.out).mono ?_
  rintro e w2 ⟨u, v, s, ws, cs, ms, rfl, hBD⟩
  obtain ⟨A, n, c, A2, m, d, B, nn, cc, rfl, rfl, hs24, hws, hn24, hcs, hm24, hbd, hml, hnc, hcc, hst, hB, hP, hD, hI, hcm⟩ := hBD
  have hm2 := hcm.2
  have T2 := Lib.hid (T1.out.trans (hm2.below (by omega) (by omega)))
  have R2 := Lib.hid (R1.out.moved hm2 (by omega))
  have hsz2 := hm2.size
  have P2 := Lib.hid hP; have D2 := Lib.hid hD; have I2 := Lib.hid hI; have C2 := Lib.hid hcm
  have HWS := Lib.hid hws; have HCS := Lib.hid hcs; have HBD := Lib.hid hbd; have HML := Lib.hid hml; have HST := Lib.hid hst
  clear T1 R1 HC1 hm2 hws hcs hbd hml hst hP hD hI hcm
  go_wp2_with fail
  obtain ⟨w3, hw3, hb3, hz3, hK3⟩ := mxWorld w2 #[.string s, .slice A n c, .slice A2 m d] 25
  obtain ⟨b, hb⟩ : ∃ y, w2.heap.size = y := ⟨_, rfl⟩
  have C3 := Lib.hid (C2.out.step hb3); have R3 := Lib.hid (R2.out.below hb3 (by omega)); have P3 := Lib.hid (P2.out.below hb3); have D3 := Lib.hid (D2.out.below hb3)
  have I3 := Lib.hid (I2.out.below (Nat.le_refl _) hb3); have T3 := Lib.hid (T2.out.trans (hb3.mono (by omega)))
  rw [hw3, hb]
  rw [hb] at hz3 hK3 hsz2 I3
  have K3 := Lib.hid hK3
  obtain ⟨hi, hhi⟩ : ∃ y, b = y := ⟨_, rfl⟩
  have zb3 : b < w3.heap.size := by omega
  have zh3 : hi ≤ w3.heap.size := by omega
  have I3 : Hid (MagI w3 B hi (some ⟨B, 0, none⟩) ms) := by show MagI _ _ _ _ _; rw [← hhi]; exact I3.out
  have hbhi : hi ≤ b := by omega
  clear C2 R2 P2 D2 I2 T2 hb3 hK3 hw3 hb hz3 hhi
  refine (below_cm w1 g _ w3 (by omega) C3.out).mono ?_
  rintro e w4 ⟨x4, rfl, hx4, hc4, hm4⟩
  have zb4 : b < w4.heap.size := by have := hm4.size; omega
  have zh4 : hi ≤ w4.heap.size := by have := hm4.size; omega
  have C4 := Lib.hid (hc4)
  have R4 := Lib.hid (R3.out.moved hm4 (by omega))
  have K4 := Lib.hid (K3.out.moved hm4 (by omega))
  have P4 := Lib.hid (P3.out.grown_lt hm4 (fun k hk => by injection hk with hk; omega))
  have D4 := Lib.hid (D3.out.grown_lt hm4 (fun k hk => by injection hk with hk; omega))
  have I4 := Lib.hid (I3.out.chg (chg_moved hm4) zh3 (.inr (by omega)))
  have T4 := Lib.hid (T3.out.trans (hm4.below (by omega) (by omega)))
  clear C3 R3 K3 P3 D3 I3 T3
  obtain ⟨ch, hch⟩ : ∃ y : Int, (x4 : Int) - 1 = y := ⟨_, rfl⟩
  have e4 : IntKind.i64.wrap ch = ch := by rw [IntKind.wrap_i64]; omega
  clear hc4 hm4
  go_wp2_with fail
  have hcb : -1 ≤ ch ∧ ch ≤ 25 := by omega
  clear hch e4 hx4
  refine (below_cm w1 g 5 w4 (by omega) C4.out).mono ?_
  rintro e w5 ⟨x5, rfl, hx5, hc5, hm5⟩
  have zb5 : b < w5.heap.size := by have := hm5.size; omega
  have zh5 : hi ≤ w5.heap.size := by have := hm5.size; omega
  have C5 := Lib.hid (hc5)
  have R5 := Lib.hid (R4.out.moved hm5 (by omega))
  have K5 := Lib.hid (K4.out.moved hm5 (by omega))
  have P5 := Lib.hid (P4.out.grown_lt hm5 (fun k hk => by injection hk with hk; omega))
  have D5 := Lib.hid (D4.out.grown_lt hm5 (fun k hk => by injection hk with hk; omega))
  have I5 := Lib.hid (I4.out.chg (chg_moved hm5) zh4 (.inr (by omega)))
  have T5 := Lib.hid (T4.out.trans (hm5.below (by omega) (by omega)))
  clear C4 R4 K4 P4 D4 I4 T4
  obtain ⟨i5, hi5⟩ : ∃ y : Int, (x5 : Int) - 1 = y := ⟨_, rfl⟩
  have e4 : IntKind.i64.wrap i5 = i5 := by rw [IntKind.wrap_i64]; omega
  obtain ⟨y1, hy1⟩ : ∃ y : Int, (nn : Int) - 1 = y := ⟨_, rfl⟩
  have e5 : IntKind.i64.wrap y1 = y1 := by rw [IntKind.wrap_i64]; omega
  clear hc5 hm5
  go_wp2_with fail
  clear hi5 e4 hx5 e5
  refine (l1In_any ch 0 y1 w5).mono ?_
  rintro e w6 ⟨rfl, rfl⟩
  obtain ⟨q, hq⟩ : ∃ q, inB ch 0 y1 = q := ⟨_, rfl⟩
  rw [hq]
  go_upto_if 32 with fail
  go_cut [11] from 12 (fun iv wx => ∃ i : Int, iv = .int .i64 i ∧ Hid (CM w1 wx g) ∧ Hid (Blk wx o1 #[.string ⟨#[]⟩, .slice none 0 0, .slice none 0 0] 25) ∧ Hid (Blk wx b #[.string s, .slice A n c, .slice A2 m d] 25) ∧ Hid (Own wx (w1.heap.size + 1) (.slice A n c) ws) ∧ Hid (Own wx (w1.heap.size + 1) (.slice A2 m d) cs) ∧ Hid (MagI wx B hi (some ⟨B, 0, none⟩) ms) ∧ Hid (Below o1 w wx) ∧ b < wx.heap.size ∧ hi ≤ wx.heap.size)
  case first =>
    cases q
    · go_wp2
      go_meet
      case rel => exact ⟨i5, rfl, C5.out, R5.out, K5.out, P5.out, D5.out, I5.out, T5.out, zb5, zh5⟩
    · obtain ⟨hq0, hq1⟩ := inB_true hq
      obtain ⟨cn, rfl⟩ := Int.eq_ofNat_of_zero_le hq0
      obtain ⟨ad, xs, Aj, cj, hA, hx, hcell, -⟩ := I5.out.at_ (k := cn) (by rw [HML.out]; omega)
      injection hA with hA
      subst hA
      rw [show (⟨B, 0, none⟩ : Addr).add cn = ⟨B, cn, none⟩ from by by_cases h0 : cn = 0 <;> simp [Addr.add, h0]] at hcell
      have hxl := (HST.out xs (List.mem_of_getElem? hx.out)).1
      obtain ⟨l, hl⟩ : ∃ y, xs.length = y := ⟨_, rfl⟩
      rw [hl] at hcell hxl
      obtain ⟨l1, hl1⟩ : ∃ y, l + 1 = y := ⟨_, rfl⟩
      have e6 : (l : Int) + 1 = (l1 : Int) := by omega
      have e7 : IntKind.i64.wrap (l1 : Int) = (l1 : Int) := by rw [IntKind.wrap_i64]; omega
      have e8 : (0 : Int) < (l1 : Int) := by omega
      have hcn : (cn : Int) < (nn : Int) := by omega
      have hcn2 : cn < nn := by omega
      go_wp2_with fail
      refine (below_cm w1 g _ w5 e8 C5.out).mono ?_
      rintro e w6 ⟨x6, rfl, hx6, hc6, hm6⟩
      have zb6 : b < w6.heap.size := by have := hm6.size; omega
      have zh6 : hi ≤ w6.heap.size := by have := hm6.size; omega
      have C6 := Lib.hid (hc6)
      have R6 := Lib.hid (R5.out.moved hm6 (by omega))
      have K6 := Lib.hid (K5.out.moved hm6 (by omega))
      have P6 := Lib.hid (P5.out.grown_lt hm6 (fun k hk => by injection hk with hk; omega))
      have D6 := Lib.hid (D5.out.grown_lt hm6 (fun k hk => by injection hk with hk; omega))
      have I6 := Lib.hid (I5.out.chg (chg_moved hm6) zh5 (.inr (by omega)))
      have T6 := Lib.hid (T5.out.trans (hm6.below (by omega) (by omega)))
      clear C5 R5 K5 P5 D5 I5 T5
      clear hc6 hm6
      go_wp2
      go_meet
      case rel => exact ⟨x6, rfl, C6.out, R6.out, K6.out, P6.out, D6.out, I6.out, T6.out, zb6, zh6⟩
  case rest =>
    obtain ⟨i, rfl, C10, R10, K10, P10, D10, I10, T10, zb10, zh10⟩ := hcut
    clear C5 R5 K5 P5 D5 I5 T5 zb5 zh5
    obtain ⟨w10, h10⟩ : ∃ x, x = wc := ⟨_, rfl⟩
    subst h10
    obtain ⟨b0, b1, b2⟩ := (show w10.cell? ⟨b, 0, none⟩ = some (.string s) ∧ w10.cell? ⟨b, 1, none⟩ = some (.slice A n c) ∧ w10.cell? ⟨b, 2, none⟩ = some (.slice A2 m d) from ⟨cellOfBlk K10.out 0, cellOfBlk K10.out 1, cellOfBlk K10.out 2⟩)
    go_wp2_with fail
    clear b0 b1 b2
    refine wp_region_plan (.take 0 (.take 1 (.take 2 (.take 3 (.take 4 (.one 5 (.one 6 (.one 7 (.take 8 (.take 9 (.take 10 (.take 11 .done)))))))))))) (fun w' => w'.cell? ⟨b, 0, none⟩ = some (.string s) ∧ w'.cell? ⟨b, 1, none⟩ = some (.slice A n c) ∧ w'.cell? ⟨b, 2, none⟩ = some (.slice A2 m d)) (by kernel_rfl) (by kernel_rfl) (by kernel_rfl) (by intro c a d v w h; cases d <;> exact h) ⟨cellOfBlk K10.out 0, cellOfBlk K10.out 1, cellOfBlk K10.out 2⟩ ?_
    obtain ⟨w11, hwd⟩ : ∃ x, w10.drew = x := ⟨_, rfl⟩
    have C11 : Hid (CM w1 w11 g) := by show CM w1 w11 g; rw [← hwd]; exact CM.drew C10.out
    have R11 : Hid (Blk w11 o1 #[.string ⟨#[]⟩, .slice none 0 0, .slice none 0 0] 25) := by show Blk w11 o1 #[.string ⟨#[]⟩, .slice none 0 0, .slice none 0 0] 25; rw [← hwd]; exact R10.out
    have K11 : Hid (Blk w11 b #[.string s, .slice A n c, .slice A2 m d] 25) := by show Blk w11 b #[.string s, .slice A n c, .slice A2 m d] 25; rw [← hwd]; exact K10.out
    have P11 : Hid (Own w11 (w1.heap.size + 1) (.slice A n c) ws) := by show Own w11 (w1.heap.size + 1) (.slice A n c) ws; rw [← hwd]; exact Own.drew P10.out
    have D11 : Hid (Own w11 (w1.heap.size + 1) (.slice A2 m d) cs) := by show Own w11 (w1.heap.size + 1) (.slice A2 m d) cs; rw [← hwd]; exact Own.drew D10.out
    have I11 : Hid (MagI w11 B hi (some ⟨B, 0, none⟩) ms) := by show MagI w11 B hi (some ⟨B, 0, none⟩) ms; rw [← hwd]; exact I10.out
    have T11 : Hid (Below o1 w w11) := by show Below o1 w w11; rw [← hwd]; exact T10.out.drew
    have zb11 : b < w11.heap.size := by rw [← hwd]; exact zb10
    have zh11 : hi ≤ w11.heap.size := by rw [← hwd]; exact zh10
    rw [hwd]
    clear hwd C10 R10 K10 P10 D10 I10 T10
    refine plan_quiet rfl (by rfl) (v := ?_) ?_ ?_; rotate_left; (intro w1 hSw; obtain ⟨h0, h1, h2⟩ := hSw; go_simp; try (with_reducible rfl)); (try simp only [Act.put, List.setIfInBounds_toArray, List.set_cons_zero, List.set_cons_succ])
    refine plan_quiet rfl (by rfl) (v := ?_) ?_ ?_; rotate_left; (intro w1 hSw; obtain ⟨h0, h1, h2⟩ := hSw; go_simp; try (with_reducible rfl)); (try simp only [Act.put, List.setIfInBounds_toArray, List.set_cons_zero, List.set_cons_succ])
    refine plan_quiet rfl (by rfl) (v := ?_) ?_ ?_; rotate_left; (intro w1 hSw; obtain ⟨h0, h1, h2⟩ := hSw; go_simp; try (with_reducible rfl)); (try simp only [Act.put, List.setIfInBounds_toArray, List.set_cons_zero, List.set_cons_succ])
    refine plan_quiet rfl (by rfl) (v := ?_) ?_ ?_; rotate_left; (intro w1 hSw; obtain ⟨h0, h1, h2⟩ := hSw; go_simp; try (with_reducible rfl)); (try simp only [Act.put, List.setIfInBounds_toArray, List.set_cons_zero, List.set_cons_succ])
    refine plan_quiet rfl (by rfl) (v := ?_) ?_ ?_; rotate_left; (intro w1 hSw; obtain ⟨h0, h1, h2⟩ := hSw; go_simp; try (with_reducible rfl)); (try simp only [Act.put, List.setIfInBounds_toArray, List.set_cons_zero, List.set_cons_succ])
    refine plan_step rfl (fun Kc hK => ?_)
    rw [if_pos (by rfl)]
    go_simp
    have HLit := Lib.hid (lit_ints w11 [0, 1, 2, 3, 4, 5, 6, 0, 1, 2, 3, 4, (-1), 7])
    have hbl : Below w11.heap.size w11 (w11.alloc (.cells #[.int .i64 0, .int .i64 1, .int .i64 2, .int .i64 3, .int .i64 4, .int .i64 5, .int .i64 6, .int .i64 0, .int .i64 1, .int .i64 2, .int .i64 3, .int .i64 4, .int .i64 (-1), .int .i64 7] 3)) := below_new _ _
    obtain ⟨w12, hwl⟩ : ∃ x, w11.alloc (.cells #[.int .i64 0, .int .i64 1, .int .i64 2, .int .i64 3, .int .i64 4, .int .i64 5, .int .i64 6, .int .i64 0, .int .i64 1, .int .i64 2, .int .i64 3, .int .i64 4, .int .i64 (-1), .int .i64 7] 3) = x := ⟨_, rfl⟩
    have HLit2 : Hid (IntsB w12 (w11.heap.size + 1) (some ⟨w11.heap.size, 0, none⟩) [0, 1, 2, 3, 4, 5, 6, 0, 1, 2, 3, 4, (-1), 7]) := by show IntsB _ _ _ _; rw [← hwl]; exact HLit.out
    rw [hwl] at hbl
    (try rw [hwl])
    clear hwl HLit
    have zb12 : b < w12.heap.size := by have := hbl.size; omega
    have zh12 : hi ≤ w12.heap.size := by have := hbl.size; omega
    have C12 := Lib.hid (C11.out.step hbl)
    have R12 := Lib.hid (R11.out.below hbl (by omega))
    have K12 := Lib.hid (K11.out.below hbl (by omega))
    have P12 := Lib.hid (P11.out.below hbl)
    have D12 := Lib.hid (D11.out.below hbl)
    have I12 := Lib.hid (I11.out.below zh11 hbl)
    have T12 := Lib.hid (T11.out.trans (hbl.mono (by omega)))
    clear C11 R11 K11 P11 D11 I11 T11
    clear hbl
    refine hK.out _ _ ⟨cellOfBlk K12.out 0, cellOfBlk K12.out 1, cellOfBlk K12.out 2⟩ ?_
    clear hK Kc
    refine plan_step rfl (fun Kc hK => ?_)
    rw [if_pos (by rfl)]
    go_simp
    refine (l01Int_any g (some ⟨w11.heap.size, 0, none⟩) 14 14 (w11.heap.size + 1) [0, 1, 2, 3, 4, 5, 6, 0, 1, 2, 3, 4, (-1), 7] w12 C12.out.1 rfl (by unfold maxLen; omega) (by omega) HLit2.out (fun ad had => by injection had with had; subst had; show w11.heap.size ≠ g; omega)).mono ?_
    rintro e w13 ⟨t, rfl, hx, hcu, ht2⟩
    have hm13 := ht2.moved
    have hc13 : CM w1 w13 g := ⟨hcu, C12.out.2.trans hm13⟩
    clear hcu ht2 HLit2 hx
    have zb13 : b < w13.heap.size := by have := hm13.size; omega
    have zh13 : hi ≤ w13.heap.size := by have := hm13.size; omega
    have C13 := Lib.hid (hc13)
    have R13 := Lib.hid (R12.out.moved hm13 (by omega))
    have K13 := Lib.hid (K12.out.moved hm13 (by omega))
    have P13 := Lib.hid (P12.out.grown_lt hm13 (fun k hk => by injection hk with hk; omega))
    have D13 := Lib.hid (D12.out.grown_lt hm13 (fun k hk => by injection hk with hk; omega))
    have I13 := Lib.hid (I12.out.chg (chg_moved hm13) zh12 (.inr (by omega)))
    have T13 := Lib.hid (T12.out.trans (hm13.below (by omega) (by omega)))
    clear C12 R12 K12 P12 D12 I12 T12
    clear hm13 hc13
    refine hK.out _ _ ⟨cellOfBlk K13.out 0, cellOfBlk K13.out 1, cellOfBlk K13.out 2⟩ ?_
    clear hK Kc
    have ff := R13.out.warm
    obtain ⟨q0, q1, q2⟩ := (show w13.cell? ⟨o1, 0, none⟩ = some (.string ⟨#[]⟩) ∧ w13.cell? ⟨o1, 1, none⟩ = some (.slice none 0 0) ∧ w13.cell? ⟨o1, 2, none⟩ = some (.slice none 0 0) from ⟨cellOfBlk R13.out 0, cellOfBlk R13.out 1, cellOfBlk R13.out 2⟩)
    obtain ⟨y, hy⟩ : ∃ x, (((w13.setCell ⟨o1, 0, none⟩ (.string s)).setCell ⟨o1, 1, none⟩ (.slice A n c)).setCell ⟨o1, 2, none⟩ (.slice A2 m d)) = x := ⟨_, rfl⟩
    have HR4 : Hid (Blk y o1 #[.string s, .slice A n c, .slice A2 m d] 25) := by show Blk _ _ _ _; rw [← hy]; exact (heapSet (i := 2) (heapSet (i := 1) (heapSet (i := 0) R13.out (.string s)) (.slice A n c)) (.slice A2 m d))
    have HK4 : Hid (Blk y b #[.string s, .slice A n c, .slice A2 m d] 25) := by show Blk _ _ _ _; rw [← hy]; exact (((K13.out.other _ _ (by show b ≠ o1; omega)).other _ _ (by show b ≠ o1; omega)).other _ _ (by show b ≠ o1; omega))
    have HW4 : Hid (Own y (w1.heap.size + 1) (.slice A n c) ws) := by show Own _ _ _ _; rw [← hy]; exact (((P13.out.setO ⟨o1, 0, none⟩ (.string s) (fun k hk => by have := (World.ownsRow.lt P13.out k hk).1; show k ≠ o1; omega)).setO ⟨o1, 1, none⟩ (.slice A n c) (fun k hk => by have := (World.ownsRow.lt P13.out k hk).1; show k ≠ o1; omega)).setO ⟨o1, 2, none⟩ (.slice A2 m d) (fun k hk => by have := (World.ownsRow.lt P13.out k hk).1; show k ≠ o1; omega))
    have HC4 : Hid (Own y (w1.heap.size + 1) (.slice A2 m d) cs) := by show Own _ _ _ _; rw [← hy]; exact (((D13.out.setO ⟨o1, 0, none⟩ (.string s) (fun k hk => by have := (World.ownsRow.lt D13.out k hk).1; show k ≠ o1; omega)).setO ⟨o1, 1, none⟩ (.slice A n c) (fun k hk => by have := (World.ownsRow.lt D13.out k hk).1; show k ≠ o1; omega)).setO ⟨o1, 2, none⟩ (.slice A2 m d) (fun k hk => by have := (World.ownsRow.lt D13.out k hk).1; show k ≠ o1; omega))
    have HT4 : Hid (Below o1 w y) := by show Below _ _ _; rw [← hy]; exact (((T13.out.setCell (p := ⟨o1, 0, none⟩) (Nat.le_refl _) (.string s)).setCell (p := ⟨o1, 1, none⟩) (Nat.le_refl _) (.slice A n c)).setCell (p := ⟨o1, 2, none⟩) (Nat.le_refl _) (.slice A2 m d))
    have hzy : y.heap.size = w13.heap.size := by rw [← hy, setCell_size, setCell_size, setCell_size]
    have HG4 : Hid (MagI y o1 y.heap.size (some ⟨B, 0, none⟩) ms) := by show MagI _ _ _ _ _; rw [hzy, ← hy]; exact (((I13.out.chg (chg_set _ o1 0 _) zh13 (.inr (by omega))).chg (chg_set _ o1 1 _) (by rw [setCell_size]; exact zh13) (.inr (by omega))).chg (chg_set _ o1 2 _) (by rw [setCell_size, setCell_size]; exact zh13) (.inr (by omega))).wide (by omega) zh13
    refine plan_step rfl (fun Kc hK => ?_)
    rw [if_pos (by rfl)]
    go_simp
    (try rw [hy])
    clear hy ff q0 q1 q2 hzy C13 R13 K13 P13 D13 I13 T13
    refine hK.out _ _ ⟨cellOfBlk HK4.out 0, cellOfBlk HK4.out 1, cellOfBlk HK4.out 2⟩ ?_
    clear hK Kc
    refine plan_quiet rfl (by rfl) (v := ?_) ?_ ?_; rotate_left; (intro w1 hSw; obtain ⟨h0, h1, h2⟩ := hSw; go_simp; try (with_reducible rfl)); (try simp only [Act.put, List.setIfInBounds_toArray, List.set_cons_zero, List.set_cons_succ])
    refine plan_quiet rfl (by rfl) (v := ?_) ?_ ?_; rotate_left; (intro w1 hSw; obtain ⟨h0, h1, h2⟩ := hSw; go_simp; try (with_reducible rfl)); (try simp only [Act.put, List.setIfInBounds_toArray, List.set_cons_zero, List.set_cons_succ])
    refine plan_quiet rfl (by rfl) (v := ?_) ?_ ?_; rotate_left; (intro w1 hSw; obtain ⟨h0, h1, h2⟩ := hSw; go_simp; try (with_reducible rfl)); (try simp only [Act.put, List.setIfInBounds_toArray, List.set_cons_zero, List.set_cons_succ])
    refine plan_quiet rfl (by rfl) (v := ?_) ?_ ?_; rotate_left; (intro w1 hSw; obtain ⟨h0, h1, h2⟩ := hSw; go_simp; try (with_reducible rfl)); (try simp only [Act.put, List.setIfInBounds_toArray, List.set_cons_zero, List.set_cons_succ])
    refine plan_end ?_
    go_wp2
    obtain ⟨r0, r1, r2⟩ := (show y.cell? ⟨o1, 0, none⟩ = some (.string s) ∧ y.cell? ⟨o1, 1, none⟩ = some (.slice A n c) ∧ y.cell? ⟨o1, 2, none⟩ = some (.slice A2 m d) from ⟨cellOfBlk HR4.out 0, cellOfBlk HR4.out 1, cellOfBlk HR4.out 2⟩)
    (try simp only [Exit.inBlock, Exit.then])
    refine bodyPost_ret (v := .tuple #[.agg #[.string s, .slice A n c, .slice A2 m d], .slice (some ⟨B, 0, none⟩) nn cc, .int .i64 ch, .int .i64 i, .int .i64 t]) (by simp [results, Try.results9, go_sem, r0, r1, r2]) rfl ?_
    have hW : ws.length = n := HWS.out
    have hC : cs.length = m := HCS.out
    subst hW; subst hC
    have hzw : w.heap.size ≤ w1.heap.size + 1 := by have := HO1.out; omega
    exact ⟨_, _, ⟨s, ws, cs⟩, ms, ch, i, t, rfl, B, nn, cc, rfl, hs24, hn24, hm24, HBD.out, HML.out, hnc, hcc, HST.out, ⟨A, c, A2, d, rfl, IntsI.of_own (own_base HW4.out hzw), IntsI.of_own (own_base HC4.out hzw), (own_caps HW4.out).1, (own_caps HW4.out).2, (own_caps HC4.out).1, (own_caps HC4.out).2, by show s.size ≤ maxLen; unfold maxLen; omega⟩, by rw [HO1.out]; exact HG4.out, by rw [HO1.out]; exact HT4.out⟩
end Go.Proofs.Ytobakeahbgodbaa
