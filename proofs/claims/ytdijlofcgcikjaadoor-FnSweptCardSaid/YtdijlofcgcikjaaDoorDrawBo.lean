/-
  The draw of a font with a magazine, mostly: whatever the bytes, l2Both returns a font of at most 24 letters and a magazine of at most 24 rows of at most 21 matrices, in memory of its own. Condition: the cursor is whole.
-/
import Derived.Test.YtdijlofcgcikjaaDoorDrawSt
namespace Go.Proofs.YtdijlofcgcikjaaDoor
open Go.RowKit
set_option linter.unusedVariables false

def rowLen (w : World) (B i : Nat) : Nat := match w.cell? ⟨B, i, none⟩ with | some (.slice _ l _) => l | _ => 0
theorem rowLen_at {w : World} {B i l c : Nat} {A : Option Addr} (h : w.cell? ⟨B, i, none⟩ = some (.slice A l c)) : rowLen w B i = l := by unfold rowLen; rw [h]
theorem MagI.take {w : World} {lo hi : Nat} {A : Option Addr} {ms : List (List Mat)} (h : MagI w lo hi A ms) (k : Nat) : MagI w lo hi A (ms.take k) := fun hn => by
  rw [List.length_take] at hn
  obtain ⟨ad, e, h1, h2, hc⟩ := h (by omega)
  refine ⟨ad, e, h1, h2, fun j xs hx => ?_⟩
  rw [List.getElem?_take] at hx
  split at hx
  · exact hc j xs hx
  · cases hx
theorem StkB.mono {a b : Nat} {ms : List (List Mat)} (h : StkB a ms) (hab : a ≤ b) : StkB b ms := fun xs hx => ⟨Nat.le_trans (h xs hx).1 hab, (h xs hx).2⟩
theorem StkB.take {a : Nat} {ms : List (List Mat)} (h : StkB a ms) (k : Nat) : StkB a (ms.take k) := fun xs hx => h xs (List.mem_of_mem_take hx)
theorem StkB.put {a j : Nat} {ms : List (List Mat)} {ys : List Mat} (h : StkB a ms) (hl : ys.length ≤ a) (hy : ∀ x ∈ ys, -1 ≤ x.1 ∧ x.1 ≤ 24 ∧ 0 ≤ x.2 ∧ x.2 ≤ 128) : StkB a (ms.set j ys) := fun xs hx => by
  rcases List.mem_or_eq_of_mem_set hx with hx | rfl
  · exact h xs hx
  · exact ⟨hl, hy⟩
/-- what a draw of a font with a magazine returns -/
def BDraw (w w' : World) (g : Nat) (s : ByteArray) (ws cs : List Int) (ms : List (List Mat)) (u v : Value) : Prop :=
  ∃ A n c A2 m d B nn cc, u = .agg #[.string s, .slice A n c, .slice A2 m d] ∧ v = .slice (some ⟨B, 0, none⟩) nn cc ∧ s.size ≤ 24 ∧ ws.length = n ∧ n ≤ 24 ∧ cs.length = m ∧ m ≤ 24 ∧ (∀ x ∈ cs, 0 ≤ x ∧ x ≤ 128) ∧ ms.length = nn ∧ nn ≤ cc ∧ cc ≤ 24 ∧ StkB 21 ms ∧ w.heap.size < B ∧
    Own w' (w.heap.size + 1) (.slice A n c) ws ∧ Own w' (w.heap.size + 1) (.slice A2 m d) cs ∧ MagI w' B w'.heap.size (some ⟨B, 0, none⟩) ms ∧ CM w w' g
set_option maxRecDepth 100000 in
set_option maxHeartbeats 12800000 in
theorem l2Both_any (g : Nat) (w : World) (hc : Cur w g) :
    Calls Tryd.prog 37 #[.pointer (some ⟨g, 0, none⟩)] w fun e w' => ∃ u v s ws cs ms, e = .returned (.tuple #[u, v]) ∧ BDraw w w' g s ws cs ms u v := by
  have hgw := hc.lt
  obtain ⟨w0, hw0, hb0, hz0, R0⟩ := mxWorld w #[.string ⟨#[]⟩, .slice none 0 0, .slice none 0 0] 25
  have C0 := (CM.of hc).step hb0
  clear hc
  go_enter Tryd.func37, Tryd.ntmps37
  go_wp2_with fail
  clear hw0
  refine (l2AnyW_any g w0 C0.1).mono ?_
  rintro e w1 ⟨v, s, ws, cs, rfl, hF, hbd⟩
  obtain ⟨A, n, c, A2, m, d, rfl, hs24, hw1, hn24, hc1, hm24, hO1, hO2, hcm⟩ := hF
  rw [hz0] at hO1 hO2
  have hC1 := C0.trans hcm
  have hR1 := R0.moved hcm.2 (by omega)
  have z1 : w.heap.size + 1 ≤ w1.heap.size := by have := hcm.2.size; omega
  have HBD := Lib.hid hbd; have HWS := Lib.hid hw1; have HCS := Lib.hid hc1
  clear C0 hz0 hb0 R0 hcm hbd hw1 hc1
  go_wp2_with fail
  obtain ⟨w2, hw2, hb2, hz2, hK2⟩ := mxWorld w1 #[.string s, .slice A n c, .slice A2 m d] 25
  obtain ⟨b, hb⟩ : ∃ y, w1.heap.size = y := ⟨_, rfl⟩
  have C2 := Lib.hid (hC1.step hb2); have R2 := Lib.hid (hR1.below hb2 (by omega)); have P2 := Lib.hid (hO1.below hb2); have D2 := Lib.hid (hO2.below hb2)
  rw [hw2, hb]
  rw [hb] at hz2 hK2 z1
  have K2 := Lib.hid hK2
  have zb2 : b < w2.heap.size := by omega
  clear hC1 hR1 hO1 hO2 hb2 hK2 hw2 hb hz2
  obtain ⟨N, hN⟩ : ∃ y, s.size = y := ⟨_, rfl⟩
  have NP2 := (fun q hq => (World.ownsRow.lt P2.out q hq).2 : ∀ q, (Value.slice A n c).ownBlock = some q → q < w2.heap.size)
  have ND2 := (fun q hq => (World.ownsRow.lt D2.out q hq).2 : ∀ q, (Value.slice A2 m d).ownBlock = some q → q < w2.heap.size)
  refine (l2Stock_any g (w.heap.size + 1) s A A2 n c m d cs w2 C2.out.1 hs24 (by omega) HCS.out hm24 D2.out HBD.out).mono ?_
  rintro e w3 ⟨B, hs, ms, rfl, hBw, hM, hml, hst, hcm⟩
  have NP := Lib.hid (fun q hq => Nat.lt_of_lt_of_le (NP2 q hq) hBw : ∀ q, (Value.slice A n c).ownBlock = some q → q < B)
  have ND := Lib.hid (fun q hq => Nat.lt_of_lt_of_le (ND2 q hq) hBw : ∀ q, (Value.slice A2 m d).ownBlock = some q → q < B)
  clear NP2 ND2
  rw [hN] at hM hml hs24 ⊢
  have HN := Lib.hid hN
  have hbB : b < B := by omega
  clear hN hBw
  have hm3 := hcm.2
  have zb3 : b < w3.heap.size := by have := hm3.size; omega
  have C3 := Lib.hid (C2.out.trans hcm)
  have R3 := Lib.hid (R2.out.moved hm3 (by omega))
  have K3 := Lib.hid (K2.out.moved hm3 (by omega))
  have P3 := Lib.hid (P2.out.grown_lt hm3 (fun k hk => by injection hk with hk; omega))
  have D3 := Lib.hid (D2.out.grown_lt hm3 (fun k hk => by injection hk with hk; omega))
  clear C2 R2 K2 P2 D2
  have M3_ := Lib.hid hM
  have M3 := M3_
  clear M3_
  have zh3 : w3.heap.size ≤ w3.heap.size := Nat.le_refl _
  have HST := Lib.hid hst; have HML := Lib.hid hml
  have hBh : B < w3.heap.size := M3.out.top B rfl
  clear hM hst hml hcm hm3
  go_upto_region 3 with fail
  go_cut [18] from 7 (fun cv wx => ∃ bb : Bool, (bb = true → 0 < N) ∧ cv = .bool bb ∧ Hid (CM w wx g) ∧ Hid (Blk wx w.heap.size #[.string ⟨#[]⟩, .slice none 0 0, .slice none 0 0] 25) ∧ Hid (Blk wx b #[.string s, .slice A n c, .slice A2 m d] 25) ∧ Hid (Own wx (w.heap.size + 1) (.slice A n c) ws) ∧ Hid (Own wx (w.heap.size + 1) (.slice A2 m d) cs) ∧ Hid (OwnMag wx B w3.heap.size (.slice (some ⟨B, 0, none⟩) N N) hs ms) ∧ b < wx.heap.size ∧ w3.heap.size ≤ wx.heap.size)
  case first =>
    by_cases hNN : 0 < N
    · have hN0 : (0 : Int) < (N : Int) := by omega
      go_wp2_with fail
      refine (once_cm w g _ w3 C3.out).mono ?_
      rintro e w4 ⟨bb, rfl, hc4, hm4⟩
      have zb4 : b < w4.heap.size := by have := hm4.size; omega
      have zh4 : w3.heap.size ≤ w4.heap.size := by have := hm4.size; omega
      have C4 := Lib.hid (hc4)
      have R4 := Lib.hid (R3.out.moved hm4 (by omega))
      have K4 := Lib.hid (K3.out.moved hm4 (by omega))
      have P4 := Lib.hid (P3.out.grown_lt hm4 (fun k hk => by injection hk with hk; omega))
      have D4 := Lib.hid (D3.out.grown_lt hm4 (fun k hk => by injection hk with hk; omega))
      have M4 := Lib.hid (M3.out.chg (chg_moved hm4) (.inr (by omega)))
      clear C3 R3 K3 P3 D3 M3
      clear hc4 hm4
      go_wp2
      go_meet
      case rel => exact ⟨bb, fun _ => hNN, rfl, C4.out, R4.out, K4.out, P4.out, D4.out, M4.out, zb4, zh4⟩
    · have hN0 : ¬ (0 : Int) < (N : Int) := by omega
      go_wp2
      go_meet
      case rel => exact ⟨false, (fun h => by cases h), rfl, C3.out, R3.out, K3.out, P3.out, D3.out, M3.out, zb3, zh3⟩
  case rest =>
    obtain ⟨bb, hbN, rfl, C5, R5, K5, P5, D5, M5, zb5, zh5⟩ := hcut
    clear C3 R3 K3 P3 D3 M3 zb3
    obtain ⟨w5, h5⟩ : ∃ x, x = wc := ⟨_, rfl⟩
    subst h5
    go_upto_if 18 with fail
    go_cut [5] from 6 (fun mv wx => ∃ (ms : List (List Mat)) (nn cc : Nat), mv = .slice (some ⟨B, 0, none⟩) nn cc ∧ ms.length = nn ∧ nn ≤ cc ∧ cc ≤ 24 ∧ Hid (StkB 21 ms) ∧ Hid (MagI wx B wx.heap.size (some ⟨B, 0, none⟩) ms) ∧ Hid (CM w wx g) ∧ Hid (Blk wx w.heap.size #[.string ⟨#[]⟩, .slice none 0 0, .slice none 0 0] 25) ∧ Hid (Blk wx b #[.string s, .slice A n c, .slice A2 m d] 25) ∧ Hid (Own wx (w.heap.size + 1) (.slice A n c) ws) ∧ Hid (Own wx (w.heap.size + 1) (.slice A2 m d) cs) ∧ b < wx.heap.size)
    case first =>
      cases bb
      · go_wp2
        go_meet
        case rel => exact ⟨ms, N, N, rfl, HML.out, Nat.le_refl _, hs24, HST.out.mono (by omega), (M5.out.hi zh5).reads, C5.out, R5.out, K5.out, P5.out, D5.out, zb5⟩
      · have hN0 := hbN rfl
        have hN1 : (0 : Int) < (N : Int) := by omega
        go_wp2_with fail
        refine (below_cm w g _ w5 hN1 C5.out).mono ?_
        rintro e w6 ⟨i, rfl, hi, hc6, hm6⟩
        have zb6 : b < w6.heap.size := by have := hm6.size; omega
        have zh6 : w3.heap.size ≤ w6.heap.size := by have := hm6.size; omega
        have C6 := Lib.hid (hc6)
        have R6 := Lib.hid (R5.out.moved hm6 (by omega))
        have K6 := Lib.hid (K5.out.moved hm6 (by omega))
        have P6 := Lib.hid (P5.out.grown_lt hm6 (fun k hk => by injection hk with hk; omega))
        have D6 := Lib.hid (D5.out.grown_lt hm6 (fun k hk => by injection hk with hk; omega))
        have M6 := Lib.hid (M5.out.chg (chg_moved hm6) (.inr (by omega)))
        clear C5 R5 K5 P5 D5 M5
        clear hc6 hm6
        go_wp2_with fail
        refine (below_cm w g 3 w6 (by omega) C6.out).mono ?_
        rintro e w7 ⟨k, rfl, hk, hc7, hm7⟩
        have zb7 : b < w7.heap.size := by have := hm7.size; omega
        have zh7 : w3.heap.size ≤ w7.heap.size := by have := hm7.size; omega
        have C7 := Lib.hid (hc7)
        have R7 := Lib.hid (R6.out.moved hm7 (by omega))
        have K7 := Lib.hid (K6.out.moved hm7 (by omega))
        have P7 := Lib.hid (P6.out.grown_lt hm7 (fun k hk => by injection hk with hk; omega))
        have D7 := Lib.hid (D6.out.grown_lt hm7 (fun k hk => by injection hk with hk; omega))
        have M7 := Lib.hid (M6.out.chg (chg_moved hm7) (.inr (by omega)))
        clear C6 R6 K6 P6 D6 M6
        clear hc7 hm7
        have hiN : i < ms.length := by rw [HML.out]; omega
        obtain ⟨xs, hxs⟩ : ∃ xs, ms[i]? = some xs := ⟨_, List.getElem?_eq_getElem hiN⟩
        have HX := Lib.hid hxs
        have hxb := Lib.hid (HST.out xs (List.mem_of_getElem? hxs))
        clear hiN hxs
        by_cases hk0 : k = 0
        · subst hk0
          obtain ⟨h0, hh0, hO0⟩ := M7.out.rows i xs HX.out
          have ho := M7.out.outer
          rw [HML.out] at ho
          have hC1 := (ho.cellAt i (by omega)).trans hh0
          have fz := ho.frozenAt i
          have HH0 := Lib.hid hh0
          obtain ⟨Ar, cr, rfl, -⟩ := hO0.form
          obtain ⟨l, hl⟩ : ∃ y, xs.length = y := ⟨_, rfl⟩
          have HL := Lib.hid hl
          rw [hl] at hC1
          have hO1 := hO0
          clear hh0 hO0 ho hl
          go_wp2_with fail
          refine wp_region_planT 13 (.take 0 (.take 1 (.take 2 (.take 3 (.take 4 (.take 5 (.take 6 (.one 7 (.take 8 (.take 9 (.one 10 (.one 11 (.take 12 (.last 13)))))))))))))) (fun w' => w'.cell? ⟨B, i, none⟩ = some (.slice Ar l cr)) (by kernel_rfl) (by kernel_rfl) (by kernel_rfl) (by intro c a d v w h; cases d <;> exact h) hC1 ?_
          replace hC1 : w7.drew.cell? ⟨B, i, none⟩ = some (.slice Ar l cr) := hC1
          replace hO1 : OwnM w7.drew B (.slice Ar xs.length cr) xs := hO1
          obtain ⟨w8, hwd⟩ : ∃ x, w7.drew = x := ⟨_, rfl⟩
          have C8 : Hid (CM w w8 g) := by show CM w w8 g; rw [← hwd]; exact CM.drew C7.out
          have R8 : Hid (Blk w8 w.heap.size #[.string ⟨#[]⟩, .slice none 0 0, .slice none 0 0] 25) := by show Blk w8 w.heap.size #[.string ⟨#[]⟩, .slice none 0 0, .slice none 0 0] 25; rw [← hwd]; exact R7.out
          have K8 : Hid (Blk w8 b #[.string s, .slice A n c, .slice A2 m d] 25) := by show Blk w8 b #[.string s, .slice A n c, .slice A2 m d] 25; rw [← hwd]; exact K7.out
          have P8 : Hid (Own w8 (w.heap.size + 1) (.slice A n c) ws) := by show Own w8 (w.heap.size + 1) (.slice A n c) ws; rw [← hwd]; exact Own.drew P7.out
          have D8 : Hid (Own w8 (w.heap.size + 1) (.slice A2 m d) cs) := by show Own w8 (w.heap.size + 1) (.slice A2 m d) cs; rw [← hwd]; exact Own.drew D7.out
          have M8 : Hid (OwnMag w8 B w3.heap.size (.slice (some ⟨B, 0, none⟩) N N) hs ms) := by show OwnMag w8 B w3.heap.size (.slice (some ⟨B, 0, none⟩) N N) hs ms; rw [← hwd]; exact magDrew M7.out
          have zb8 : b < w8.heap.size := by rw [← hwd]; exact zb7
          have zh8 : w3.heap.size ≤ w8.heap.size := by rw [← hwd]; exact zh7
          rw [hwd] at hC1 hO1 ⊢
          clear hwd C7 R7 K7 P7 D7 M7
          refine planT_quiet rfl (by rfl) (v := ?_) ?_ ?_; rotate_left; (intro w1 h0; go_simp; try (with_reducible rfl)); (try simp only [Act.put, List.setIfInBounds_toArray, List.set_cons_zero, List.set_cons_succ])
          refine planT_quiet rfl (by rfl) (v := ?_) ?_ ?_; rotate_left; (intro w1 h0; go_simp; try (with_reducible rfl)); (try simp only [Act.put, List.setIfInBounds_toArray, List.set_cons_zero, List.set_cons_succ])
          refine planT_quiet rfl (by rfl) (v := ?_) ?_ ?_; rotate_left; (intro w1 h0; go_simp; try (with_reducible rfl)); (try simp only [Act.put, List.setIfInBounds_toArray, List.set_cons_zero, List.set_cons_succ])
          refine planT_quiet rfl (by rfl) (v := ?_) ?_ ?_; rotate_left; (intro w1 h0; go_simp; try (with_reducible rfl)); (try simp only [Act.put, List.setIfInBounds_toArray, List.set_cons_zero, List.set_cons_succ])
          refine planT_quiet rfl (by rfl) (v := ?_) ?_ ?_; rotate_left; (intro w1 h0; go_simp; try (with_reducible rfl)); (try simp only [Act.put, List.setIfInBounds_toArray, List.set_cons_zero, List.set_cons_succ])
          refine planT_quiet rfl (by rfl) (v := ?_) ?_ ?_; rotate_left; (intro w1 h0; go_simp; try (with_reducible rfl)); (try simp only [Act.put, List.setIfInBounds_toArray, List.set_cons_zero, List.set_cons_succ])
          refine planT_quiet rfl (by rfl) (v := ?_) ?_ ?_; rotate_left; (intro w1 h0; go_simp; try (with_reducible rfl)); (try simp only [Act.put, List.setIfInBounds_toArray, List.set_cons_zero, List.set_cons_succ])
          refine planT_step rfl (fun Kc hK => ?_)
          rw [if_pos (by rfl)]
          go_simp
          refine (below_cm w g _ w8 (by omega) C8.out).mono ?_
          rintro e w9 ⟨x, rfl, hx, hcx, hmx⟩
          have hC2 := ((chg_moved hmx).cell (p := ⟨B, i, none⟩) (World.block_lt_of_cell? _ _ hC1) (by show ¬ (g ≤ B ∧ B < g + 1); omega)).trans hC1
          have hO2 := hO1.chg (chg_moved hmx) (fun q hq h => by have := (World.ownsRow.lt hO1 q hq).1; omega)
          have zb9 : b < w9.heap.size := by have := hmx.size; omega
          have zh9 : w3.heap.size ≤ w9.heap.size := by have := hmx.size; omega
          have C9 := Lib.hid (hcx)
          have R9 := Lib.hid (R8.out.moved hmx (by omega))
          have K9 := Lib.hid (K8.out.moved hmx (by omega))
          have P9 := Lib.hid (P8.out.grown_lt hmx (fun k hk => by injection hk with hk; omega))
          have D9 := Lib.hid (D8.out.grown_lt hmx (fun k hk => by injection hk with hk; omega))
          have M9 := Lib.hid (M8.out.chg (chg_moved hmx) (.inr (by omega)))
          clear C8 R8 K8 P8 D8 M8
          clear hcx hmx hC1 hO1
          refine hK.out _ _ hC2 ?_
          clear hK Kc
          obtain ⟨kx, hkx⟩ : ∃ y : Int, (x : Int) - 1 = y := ⟨_, rfl⟩
          have ek : IntKind.i64.wrap kx = kx := by rw [IntKind.wrap_i64]; omega
          have hk1 : -1 ≤ kx ∧ kx ≤ 24 := by omega
          refine planT_quiet rfl (by rfl) (v := ?_) ?_ ?_; rotate_left; (intro w1 h0; go_simp; try (with_reducible rfl)); (try simp only [Act.put, List.setIfInBounds_toArray, List.set_cons_zero, List.set_cons_succ])
          refine planT_quiet rfl (by rfl) (v := ?_) ?_ ?_; rotate_left; (intro w1 h0; go_simp; try (with_reducible rfl)); (try simp only [Act.put, List.setIfInBounds_toArray, List.set_cons_zero, List.set_cons_succ])
          clear hkx ek
          refine planT_step rfl (fun Kc hK => ?_)
          rw [if_pos (by rfl)]
          go_simp
          have hbl : Below w9.heap.size w9 (w9.alloc (.cells #[.int .i64 kx, .int .i64 127] 30)) := below_new _ _
          have HNn : MatsI (w9.alloc (.cells #[.int .i64 kx, .int .i64 127] 30)) w9.heap.size (w9.heap.size + 1) (some ⟨w9.heap.size, 0, none⟩) [(kx, (127 : Int))] := mats_one _ _
          obtain ⟨w10, hwl⟩ : ∃ x, w9.alloc (.cells #[.int .i64 kx, .int .i64 127] 30) = x := ⟨_, rfl⟩
          rw [hwl] at hbl HNn
          (try rw [hwl])
          clear hwl
          have hO3 := hO2.below hbl
          have hC3 := (hbl.cell (World.block_lt_of_cell? _ _ hC2)).trans hC2
          clear hO2 hC2
          obtain ⟨nb, hnb⟩ : ∃ y, w9.heap.size = y := ⟨_, rfl⟩
          rw [hnb] at HNn
          have hnbs := hbl.size
          (try rw [hnb])
          have zb10 : b < w10.heap.size := by have := hbl.size; omega
          have zh10 : w3.heap.size ≤ w10.heap.size := by have := hbl.size; omega
          have C10 := Lib.hid (C9.out.step hbl)
          have R10 := Lib.hid (R9.out.below hbl (by omega))
          have K10 := Lib.hid (K9.out.below hbl (by omega))
          have P10 := Lib.hid (P9.out.below hbl)
          have D10 := Lib.hid (D9.out.below hbl)
          have M10 := Lib.hid (M9.out.below hbl)
          clear C9 R9 K9 P9 D9 M9
          refine hK.out _ _ hC3 ?_
          clear hK Kc hbl hnb
          refine planT_step rfl (fun Kc hK => ?_)
          refine step_app_mat2 (by rfl) (.tmp 48) (.tmp 53) rfl B nb (nb + 1) (.slice Ar l cr) xs [(kx, (127 : Int))] (some ⟨nb, 0, none⟩) 1 1 rfl rfl rfl (by omega) HNn (by have h := hO3; rw [HL.out] at h; exact h) (by omega) (by rw [HL.out]; have := hxb.out.1; rw [HL.out] at this; omega) ?_
          intro v5 w11 hO5 hg5 hf5
          rw [HL.out] at hO3
          have hHH : hs[i]? = some (.slice Ar l cr) := by rw [← HL.out]; exact HH0.out
          have hk5 := M10.out.kept (h := .slice Ar l cr) hHH hg5
          rw [HML.out] at hk5
          have hst := M10.out.store HX.out (h := .slice Ar l cr) hHH hg5 hO5 (by rcases hf5 with h | h; exact .inl h; exact .inr (fun k hk => by rw [h] at hk; injection hk with hk; omega)) zh10
          obtain ⟨A5, c5, rfl, -⟩ := hO5.form
          have hl5 : (xs ++ [(kx, (127 : Int))]).length = l + 1 := by rw [List.length_append, HL.out]; rfl
          rw [hl5] at hst hO5 ⊢
          have d5 := (hk5.cellAt i (by omega)).trans hHH
          have f5 := hk5.frozenAt i
          have hlt5 := fun k hk => World.ownsRow.lt hO3 k hk
          have K11 := Lib.hid (K10.out.grownO hg5 (fun e => by have := (hlt5 _ e).1; omega)); have R11 := Lib.hid (R10.out.grownO hg5 (fun e => by have := (hlt5 _ e).1; omega)); have P11 := Lib.hid (P10.out.grownO hg5 (fun q hq e => by have h1 := NP.out q hq; have h2 := (hlt5 q e).1; omega)); have D11 := Lib.hid (D10.out.grownO hg5 (fun q hq e => by have h1 := ND.out q hq; have h2 := (hlt5 q e).1; omega))
          have C11 : Hid (CM w w11 g) := C10.out.belowB ((Below.refl B w10).grown hg5 (by omega) (fun q hq => (hlt5 q hq).1)) (by omega) hgw
          have zs5 := hg5.size
          have zb11 : b < w11.heap.size := by omega
          refine hK.out _ _ d5 ?_
          clear hK Kc
          refine planT_quiet rfl (by rfl) (v := ?_) ?_ ?_; rotate_left; (intro w1 h0; go_simp; try (with_reducible rfl)); (try simp only [Act.put, List.setIfInBounds_toArray, List.set_cons_zero, List.set_cons_succ])
          have C12 : Hid (CM w (w11.setCell ⟨B, i, none⟩ (.slice A5 (l + 1) c5)) g) := C11.out.set (by show w.heap.size ≤ B; omega) hgw _
          have R12 : Hid (Blk (w11.setCell ⟨B, i, none⟩ (.slice A5 (l + 1) c5)) w.heap.size #[.string ⟨#[]⟩, .slice none 0 0, .slice none 0 0] 25) := R11.out.other _ _ (by show w.heap.size ≠ B; omega)
          have K12 : Hid (Blk (w11.setCell ⟨B, i, none⟩ (.slice A5 (l + 1) c5)) b #[.string s, .slice A n c, .slice A2 m d] 25) := K11.out.other _ _ (by show b ≠ B; omega)
          have P12 : Hid (Own (w11.setCell ⟨B, i, none⟩ (.slice A5 (l + 1) c5)) (w.heap.size + 1) (.slice A n c) ws) := P11.out.setO _ _ (fun q hq => by have := NP.out q hq; show q ≠ B; omega)
          have D12 : Hid (Own (w11.setCell ⟨B, i, none⟩ (.slice A5 (l + 1) c5)) (w.heap.size + 1) (.slice A2 m d) cs) := D11.out.setO _ _ (fun q hq => by have := ND.out q hq; show q ≠ B; omega)
          have M9 := Lib.hid hst
          have zb12 : b < (w11.setCell ⟨B, i, none⟩ (.slice A5 (l + 1) c5)).heap.size := by rw [setCell_size]; exact zb11
          have hNB : StkB 21 (ms.set i (xs ++ [(kx, (127 : Int))])) := (HST.out.mono (by omega)).put (by rw [List.length_append]; have := hxb.out.1; simp; omega) (fun y hy => by rcases List.mem_append.1 hy with h | h; exact hxb.out.2 y h; rw [List.mem_singleton] at h; subst h; exact ⟨hk1.1, hk1.2, by simp, by simp⟩)
          have HNB := Lib.hid hNB
          refine planT_last rfl (fun Kc hK => ?_)
          rw [if_pos (by rfl)]
          go_simp
          refine hK.out _ _ ?_
          clear hK Kc
          go_wp2
          go_meet
          case rel => exact ⟨_, N, N, rfl, by rw [List.length_set]; exact HML.out, Nat.le_refl _, hs24, HNB.out, M9.out.reads, C12.out, R12.out, K12.out, P12.out, D12.out, zb12⟩
        by_cases hk1 : k = 1
        · subst hk1
          obtain ⟨N1, hN1⟩ : ∃ y, N = y + 1 := ⟨N - 1, by omega⟩
          have e1 : (N : Int) - 1 = (N1 : Int) := by omega
          have e2 : IntKind.i64.wrap (N1 : Int) = (N1 : Int) := by rw [IntKind.wrap_i64]; omega
          have e3 : N1 ≤ N := by omega
          have e4 : (N1 : Int) ≤ (N : Int) := by omega
          have HN1 := Lib.hid hN1
          clear hN1
          go_wp2
          go_meet
          case rel => exact ⟨ms.take N1, N1, N, rfl, by rw [List.length_take, HML.out]; have := HN1.out; omega, e3, hs24, (HST.out.take _).mono (by omega), (M7.out.hi zh7).reads.take _, C7.out, R7.out, K7.out, P7.out, D7.out, zb7⟩
        have e0 : ((k : Int) == 0) = false := by simp; omega
        have e1 : ((k : Int) == 1) = false := by simp; omega
        go_wp2
        go_loopw [25] (fun _ wr => ∃ (hs : List Value) (ms : List (List Mat)) (xs : List Mat) (hi : Nat), Hid (ms.length = N) ∧ Hid (StkB 21 ms) ∧ Hid (ms[i]? = some xs) ∧ Hid (CM w wr g) ∧ Hid (Blk wr w.heap.size #[.string ⟨#[]⟩, .slice none 0 0, .slice none 0 0] 25) ∧ Hid (Blk wr b #[.string s, .slice A n c, .slice A2 m d] 25) ∧ Hid (Own wr (w.heap.size + 1) (.slice A n c) ws) ∧ Hid (Own wr (w.heap.size + 1) (.slice A2 m d) cs) ∧ Hid (OwnMag wr B hi (.slice (some ⟨B, 0, none⟩) N N) hs ms) ∧ b < wr.heap.size ∧ hi ≤ wr.heap.size) (fun _ wr => 21 - rowLen wr B i)
        case atStart => exact ⟨_, _, xs, _, HML.out, HST.out.mono (by omega), HX.out, C7.out, R7.out, K7.out, P7.out, D7.out, M7.out, zb7, zh7⟩
        case round =>
          clear hxb HX
          obtain ⟨hs, ms, xs, hi, HLM, HST, HX, C8, R8, K8, P8, D8, M8, zb8, zh8⟩ := hrel
          obtain ⟨w8, h8⟩ : ∃ x, x = wr := ⟨_, rfl⟩
          subst h8
          have hBh8 : B < hi := M8.out.top B rfl
          obtain ⟨h0, hh0, hO0⟩ := M8.out.rows i xs HX.out
          have ho := M8.out.outer
          rw [HLM.out] at ho
          have hC1 := (ho.cellAt i (by omega)).trans hh0
          have fz := ho.frozenAt i
          have HH0 := Lib.hid hh0
          obtain ⟨Ar, cr, rfl, -⟩ := hO0.form
          obtain ⟨l, hl⟩ : ∃ y, xs.length = y := ⟨_, rfl⟩
          have HL := Lib.hid hl
          rw [hl] at hC1
          have hO1 := hO0
          clear hh0 hO0 ho hl
          have hxb := Lib.hid (HST.out xs (List.mem_of_getElem? HX.out))
          by_cases hl21 : l < 21
          · have hll : (l : Int) < 21 := by omega
            rw [HL.out] at hO1
            go_wp2_with (at_builtin; refine wpl_push_mat _ rfl (.tmp 36) (.tmp 38) rfl B _ xs (0, 0) rfl rfl hO1 (by omega) (by rw [HL.out]; omega) ?_; intro v5 w9 hO5 hg5 hf5; have hO3 := hO1; have hHH : hs[i]? = some (.slice Ar l cr) := (by rw [← HL.out]; exact HH0.out); have hk5 := M8.out.kept (h := .slice Ar l cr) hHH hg5; rw [HLM.out] at hk5; have hst := M8.out.store HX.out (h := .slice Ar l cr) hHH hg5 hO5 hf5 zh8; obtain ⟨A5, c5, rfl, -⟩ := hO5.form; have hl5 : (xs ++ [((0 : Int), (0 : Int))]).length = l + 1 := (by rw [List.length_append, HL.out]; rfl); rw [hl5] at hst hO5 ⊢; have d5 := (hk5.cellAt i (by omega)).trans hHH; have f5 := hk5.frozenAt i; have hlt5 := fun k hk => World.ownsRow.lt hO3 k hk; have K9 := Lib.hid (K8.out.grownO hg5 (fun e => by have := (hlt5 _ e).1; omega)); have R9 := Lib.hid (R8.out.grownO hg5 (fun e => by have := (hlt5 _ e).1; omega)); have P9 := Lib.hid (P8.out.grownO hg5 (fun q hq e => by have h1 := NP.out q hq; have h2 := (hlt5 q e).1; omega)); have D9 := Lib.hid (D8.out.grownO hg5 (fun q hq e => by have h1 := ND.out q hq; have h2 := (hlt5 q e).1; omega)); have C9 : Hid (CM w w9 g) := C8.out.belowB ((Below.refl B w8).grown hg5 (by omega) (fun q hq => (hlt5 q hq).1)) (by omega) hgw; have zs5 := hg5.size; have zb9 : b < w9.heap.size := (by omega); have C10 : Hid (CM w (w9.setCell ⟨B, i, none⟩ (.slice A5 (l + 1) c5)) g) := C9.out.set (by show w.heap.size ≤ B; omega) hgw _; have R10 : Hid (Blk (w9.setCell ⟨B, i, none⟩ (.slice A5 (l + 1) c5)) w.heap.size #[.string ⟨#[]⟩, .slice none 0 0, .slice none 0 0] 25) := R9.out.other _ _ (by show w.heap.size ≠ B; omega); have K10 : Hid (Blk (w9.setCell ⟨B, i, none⟩ (.slice A5 (l + 1) c5)) b #[.string s, .slice A n c, .slice A2 m d] 25) := K9.out.other _ _ (by show b ≠ B; omega); have P10 : Hid (Own (w9.setCell ⟨B, i, none⟩ (.slice A5 (l + 1) c5)) (w.heap.size + 1) (.slice A n c) ws) := P9.out.setO _ _ (fun q hq => by have := NP.out q hq; show q ≠ B; omega); have D10 : Hid (Own (w9.setCell ⟨B, i, none⟩ (.slice A5 (l + 1) c5)) (w.heap.size + 1) (.slice A2 m d) cs) := D9.out.setO _ _ (fun q hq => by have := ND.out q hq; show q ≠ B; omega); have M9 := Lib.hid hst; have zb10 : b < (w9.setCell ⟨B, i, none⟩ (.slice A5 (l + 1) c5)).heap.size := (by rw [setCell_size]; exact zb9))
            have hk1 : (-1 : Int) ≤ 0 ∧ (0 : Int) ≤ 24 := by omega
            have hNB : StkB 21 (ms.set i (xs ++ [((0 : Int), (0 : Int))])) := HST.out.put (by rw [List.length_append]; rw [HL.out]; simp; omega) (fun y hy => by rcases List.mem_append.1 hy with h | h; exact hxb.out.2 y h; rw [List.mem_singleton] at h; subst h; exact ⟨hk1.1, hk1.2, by simp, by simp⟩)
            have hCs : (w9.setCell ⟨B, i, none⟩ (.slice A5 (l + 1) c5)).cell? ⟨B, i, none⟩ = some (.slice A5 (l + 1) c5) := World.cell?_setCell_same _ _ _ (by rw [d5])
            go_roundw
            case rel => exact ⟨_, _, _, _, by show _ = _; rw [List.length_set]; exact HLM.out, hNB, by show _ = _; exact List.getElem?_set_self (by have := (List.getElem?_eq_some_iff.1 HX.out).1; exact this), C10.out, R10.out, K10.out, P10.out, D10.out, M9.out, zb10, Nat.le_refl _⟩
            case measure => rw [rowLen_at hC1, rowLen_at (w := (w9.setCell ⟨B, i, none⟩ (.slice A5 (l + 1) c5))) hCs]; omega
          · have hll : ¬ (l : Int) < 21 := by omega
            go_wp2
            go_meet
            case rel => exact ⟨ms, N, N, rfl, HLM.out, Nat.le_refl _, hs24, HST.out, (M8.out.hi zh8).reads, C8.out, R8.out, K8.out, P8.out, D8.out, zb8⟩
    case rest =>
      obtain ⟨ms, nn, cc, rfl, hml, hnc, hcc, HST2, HM2, C20, R20, K20, P20, D20, zb20⟩ := hcut
      clear C5 R5 K5 P5 D5 M5 zb5 zh5 HST HML
      obtain ⟨w20, h20⟩ : ∃ x, x = wc := ⟨_, rfl⟩
      subst h20
      obtain ⟨b0, b1, b2⟩ := (show w20.cell? ⟨b, 0, none⟩ = some (.string s) ∧ w20.cell? ⟨b, 1, none⟩ = some (.slice A n c) ∧ w20.cell? ⟨b, 2, none⟩ = some (.slice A2 m d) from ⟨cellOfBlk K20.out 0, cellOfBlk K20.out 1, cellOfBlk K20.out 2⟩)
      obtain ⟨q0, q1, q2⟩ := (show w20.cell? ⟨w.heap.size, 0, none⟩ = some (.string ⟨#[]⟩) ∧ w20.cell? ⟨w.heap.size, 1, none⟩ = some (.slice none 0 0) ∧ w20.cell? ⟨w.heap.size, 2, none⟩ = some (.slice none 0 0) from ⟨cellOfBlk R20.out 0, cellOfBlk R20.out 1, cellOfBlk R20.out 2⟩)
      have ff := R20.out.warm
      obtain ⟨y, hy⟩ : ∃ x, (((w20.setCell ⟨w.heap.size, 0, none⟩ (.string s)).setCell ⟨w.heap.size, 1, none⟩ (.slice A n c)).setCell ⟨w.heap.size, 2, none⟩ (.slice A2 m d)) = x := ⟨_, rfl⟩
      have HR4 : Blk y w.heap.size #[.string s, .slice A n c, .slice A2 m d] 25 := by rw [← hy]; exact (heapSet (i := 2) (heapSet (i := 1) (heapSet (i := 0) R20.out (.string s)) (.slice A n c)) (.slice A2 m d))
      have HW4 : Hid (Own y (w.heap.size + 1) (.slice A n c) ws) := by show Own _ _ _ _; rw [← hy]; exact (((P20.out.setO ⟨w.heap.size, 0, none⟩ (.string s) (fun k hk => by have := World.ownsRow.lt P20.out k hk; show k ≠ w.heap.size; omega)).setO ⟨w.heap.size, 1, none⟩ (.slice A n c) (fun k hk => by have := World.ownsRow.lt P20.out k hk; show k ≠ w.heap.size; omega)).setO ⟨w.heap.size, 2, none⟩ (.slice A2 m d) (fun k hk => by have := World.ownsRow.lt P20.out k hk; show k ≠ w.heap.size; omega))
      have HC4 : Hid (Own y (w.heap.size + 1) (.slice A2 m d) cs) := by show Own _ _ _ _; rw [← hy]; exact (((D20.out.setO ⟨w.heap.size, 0, none⟩ (.string s) (fun k hk => by have := World.ownsRow.lt D20.out k hk; show k ≠ w.heap.size; omega)).setO ⟨w.heap.size, 1, none⟩ (.slice A n c) (fun k hk => by have := World.ownsRow.lt D20.out k hk; show k ≠ w.heap.size; omega)).setO ⟨w.heap.size, 2, none⟩ (.slice A2 m d) (fun k hk => by have := World.ownsRow.lt D20.out k hk; show k ≠ w.heap.size; omega))
      have HM4 : Hid (CM w y g) := by show CM _ _ _; rw [← hy]; exact (((C20.out.set (p := ⟨w.heap.size, 0, none⟩) (Nat.le_refl _) hgw (.string s)).set (p := ⟨w.heap.size, 1, none⟩) (Nat.le_refl _) hgw (.slice A n c)).set (p := ⟨w.heap.size, 2, none⟩) (Nat.le_refl _) hgw (.slice A2 m d))
      have HG4 : Hid (MagI y B y.heap.size (some ⟨B, 0, none⟩) ms) := by show MagI _ _ _ _ _; rw [← hy]; simp only [setCell_size]; exact ((HM2.out.chg (chg_set _ w.heap.size 0 _) (Nat.le_refl _) (.inr (by omega))).chg (chg_set _ w.heap.size 1 _) (by rw [setCell_size]; exact Nat.le_refl _) (.inr (by omega))).chg (chg_set _ w.heap.size 2 _) (by rw [setCell_size, setCell_size]; exact Nat.le_refl _) (.inr (by omega))
      have HR5 := Lib.hid HR4
      clear HR4 R20 K20 P20 D20 C20 HM2
      go_wp2
      clear hy b0 b1 b2 q0 q1 q2 ff
      obtain ⟨r0, r1, r2⟩ := (show y.cell? ⟨w.heap.size, 0, none⟩ = some (.string s) ∧ y.cell? ⟨w.heap.size, 1, none⟩ = some (.slice A n c) ∧ y.cell? ⟨w.heap.size, 2, none⟩ = some (.slice A2 m d) from ⟨cellOfBlk HR5.out 0, cellOfBlk HR5.out 1, cellOfBlk HR5.out 2⟩)
      (try simp only [Exit.inBlock, Exit.then])
      refine bodyPost_ret (v := .tuple #[.agg #[.string s, .slice A n c, .slice A2 m d], .slice (some ⟨B, 0, none⟩) nn cc]) (by simp [results, Tryd.results37, go_sem, r0, r1, r2]) rfl ?_
      exact ⟨_, _, s, ws, cs, ms, rfl, A, n, c, A2, m, d, B, nn, cc, rfl, rfl, by rw [HN.out]; exact hs24, HWS.out, hn24, HCS.out, hm24, HBD.out, hml, hnc, hcc, HST2.out, by omega, HW4.out, HC4.out, HG4.out, HM4.out⟩
end Go.Proofs.YtdijlofcgcikjaaDoor
