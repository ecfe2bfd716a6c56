/-
  The draw of a galley: whatever the bytes, l6Galley returns at most 40 strings in memory of its own. Conditions: the cursor is whole; the font lies behind it.
-/
import Derived.Test.YtobakeahbgodbaaGreatDrawTx
import Derived.Test.YtobakeahbgodbaaGreatDrawMe
import Derived.Test.YtobakeahbgodbaaGreatDrawFa
import Derived.Test.YtobakeahbgodbaaGreatRepS
import Derived.Test.YtobakeahbgodbaaGreatRepP
import Derived.Deep.CutRange
namespace Go.Proofs.YtobakeahbgodbaaGreat
open Go.RowKit
set_option linter.unusedVariables false

theorem chgMv {w w' : World} {g : Nat} (h : Moved w w' g) : Chg g (g + 1) w w' := Chg.of_grown h (fun k hk => by injection hk with hk; omega)
theorem owns_store {w : World} {B g j m c : Nat} {zs : List ByteArray} (h : OwnS w B (.slice (some ⟨g, 0, none⟩) m c) zs) (hm : zs.length = m) (hj : j < m) :
    (∃ y, w.cell? ⟨g, j, none⟩ = some (.string y)) ∧ w.frozen? ⟨g, j, none⟩ = false ∧ ∀ x, OwnS (w.setCell ⟨g, j, none⟩ (.string x)) B (.slice (some ⟨g, 0, none⟩) m c) (zs.set j x) := by
  unfold OwnS at *
  rw [hm] at h
  refine ⟨⟨zs.getD j ⟨#[]⟩, (h.cellAt j (by omega)).trans ?_⟩, h.frozenAt j, fun x => ?_⟩
  · rw [List.getElem?_map, List.getElem?_eq_getElem (by omega)]
    simp [List.getD, show j < zs.length by omega]
  · have := (h.stored j (.string x)).1
    rw [List.length_set, hm, List.map_set]
    exact this
theorem szL_set {zs : List ByteArray} {y : ByteArray} : ∀ {j : Nat}, szL (zs.set j y) ≤ szL zs + y.size + 1 := by
  induction zs with
  | nil => intro j; show szL [] ≤ szL [] + y.size + 1; omega
  | cons x r ih =>
    intro j
    cases j with
    | zero => rw [List.set_cons_zero, szL_cons, szL_cons]; omega
    | succ j => rw [List.set_cons_succ, szL_cons, szL_cons]; have := ih (j := j); omega
set_option maxRecDepth 100000 in
set_option maxHeartbeats 12800000 in
theorem l6Galley_any (g lo hi : Nat) (s : ByteArray) (A A2 : Option Addr) (n c m d : Nat) (ws cs : List Int) (X Y Z : Int) (w : World) (hc : Cur w g) (h : FontV w lo hi (.agg #[.string s, .slice A n c, .slice A2 m d]) ⟨s, ws, cs⟩) (hhi : hi ≤ w.heap.size) (hsm : Small ⟨s, ws, cs⟩) (hs24 : s.size ≤ 24) (hgl : g < lo) :
    Calls Tryz.prog 31 #[.pointer (some ⟨g, 0, none⟩), .agg #[.string s, .slice A n c, .slice A2 m d], .agg #[.int .i64 X, .int .i64 Y, .int .i64 Z]] w fun e w' => ∃ Ag k c1 gl, e = .returned (.slice Ag k c1) ∧ gl.length = k ∧ k ≤ 40 ∧ szL gl ≤ 200000 ∧ OwnS w' (w.heap.size + 2) (.slice Ag k c1) gl ∧ CM w w' g := by
  have hgw := hc.lt
  obtain ⟨w0, hw0, hb0, hz0, K0⟩ := mxWorld w #[.string s, .slice A n c, .slice A2 m d] 25
  obtain ⟨w1, hw1, hb1, hz1, K1⟩ := mxWorld w0 #[.int .i64 X, .int .i64 Y, .int .i64 Z] 27
  have C1 := Lib.hid (((CM.of hc).step hb0).step hb1)
  have F1 := Lib.hid ((h.below hhi hb0).below (by omega) hb1)
  have R1 := Lib.hid (K0.below hb1 (by omega))
  rw [hz0] at K1
  have N1 := Lib.hid K1
  have z1 : w.heap.size + 2 ≤ w1.heap.size := by omega
  have HS := Lib.hid hsm
  obtain ⟨f0, f1, f2, m0, m1, m2⟩ := (show w1.cell? ⟨w.heap.size, 0, none⟩ = some (.string s) ∧ w1.cell? ⟨w.heap.size, 1, none⟩ = some (.slice A n c) ∧ w1.cell? ⟨w.heap.size, 2, none⟩ = some (.slice A2 m d) ∧ w1.cell? ⟨(w.heap.size + 1), 0, none⟩ = some (.int .i64 X) ∧ w1.cell? ⟨(w.heap.size + 1), 1, none⟩ = some (.int .i64 Y) ∧ w1.cell? ⟨(w.heap.size + 1), 2, none⟩ = some (.int .i64 Z) from ⟨cellOfBlk R1.out 0, cellOfBlk R1.out 1, cellOfBlk R1.out 2, cellOfBlk N1.out 0, cellOfBlk N1.out 1, cellOfBlk N1.out 2⟩)
  clear hc h K0 K1 hb0 hb1 hz1 hsm
  go_enter Tryz.func31, Tryz.ntmps31
  go_wp2_with fail
  clear hw0 hw1 hz0 f0 f1 f2 m0 m1 m2
  refine (l6Text_any g s A A2 n c m d w1 C1.out.1 (by omega)).mono ?_
  rintro e w2 ⟨t, rfl, ht, hcm⟩
  have hm2 := hcm.2
  have z2 : w.heap.size + 2 ≤ w2.heap.size := by have := hm2.size; omega
  have C2 := Lib.hid (C1.out.trans hcm)
  have R2 := Lib.hid (R1.out.moved hm2 (by omega))
  have N2 := Lib.hid (N1.out.moved hm2 (by omega))
  have F2 := Lib.hid (F1.out.chg (chgMv hm2) (by omega) (.inr (by omega)))
  clear C1 R1 N1 F1
  clear hm2 hcm
  obtain ⟨f0, f1, f2, m0, m1, m2⟩ := (show w2.cell? ⟨w.heap.size, 0, none⟩ = some (.string s) ∧ w2.cell? ⟨w.heap.size, 1, none⟩ = some (.slice A n c) ∧ w2.cell? ⟨w.heap.size, 2, none⟩ = some (.slice A2 m d) ∧ w2.cell? ⟨(w.heap.size + 1), 0, none⟩ = some (.int .i64 X) ∧ w2.cell? ⟨(w.heap.size + 1), 1, none⟩ = some (.int .i64 Y) ∧ w2.cell? ⟨(w.heap.size + 1), 2, none⟩ = some (.int .i64 Z) from ⟨cellOfBlk R2.out 0, cellOfBlk R2.out 1, cellOfBlk R2.out 2, cellOfBlk N2.out 0, cellOfBlk N2.out 1, cellOfBlk N2.out 2⟩)
  go_wp2_with fail
  clear f0 f1 f2 m0 m1 m2
  refine (specGal_any lo hi _ ⟨s, ws, cs⟩ X Y Z t w2 F2.out (by omega) HS.out (by omega)).mono ?_
  rintro e w3 ⟨u, rfl, hO, hb3⟩
  have hzz : w.heap.size + 2 ≤ w2.heap.size := z2
  have z3 : w.heap.size + 2 ≤ w3.heap.size := by have := hb3.size; omega
  have C3 := Lib.hid (C2.out.step hb3)
  have R3 := Lib.hid (R2.out.below hb3 (by omega))
  have N3 := Lib.hid (N2.out.below hb3 (by omega))
  have F3 := Lib.hid (F2.out.below (by omega) hb3)
  clear C2 R2 N2 F2
  have hgz := galA_sz (f := ⟨s, ws, cs⟩) (m := ⟨X, Y, Z⟩) (s := t)
  obtain ⟨ok, hok⟩ : ∃ y, (galA ⟨s, ws, cs⟩ ⟨X, Y, Z⟩ t).isSome = y := ⟨_, rfl⟩
  obtain ⟨gl0, hgl0⟩ : ∃ y, (galA ⟨s, ws, cs⟩ ⟨X, Y, Z⟩ t).getD [] = y := ⟨_, rfl⟩
  rw [hgl0] at hO hgz
  rw [hok]
  obtain ⟨A0, c0, rfl, -, -, -, -⟩ := hO.form
  obtain ⟨k0, hk0⟩ : ∃ y, gl0.length = y := ⟨_, rfl⟩
  rw [hk0] at hO hgz ⊢
  have hO3 := owns_base hO hzz
  have HO3 := Lib.hid hO3; have HK0 := Lib.hid hk0
  clear hO hO3 hk0 hok hgl0 hb3
  go_upto_if 22 with fail
  go_cut [8] from 11 (fun gv wx => ∃ (Ag : Option Addr) (k c1 : Nat) (gl : List ByteArray), gv = .slice Ag k c1 ∧ Hid (gl.length = k) ∧ k ≤ 40 ∧ szL gl ≤ 80281 ∧ Hid (CM w wx g) ∧ Hid (Blk wx w.heap.size #[.string s, .slice A n c, .slice A2 m d] 25) ∧ Hid (Blk wx (w.heap.size + 1) #[.int .i64 X, .int .i64 Y, .int .i64 Z] 27) ∧ Hid (FontV wx lo hi (.agg #[.string s, .slice A n c, .slice A2 m d]) ⟨s, ws, cs⟩) ∧ Hid (OwnS wx (w.heap.size + 2) (.slice Ag k c1) gl) ∧ w.heap.size + 2 ≤ wx.heap.size)
  case first =>
    cases ok
    · obtain ⟨w4, hw4, hb4, hz4, hX4⟩ := mxWorld w3 #[.string t] 9
      have hOt : OwnS w4 w3.heap.size (.slice (some ⟨w3.heap.size, 0, none⟩) 1 1) [t] := by rw [← hw4]; exact World.ownsRow_lit w3 #[.string t] 1 (Nat.le_refl _) (by unfold maxLen; omega) rfl
      have hO4 := owns_base hOt z3
      have HO4 := Lib.hid hO4
      have HW := Lib.hid hw4
      have hz4x : w3.heap.size < w4.heap.size := by omega
      clear hX4 hOt hO4 hw4 hz4
      have z4 : w.heap.size + 2 ≤ w4.heap.size := by have := hb4.size; omega
      have C4 := Lib.hid (C3.out.step hb4)
      have R4 := Lib.hid (R3.out.below hb4 (by omega))
      have N4 := Lib.hid (N3.out.below hb4 (by omega))
      have F4 := Lib.hid (F3.out.below (by omega) hb4)
      clear C3 R3 N3 F3
      clear hb4
      go_wp2
      rw [HW.out]
      go_meet
      case rel => exact ⟨some ⟨w3.heap.size, 0, none⟩, 1, 1, [t], rfl, rfl, by omega, by rw [szL_cons]; have h0 : szL ([] : List ByteArray) = 0 := rfl; omega, C4.out, R4.out, N4.out, F4.out, HO4.out, z4⟩
    · go_wp2
      go_meet
      case rel => exact ⟨A0, k0, c0, gl0, rfl, HK0.out, hgz.2, by omega, C3.out, R3.out, N3.out, F3.out, HO3.out, z3⟩
  case rest =>
    obtain ⟨Ag, k, c1, gl, rfl, HK, hk40, hsz, C5, R5, N5, F5, G5, z5⟩ := hcut
    clear C3 R3 N3 F3 z3 HO3 HK0 hgz
    obtain ⟨w5, h5⟩ : ∃ x, x = wc := ⟨_, rfl⟩
    subst h5
    go_wp2_with fail
    refine (once_cm w g 16 w5 C5.out).mono ?_
    rintro e w6 ⟨bb, rfl, hc6, hm6⟩
    have z6 : w.heap.size + 2 ≤ w6.heap.size := by have := hm6.size; omega
    have C6 := Lib.hid (hc6)
    have R6 := Lib.hid (R5.out.moved hm6 (by omega))
    have N6 := Lib.hid (N5.out.moved hm6 (by omega))
    have F6 := Lib.hid (F5.out.chg (chgMv hm6) (by omega) (.inr (by omega)))
    have G6 := Lib.hid (G5.out.grown_lt hm6 (fun k hk => by injection hk with hk; omega))
    clear C5 R5 N5 F5 G5
    clear hm6 hc6
    cases bb
    · go_wp2
      go_ret
      exact ⟨_, _, _, gl, rfl, HK.out, hk40, by omega, G6.out, C6.out⟩
    by_cases hk0 : 0 < k
    · have hki : (0 : Int) < (k : Int) := by omega
      go_wp2_with fail
      refine (below_cm w g _ w6 hki C6.out).mono ?_
      rintro e w7 ⟨i, rfl, hi7, hc7, hm7⟩
      have z7 : w.heap.size + 2 ≤ w7.heap.size := by have := hm7.size; omega
      have C7 := Lib.hid (hc7)
      have R7 := Lib.hid (R6.out.moved hm7 (by omega))
      have N7 := Lib.hid (N6.out.moved hm7 (by omega))
      have F7 := Lib.hid (F6.out.chg (chgMv hm7) (by omega) (.inr (by omega)))
      have G7 := Lib.hid (G6.out.grown_lt hm7 (fun k hk => by injection hk with hk; omega))
      clear C6 R6 N6 F6 G6
      clear hc7 hm7
      have hik : i < k := by omega
      obtain ⟨ad, x, rfl, hx, hcx⟩ := (owns_rd G7.out).at_ (k := i) (by rw [HK.out]; exact hik)
      obtain ⟨ga, rfl⟩ : ∃ ga, ad = ⟨ga, 0, none⟩ := by
        obtain ⟨A9, c9, e9, -, h9, -, -⟩ := G7.out.form
        injection e9 with e9
        obtain ⟨q, hq, -⟩ := h9 ad e9.symm
        exact ⟨q, hq⟩
      rw [show (⟨ga, 0, none⟩ : Addr).add i = ⟨ga, i, none⟩ from by by_cases h0 : i = 0 <;> simp [Addr.add, h0]] at hcx
      have hxz : x.size ≤ 80281 := by have := szL_mem (List.mem_of_getElem? hx.out); omega
      have hss : ¬ (9223372036854775807 < x.size + 1) := by omega
      obtain ⟨y, hy⟩ : ∃ y, x ++ ⟨#[32]⟩ = y := ⟨_, rfl⟩
      have hyz : y.size ≤ 80282 := by rw [← hy, ByteArray.size_append]; show x.size + 1 ≤ _; omega
      have HLit := Lib.hid (lit_strs w7 [⟨#[32, 97]⟩, ⟨#[97]⟩, ⟨#[]⟩, y, ⟨#[97, 32, 32, 97]⟩])
      obtain ⟨w8, hw8, hb8, hz8, hX8⟩ := mxWorld w7 #[.string ⟨#[32, 97]⟩, .string ⟨#[97]⟩, .string ⟨#[]⟩, .string y, .string ⟨#[97, 32, 32, 97]⟩] 9
      have HL8 : Hid (StrsB w8 (w7.heap.size + 1) (some ⟨w7.heap.size, 0, none⟩) [⟨#[32, 97]⟩, ⟨#[97]⟩, ⟨#[]⟩, y, ⟨#[97, 32, 32, 97]⟩]) := by show StrsB _ _ _ _; rw [← hw8]; exact HLit.out
      have HW := Lib.hid hw8
      clear hX8 HLit hw8 hz8
      go_wp2_with fail
      rw [HW.out]
      clear hcx hss hy HW
      have hg7 : w7.heap.size ≠ g := by omega
      have z8 : w.heap.size + 2 ≤ w8.heap.size := by have := hb8.size; omega
      have C8 := Lib.hid (C7.out.step hb8)
      have R8 := Lib.hid (R7.out.below hb8 (by omega))
      have N8 := Lib.hid (N7.out.below hb8 (by omega))
      have F8 := Lib.hid (F7.out.below (by omega) hb8)
      have G8 := Lib.hid (G7.out.below hb8)
      clear C7 R7 N7 F7 G7
      clear hb8
      refine (pick_cm w g ⟨w7.heap.size, 0, none⟩ 5 5 (w7.heap.size + 1) _ w8 C8.out rfl (by omega) (by omega) HL8.out hg7).mono ?_
      rintro e w9 ⟨p, rfl, hp, hc9, hm9⟩
      have z9 : w.heap.size + 2 ≤ w9.heap.size := by have := hm9.size; omega
      have C9 := Lib.hid (hc9)
      have R9 := Lib.hid (R8.out.moved hm9 (by omega))
      have N9 := Lib.hid (N8.out.moved hm9 (by omega))
      have F9 := Lib.hid (F8.out.chg (chgMv hm9) (by omega) (.inr (by omega)))
      have G9 := Lib.hid (G8.out.grown_lt hm9 (fun k hk => by injection hk with hk; omega))
      clear C8 R8 N8 F8 G8
      have hpz : p.size ≤ 80282 := by
        simp at hp
        rcases hp with rfl | rfl | rfl | rfl | rfl
        · show 2 ≤ _; omega
        · show 1 ≤ _; omega
        · show 0 ≤ _; omega
        · exact hyz
        · show 4 ≤ _; omega
      clear hc9 hm9 hp HL8
      obtain ⟨⟨o9, ho9⟩, hf9, hst9⟩ := owns_store G9.out HK.out hik
      have hga := (World.ownsRow.lt G9.out ga rfl).1
      have G10 := Lib.hid (hst9 p)
      have C10 : Hid (CM w (w9.setCell ⟨ga, i, none⟩ (.string p)) g) := C9.out.set (by show w.heap.size ≤ ga; omega) hgw _
      have HKn : Hid ((gl.set i p).length = k) := by show _ = _; rw [List.length_set]; exact HK.out
      have hsn := szL_set (zs := gl) (j := i) (y := p)
      clear hst9 C9 R9 N9 F9 G9
      go_wp2
      go_ret
      exact ⟨_, _, _, (gl.set i p), rfl, HKn.out, hk40, by omega, G10.out, C10.out⟩
    · have hki : ¬ (0 : Int) < (k : Int) := by omega
      go_wp2
      go_ret
      exact ⟨_, _, _, gl, rfl, HK.out, hk40, by omega, G6.out, C6.out⟩
end Go.Proofs.YtobakeahbgodbaaGreat
