/-
  The draw of a wording: l6Text returns a string of at most 200 bytes and leaves the cursor whole. Condition: the cursor is whole.
-/
import Derived.Test.YtobakeahbgodbaaGreatDrawMe
namespace Go.Proofs.YtobakeahbgodbaaGreat
open Go.RowKit
set_option linter.unusedVariables false

def blanksA : List ByteArray := [⟨#[32]⟩, ⟨#[32]⟩, ⟨#[32]⟩, ⟨#[32, 32]⟩]
def oddA : List ByteArray := [⟨#[63]⟩, ⟨#[255]⟩, ⟨#[81, 32]⟩]
theorem blanksA_len : ∀ q ∈ blanksA, q.size ≤ 2 := by decide
theorem oddA_len : ∀ q ∈ oddA, q.size ≤ 2 := by decide
theorem gt_true {a : Nat} (h : 0 < a) : decide ((0 : Int) < (a : Int)) = true := by simp; omega
set_option maxRecDepth 100000 in
set_option maxHeartbeats 6400000 in
theorem l6Text_any (g : Nat) (s : ByteArray) (B1 B2 : Option Addr) (n1 d1 n2 d2 : Nat) (w : World) (hc : Cur w g) (hs : s.size ≤ 1048576) :
    Calls Tryz.prog 35 #[.pointer (some ⟨g, 0, none⟩), .agg #[.string s, .slice B1 n1 d1, .slice B2 n2 d2]] w fun e w' => ∃ t : ByteArray, e = .returned (.string t) ∧ t.size ≤ 200 ∧ CM w w' g := by
  have hgw := hc.lt
  obtain ⟨w0, hw0, hb0, hz0, hK0⟩ := mxWorld w #[.string s, .slice B1 n1 d1, .slice B2 n2 d2] 25
  obtain ⟨b, hb⟩ : ∃ b, w.heap.size = b := ⟨_, rfl⟩
  have C0 : Hid (CM w w0 g) := (CM.of hc).step hb0
  have HW := Lib.hid hb
  rw [hb] at hK0 hgw hz0
  have K0 := Lib.hid hK0
  clear hc hb0 hK0
  go_enter Tryz.func35, Tryz.ntmps35
  go_wp2_with fail
  clear hw0 hb
  refine (below_cm w g _ _ (by omega) C0.out).mono ?_
  rintro e w1 ⟨x, rfl, hx, hc1, hm1⟩
  have K1 := Lib.hid (K0.out.moved hm1 (by omega)); have C1 := Lib.hid hc1
  clear hc1 hm1 K0 C0
  obtain ⟨k0, hk0⟩ : ∃ k0 : Nat, 1 + x = k0 := ⟨_, rfl⟩
  have e0 : (1 : Int) + (x : Int) = (k0 : Int) := by omega
  have e1 : IntKind.i64.wrap (k0 : Int) = (k0 : Int) := by rw [IntKind.wrap_i64]; omega
  have hk16 : k0 ≤ 16 := by omega
  clear hk0
  go_wp2
  clear e0 e1
  go_loopw [5, 6] (fun v q wr => ∃ (k : Nat) (t : ByteArray), v = .string t ∧ q = .int .i64 k ∧ k ≤ 16 ∧ Hid (t.size + 7 * k ≤ 112) ∧ Hid (CM w wr g) ∧ Hid (Blk wr b #[.string s, .slice B1 n1 d1, .slice B2 n2 d2] 25)) (fun _ q _ => (intOf q).toNat)
  case atStart => exact ⟨k0, ⟨#[]⟩, rfl, rfl, hk16, by show 0 + 7 * k0 ≤ 112; omega, C1.out, K1.out⟩
  case round =>
    clear C1 K1
    obtain ⟨k, t, rfl, rfl, hk, HT, HC, HK⟩ := hrel
    by_cases hkp : 0 < k
    · go_wp2_with fail
      refine (below_cm w g _ _ (by omega) HC.out).mono ?_
      rintro e w2 ⟨y, rfl, hy, hc2, hm2⟩
      have K2 := Lib.hid (HK.out.moved hm2 (by omega)); have C2 := Lib.hid hc2
      clear hc2 hm2 HC HK
      obtain ⟨j0, hj0⟩ : ∃ j0 : Nat, 1 + y = j0 := ⟨_, rfl⟩
      have e0 : (1 : Int) + (y : Int) = (j0 : Int) := by omega
      have e1 : IntKind.i64.wrap (j0 : Int) = (j0 : Int) := by rw [IntKind.wrap_i64]; omega
      have hj5 : j0 ≤ 5 := by omega
      clear hj0
      go_wp2
      clear e0 e1
      go_loopw [5, 7] (fun v q wr => ∃ (j : Nat) (t : ByteArray), v = .string t ∧ q = .int .i64 j ∧ j ≤ 5 ∧ Hid (t.size + j + 2 + 7 * (k - 1) ≤ 112) ∧ Hid (CM w wr g) ∧ Hid (Blk wr b #[.string s, .slice B1 n1 d1, .slice B2 n2 d2] 25)) (fun _ q _ => (intOf q).toNat)
      case atStart => exact ⟨j0, t, rfl, rfl, hj5, by have := HT.out; show _ ≤ _; omega, C2.out, K2.out⟩
      case round =>
        clear C2 K2 HT
        obtain ⟨j, t, rfl, rfl, hj, HT, HC, HK⟩ := hrel
        obtain ⟨b0, b1, b2⟩ := (show wr.cell? ⟨b, 0, none⟩ = some (.string s) ∧ wr.cell? ⟨b, 1, none⟩ = some (.slice B1 n1 d1) ∧ wr.cell? ⟨b, 2, none⟩ = some (.slice B2 n2 d2) from ⟨cellOfBlk HK.out 0, cellOfBlk HK.out 1, cellOfBlk HK.out 2⟩)
        by_cases hjp : 0 < j
        · by_cases hsp : 0 < s.size
          · go_wp2_with fail
            refine (below_cm w g _ _ (by omega) HC.out).mono ?_
            rintro e w3 ⟨i, rfl, hi, hc3, hm3⟩
            have K3 := Lib.hid (HK.out.moved hm3 (by omega)); have C3 := Lib.hid hc3
            clear hc3 hm3 HC HK b0 b1 b2
            obtain ⟨i1, hi1⟩ : ∃ i1, i + 1 = i1 := ⟨_, rfl⟩
            obtain ⟨p, hp⟩ : ∃ p, s.extract i i1 = p := ⟨_, rfl⟩
            have hps : p.size = 1 := by rw [← hp, ← hi1, ByteArray.size_extract]; omega
            have a1 : (i : Int) + 1 = (i1 : Int) := by omega
            have a2 : IntKind.i64.wrap (i1 : Int) = (i1 : Int) := by rw [IntKind.wrap_i64]; omega
            have a3 : (i1 : Int) ≤ (s.size : Int) := by omega
            have a4 : i1 ≤ s.size := by omega
            have a5 : i ≤ i1 := by omega
            clear hi1
            have hss : ¬ (9223372036854775807 < t.size + 1) := by have := HT.out; omega
            have HT3 : Hid ((t ++ p).size + (j - 1) + 2 + 7 * (k - 1) ≤ 112) := by show _ ≤ _; rw [ByteArray.size_append, hps]; have := HT.out; omega
            obtain ⟨j1, hj1⟩ : ∃ j1, j1 + 1 = j := ⟨j - 1, by omega⟩
            have e2 : (j : Int) - 1 = (j1 : Int) := by omega
            have e3 : IntKind.i64.wrap (j1 : Int) = (j1 : Int) := by rw [IntKind.wrap_i64]; omega
            have HJ1 := Lib.hid hj1
            have hj15 : j1 ≤ 5 := by omega
            have hjlt : j1 < j := by omega
            clear hj1
            obtain ⟨b0, b1, b2⟩ := (show w3.cell? ⟨b, 0, none⟩ = some (.string s) ∧ w3.cell? ⟨b, 1, none⟩ = some (.slice B1 n1 d1) ∧ w3.cell? ⟨b, 2, none⟩ = some (.slice B2 n2 d2) from ⟨cellOfBlk K3.out 0, cellOfBlk K3.out 1, cellOfBlk K3.out 2⟩)
            go_wp2
            go_roundw
            case rel => exact ⟨j1, t ++ p, rfl, rfl, hj15, by have h9 := HT3.out; have h8 := HJ1.out; show _ ≤ _; omega, C3.out, K3.out⟩
            case measure => simp [intOf]; omega
          · have zr : b < wr.heap.size := World.block_lt_of_cell? _ _ b0
            obtain ⟨w5, hw5⟩ : ∃ x, wr.alloc (.cells #[.string ⟨#[32]⟩, .string ⟨#[32]⟩, .string ⟨#[32]⟩, .string ⟨#[32, 32]⟩] 9) = x := ⟨_, rfl⟩
            have L5 : Hid (StrsB w5 (wr.heap.size + 1) (some ⟨wr.heap.size, 0, none⟩) blanksA) := by show StrsB _ _ _ _; rw [← hw5]; exact lit_strs wr blanksA
            have hb5 : Below wr.heap.size wr w5 := by rw [← hw5]; exact below_new _ _
            have K5 := Lib.hid (HK.out.below hb5 zr); have C5 := Lib.hid (HC.out.step hb5)
            clear HK HC hb5
            go_wp2_with fail
            clear hw5 b0 b1 b2
            refine (pick_cm w g ⟨wr.heap.size, 0, none⟩ 4 4 (wr.heap.size + 1) blanksA w5 C5.out rfl (by omega) (by omega) L5.out (by show wr.heap.size ≠ g; omega)).mono ?_
            rintro e w6 ⟨p, rfl, hp, hc6, hm6⟩
            have hp2 : p.size ≤ 2 := blanksA_len p hp
            have K6 := Lib.hid (K5.out.moved hm6 (by omega)); have C6 := Lib.hid hc6
            clear hp hc6 hm6 K5 C5 L5
            have hss : ¬ (9223372036854775807 < t.size + p.size) := by have := HT.out; omega
            have HT6 : Hid ((t ++ p).size + 7 * (k - 1) ≤ 112) := by show _ ≤ _; rw [ByteArray.size_append]; have := HT.out; omega
            obtain ⟨k1, hk1⟩ : ∃ k1, k1 + 1 = k := ⟨k - 1, by omega⟩
            have e2 : (k : Int) - 1 = (k1 : Int) := by omega
            have e3 : IntKind.i64.wrap (k1 : Int) = (k1 : Int) := by rw [IntKind.wrap_i64]; omega
            have HK1 := Lib.hid hk1
            have hk17 : k1 ≤ 16 := by omega
            have hklt : k1 < k := by omega
            clear hk1
            go_wp2
            go_roundw
            case rel => exact ⟨k1, t ++ p, rfl, rfl, hk17, by have h9 := HT6.out; have h8 := HK1.out; show _ ≤ _; omega, C6.out, K6.out⟩
            case measure => simp [intOf]; omega
        · have hj0 : j = 0 := by omega
          subst hj0
          have zr : b < wr.heap.size := World.block_lt_of_cell? _ _ b0
          obtain ⟨w5, hw5⟩ : ∃ x, wr.alloc (.cells #[.string ⟨#[32]⟩, .string ⟨#[32]⟩, .string ⟨#[32]⟩, .string ⟨#[32, 32]⟩] 9) = x := ⟨_, rfl⟩
          have L5 : Hid (StrsB w5 (wr.heap.size + 1) (some ⟨wr.heap.size, 0, none⟩) blanksA) := by show StrsB _ _ _ _; rw [← hw5]; exact lit_strs wr blanksA
          have hb5 : Below wr.heap.size wr w5 := by rw [← hw5]; exact below_new _ _
          have K5 := Lib.hid (HK.out.below hb5 zr); have C5 := Lib.hid (HC.out.step hb5)
          clear HK HC hb5
          go_wp2_with fail
          clear hw5 b0 b1 b2
          refine (pick_cm w g ⟨wr.heap.size, 0, none⟩ 4 4 (wr.heap.size + 1) blanksA w5 C5.out rfl (by omega) (by omega) L5.out (by show wr.heap.size ≠ g; omega)).mono ?_
          rintro e w6 ⟨p, rfl, hp, hc6, hm6⟩
          have hp2 : p.size ≤ 2 := blanksA_len p hp
          have K6 := Lib.hid (K5.out.moved hm6 (by omega)); have C6 := Lib.hid hc6
          clear hp hc6 hm6 K5 C5 L5
          have hss : ¬ (9223372036854775807 < t.size + p.size) := by have := HT.out; omega
          have HT6 : Hid ((t ++ p).size + 7 * (k - 1) ≤ 112) := by show _ ≤ _; rw [ByteArray.size_append]; have := HT.out; omega
          obtain ⟨k1, hk1⟩ : ∃ k1, k1 + 1 = k := ⟨k - 1, by omega⟩
          have e2 : (k : Int) - 1 = (k1 : Int) := by omega
          have e3 : IntKind.i64.wrap (k1 : Int) = (k1 : Int) := by rw [IntKind.wrap_i64]; omega
          have HK1 := Lib.hid hk1
          have hk17 : k1 ≤ 16 := by omega
          have hklt : k1 < k := by omega
          clear hk1
          go_wp2
          go_roundw
          case rel => exact ⟨k1, t ++ p, rfl, rfl, hk17, by have h9 := HT6.out; have h8 := HK1.out; show _ ≤ _; omega, C6.out, K6.out⟩
          case measure => simp [intOf]; omega
    · have hk0 : k = 0 := by omega
      subst hk0
      obtain ⟨b0, b1, b2⟩ := (show wr.cell? ⟨b, 0, none⟩ = some (.string s) ∧ wr.cell? ⟨b, 1, none⟩ = some (.slice B1 n1 d1) ∧ wr.cell? ⟨b, 2, none⟩ = some (.slice B2 n2 d2) from ⟨cellOfBlk HK.out 0, cellOfBlk HK.out 1, cellOfBlk HK.out 2⟩)
      go_wp2_with fail
      refine (below_cm w g _ _ (by omega) HC.out).mono ?_
      rintro e w2 ⟨z, rfl, hz, hc2, hm2⟩
      have K2 := Lib.hid (HK.out.moved hm2 (by omega)); have C2 := Lib.hid hc2
      clear hc2 hm2 HC HK b0 b1 b2
      by_cases hz0 : z = 0
      · subst hz0
        obtain ⟨b0, b1, b2⟩ := (show w2.cell? ⟨b, 0, none⟩ = some (.string s) ∧ w2.cell? ⟨b, 1, none⟩ = some (.slice B1 n1 d1) ∧ w2.cell? ⟨b, 2, none⟩ = some (.slice B2 n2 d2) from ⟨cellOfBlk K2.out 0, cellOfBlk K2.out 1, cellOfBlk K2.out 2⟩)
        have zr : b < w2.heap.size := World.block_lt_of_cell? _ _ b0
        obtain ⟨w5, hw5⟩ : ∃ x, w2.alloc (.cells #[.string ⟨#[63]⟩, .string ⟨#[255]⟩, .string ⟨#[81, 32]⟩] 9) = x := ⟨_, rfl⟩
        have L5 : Hid (StrsB w5 (w2.heap.size + 1) (some ⟨w2.heap.size, 0, none⟩) oddA) := by show StrsB _ _ _ _; rw [← hw5]; exact lit_strs w2 oddA
        have hb5 : Below w2.heap.size w2 w5 := by rw [← hw5]; exact below_new _ _
        have K5 := Lib.hid (K2.out.below hb5 zr); have C5 := Lib.hid (C2.out.step hb5)
        clear K2 C2 hb5
        go_wp2_with fail
        clear hw5 b0 b1 b2
        refine (pick_cm w g ⟨w2.heap.size, 0, none⟩ 3 3 (w2.heap.size + 1) oddA w5 C5.out rfl (by omega) (by omega) L5.out (by show w2.heap.size ≠ g; omega)).mono ?_
        rintro e w6 ⟨p, rfl, hp, hc6, hm6⟩
        have hp2 : p.size ≤ 2 := oddA_len p hp
        have K6 := Lib.hid (K5.out.moved hm6 (by omega)); have C6 := Lib.hid hc6
        clear hp hc6 hm6 K5 C5 L5
        have hss : ¬ (9223372036854775807 < t.size + p.size) := by have := HT.out; omega
        have HS6 : Hid ((t ++ p).size ≤ 200) := by show _ ≤ _; rw [ByteArray.size_append]; have := HT.out; omega
        go_wp2
        go_ret
        exact ⟨_, rfl, HS6.out, C6.out⟩
      by_cases hz1 : z = 1
      · subst hz1
        go_wp2
        go_ret
        exact ⟨_, rfl, by show 3 ≤ 200; omega, C2.out⟩
      by_cases hz2 : z = 2
      · subst hz2
        go_wp2
        go_loopw [5] (fun v wr => ∃ t : ByteArray, v = .string t ∧ Hid (t.size ≤ 112) ∧ Hid (CM w wr g) ∧ Hid (Blk wr b #[.string s, .slice B1 n1 d1, .slice B2 n2 d2] 25)) (fun v _ => 200 - (match v with | .string t => t.size | _ => 0))
        case atStart => exact ⟨t, rfl, by have := HT.out; show _ ≤ _; omega, C2.out, K2.out⟩
        case round =>
          clear C2 K2 HT
          obtain ⟨t, rfl, HT, HC, HK⟩ := hrel
          obtain ⟨b0, b1, b2⟩ := (show wr.cell? ⟨b, 0, none⟩ = some (.string s) ∧ wr.cell? ⟨b, 1, none⟩ = some (.slice B1 n1 d1) ∧ wr.cell? ⟨b, 2, none⟩ = some (.slice B2 n2 d2) from ⟨cellOfBlk HK.out 0, cellOfBlk HK.out 1, cellOfBlk HK.out 2⟩)
          go_wp2_with fail
          refine (below_cm w g _ _ (by omega) HC.out).mono ?_
          rintro e w3 ⟨r, rfl, hr, hc3, hm3⟩
          have K3 := Lib.hid (HK.out.moved hm3 (by omega)); have C3 := Lib.hid hc3
          clear hc3 hm3 HC HK b0 b1 b2
          obtain ⟨b0, b1, b2⟩ := (show w3.cell? ⟨b, 0, none⟩ = some (.string s) ∧ w3.cell? ⟨b, 1, none⟩ = some (.slice B1 n1 d1) ∧ w3.cell? ⟨b, 2, none⟩ = some (.slice B2 n2 d2) from ⟨cellOfBlk K3.out 0, cellOfBlk K3.out 1, cellOfBlk K3.out 2⟩)
          obtain ⟨l, hl⟩ : ∃ l : Nat, 78 + r = l := ⟨_, rfl⟩
          have e0 : (78 : Int) + (r : Int) = (l : Int) := by omega
          have e1 : IntKind.i64.wrap (l : Int) = (l : Int) := by rw [IntKind.wrap_i64]; omega
          have hl83 : l ≤ 83 := by omega
          clear hl
          by_cases hlt : t.size < l
          · by_cases hsp : 0 < s.size
            · obtain ⟨p, hp⟩ : ∃ p, s.extract 0 1 = p := ⟨_, rfl⟩
              have hps : p.size = 1 := by rw [← hp, ByteArray.size_extract]; omega
              have a3 : (1 : Int) ≤ (s.size : Int) := by omega
              have a4 : 1 ≤ s.size := by omega
              have hss : ¬ (9223372036854775807 < t.size + 1) := by omega
              have hss2 : ¬ (9223372036854775807 < t.size + 1 + 1) := by omega
              have HT3 : Hid ((t ++ p ++ ⟨#[32]⟩).size ≤ 112) := by show _ ≤ _; rw [ByteArray.size_append, ByteArray.size_append, hps]; show t.size + 1 + 1 ≤ 112; omega
              have HM3 : Hid ((t ++ p ++ ⟨#[32]⟩).size = t.size + 2) := by show _ = _; rw [ByteArray.size_append, ByteArray.size_append, hps]; rfl
              go_wp2
              go_roundw
              case rel => exact ⟨t ++ p ++ ⟨#[32]⟩, rfl, HT3, C3.out, K3.out⟩
              case measure => have h9 := HM3.out; simp only [h9]; omega
            · go_wp2
              go_ret
              exact ⟨_, rfl, by have := HT.out; omega, C3.out⟩
          · go_wp2
            go_ret
            exact ⟨_, rfl, by have := HT.out; omega, C3.out⟩
      have z0 : ¬ (z : Int) = 0 := by omega
      have z1 : ¬ (z : Int) = 1 := by omega
      have z2 : ¬ (z : Int) = 2 := by omega
      go_wp2
      go_ret
      exact ⟨_, rfl, by have := HT.out; omega, C2.out⟩
end Go.Proofs.YtobakeahbgodbaaGreat
