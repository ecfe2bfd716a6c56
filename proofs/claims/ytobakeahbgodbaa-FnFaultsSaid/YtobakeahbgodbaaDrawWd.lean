/-
  The draw of two texts: whatever the bytes, l5Words returns a text of at most 16 bytes, DrawFaultsOf two of at most 32. Condition: the cursor is whole.
-/
import Derived.Test.YtobakeahbgodbaaDrawFo
import Derived.Test.YtobakeahbgodbaaPick
import Derived.Test.YtobakeahbgodbaaLawKit
namespace Go.Proofs.Ytobakeahbgodbaa
open Go.RowKit
set_option linter.unusedVariables false

def litsW : List ByteArray := [⟨#[63]⟩, ⟨#[255]⟩, ⟨#[97, 97]⟩, ⟨#[32, 32]⟩, ⟨#[81]⟩]
def litsF : List ByteArray := [⟨#[97]⟩, ⟨#[32]⟩, ⟨#[255]⟩, ⟨#[]⟩]
theorem ext_one (s : ByteArray) (i : Nat) (h : i < s.size) : (s.extract i (i + 1)).size = 1 := by rw [ByteArray.size_extract]; omega
theorem size_one (s : ByteArray) (b : UInt8) : (s ++ (⟨#[b]⟩ : ByteArray)).size = s.size + 1 := by rw [ByteArray.size_append]; rfl

set_option maxRecDepth 100000 in
set_option maxHeartbeats 3200000 in
theorem l5Words_any (g : Nat) (t0 : ByteArray) (v1 v2 : Value) (w : World) (hc : Cur w g) (ht : t0.size ≤ 1000) :
    Calls Try.prog 65 #[.pointer (some ⟨g, 0, none⟩), .agg #[.string t0, v1, v2]] w fun e w' => ∃ s : ByteArray, e = .returned (.string s) ∧ s.size ≤ 16 ∧ CM w w' g := by
  have hgw := hc.lt
  obtain ⟨w0, hw0, hb0, hz0, K0⟩ := mxWorld w #[.string t0, v1, v2] 25
  have C0 : Hid (CM w w0 g) := (CM.of hc).step hb0
  have HK0 := Lib.hid K0
  clear hc hb0 K0
  go_enter Try.func65, Try.ntmps65
  go_wp2_with fail
  clear hw0
  refine (below_cm w g _ _ (by omega) C0.out).mono ?_
  rintro e w1 ⟨k0, rfl, hk0, hc1, hm1⟩
  have HC1 := Lib.hid hc1; have HK1 := Lib.hid (HK0.out.moved hm1 (by omega))
  have z1 : w.heap.size + 1 ≤ w1.heap.size := by have := hm1.size; omega
  clear hc1 hm1 C0 HK0
  go_wp2
  go_loopw [5, 6] (fun v q wr => ∃ (k : Nat) (s : ByteArray), v = .string s ∧ q = .int .i64 k ∧ s.size + k ≤ 14 ∧ Hid (CM w wr g) ∧ Hid (Blk wr w.heap.size #[.string t0, v1, v2] 25) ∧ w.heap.size + 1 ≤ wr.heap.size) (fun _ q _ => (intOf q).toNat)
  case atStart => exact ⟨k0, ⟨#[]⟩, rfl, rfl, by show 0 + k0 ≤ 14; omega, HC1.out, HK1.out, z1⟩
  case round =>
    clear HC1 HK1
    obtain ⟨k, s, rfl, rfl, hsk, HC, HK, hz⟩ := hrel
    have HS := Lib.hid hsk
    by_cases hk : 0 < k
    · obtain ⟨k', rfl⟩ : ∃ k', k = k' + 1 := ⟨k - 1, by omega⟩
      have hss : ¬ (9223372036854775807 < s.size + 1) := by omega
      have c0 : wr.cell? ⟨w.heap.size, 0, none⟩ = some (.string t0) := cellOfBlk HK.out 0
      go_wp2_with fail
      refine (once_cm w g _ _ HC.out).mono ?_
      rintro e w2 ⟨b, rfl, hc2, hm2⟩
      have HC2 := Lib.hid hc2; have HK2 := Lib.hid (HK.out.moved hm2 (by omega))
      have z2 : w.heap.size + 1 ≤ w2.heap.size := by have := hm2.size; omega
      clear hc2 hm2 HC HK c0
      have c0 : w2.cell? ⟨w.heap.size, 0, none⟩ = some (.string t0) := cellOfBlk HK2.out 0
      have h1 := Lib.hid (size_one s 32)
      cases b
      · rcases Nat.eq_zero_or_pos t0.size with h0 | h0
        · have hz0 : ((t0.size : Int) == 0) = true := by rw [h0]; rfl
          clear h0
          go_wp2
          go_roundw
          case rel => exact ⟨k', _, rfl, by go_num, by rw [h1.out]; have := HS.out; omega, HC2.out, HK2.out, z2⟩
          case measure => simp [intOf]
        · have hz0 : ((t0.size : Int) == 0) = false := beq_eq_false_iff_ne.2 (by omega)
          go_wp2_with fail
          refine (below_cm w g _ _ (by omega) HC2.out).mono ?_
          rintro e w3 ⟨i, rfl, hi, hc3, hm3⟩
          have HC3 := Lib.hid hc3; have HK3 := Lib.hid (HK2.out.moved hm3 (by omega))
          have z3 : w.heap.size + 1 ≤ w3.heap.size := by have := hm3.size; omega
          clear hc3 hm3 HC2 HK2 c0
          have c0 : w3.cell? ⟨w.heap.size, 0, none⟩ = some (.string t0) := cellOfBlk HK3.out 0
          obtain ⟨j, hj⟩ : ∃ j, i + 1 = j := ⟨_, rfl⟩
          obtain ⟨t, ht2⟩ : ∃ t, t0.extract i j = t := ⟨_, rfl⟩
          have hts : t.size = 1 := by rw [← ht2, ← hj]; exact ext_one t0 i (by omega)
          have a1 : (i : Int) + 1 = (j : Int) := by omega
          have a2 : IntKind.i64.wrap (j : Int) = (j : Int) := by rw [IntKind.wrap_i64]; omega
          have hj41 : (j : Int) ≤ (t0.size : Int) := by omega
          have hj42 : j ≤ t0.size := by omega
          have hij : i ≤ j := by omega
          have h2 : Hid ((s ++ t).size = s.size + 1) := by show _ = _; rw [ByteArray.size_append, hts]
          go_wp2
          go_roundw
          case rel => exact ⟨k', s ++ t, rfl, by go_num, by rw [h2.out]; have := HS.out; omega, HC3.out, HK3.out, z3⟩
          case measure => simp [intOf]
      · go_wp2
        go_roundw
        case rel => exact ⟨k', _, rfl, by go_num, by rw [h1.out]; have := HS.out; omega, HC2.out, HK2.out, z2⟩
        case measure => simp [intOf]
    · have hk0 : k = 0 := by omega
      subst hk0
      go_wp2_with fail
      refine (once_cm w g _ _ HC.out).mono ?_
      rintro e w2 ⟨b, rfl, hc2, hm2⟩
      have HC2 := Lib.hid hc2
      have hg2 : g < w2.heap.size := HC2.out.lt
      clear hc2 hm2 HC HK
      cases b
      · go_wp2
        go_ret
        exact ⟨s, rfl, by have := HS.out; omega, HC2.out⟩
      · have HCa := Lib.hid (HC2.out.alloc (.cells #[.string ⟨#[63]⟩, .string ⟨#[255]⟩, .string ⟨#[97, 97]⟩, .string ⟨#[32, 32]⟩, .string ⟨#[81]⟩] 9))
        have HLit := Lib.hid (lit_strs w2 litsW)
        go_wp2_with fail
        refine (pick_cm w g ⟨w2.heap.size, 0, none⟩ 5 5 (w2.heap.size + 1) litsW _ HCa.out rfl (by omega) (by omega) HLit.out (by show w2.heap.size ≠ g; omega)).mono ?_
        rintro e w3 ⟨t, rfl, ht3, hc3, hm3⟩
        have hts : t.size ≤ 2 := by simp [litsW] at ht3; rcases ht3 with rfl | rfl | rfl | rfl | rfl <;> decide
        have HC3 := Lib.hid hc3
        have hsum : Hid ((s ++ t).size ≤ 16) := by show _ ≤ _; rw [ByteArray.size_append]; have := HS.out; omega
        have hss : ¬ (9223372036854775807 < s.size + t.size) := by have := HS.out; omega
        clear ht3 hc3 hm3 HCa HLit HC2
        go_wp2
        go_ret
        exact ⟨s ++ t, rfl, hsum.out, HC3.out⟩

set_option maxRecDepth 100000 in
set_option maxHeartbeats 3200000 in
theorem drawFaults_any (A : Option Addr) (n c : Nat) (bs : List Int) (w : World) (hn : bs.length = n) (hm : n ≤ maxLen) (h : Bytes w A bs) (wf : ∀ z ∈ bs, (Lit.int .u8 z).wf = true) :
    Calls Try.prog 22 #[.slice A n c] w fun e w' => ∃ a b : ByteArray, e = .returned (.tuple #[.string a, .string b]) ∧ a.size ≤ 16 ∧ b.size ≤ 32 ∧ Below w.heap.size w w' := by
  have H := Lib.hid h; have Hn := Lib.hid hn; have Hwf := Lib.hid wf
  clear h hn wf
  go_enter Try.func22, Try.ntmps22
  go_wp2_with fail
  refine (l01New_any _ _ _ bs _ Hn.out hm H.out Hwf.out).mono ?_
  rintro e w1 ⟨rfl, hc1, hb1, hs1⟩
  have HC1 := Lib.hid hc1; have HB1 := Lib.hid hb1
  clear hc1 hb1
  go_wp2_with fail
  refine (l2Font_any w.heap.size 6 w1 HC1.out (by omega) (by omega)).mono ?_
  rintro e w2 ⟨s, A1, A2, c1, d1, m, ws, cs, rfl, hsz, -, -, -, hm6, -, -, -, hc2⟩
  have HC2 := Lib.hid hc2; have HSZ := Lib.hid hsz
  clear hc2 hsz
  go_wp2_with fail
  refine (l5Words_any w.heap.size s _ _ w2 HC2.out.1 (by rw [HSZ.out]; omega)).mono ?_
  rintro e w3 ⟨a, rfl, ha, hc3⟩
  have HC3 := Lib.hid (HC2.out.trans hc3); have HA := Lib.hid ha
  clear hc3 HC2
  go_wp2
  go_loopw [6, 7] (fun v q wr => ∃ (i : Nat) (b : ByteArray), v = .string b ∧ q = .int .i64 i ∧ i ≤ a.size ∧ Hid (b.size ≤ i) ∧ Hid (CM w1 wr w.heap.size)) (fun _ q _ => a.size - (intOf q).toNat)
  case atStart => exact ⟨0, ⟨#[]⟩, rfl, rfl, Nat.zero_le _, Nat.le_refl _, HC3.out⟩
  case round =>
    clear HC3
    obtain ⟨i, b, rfl, rfl, hi, HS, HC⟩ := hrel
    have ha16 : a.size ≤ 16 := HA.out
    by_cases hlt : i < a.size
    · go_wp2_with fail
      refine (once_cm w1 w.heap.size _ _ HC.out).mono ?_
      rintro e w4 ⟨bb, rfl, hc4, hm4⟩
      have HC4 := Lib.hid hc4
      have hg4 : w.heap.size < w4.heap.size := HC4.out.lt
      clear hc4 hm4 HC
      cases bb
      · obtain ⟨j, hj⟩ : ∃ j, i + 1 = j := ⟨_, rfl⟩
        obtain ⟨t, ht2⟩ : ∃ t, a.extract i j = t := ⟨_, rfl⟩
        have hts : t.size = 1 := by rw [← ht2, ← hj]; exact ext_one a i (by omega)
        have a1 : (i : Int) + 1 = (j : Int) := by omega
        have a2 : IntKind.i64.wrap (j : Int) = (j : Int) := by rw [IntKind.wrap_i64]; omega
        have hj41 : (j : Int) ≤ (a.size : Int) := by omega
        have hj42 : j ≤ a.size := by omega
        have hij : i ≤ j := by omega
        have hss : ¬ (9223372036854775807 < b.size + 1) := by have := HS.out; omega
        have h2 : Hid ((b ++ t).size ≤ j) := by show _ ≤ _; rw [ByteArray.size_append, hts]; have := HS.out; omega
        go_wp2
        go_roundw
        case rel => exact ⟨j, b ++ t, rfl, by go_num, hj42, h2.out, HC4.out⟩
        case measure => simp [intOf]; omega
      · have HCa := Lib.hid (HC4.out.alloc (.cells #[.string ⟨#[97]⟩, .string ⟨#[32]⟩, .string ⟨#[255]⟩, .string ⟨#[]⟩] 9))
        have HLit := Lib.hid (lit_strs w4 litsF)
        go_wp2_with fail
        refine (pick_cm w1 w.heap.size ⟨w4.heap.size, 0, none⟩ 4 4 (w4.heap.size + 1) litsF _ HCa.out rfl (by omega) (by omega) HLit.out (by show w4.heap.size ≠ w.heap.size; omega)).mono ?_
        rintro e w5 ⟨t, rfl, ht3, hc5, hm5⟩
        have hts : t.size ≤ 1 := by simp [litsF] at ht3; rcases ht3 with rfl | rfl | rfl | rfl <;> decide
        have HC5 := Lib.hid hc5
        have hss : ¬ (9223372036854775807 < b.size + t.size) := by have := HS.out; omega
        have h2 : Hid ((b ++ t).size ≤ i + 1) := by show _ ≤ _; rw [ByteArray.size_append]; have := HS.out; omega
        clear ht3 hc5 hm5 HCa HLit HC4
        go_wp2
        go_roundw
        case rel => exact ⟨i + 1, b ++ t, rfl, by go_num, by omega, h2.out, HC5.out⟩
        case measure => simp [intOf]; omega
    · go_wp2
      go_ret2
      exact ⟨a, b, rfl, HA.out, by have := HS.out; omega, cm_below HB1.out hs1 HC.out⟩
end Go.Proofs.Ytobakeahbgodbaa
