/-
  What a line asks of a measure, as the program has it (the type load and its methods), by contract. Conditions: the letters are at most 1000000 wide, the bands at most 120, the measure is one.
-/
import Derived.Test.YtpenmheacpapaaaLineA
import Derived.Test.YtpenmheacpapaaaBox
import Derived.Deep.RegionHeld3
namespace Go.Proofs.Ytpenmheacpapaaa
open Go.RowKit
set_option linter.unusedVariables false


set_option maxHeartbeats 400000 in
theorem ldWidth_any (L B e : Int) (w : World) (h0 : 0 ≤ L) (h1 : L ≤ 1000000) (h2 : 0 ≤ B) (h3 : B ≤ 120) (h4 : -2000100 ≤ e) (h5 : e ≤ 101) :
    Calls Try.prog 117 #[.agg #[.int .i64 L, .int .i64 B], .int .i64 e] w fun r w' => r = .returned (.int .i64 (L + B * e)) ∧ Below w.heap.size w w' := by
  obtain ⟨m0, m1⟩ := mul_wide h2 h3 h4 h5
  have HT := Lib.hid (below_new w (.cells #[.int .i64 L, .int .i64 B] 88))
  go_enter Try.func117, Try.ntmps117
  go_wp2
  go_ret
  exact ⟨rfl, HT.out⟩

def ldCells (w : World) (g : Nat) (a b : Int) : Prop := w.heap[g]? = some (.cells #[.int .i64 a, .int .i64 b] 88 (0, 0))
theorem ldCells.cell {w : World} {g : Nat} {a b : Int} (h : ldCells w g a b) : w.cell? ⟨g, 0, none⟩ = some (.int .i64 a) ∧ w.cell? ⟨g, 1, none⟩ = some (.int .i64 b) ∧ w.frozen? ⟨g, 0, none⟩ = false ∧ w.frozen? ⟨g, 1, none⟩ = false :=
  ⟨by rw [cell_of_row w g 0 _ _ (0, 0) h]; rfl, by rw [cell_of_row w g 1 _ _ (0, 0) h]; rfl, frozen_of_row w g 0 _ _ h, frozen_of_row w g 1 _ _ h⟩
theorem ldCells.set0 {w : World} {g : Nat} {a b : Int} (h : ldCells w g a b) (x : Int) : ldCells (w.setCell ⟨g, 0, none⟩ (.int .i64 x)) g x b := by
  unfold ldCells; rw [heap_setCell_same w g 0 _ _ _ h]; rfl
theorem ldCells.set1 {w : World} {g : Nat} {a b : Int} (h : ldCells w g a b) (x : Int) : ldCells (w.setCell ⟨g, 1, none⟩ (.int .i64 x)) g a x := by
  unfold ldCells; rw [heap_setCell_same w g 1 _ _ _ h]; rfl
theorem ldCells.other {w : World} {g : Nat} {a b : Int} (h : ldCells w g a b) (p : Addr) (u : Value) (hne : g ≠ p.block) : ldCells (w.setCell p u) g a b := by
  unfold ldCells; rw [Below.heap_setCell w p u g hne]; exact h

set_option maxRecDepth 100000 in
set_option maxHeartbeats 1600000 in
theorem loadOf_any (A : Option Addr) (n c : Nat) (zs : List Int) (w : World) (hn : zs.length = n) (h : Ints w A zs) (hl : lineB zs = true) :
    Calls Try.prog 87 #[.slice A n c] w fun e w' => e = .returned (.agg #[.int .i64 (sumL zs), .int .i64 (bandsN zs)]) ∧ Below w.heap.size w w' := by
  obtain ⟨hz, hlen⟩ := lineB_parts hl
  have HZ := Lib.hid hz
  have HL := Lib.hid (lineB_take hl)
  have Hn := Lib.hid hn
  have hm : n ≤ 120 := by omega
  have H := Lib.hid h
  clear hz hlen hn hl h
  go_enter Try.func87, Try.ntmps87
  go_wp2
  go_loopw [8] (fun i wr => ∃ k : Nat, k ≤ n ∧ i = .int .i64 k ∧ ldCells wr (w.heap.size + 1) (sumL (zs.take k)) (bandsN (zs.take k)) ∧ ldCells wr w.heap.size 0 0 ∧ Below w.heap.size w wr) (fun i _ => n - (intOf i).toNat)
  case atStart =>
    refine ⟨0, Nat.zero_le _, rfl, ?_, ?_, ?_⟩
    · unfold ldCells
      have := heap_alloc_new (w.alloc (.cells #[.int .i64 0, .int .i64 0] 88)) (.cells #[.int .i64 0, .int .i64 0] 88)
      rw [World.size_alloc] at this
      exact this
    · unfold ldCells
      rw [Below.heap_alloc _ _ _ (by simp)]
      exact heap_alloc_new w _
    · exact ((Below.refl _ _).alloc (Nat.le_refl _) _).alloc (by simp) _
  case round =>
    obtain ⟨k, hk, rfl, hc1, hc0, hb⟩ := hrel
    have HC1 := Lib.hid hc1; have HC0 := Lib.hid hc0; have HB := Lib.hid hb
    clear hc1 hc0 hb
    obtain ⟨d0, d1, f0, f1⟩ := HC1.out.cell
    by_cases hlt : k < n
    · obtain ⟨ad, x, rfl, hx, hc⟩ := (H.out.below HB.out).at_ (k := k) (by rw [Hn.out]; exact hlt)
      have HS := Lib.hid (sumL_at hx.out)
      have HN := Lib.hid (bandsN_at hx.out)
      have hb1 := HL.out k
      have hx2 := HZ.out x (mem_at hx.out)
      obtain ⟨sm, hsm⟩ : ∃ s, sumL (zs.take k) = s := ⟨_, rfl⟩
      obtain ⟨bn, hbn⟩ : ∃ b, bandsN (zs.take k) = b := ⟨_, rfl⟩
      rw [hsm] at HS HC1 d0 hb1
      rw [hbn] at HN HC1 d1 hb1
      have Hsm := Lib.hid hsm; have Hbn := Lib.hid hbn
      clear hsm hbn
      by_cases h0 : x = 0
      · subst h0
        have HX := Lib.hid ((HC1.out.set1 ((bn : Int) + 1)))
        have HY := Lib.hid (HC0.out.other ⟨w.heap.size + 1, 1, none⟩ (.int .i64 ((bn : Int) + 1)) (by simp))
        have HT := Lib.hid (HB.out.setCell (p := ⟨w.heap.size + 1, 1, none⟩) (by simp) (.int .i64 ((bn : Int) + 1)))
        go_wp2
        go_roundw
        case rel => exact ⟨k + 1, by omega, by go_num, by rw [HS.out, HN.out, Int.add_zero]; simpa using HX.out, HY.out, HT.out⟩
        case measure => simp [intOf]; omega
      · have h0' : (x == 0) = false := by simpa using h0
        have HX := Lib.hid ((HC1.out.set0 (sm + x)))
        have HY := Lib.hid (HC0.out.other ⟨w.heap.size + 1, 0, none⟩ (.int .i64 (sm + x)) (by simp))
        have HT := Lib.hid (HB.out.setCell (p := ⟨w.heap.size + 1, 0, none⟩) (by simp) (.int .i64 (sm + x)))
        have HN2 : Hid (bandsN (zs.take (k + 1)) = bn) := by show _ = _; rw [HN.out, if_neg h0]; rfl
        clear h0
        go_wp2
        go_roundw
        case rel => exact ⟨k + 1, by omega, by go_num, by rw [HS.out, HN2.out]; exact HX.out, HY.out, HT.out⟩
        case measure => simp [intOf]; omega
    · have hkn : k = n := by omega
      subst hkn
      rw [take_all Hn.out] at HC1 d0 d1
      obtain ⟨e0, e1, g0, g1⟩ := HC0.out.cell
      have HT := Lib.hid ((HB.out.setCell (p := ⟨w.heap.size, 0, none⟩) (Nat.le_refl _) (.int .i64 (sumL zs))).setCell (p := ⟨w.heap.size, 1, none⟩) (Nat.le_refl _) (.int .i64 (bandsN zs)))
      obtain ⟨r0, r1, _, _⟩ := ((HC0.out.set0 (sumL zs)).set1 (bandsN zs)).cell
      go_wp2
      refine bodyPost_ret (v := .agg #[.int .i64 (sumL zs), .int .i64 (bandsN zs)]) (by simp [results, Try.results87, go_sem, r0, r1]) rfl ⟨rfl, HT.out⟩
end Go.Proofs.Ytpenmheacpapaaa
