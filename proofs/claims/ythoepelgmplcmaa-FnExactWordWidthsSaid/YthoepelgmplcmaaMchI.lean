/-
  The program's isBand and itemsOf by contract. Conditions: lengths of at most 2^20.
-/
import Derived.Test.YthoepelgmplcmaaMchS
namespace Go.Proofs.Ythoepelgmplcmaa
open Go.RowKit
set_option linter.unusedVariables false

theorem isBand_any (a b : Int) (w : World) :
    Calls Try.prog 112 #[.agg #[.int .i64 a, .int .i64 b]] w fun e w' => e = .returned (.bool (bandM (a, b))) ∧ Below w.heap.size w w' := by
  go_enter Try.func112, Try.ntmps112
  go_wp2
  all_goals
    go_ret
    refine ⟨ret_bool ?_, below_new _ _⟩
    simp [bandM, *]
set_option maxRecDepth 100000 in
set_option maxHeartbeats 1600000 in
theorem itemsOf_any (lo hi lo2 hi2 : Nat) (v : Value) (f : Fnt) (A : Option Addr) (n c : Nat) (xs : List Mat) (w : World) (h : FontV w lo hi v f) (hhi : hi ≤ w.heap.size) (hn : xs.length = n) (hm : n ≤ 1048576) (hM : MatsI w lo2 hi2 A xs) (hhi2 : hi2 ≤ w.heap.size) (hset : ∀ x ∈ xs, bandM x = true ∨ (0 ≤ x.1 ∧ x.1.toNat < f.ws.length)) :
    Calls Try.prog 116 #[v, .slice A n c] w fun e w' => ∃ u, e = .returned u ∧ Own w' w.heap.size u (itemsM f xs) ∧ Below w.heap.size w w' := by
  obtain ⟨B, d, B2, d2, rfl, hI1, hI2, hc1, hc2, hd1, hd2, hss⟩ := h
  obtain ⟨p, hp⟩ : ∃ p, f.ws.length = p := ⟨_, rfl⟩
  obtain ⟨q, hq⟩ : ∃ p, f.cs.length = p := ⟨_, rfl⟩
  obtain ⟨s, hs⟩ : ∃ s, f.s = s := ⟨_, rfl⟩
  rw [hp, hq, hs]
  have Hp := Lib.hid hp; have Hn := Lib.hid hn; have HSet := Lib.hid hset
  have HZ : Hid ((itemsM f xs).length = n) := by show _ = _; rw [itemsM_len, hn]
  obtain ⟨w0, hw0, hb0, hz0, K0⟩ := mxWorld w #[.string s, .slice B p d, .slice B2 q d2] 25
  have I0 := Lib.hid (hI1.below hhi hb0); have M0 := Lib.hid (hM.below hhi2 hb0); have T0 := Lib.hid hb0; have K0 := Lib.hid K0
  have z0 : w.heap.size < w0.heap.size := by omega
  clear hI1 hI2 hc1 hc2 hd1 hd2 hss hp hq hs hn hM hset hb0 hz0
  go_enter Try.func116, Try.ntmps116
  go_wp2_with (at_make; refine wpl_make_int w0 rfl (.tmp 9) rfl n _ rfl rfl (by omega) ?_; intro w1 hO1 hb1; have O1 := Lib.hid hO1; have B1 := Lib.hid hb1; clear hO1 hb1 hw0)
  go_loopw [13] (fun i wr => ∃ j : Nat, j ≤ n ∧ i = .int .i64 j ∧ wr.ownsRow w0.heap.size 3 1 (.slice (some ⟨w0.heap.size, 0, none⟩) n n) n (half (itemsM f xs) n j) ∧ Below w0.heap.size w0 wr) (fun i _ => n - (intOf i).toNat)
  case atStart => exact ⟨0, Nat.zero_le _, rfl, by have := O1.out; rwa [show half (itemsM f xs) n 0 = List.replicate n (.int .i64 0) by simp [half]], B1.out⟩
  case round =>
    obtain ⟨j, hj, rfl, hown, hb⟩ := hrel
    have HO := Lib.hid hown; have HB := Lib.hid hb
    have zr := hb.size
    clear hown hb
    by_cases hlt : j < n
    · obtain ⟨ad, x, rfl, hx, c1, c2⟩ := (M0.out.below (by omega) HB.out).at_ (k := j) (by rw [Hn.out]; exact hlt)
      have HX := Lib.hid (HSet.out x (List.mem_of_getElem? hx.out))
      have HI : Hid ((itemsM f xs)[j]? = some (itemM f x)) := by show _ = _; unfold itemsM; rw [List.getElem?_map, hx.out]; rfl
      obtain ⟨a, b⟩ := x
      simp only at c1 c2
      obtain ⟨wm, hwm⟩ : ∃ y, wr.alloc (.cells #[.int .i64 a, .int .i64 b] 34) = y := ⟨_, rfl⟩
      have bm : Below wr.heap.size wr wm := by rw [← hwm]; exact (Below.refl _ _).alloc (Nat.le_refl _) _
      have bk : Blk wm wr.heap.size #[.int .i64 a, .int .i64 b] 34 := by rw [← hwm]; exact Blk.new _ _ _
      have m0 : wm.cell? ⟨wr.heap.size, 0, none⟩ = some (.int .i64 a) := cellOfBlk bk 0
      have m1 : wm.cell? ⟨wr.heap.size, 1, none⟩ = some (.int .i64 b) := cellOfBlk bk 1
      have zm : wr.heap.size < wm.heap.size := bk.lt
      have HBm := Lib.hid (HB.out.trans (bm.mono zr)); have HOm := Lib.hid (row_keep HO.out bm); have BK := Lib.hid bk
      clear bm bk
      cases hbd : bandM (a, b)
      · obtain ⟨k0, k1⟩ : 0 ≤ a ∧ a.toNat < f.ws.length := by
          rcases HX.out with h | h
          · rw [hbd] at h; cases h
          · exact h
        obtain ⟨kk, rfl⟩ : ∃ kk : Nat, a = (kk : Int) := ⟨a.toNat, by omega⟩
        have hkp : kk < p := by have := Hp.out; simp only [Int.toNat_natCast] at k1; omega
        have Hbd := Lib.hid hbd
        clear hbd k0 k1 HX
        go_wp2_with fail
        refine (isBand_any _ _ _).mono ?_
        rintro e w2 ⟨he, hb2⟩
        rw [Hbd.out] at he
        subst he
        have HB2 := Lib.hid (HBm.out.trans (hb2.mono (by omega)))
        have HO2 := Lib.hid (row_keep HOm.out hb2)
        have bk2 := BK.out.below hb2 zm
        have m0' : w2.cell? ⟨wr.heap.size, 0, none⟩ = some (.int .i64 kk) := cellOfBlk bk2 0
        clear hwm m0 m1 bk2 hb2
        obtain ⟨bd, y, rfl, hy, hd⟩ := (I0.out.below (by omega) HB2.out).ints.at_ (k := kk) (by rw [Hp.out]; exact hkp)
        have HIy : Hid ((itemsM f xs)[j]? = some y) := by
          show _ = _
          rw [HI.out]
          unfold itemM
          rw [if_neg (by omega), Int.toNat_natCast, getD_at hy.out]
        have Km := Lib.hid (K0.out.below HB2.out (by omega))
        have q1 : w2.cell? ⟨w.heap.size, 1, none⟩ = some (.slice (some bd) p d) := cellOfBlk Km.out 1
        obtain ⟨v0, hv0⟩ := half_cell (itemsM f xs) n j HZ.out hlt
        have hdd := (HO2.out.cellAt j (by omega)).trans hv0
        have hff := HO2.out.frozenAt j
        have hst := HO2.out.stored j (.int .i64 y)
        rw [half_set HZ.out HIy.out] at hst
        have HS := Lib.hid hst.1
        have HB3 := Lib.hid (HB2.out.setCell (p := ⟨w0.heap.size, j, none⟩) (Nat.le_refl _) (.int .i64 y))
        clear hst hv0
        go_wp2
        go_roundw
        case rel => exact ⟨j + 1, by omega, by go_num, HS.out, HB3.out⟩
        case measure => simp [intOf]; omega
      · have Hbd := Lib.hid hbd
        clear hbd HX
        go_wp2_with fail
        refine (isBand_any _ _ _).mono ?_
        rintro e w2 ⟨he, hb2⟩
        rw [Hbd.out] at he
        subst he
        have HB2 := Lib.hid (HBm.out.trans (hb2.mono (by omega)))
        have HO2 := Lib.hid (row_keep HOm.out hb2)
        clear hwm m0 m1 hb2
        have HIy : Hid ((itemsM f xs)[j]? = some 0) := by
          show _ = _
          rw [HI.out]
          have h1 := Hbd.out
          unfold bandM at h1
          rw [Bool.and_eq_true, beq_iff_eq] at h1
          unfold itemM
          rw [if_pos (by show a < 0; have := h1.1; omega)]
        obtain ⟨v0, hv0⟩ := half_cell (itemsM f xs) n j HZ.out hlt
        have hdd := (HO2.out.cellAt j (by omega)).trans hv0
        have hff := HO2.out.frozenAt j
        have hst := HO2.out.stored j (.int .i64 0)
        rw [half_set HZ.out HIy.out] at hst
        have HS := Lib.hid hst.1
        have HB3 := Lib.hid (HB2.out.setCell (p := ⟨w0.heap.size, j, none⟩) (Nat.le_refl _) (.int .i64 0))
        clear hst hv0
        go_wp2
        go_roundw
        case rel => exact ⟨j + 1, by omega, by go_num, HS.out, HB3.out⟩
        case measure => simp [intOf]; omega
    · have hjn : j = n := by omega
      subst hjn
      go_wp2
      go_ret
      refine ⟨_, rfl, ?_, T0.out.trans (HB.out.mono (by omega))⟩
      have hown := HO.out
      rw [half_full HZ.out] at hown
      have : Own wr w0.heap.size (.slice (some ⟨w0.heap.size, 0, none⟩) j j) (itemsM f xs) := by unfold Own; rw [HZ.out]; exact hown
      exact own_baseB this (by omega)
end Go.Proofs.Ythoepelgmplcmaa
