/-
  The model's l5Items and MachineOk by contract. Conditions: lengths of at most 2^20.
-/
import Derived.Test.YthoepelgmplcmaaMchM
import Derived.Test.YthoepelgmplcmaaPkC
import Derived.Test.YthoepelgmplcmaaSpecL
namespace Go.Proofs.Ythoepelgmplcmaa
open Go.RowKit
set_option linter.unusedVariables false

/-- every item of the line has a width -/
def hasWid (f : Fnt) (x : Mat) : Prop := x.1 < 0 ∨ x.1.toNat < f.ws.length
theorem itemsM_len (f : Fnt) (xs : List Mat) : (itemsM f xs).length = xs.length := by simp [itemsM]
theorem itemsM_succ {f : Fnt} {xs : List Mat} {k : Nat} {x : Mat} (h : xs[k]? = some x) : itemsM f (xs.take (k + 1)) = itemsM f (xs.take k) ++ [itemM f x] := by
  rw [mtake_at h]; simp [itemsM]
theorem own_grown {w w' : World} {B b : Nat} {v : Value} {zs : List Int} (h : Own w B v zs) (hb : Below b w w') (hk : ∀ k, v.ownBlock = some k → k < b) : Own w' B v zs := by
  refine ⟨h.1, ?_⟩
  have hl := World.ownsRow.lt h
  rcases h.2 with hn | ⟨g, cap, cur, rfl, hg, hh, rest⟩
  · exact .inl hn
  · exact .inr ⟨g, cap, cur, rfl, hg, (hb.block g (hk g rfl)).trans hh, rest⟩

set_option maxRecDepth 100000 in
set_option maxHeartbeats 1600000 in
theorem l5Items_any (lo hi lo2 hi2 : Nat) (v : Value) (f : Fnt) (A : Option Addr) (n c : Nat) (xs : List Mat) (w : World) (h : FontV w lo hi v f) (hhi : hi ≤ w.heap.size) (hn : xs.length = n) (hm : n ≤ 1048576) (hM : MatsI w lo2 hi2 A xs) (hhi2 : hi2 ≤ w.heap.size) (hset : ∀ x ∈ xs, hasWid f x) :
    Calls Try.prog 107 #[v, .slice A n c] w fun e w' => ∃ u, e = .returned u ∧ Own w' w.heap.size u (itemsM f xs) ∧ Below w.heap.size w w' := by
  obtain ⟨B, d, B2, d2, rfl, hI1, hI2, hc1, hc2, hd1, hd2, hss⟩ := h
  obtain ⟨p, hp⟩ : ∃ p, f.ws.length = p := ⟨_, rfl⟩
  obtain ⟨q, hq⟩ : ∃ p, f.cs.length = p := ⟨_, rfl⟩
  obtain ⟨s, hs⟩ : ∃ s, f.s = s := ⟨_, rfl⟩
  rw [hp, hq, hs]
  have Hp := Lib.hid hp; have Hn := Lib.hid hn; have HSet := Lib.hid hset
  obtain ⟨w0, hw0, hb0, hz0, K0⟩ := mxWorld w #[.string s, .slice B p d, .slice B2 q d2] 25
  have I0 := Lib.hid (hI1.below hhi hb0); have M0 := Lib.hid (hM.below hhi2 hb0); have T0 := Lib.hid hb0; have K0 := Lib.hid K0; have Z0 := Lib.hid hz0
  clear hI1 hI2 hc1 hc2 hd1 hd2 hss hp hq hs hn hM hset hb0 hz0
  go_enter Try.func107, Try.ntmps107
  go_wp2
  obtain ⟨w1, hw1⟩ : ∃ x, w0.alloc (.cells #[] 3) = x := ⟨_, rfl⟩
  have E1 : Own w1 w0.heap.size (.slice (some ⟨w0.heap.size, 0, none⟩) 0 0) [] := by rw [← hw1]; exact World.ownsRow_lit w0 #[] 0 (Nat.le_refl _) (Nat.zero_le _) rfl
  have b1 : Below w0.heap.size w0 w1 := by rw [← hw1]; exact (Below.refl _ _).alloc (Nat.le_refl _) _
  have E1 := Lib.hid E1; have B1 := Lib.hid b1
  have z0 : w.heap.size < w0.heap.size := by have := Z0.out; omega
  rw [hw1]
  clear b1 hw1 hw0 Z0
  go_loopw [5, 11] (fun u i wr => ∃ j : Nat, j ≤ n ∧ i = .int .i64 j ∧ Own wr w0.heap.size u (itemsM f (xs.take j)) ∧ Below w0.heap.size w0 wr) (fun _ i _ => n - (intOf i).toNat)
  case atStart => exact ⟨0, Nat.zero_le _, rfl, E1.out, B1.out⟩
  case round =>
    obtain ⟨j, hj, rfl, hown, hb⟩ := hrel
    have HO := Lib.hid hown; have HB := Lib.hid hb
    have zr := hb.size
    clear hown hb
    by_cases hlt : j < n
    · obtain ⟨ad, x, rfl, hx, c1, c2⟩ := (M0.out.below (by omega) HB.out).at_ (k := j) (by rw [Hn.out]; exact hlt)
      have HX := Lib.hid (HSet.out x (List.mem_of_getElem? hx.out))
      have HS := Lib.hid (itemsM_succ (f := f) hx.out)
      obtain ⟨wm, hwm⟩ : ∃ y, wr.alloc (.cells #[.int .i64 x.1, .int .i64 x.2] 34) = y := ⟨_, rfl⟩
      have bm : Below wr.heap.size wr wm := by rw [← hwm]; exact (Below.refl _ _).alloc (Nat.le_refl _) _
      have HOm := Lib.hid (Own.below HO.out bm); have HBm := Lib.hid (HB.out.trans (bm.mono zr)); have zm := bm.size
      have Hlen : Hid ((itemsM f (xs.take j)).length ≤ 1048576) := by show _ ≤ _; rw [itemsM_len, List.length_take]; omega
      obtain ⟨a, b⟩ := x
      simp only at *
      have bk : Blk wm wr.heap.size #[.int .i64 a, .int .i64 b] 34 := by rw [← hwm]; exact Blk.new _ _ _
      have m0 : wm.cell? ⟨wr.heap.size, 0, none⟩ = some (.int .i64 a) := cellOfBlk bk 0
      have m1 : wm.cell? ⟨wr.heap.size, 1, none⟩ = some (.int .i64 b) := cellOfBlk bk 1
      clear bk
      by_cases hneg : a < 0
      · have g1 : decide (a < 0) = true := decide_eq_true hneg
        have HI : Hid (itemM f (a, b) = 0) := by show _ = _; unfold itemM; rw [if_pos hneg]
        rw [HI.out] at HS
        clear bm HX
        go_wp2_with (at_builtin; refine wpl_push2 wm rfl (.tmp 18) (.tmp 19) rfl w0.heap.size _ _ 0 rfl rfl HOm.out (by omega) Hlen.out ?_; intro v' w5 hO5 hg5 hl5; rw [← HS.out] at hO5; have HO5 := Lib.hid hO5; have HB5 := Lib.hid (HBm.out.trans ((Below.refl w0.heap.size wm).grown hg5 (by omega) (fun q hq => (World.ownsRow.lt HOm.out q hq).1))); clear hO5 hg5 hl5)
        go_roundw
        case rel => exact ⟨j + 1, by omega, by go_num, HO5.out, HB5.out⟩
        case measure => simp [intOf]; omega
      · have g1 : decide (a < 0) = false := decide_eq_false hneg
        obtain ⟨kk, rfl⟩ : ∃ kk : Nat, a = (kk : Int) := ⟨a.toNat, by omega⟩
        have hkp : kk < p := by
          rcases HX.out with h | h
          · exact absurd h hneg
          · have := Hp.out; simp only [Int.toNat_natCast] at h; omega
        obtain ⟨bd, y, rfl, hy, hd⟩ := (I0.out.below (by omega) HBm.out).ints.at_ (k := kk) (by rw [Hp.out]; exact hkp)
        have HI : Hid (itemM f ((kk : Int), b) = y) := by show _ = _; unfold itemM; rw [if_neg hneg, Int.toNat_natCast, getD_at hy.out]
        rw [HI.out] at HS
        have Km := Lib.hid (K0.out.below HBm.out (by omega))
        have q1 : wm.cell? ⟨w.heap.size, 1, none⟩ = some (.slice (some bd) p d) := cellOfBlk Km.out 1
        clear bm HX
        go_wp2_with (first
          | (at_builtin; refine wpl_push2 wm rfl (.tmp 21) (.tmp 28) rfl w0.heap.size _ _ y rfl rfl HOm.out (by omega) Hlen.out ?_; intro v' w5 hO5 hg5 hl5; rw [← HS.out] at hO5; have HO5 := Lib.hid hO5; have HB5 := Lib.hid (HBm.out.trans ((Below.refl w0.heap.size wm).grown hg5 (by omega) (fun q hq => (World.ownsRow.lt HOm.out q hq).1))); clear hO5 hg5 hl5))
        go_roundw
        case rel => exact ⟨j + 1, by omega, by go_num, HO5.out, HB5.out⟩
        case measure => simp [intOf]; omega
    · have hjn : j = n := by omega
      subst hjn
      have HA : Hid (xs.take j = xs) := mtake_all Hn.out
      go_wp2
      go_ret
      exact ⟨_, rfl, by have := HO.out; rw [HA.out] at this; exact own_baseB this (by omega), T0.out.trans (HB.out.mono (by omega))⟩
end Go.Proofs.Ythoepelgmplcmaa
