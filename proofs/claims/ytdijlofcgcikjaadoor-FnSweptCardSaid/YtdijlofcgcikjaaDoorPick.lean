/-
  The draw of two lists of strings: whatever the bytes, l6Lists returns two lists of at most 8 strings each in memory of their own. Condition: the cursor is whole.
-/
import Derived.Test.YtdijlofcgcikjaaDoorStrP
import Derived.Test.YtdijlofcgcikjaaDoorPkB
namespace Go.Proofs.YtdijlofcgcikjaaDoor
open Go.RowKit
set_option linter.unusedVariables false

theorem lit_strs (w : World) (zs : List ByteArray) : StrsB (w.alloc (.cells (zs.map (Value.string)).toArray 9)) (w.heap.size + 1) (some ⟨w.heap.size, 0, none⟩) zs := fun _ =>
  ⟨_, rfl, by simp, fun j hj => by
    rw [add_zero_at, World.cell?_alloc_at _ _ _ _ rfl, List.getElem?_toArray, List.getElem?_map, List.getElem?_eq_getElem hj]
    simp [List.getD, hj]⟩
theorem OwnS.keepO {w w' : World} {B : Nat} {v : Value} {zs : List ByteArray} {row : Option Nat} (h : OwnS w B v zs) (hg : w.grownBy w' row) (hr : ∀ k, v.ownBlock = some k → row ≠ some k) : OwnS w' B v zs := by
  refine ⟨h.1, ?_⟩
  rcases h.2 with hn | ⟨g, cap, cur, rfl, hB, hh, rest⟩
  · exact .inl hn
  · exact .inr ⟨g, cap, cur, rfl, hB, (hg.block g (Array.getElem?_eq_some_iff.1 hh).1 (fun e => hr g rfl e.symm)).trans hh, rest⟩
theorem owns_baseP {w : World} {B B' : Nat} {v : Value} {zs : List ByteArray} (h : OwnS w B v zs) (hB : B' ≤ B) : OwnS w B' v zs := by
  refine ⟨h.1, ?_⟩
  rcases h.2 with hn | ⟨g, cap, cur, hv, hg, rest⟩
  · exact .inl hn
  · exact .inr ⟨g, cap, cur, hv, by omega, rest⟩
theorem owns_formP {w : World} {B : Nat} {v : Value} {zs : List ByteArray} (h : OwnS w B v zs) :
    ∃ A n c, v = .slice A n c ∧ zs.length = n ∧ OwnS w B (.slice A n c) zs ∧ n ≤ c ∧ c ≤ maxLen := by
  obtain ⟨A, c, rfl, _, _, h1, h2⟩ := h.form
  exact ⟨A, zs.length, c, rfl, rfl, h, h1, h2⟩
set_option maxHeartbeats 800000 in
theorem pick_cm (w0 : World) (g : Nat) (ad : Addr) (n c b : Nat) (ss : List ByteArray) (w : World) (hc : CM w0 w g) (hn : ss.length = n) (hp : 0 < n) (hm : n ≤ 1000) (h : StrsB w b (some ad) ss) (hne : ad.block ≠ g) :
    Calls Tryd.prog 90 #[.pointer (some ⟨g, 0, none⟩), .slice (some ad) n c] w fun e w' => ∃ x : ByteArray, e = .returned (.string x) ∧ x ∈ ss ∧ CM w0 w' g ∧ Moved w w' g := by
  have HC := Lib.hid hc; have Hn := Lib.hid hn
  obtain ⟨ad', he, hlt, hcell⟩ := h (by rw [hn]; exact hp)
  injection he with he
  subst he
  have Hcell := Lib.hid hcell
  clear hc hn hcell h
  go_enter Tryd.func90, Tryd.ntmps90
  go_wp2_with fail
  refine (below_cm w0 g _ _ (by omega) HC.out).mono ?_
  rintro e w1 ⟨k, rfl, hk, hc1, hm1⟩
  have hkn : k < n := by omega
  have hck : w1.cell? (ad.add k) = some (.string (ss.getD k ByteArray.empty)) := hm1.cell (Hcell.out k (by rw [Hn.out]; exact hkn)) (by rw [block_add]; intro e; injection e with e; exact hne e)
  have HM := Lib.hid hm1; have HC1 := Lib.hid hc1
  obtain ⟨y, hy⟩ : ∃ y, ss.getD k ByteArray.empty = y := ⟨_, rfl⟩
  rw [hy] at hck
  have HY := Lib.hid hy
  clear hm1 hc1 hy
  go_wp2
  go_ret
  refine ⟨y, rfl, ?_, HC1.out, HM.out⟩
  have := HY.out
  have hkz : k < ss.length := by rw [Hn.out]; exact hkn
  rw [← this]
  simp only [List.getD, List.getElem?_eq_getElem hkz, Option.getD_some]
  exact List.getElem_mem hkz

def lits4 : List ByteArray := [⟨#[97]⟩, ⟨#[98]⟩, ⟨#[97, 32, 98]⟩, ⟨#[]⟩]
/-- what the loop of l6Lists keeps -/
def LsQ (w wr : World) (g : Nat) (u v : Value) (zs ys : List ByteArray) (i j : Nat) : Prop :=
  OwnS wr w.heap.size u zs ∧ OwnS wr w.heap.size v ys ∧ (∀ b, u.ownBlock = some b → v.ownBlock ≠ some b) ∧ zs.length + i ≤ 8 ∧ ys.length + j ≤ 8 ∧ CM w wr g
def LsR (w wr : World) (g : Nat) (u v : Value) (zs ys : List ByteArray) (k : Nat) : Prop := LsQ w wr g u v zs ys k k
theorem LsQ.moved {w wr w' : World} {g i j : Nat} {u v : Value} {zs ys : List ByteArray} (h : LsQ w wr g u v zs ys i j) (hg : g < w.heap.size) (hm : Moved wr w' g) (hc : CM w w' g) : LsQ w w' g u v zs ys i j :=
  ⟨h.1.grown_lt hm (fun b hb => by injection hb with hb; omega), h.2.1.grown_lt hm (fun b hb => by injection hb with hb; omega), h.2.2.1, h.2.2.2.1, h.2.2.2.2.1, hc⟩

theorem LsQ.lessL {w wr : World} {g i j : Nat} {u v : Value} {zs ys : List ByteArray} (h : LsQ w wr g u v zs ys (i + 1) j) : LsQ w wr g u v zs ys i j :=
  ⟨h.1, h.2.1, h.2.2.1, by have := h.2.2.2.1; omega, h.2.2.2.2.1, h.2.2.2.2.2⟩
theorem LsQ.lessR {w wr : World} {g i j : Nat} {u v : Value} {zs ys : List ByteArray} (h : LsQ w wr g u v zs ys i (j + 1)) : LsQ w wr g u v zs ys i j :=
  ⟨h.1, h.2.1, h.2.2.1, h.2.2.2.1, by have := h.2.2.2.2.1; omega, h.2.2.2.2.2⟩
theorem cm_grown {w wr w' : World} {g : Nat} {row : Option Nat} (h : CM w wr g) (hg : wr.grownBy w' row) (hr : ∀ b, row = some b → w.heap.size ≤ b) (hgw : g < w.heap.size) : CM w w' g :=
  h.belowB ((Below.refl w.heap.size wr).grown hg h.2.size hr) (Nat.le_refl _) hgw
theorem LsQ.pushL {w wr w' : World} {g i j : Nat} {u v u' : Value} {zs ys : List ByteArray} {s : ByteArray} (h : LsQ w wr g u v zs ys (i + 1) j) (hO : OwnS w' w.heap.size u' (zs ++ [s])) (hg : wr.grownBy w' u.ownBlock) (hv : ∀ b, u'.ownBlock = some b → u.ownBlock = some b ∨ wr.heap.size ≤ b) (hgw : g < w.heap.size) : LsQ w w' g u' v (zs ++ [s]) ys i j := by
  obtain ⟨h1, h2, h3, h4, h5, h6⟩ := h
  refine ⟨hO, h2.keepO hg (fun b hb e => h3 b e hb), fun b hb hb2 => ?_, by simp; omega, h5, cm_grown h6 hg (fun b hb => (World.ownsRow.lt h1 b hb).1) hgw⟩
  rcases hv b hb with e | e
  · exact h3 b e hb2
  · have := (World.ownsRow.lt h2 b hb2).2; omega
theorem LsQ.pushR {w wr w' : World} {g i j : Nat} {u v v' : Value} {zs ys : List ByteArray} {s : ByteArray} (h : LsQ w wr g u v zs ys i (j + 1)) (hO : OwnS w' w.heap.size v' (ys ++ [s])) (hg : wr.grownBy w' v.ownBlock) (hv : ∀ b, v'.ownBlock = some b → v.ownBlock = some b ∨ wr.heap.size ≤ b) (hgw : g < w.heap.size) : LsQ w w' g u v' zs (ys ++ [s]) i j := by
  obtain ⟨h1, h2, h3, h4, h5, h6⟩ := h
  refine ⟨h1.keepO hg (fun b hb e => h3 b hb e), hO, fun b hb hb2 => ?_, h4, by simp; omega, cm_grown h6 hg (fun b hb => (World.ownsRow.lt h2 b hb).1) hgw⟩
  rcases hv b hb2 with e | e
  · exact h3 b hb e
  · have := (World.ownsRow.lt h1 b hb).2; omega

end Go.Proofs.YtdijlofcgcikjaaDoor
