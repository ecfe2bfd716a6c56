/-
  What a draw leaves as it was: only the cursor has turned, new memory may have come. Plain facts over any world, and the cursor's contracts said so. Condition: the cursor is whole.
-/
import Derived.Test.YtddkedinkgnboaaCur
import Derived.Deep.RegionWith
namespace Go.Proofs.Ytddkedinkgnboaa
open Go.RowKit
set_option linter.unusedVariables false

/-- the cursor's block has turned, and new ones may have come -/
def Moved (w w' : World) (g : Nat) : Prop := w.grownBy w' (some g)
theorem Turned.moved {w w' : World} {g : Nat} (h : Turned w w' g) : Moved w w' g := h.1
theorem Moved.trans {a b c : World} {g : Nat} (h : Moved a b g) (k : Moved b c g) : Moved a c g :=
  ⟨k.os.trans h.os, k.tape.trans h.tape, k.output.trans h.output, Nat.le_trans h.size k.size, fun i hi hne => (k.block i (Nat.lt_of_lt_of_le hi h.size) hne).trans (h.block i hi hne)⟩
theorem Moved.refl (w : World) (g : Nat) : Moved w w g := World.grownBy.refl w _
theorem Moved.alloc (w : World) (o : Obj) (g : Nat) : Moved w (w.alloc o) g := World.grownBy_alloc w o _
theorem Moved.drewN {a w : World} {g : Nat} (h : Moved a w g) (n : Nat) : Moved a (w.drewN n) g := ⟨h.os, h.tape, h.output, h.size, h.block⟩
theorem Moved.drew {a w : World} {g : Nat} (h : Moved a w g) : Moved a w.drew g := ⟨h.os, h.tape, h.output, h.size, h.block⟩
theorem Moved.below {a w : World} {g B : Nat} (h : Moved a w g) (hB : B ≤ g) (hg : g < a.heap.size) : Below B a w :=
  ⟨h.os, h.tape, h.output, h.size, fun k hk => h.block k (by omega) (fun e => by injection e with e; omega)⟩
theorem Cur.alloc {w : World} {g : Nat} (h : Cur w g) (o : Obj) : Cur (w.alloc o) g := by
  obtain ⟨A, n, c, i, hv, bs, hh, hB, rest⟩ := h
  have hg := (Array.getElem?_eq_some_iff.1 hh).1
  exact ⟨A, n, c, i, hv, bs, (Below.heap_alloc w o g hg).trans hh, hB.keep fun p hp => World.cell?_alloc_lt w o p (by omega), rest⟩
theorem Cur.lt {w : World} {g : Nat} (h : Cur w g) : g < w.heap.size := by
  obtain ⟨A, n, c, i, hv, bs, hh, _⟩ := h
  exact (Array.getElem?_eq_some_iff.1 hh).1
theorem Cur.below {w w' : World} {g : Nat} (h : Cur w g) (hb : Below w.heap.size w w') : Cur w' g := by
  have hg := h.lt
  obtain ⟨A, n, c, i, hv, bs, hh, hB, rest⟩ := h
  exact ⟨A, n, c, i, hv, bs, (hb.block g hg).trans hh, hB.keep fun p hp => hb.cell (by omega), rest⟩
theorem Cur.drew {w : World} {g : Nat} (h : Cur w g) : Cur w.drew g := h

/-- the cursor is whole, and since w0 only it has turned -/
def CM (w0 w : World) (g : Nat) : Prop := Cur w g ∧ Moved w0 w g
theorem CM.of {w : World} {g : Nat} (h : Cur w g) : CM w w g := ⟨h, Moved.refl _ _⟩
theorem CM.drew {w0 w : World} {g : Nat} (h : CM w0 w g) : CM w0 w.drew g := ⟨h.1, h.2.drew⟩
theorem CM.alloc {w0 w : World} {g : Nat} (h : CM w0 w g) (o : Obj) : CM w0 (w.alloc o) g := ⟨h.1.alloc o, h.2.trans (Moved.alloc _ _ _)⟩
theorem CM.step {w0 w w' : World} {g : Nat} (h : CM w0 w g) (hb : Below w.heap.size w w') : CM w0 w' g := ⟨h.1.below hb, h.2.trans ⟨hb.os, hb.tape, hb.output, hb.size, fun i hi _ => hb.block i hi⟩⟩
theorem CM.lt {w0 w : World} {g : Nat} (h : CM w0 w g) : g < w.heap.size := h.1.lt
theorem below_cm (w0 : World) (g : Nat) (m : Int) (w : World) (hm : 0 < m) (hc : CM w0 w g) :
    Calls Try.prog 43 #[.pointer (some ⟨g, 0, none⟩), .int .i64 m] w fun e w' => ∃ x : Nat, e = .returned (.int .i64 x) ∧ (x : Int) < m ∧ CM w0 w' g ∧ Moved w w' g := by
  refine (l01Below_any g m w hc.1).mono ?_
  rintro e w' ⟨x, rfl, h0, h1, hc', ht⟩
  obtain ⟨k, rfl⟩ := Int.eq_ofNat_of_zero_le h0
  exact ⟨k, rfl, h1 hm, ⟨hc', hc.2.trans ht.moved⟩, ht.moved⟩
theorem once_cm (w0 : World) (g : Nat) (m : Int) (w : World) (hc : CM w0 w g) :
    Calls Try.prog 44 #[.pointer (some ⟨g, 0, none⟩), .int .i64 m] w fun e w' => ∃ b : Bool, e = .returned (.bool b) ∧ CM w0 w' g ∧ Moved w w' g := by
  refine (l01Once_any g m w hc.1).mono ?_
  rintro e w' ⟨b, rfl, hc', ht⟩
  exact ⟨b, rfl, ⟨hc', hc.2.trans ht.moved⟩, ht.moved⟩

theorem lit_ints (w : World) (zs : List Int) : IntsB (w.alloc (.cells (zs.map (Value.int .i64)).toArray 3)) (w.heap.size + 1) (some ⟨w.heap.size, 0, none⟩) zs := fun _ =>
  ⟨_, rfl, by simp, fun j hj => by
    rw [add_zero_at, World.cell?_alloc_at _ _ _ _ rfl, List.getElem?_toArray, List.getElem?_map, List.getElem?_eq_getElem hj]
    simp [List.getD, hj]⟩

theorem moved_below {w w' : World} {g : Nat} (hb : Below w.heap.size w w') : Moved w w' g := ⟨hb.os, hb.tape, hb.output, hb.size, fun i hi _ => hb.block i hi⟩
theorem own_take {w : World} {B n c k : Nat} {A : Option Addr} {zs : List Int} (h : Own w B (.slice A n c) zs) (hn : zs.length = n) (hk : k ≤ n) (hA : ∃ ad, A = some ad) : Own w B (.slice A k c) (zs.take k) := by
  obtain ⟨ad, rfl⟩ := hA
  rcases h.2 with ⟨hv, _⟩ | ⟨g, cap, cur, hv, hg, hh, hnc, hcm, hcs, ht⟩
  · cases hv
  · injection hv with h1 h2 h3
    subst h3
    injection h1 with h1
    subst h1
    rw [Nat.mul_one] at ht
    refine ⟨by simp, .inr ⟨g, c, cur, by rw [List.length_take, Nat.min_eq_left (by omega)], hg, hh, by rw [List.length_take]; omega, hcm, hcs, ?_⟩⟩
    rw [List.length_take, Nat.mul_one, List.map_take, Nat.min_eq_left (by omega), ← ht, List.take_take, Nat.min_eq_left (by omega)]
theorem own_form2 {w : World} {B : Nat} {v : Value} {zs : List Int} (h : Own w B v zs) (hp : 0 < zs.length) :
    ∃ g m c, v = .slice (some ⟨g, 0, none⟩) m c ∧ zs.length = m ∧ B ≤ g ∧ m ≤ c ∧ c ≤ maxLen ∧ Own w B (.slice (some ⟨g, 0, none⟩) m c) zs ∧ w.ownsRow B 3 1 (.slice (some ⟨g, 0, none⟩) m c) m (zs.map (Value.int .i64)) := by
  have h0 := h
  unfold Own at h0
  rcases h.2 with ⟨_, h2⟩ | ⟨g, cap, cur, rfl, hg, hh, hnc, hcm, _⟩
  · omega
  · exact ⟨g, zs.length, cap, rfl, rfl, hg, hnc, hcm, h, h0⟩

theorem Moved.set_new {a w : World} {g : Nat} (h : Moved a w g) {p : Addr} (hp : a.heap.size ≤ p.block) (u : Value) : Moved a (w.setCell p u) g :=
  ⟨h.os, h.tape, h.output, by simpa [World.setCell] using h.size, fun i hi hne => (Below.heap_setCell w p u i (by omega)).trans (h.block i hi hne)⟩
theorem Cur.set_other {w : World} {g : Nat} (h : Cur w g) {p : Addr} (hp : g < p.block) (u : Value) : Cur (w.setCell p u) g := by
  obtain ⟨A, n, cc, i, hv, bs, hh, hB, rest⟩ := h
  exact ⟨A, n, cc, i, hv, bs, (Below.heap_setCell _ _ _ _ (by omega)).trans hh, hB.keep fun q hq => World.cell?_setCell_other _ p q _ (fun e => by subst e; omega), rest⟩
theorem Cur.belowB {w w' : World} {g B : Nat} (h : Cur w g) (hb : Below B w w') (hg : g < B) : Cur w' g := by
  obtain ⟨A, n, c, i, hv, bs, hh, hB, rest⟩ := h
  exact ⟨A, n, c, i, hv, bs, (hb.block g hg).trans hh, hB.keep fun p hp => hb.cell (by omega), rest⟩
theorem Moved.below_base {a w w' : World} {g B : Nat} (h : Moved a w g) (hb : Below B w w') (hB : a.heap.size ≤ B) : Moved a w' g :=
  ⟨hb.os.trans h.os, hb.tape.trans h.tape, hb.output.trans h.output, Nat.le_trans h.size hb.size, fun i hi hne => (hb.block i (by omega)).trans (h.block i hi hne)⟩
/-- storing into a row of the call's own -/
theorem own_store {w : World} {B g j m c : Nat} {zs : List Int} (h : Own w B (.slice (some ⟨g, 0, none⟩) m c) zs) (hm : zs.length = m) (hj : j < m) :
    (∃ y, w.cell? ⟨g, j, none⟩ = some (.int .i64 y)) ∧ w.frozen? ⟨g, j, none⟩ = false ∧ ∀ x, Own (w.setCell ⟨g, j, none⟩ (.int .i64 x)) B (.slice (some ⟨g, 0, none⟩) m c) (zs.set j x) := by
  unfold Own at *
  rw [hm] at h
  refine ⟨⟨zs.getD j 0, (h.cellAt j (by omega)).trans ?_⟩, h.frozenAt j, fun x => ?_⟩
  · rw [List.getElem?_map, List.getElem?_eq_getElem (by omega)]
    simp [List.getD, show j < zs.length by omega]
  · rw [List.length_set, hm, List.map_set]
    exact (h.stored j _).1

theorem cm_below {w w1 w' : World} (hb : Below w.heap.size w w1) (hs : w1.heap.size = w.heap.size + 1) (hc : CM w1 w' w.heap.size) : Below w.heap.size w w' :=
  hb.trans (hc.2.below (Nat.le_refl _) (by omega))
theorem CM.set {w0 w : World} {g : Nat} (h : CM w0 w g) {p : Addr} (hp : w0.heap.size ≤ p.block) (hg : g < w0.heap.size) (u : Value) : CM w0 (w.setCell p u) g :=
  ⟨h.1.set_other (by omega) u, h.2.set_new hp u⟩
theorem CM.belowB {w0 w w' : World} {g B : Nat} (h : CM w0 w g) (hb : Below B w w') (hB : w0.heap.size ≤ B) (hg : g < w0.heap.size) : CM w0 w' g :=
  ⟨h.1.belowB hb (by omega), h.2.below_base hb hB⟩
theorem CM.trans {a b c : World} {g : Nat} (h : CM a b g) (k : CM b c g) : CM a c g := ⟨k.1, h.2.trans k.2⟩
/-- l01Int at a list that was just laid -/
theorem int_cm (w0 : World) (g n c : Nat) (zs : List Int) (w : World) (hc : CM w0 w g) (hn : zs.length = n) (hp : 0 < n) (hm : n ≤ 1000) :
    Calls Try.prog 45 #[.pointer (some ⟨g, 0, none⟩), .slice (some ⟨w.heap.size, 0, none⟩) n c] (w.alloc (.cells (zs.map (Value.int .i64)).toArray 3)) fun e w' => ∃ x : Int, e = .returned (.int .i64 x) ∧ CM w0 w' g ∧ CM w w' g := by
  refine (l01Int_any g _ n c (w.heap.size + 1) zs _ (hc.1.alloc _) hn (by unfold maxLen; omega) hp (lit_ints w zs) (fun ad had => by injection had with had; subst had; have := hc.1.lt; simp; omega)).mono ?_
  rintro e w2 ⟨x, rfl, hx, hc2, ht2⟩
  have hm2 : Moved w w2 g := (Moved.alloc w _ g).trans ht2.moved
  exact ⟨x, rfl, ⟨hc2, hc.2.trans hm2⟩, ⟨hc2, hm2⟩⟩
end Go.Proofs.Ytddkedinkgnboaa
