/-
  What BreakingIndex of the program holds in memory, and the sum that one line's round makes. Mathematics and rows, no condition.
-/
import Derived.Test.YtddkedinkgnboaaWid
namespace Go.Proofs.Ytddkedinkgnboaa
open Go.RowKit Go.Shelf
set_option linter.unusedVariables false

/-- the sum over those ends that lie ahead of lim -/
def sumTo (m : Msr) (zs : List Int) (lim : Nat) (x : Int) (l : List Nat) : Int := l.foldl (fun acc q => if q < lim then wrap64 (acc + wayF m zs q) else acc) x
theorem sumTo_snoc (m : Msr) (zs : List Int) (lim : Nat) (x : Int) (l : List Nat) (q : Nat) : sumTo m zs lim x (l ++ [q]) = if q < lim then wrap64 (sumTo m zs lim x l + wayF m zs q) else sumTo m zs lim x l := by
  unfold sumTo; rw [List.foldl_append]; rfl
theorem sumTo_is {m : Msr} {zs : List Int} (hz : zs.length ≤ 40) {p lim : Nat} {x : Int} (h0 : 0 ≤ x) (h1 : x ≤ 1099511627776) (hp : p ≤ zs.length) (j : Nat) (hj : j ≤ zs.length + 1) (hl : lim ≤ zs.length + 1) : sumTo m zs lim x (endsTo m zs p j) = x + befF m zs p (min j lim) := by
  induction j with
  | zero => rw [endsTo_low (by omega), befF_low (by omega)]; simp [sumTo]
  | succ j ih =>
    have ih := ih (by omega)
    cases hh : (decide (p < j) && lineW m zs p j)
    · rw [endsTo_no hh, ih]
      by_cases hjl : j < lim
      · rw [show min j lim = j by omega, show min (j + 1) lim = j + 1 by omega, befF_no hh]
      · rw [show min j lim = lim by omega, show min (j + 1) lim = lim by omega]
    · rw [Bool.and_eq_true, decide_eq_true_eq] at hh
      rw [endsTo_yes hh.1 hh.2, sumTo_snoc, ih]
      by_cases hjl : j < lim
      · rw [if_pos hjl, show min j lim = j by omega, show min (j + 1) lim = j + 1 by omega, befF_yes hz hh.1 (by omega) hh.2]
        have a := befF_range (m := m) hz hp (show j ≤ zs.length + 1 by omega)
        have b := wayF_range (m := m) hz (show j ≤ zs.length by omega)
        have := IntKind.wrap_i64 (x + befF m zs p j + wayF m zs j)
        unfold wrap64; omega
      · rw [if_neg hjl, show min j lim = lim by omega, show min (j + 1) lim = lim by omega]

/-- the boxes: the measure's (g), the setting's, the counter's, the word's, the sum's; the counter's map; the words and the lines -/
structure IxSt (w : World) (g sb kb fb bb r : Nat) (W t k : Int) (ad : Addr) (n c : Nat) (zs : List Int) (Al : Option Addr) (ls : List Int) (p : Nat) (x : Int) (V : World) : Prop where
  ms : V.cell? ⟨g, 0, none⟩ = some (.int .i64 W) ∧ V.cell? ⟨g, 1, none⟩ = some (.int .i64 t) ∧ V.cell? ⟨g, 2, none⟩ = some (.int .i64 k)
  st : Blk V sb #[.int .i64 W, .int .i64 t, .int .i64 k, .slice (some ad) n c] 59
  co : Blk V kb #[.slice (some ad) n c, .map (some r)] 63
  fr : Blk V fb #[.int .i64 p] 3
  be : Blk V bb #[.int .i64 x] 3
  cm : CMapG V r zs (fun k => k = fb ∨ k = bb)
  wd : IntsB V g (some ad) zs
  li : IntsB V g Al ls
  bl : Below g w V
structure IxOrd (g sb kb fb bb r : Nat) : Prop where
  a : g < sb
  b : sb < r
  c : r < kb
  d : kb < fb
  e : fb < bb
section
variable {w : World} {g sb kb fb bb r : Nat} {W t k : Int} {ad : Addr} {n c : Nat} {zs : List Int} {Al : Option Addr} {ls : List Int} {p : Nat} {x : Int} {V V' : World}
theorem Blk.by_ {w w' : World} {B r : Nat} {cs : Array Value} {T : TypeId} (h : Blk w B cs T) (hg : w.grownBy w' (some r)) (hr : B ≠ r) : Blk w' B cs T := (hg.block B h.lt (fun e => hr (by cases e; rfl))).trans h
theorem IxSt.below (h : IxSt w g sb kb fb bb r W t k ad n c zs Al ls p x V) (ho : IxOrd g sb kb fb bb r) (hb : Below V.heap.size V V') : IxSt w g sb kb fb bb r W t k ad n c zs Al ls p x V' :=
  have hl := h.st.lt
  have := ho.a
  ⟨hold3 hb (by omega) h.ms, h.st.below hb h.st.lt, h.co.below hb h.co.lt, h.fr.below hb h.fr.lt, h.be.below hb h.be.lt, h.cm.below hb, h.wd.keep (by omega) hb, h.li.keep (by omega) hb, h.bl.trans (hb.mono (by omega))⟩
theorem IxSt.by_ (h : IxSt w g sb kb fb bb r W t k ad n c zs Al ls p x V) (ho : IxOrd g sb kb fb bb r) (hg : V.grownBy V' (some r)) (hc : CMapG V' r zs (fun k => k = fb ∨ k = bb)) : IxSt w g sb kb fb bb r W t k ad n c zs Al ls p x V' :=
  have := ho.a; have := ho.b; have := ho.c; have := ho.d; have := ho.e; have hl := h.st.lt
  ⟨hold3by hg (by omega) h.ms, h.st.by_ hg (by omega), h.co.by_ hg (by omega), h.fr.by_ hg (by omega), h.be.by_ hg (by omega), hc, h.wd.keep3 hg (by omega), h.li.keep3 hg (by omega), h.bl.grown hg (by omega) (fun k e => by cases e; omega)⟩
theorem setCell_blk (V : World) (B : Nat) (o : Nat) (u : Value) (k : Nat) (hk : k ≠ B) : (V.setCell ⟨B, o, none⟩ u).heap[k]? = V.heap[k]? := Below.heap_setCell V ⟨B, o, none⟩ u k hk
theorem setCell_size (V : World) (p : Addr) (u : Value) : (V.setCell p u).heap.size = V.heap.size := by simp [World.setCell]
/-- a store into the word's box -/
theorem IxSt.setF (h : IxSt w g sb kb fb bb r W t k ad n c zs Al ls p x V) (ho : IxOrd g sb kb fb bb r) (p' : Nat) : IxSt w g sb kb fb bb r W t k ad n c zs Al ls p' x (V.setCell ⟨fb, 0, none⟩ (.int .i64 p')) :=
  have := ho.a; have := ho.b; have := ho.c; have := ho.d; have := ho.e
  have hb : Below fb V (V.setCell ⟨fb, 0, none⟩ (.int .i64 p')) := (Below.refl fb V).setCell (p := ⟨fb, 0, none⟩) (Nat.le_refl _) _
  ⟨hold3 hb (by omega) h.ms, h.st.other _ _ (by show sb ≠ fb; omega), h.co.other _ _ (by show kb ≠ fb; omega), h.fr.set1 _, h.be.other _ _ (by show bb ≠ fb; omega),
   h.cm.ext (fun k _ hk => setCell_blk V fb 0 _ k (fun e => hk (.inl e))), h.wd.keep (by omega) hb, h.li.keep (by omega) hb, h.bl.trans (hb.mono (by omega))⟩
/-- a store into the sum's box -/
theorem IxSt.setB (h : IxSt w g sb kb fb bb r W t k ad n c zs Al ls p x V) (ho : IxOrd g sb kb fb bb r) (x' : Int) : IxSt w g sb kb fb bb r W t k ad n c zs Al ls p x' (V.setCell ⟨bb, 0, none⟩ (.int .i64 x')) :=
  have := ho.a; have := ho.b; have := ho.c; have := ho.d; have := ho.e
  have hb : Below bb V (V.setCell ⟨bb, 0, none⟩ (.int .i64 x')) := (Below.refl bb V).setCell (p := ⟨bb, 0, none⟩) (Nat.le_refl _) _
  ⟨hold3 hb (by omega) h.ms, h.st.other _ _ (by show sb ≠ bb; omega), h.co.other _ _ (by show kb ≠ bb; omega), h.fr.other _ _ (by show fb ≠ bb; omega), h.be.set1 _,
   h.cm.ext (fun k _ hk => setCell_blk V bb 0 _ k (fun e => hk (.inr e))), h.wd.keep (by omega) hb, h.li.keep (by omega) hb, h.bl.trans (hb.mono (by omega))⟩
theorem IxSt.keptC {row : Option Nat} (h : IxSt w g sb kb fb bb r W t k ad n c zs Al ls p x V) (ho : IxOrd g sb kb fb bb r) (hg : V.grownBy V' row) (hr : ∀ q, row = some q → bb < q ∧ ∃ o : Obj, V.heap[q]? = some o ∧ o.isCells = false) : IxSt w g sb kb fb bb r W t k ad n c zs Al ls p x V' := by
  have := ho.a; have := ho.b; have := ho.c; have := ho.d; have := ho.e
  have hl := h.be.lt
  have hb : Below (bb + 1) V V' := (Below.refl (bb + 1) V).grown hg (by omega) (fun k e => (hr k e).1)
  refine ⟨hold3 hb (by omega) h.ms, h.st.kept hg (fun q e => (hr q e).2), h.co.kept hg (fun q e => (hr q e).2), h.fr.kept hg (fun q e => (hr q e).2), h.be.kept hg (fun q e => (hr q e).2), ?_, h.wd.keep (by omega) hb, h.li.keep (by omega) hb, h.bl.trans (hb.mono (by omega))⟩
  -- the map lies below, the rows hold cells
  obtain ⟨hG, es, clock, h1, h2⟩ := h.cm
  refine ⟨hG, es, clock, (hb.block r (by omega)).trans h1, fun e he => ?_⟩
  obtain ⟨W, t, k, p, a, b, c, g, d⟩ := h2 e he
  exact ⟨W, t, k, p, a, b, c, g, fun hn => by
    obtain ⟨a', e', hc⟩ := d hn
    exact ⟨a', e', fun j hj => cell_kept (hc j hj) hg (fun q e => (hr q e).2)⟩⟩
theorem KpE.by_ {b : Nat} (hg : V.grownBy V' (some r)) (h1 : g ≤ r) (h2 : r < b) : KpE b g V V' := ⟨hg.size, fun p hp hb => World.cell?_of_block (hg.block p.block hb (fun e => by injection e with e; omega))⟩
theorem IxSt.drewN (h : IxSt w g sb kb fb bb r W t k ad n c zs Al ls p x V) (j : Nat) : IxSt w g sb kb fb bb r W t k ad n c zs Al ls p x (V.drewN j) := ⟨h.ms, h.st, h.co, h.fr, h.be, h.cm, h.wd, h.li, below_drewN h.bl j⟩
end
end Go.Proofs.Ytddkedinkgnboaa
