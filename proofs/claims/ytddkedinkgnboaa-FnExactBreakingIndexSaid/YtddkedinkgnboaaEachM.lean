/-
  A number for the words from each one on, plainly (the program's fromEachWord and the model's l4Ways), and what leaves a function with marks among its deferred calls. Mathematics and rows, no condition.
-/
import Derived.Test.YtddkedinkgnboaaEnds
import Derived.Test.YtddkedinkgnboaaMemI
import Derived.Test.YtddkedinkgnboaaCm
namespace Go.Proofs.Ytddkedinkgnboaa
open Go.RowKit
set_option linter.unusedVariables false

/-- the numbers for lines that begin with word i: none, and then add for each end in p, given the numbers r behind -/
def accE (add : Int → Nat → Nat → Int → Int) (z : Int) (i : Nat) (r : List Int) (es : List Nat) : Int := es.foldl (fun acc q => add acc i q (r.getD q 0)) z
theorem accE_snoc (add : Int → Nat → Nat → Int → Int) (z : Int) (i : Nat) (r : List Int) (es : List Nat) (q : Nat) : accE add z i r (es ++ [q]) = add (accE add z i r es) i q (r.getD q 0) := by
  unfold accE; rw [List.foldl_append]; rfl
/-- the row when the last d words are done -/
def rowE (m : Msr) (zs : List Int) (add : Int → Nat → Nat → Int → Int) (e z : Int) : Nat → List Int
  | 0 => List.replicate zs.length 0 ++ [e]
  | d + 1 => (rowE m zs add e z d).set (zs.length - 1 - d) (accE add z (zs.length - 1 - d) (rowE m zs add e z d) (endsTo m zs (zs.length - 1 - d) (zs.length + 1)))
theorem rowE_len (m : Msr) (zs : List Int) (add : Int → Nat → Nat → Int → Int) (e z : Int) (d : Nat) : (rowE m zs add e z d).length = zs.length + 1 := by
  induction d with
  | zero => simp [rowE]
  | succ d ih => simp [rowE, ih]
theorem set_set_same {l : List Int} {i : Nat} {x y : Int} : (l.set i x).set i y = l.set i y := by simp
theorem getD_set_ne {l : List Int} {i q : Nat} {x : Int} (h : i ≠ q) : (l.set i x).getD q 0 = l.getD q 0 := by
  simp [List.getD, List.getElem?_set_ne h]
theorem getD_set_eq {l : List Int} {i : Nat} {x : Int} (h : i < l.length) : (l.set i x).getD i 0 = x := by
  simp [List.getD, h]
theorem row_start (n : Nat) (e : Int) : (List.replicate (n + 1) (0 : Int)).set n e = List.replicate n 0 ++ [e] := by
  rw [List.replicate_succ']
  rw [List.set_append_right _ _ (by simp)]
  simp
/-- a block of cells -/
def Blk (w : World) (B : Nat) (cs : Array Value) (T : TypeId) : Prop := w.heap[B]? = some (.cells cs T (0, 0))
theorem Blk.new (w : World) (cs : Array Value) (T : TypeId) : Blk (w.alloc (.cells cs T)) w.heap.size cs T := heap_alloc_new w _
theorem Blk.lt {w : World} {B : Nat} {cs : Array Value} {T : TypeId} (h : Blk w B cs T) : B < w.heap.size := (Array.getElem?_eq_some_iff.1 h).1
theorem Blk.below {w w' : World} {B b : Nat} {cs : Array Value} {T : TypeId} (h : Blk w B cs T) (hb : Below b w w') (hB : B < b) : Blk w' B cs T := (hb.block B hB).trans h
theorem Blk.kept {w w' : World} {B : Nat} {cs : Array Value} {T : TypeId} {row : Option Nat} (h : Blk w B cs T) (hg : w.grownBy w' row) (hr : ∀ r, row = some r → ∃ o : Obj, w.heap[r]? = some o ∧ o.isCells = false) : Blk w' B cs T := by
  refine (hg.block B h.lt (fun e => ?_)).trans h
  obtain ⟨o, ho, hc⟩ := hr B e.symm
  rw [show w.heap[B]? = _ from h] at ho; cases ho; cases hc
theorem Blk.other {w : World} {B : Nat} {cs : Array Value} {T : TypeId} (h : Blk w B cs T) (p : Addr) (u : Value) (hne : B ≠ p.block) : Blk (w.setCell p u) B cs T := by
  unfold Blk; rw [Below.heap_setCell w p u B hne]; exact h
theorem Blk.set1 {w : World} {B : Nat} {v : Value} {T : TypeId} (h : Blk w B #[v] T) (u : Value) : Blk (w.setCell ⟨B, 0, none⟩ u) B #[u] T := by
  unfold Blk; rw [heap_setCell_same w B 0 _ _ _ h]; rfl
theorem Blk.one {w : World} {B : Nat} {v : Value} {T : TypeId} (h : Blk w B #[v] T) : w.cell? ⟨B, 0, none⟩ = some v ∧ w.frozen? ⟨B, 0, none⟩ = false :=
  ⟨by rw [cell_of_row w B 0 _ _ (0, 0) h]; rfl, frozen_of_row w B 0 _ _ h⟩
theorem Blk.st {w : World} {B : Nat} {W t k : Int} {s : Value} {T : TypeId} (h : Blk w B #[.int .i64 W, .int .i64 t, .int .i64 k, s] T) : St w B W t k s :=
  ⟨by rw [cell_of_row w B 0 _ _ (0, 0) h]; rfl, by rw [cell_of_row w B 1 _ _ (0, 0) h]; rfl, by rw [cell_of_row w B 2 _ _ (0, 0) h]; rfl, by rw [cell_of_row w B 3 _ _ (0, 0) h]; rfl⟩
theorem Own.keptC {w w' : World} {B : Nat} {v : Value} {zs : List Int} {row : Option Nat} (h : Own w B v zs) (hg : w.grownBy w' row) (hr : ∀ r, row = some r → ∃ o : Obj, w.heap[r]? = some o ∧ o.isCells = false) : Own w' B v zs := by
  refine ⟨h.1, ?_⟩
  rcases h.2 with hn | ⟨g, cap, cur, hv, hB, hh, rest⟩
  · exact .inl hn
  · refine .inr ⟨g, cap, cur, hv, hB, (hg.block g (Array.getElem?_eq_some_iff.1 hh).1 (fun e => ?_)).trans hh, rest⟩
    obtain ⟨o, ho, hc⟩ := hr g e.symm
    rw [hh] at ho; cases ho; cases hc
theorem Own.setOther {w : World} {B : Nat} {v : Value} {zs : List Int} (h : Own w B v zs) (p : Addr) (u : Value) (hne : ∀ g, v.ownBlock = some g → g ≠ p.block) : Own (w.setCell p u) B v zs := by
  refine ⟨h.1, ?_⟩
  rcases h.2 with hn | ⟨g, cap, cur, hv, hB, hh, rest⟩
  · exact .inl hn
  · refine .inr ⟨g, cap, cur, hv, hB, (Below.heap_setCell w p u g (hne g (by rw [hv]; rfl))).trans hh, rest⟩

/-- marks of loops over functions: each names a block for deferred calls that holds none -/
def Marks (w : World) (Ds : List Nat) : Prop := ∀ D ∈ Ds, w.heap[D]? = some (.deferred (some []))
def markOf (D : Nat) : Deferred := { target := .collected D, args := #[] }
theorem Marks.below {w w' : World} {Ds : List Nat} {b : Nat} (h : Marks w Ds) (hb : Below b w w') (hB : ∀ D ∈ Ds, D < b) : Marks w' Ds := fun D hD => (hb.block D (hB D hD)).trans (h D hD)
theorem Marks.kept {w w' : World} {Ds : List Nat} {row : Option Nat} (h : Marks w Ds) (hg : w.grownBy w' row) (hr : ∀ D ∈ Ds, row ≠ some D) : Marks w' Ds := fun D hD =>
  (hg.block D (Array.getElem?_eq_some_iff.1 (h D hD)).1 (fun e => hr D hD e.symm)).trans (h D hD)
theorem Marks.lt {w : World} {Ds : List Nat} (h : Marks w Ds) : ∀ D ∈ Ds, D < w.heap.size := fun D hD => (Array.getElem?_eq_some_iff.1 (h D hD)).1
theorem Marks.set {w : World} {Ds : List Nat} (h : Marks w Ds) {p : Addr} (u : Value) (hp : ∃ o : Obj, w.heap[p.block]? = some o ∧ o.isCells = true) : Marks (w.setCell p u) Ds := fun D hD => by
  refine (Below.heap_setCell w p u D (fun e => ?_)).trans (h D hD)
  obtain ⟨o, ho, hc⟩ := hp
  have := h D hD
  rw [e, ho] at this; cases this; cases hc
theorem leaves_marks {F : Fence} {n : Nat} {fn : Func} {tmps : Array Value} {R : Ending → World → Prop} (b : Nat) (Φ : World → Prop) (hΦ : ∀ w D, b ≤ D → Φ w → w.heap[D]? = some (.deferred (some [])) → Φ (w.putObj D (.deferred none)))
    (hfin : ∀ w, Φ w → LeavesIn F n Try.prog fn tmps R [] .returning w) : ∀ (Ds : List Nat) (w : World), Ds.Nodup → (∀ D ∈ Ds, b ≤ D) → Marks w Ds → Φ w → LeavesInM F n Try.prog fn tmps R (Ds.map markOf) .returning w := by
  intro Ds
  induction Ds with
  | nil => intro w _ _ _ h; exact hfin w h
  | cons D Ds ih =>
    intro w hnd hb hm h
    have hD := hm D List.mem_cons_self
    rw [List.nodup_cons] at hnd
    refine ⟨by simp, .inl ⟨D, _, rfl, run_takeDeferred hD, ih _ hnd.2 (fun D' hD' => hb D' (List.mem_cons_of_mem _ hD')) (fun D' hD' => ?_) (hΦ w D (hb D List.mem_cons_self) h hD)⟩⟩
    exact (World.putObj_heap_other (fun e => hnd.1 (by rw [← e]; exact hD'))).trans (hm D' (List.mem_cons_of_mem _ hD'))
theorem own_putObj {w : World} {B D : Nat} {v : Value} {zs : List Int} (h : Own w B v zs) (hD : w.heap[D]? = some (.deferred (some []))) : Own (w.putObj D (.deferred none)) B v zs :=
  h.keptC (grownBy_putObj' w D _) (fun r e => by cases e; exact ⟨_, hD, rfl⟩)
theorem below_putObj {b : Nat} {w0 w : World} {D : Nat} (h : Below b w0 w) (hD : w.heap[D]? = some (.deferred (some []))) (hb : b ≤ D) : Below b w0 (w.putObj D (.deferred none)) :=
  h.grown (grownBy_putObj' w D _) (by have := h.size; have := (Array.getElem?_eq_some_iff.1 hD).1; omega) (fun k e => by cases e; exact hb)
theorem KpE.putObj {b g l : Nat} {w w' : World} {o : Obj} (o' : Obj) (hb : b + 1 < w.heap.size) (hg : g ≤ w.heap.size) (hl : w.heap.size ≤ l) (h : w'.heap[l]? = some o) : KpE b g w' (w'.putObj l o') := by
  have hg2 := grownBy_putObj' w' l o'
  refine ⟨hg2.size, fun p hp hps => World.cell?_of_block (hg2.block p.block hps (fun e => ?_))⟩
  injection e with e
  omega
theorem KpE.store {b g : Nat} {w : World} {p : Addr} (u : Value) (h1 : g ≤ p.block) (h2 : p.block < b) : KpE b g w (w.setCell p u) := by
  refine ⟨Nat.le_of_eq (by simp [World.setCell]), fun q hq _ => World.cell?_of_block (Below.heap_setCell w p u q.block (fun e => ?_))⟩
  omega
theorem KpE.drewN {b g : Nat} {w w' : World} (h : KpE b g w w') (k : Nat) : KpE b g w (w'.drewN k) := h
section
variable {F : Fence} {n0 : Nat} {ops : Array Oper} {rest : List Oper} {o : Oper} {a : Act} {Q : Exit → Act → World → Prop}
theorem wplI_make_int (w : World) (hg : o.guard = none) (l : Operand) (hop : o.op = Op.makeSlice 25 l l) (n : Nat) (L : Int) (hl : a.eval l = .int .i64 L) (hL : L = (n : Int)) (hn : n ≤ 2097152)
    (hK : ∀ w', Own w' w.heap.size (.slice (some ⟨w.heap.size, 0, none⟩) n n) (List.replicate n 0) → Below w.heap.size w w' → wpListIn F n0 Try.prog ops Q rest (a.put o.dst (.slice (some ⟨w.heap.size, 0, none⟩) n n)) w') :
    wpListIn F n0 Try.prog ops Q (o :: rest) a w := by
  obtain ⟨i0, hi, hz0, hz1, hz2⟩ := info_parts intInfo
  refine wpListIn_plain hg fun K hK' => ?_
  obtain ⟨w', hrun, r1, r2⟩ := run_make_full (P := Try.prog) w w.heap.size 25 3 i0 (.int .i64 0) 1 Try.underlying25 hi hz0 hz1 .i64 .i64 n (by rw [hz2]; omega) (by unfold maxLen; omega) (Nat.le_refl _)
  subst hL
  unfold Oper.wpIn
  refine ⟨?_, ?_⟩
  · simp [Oper.about, hop]
  · rw [Oper.semAt_plain F _ _ (by rw [hop]; intro c hc'; cases hc')]
    simp [execOp, hop, hl, hrun, Result.andThen]
    refine hK' _ _ (hK w' ?_ ((Below.refl _ _).grown r2 (Nat.le_refl _) (fun k hk => by cases hk)))
    rw [made_rep _ rfl] at r1
    unfold Own
    rw [List.length_replicate, List.map_replicate]
    exact r1
end
end Go.Proofs.Ytddkedinkgnboaa
