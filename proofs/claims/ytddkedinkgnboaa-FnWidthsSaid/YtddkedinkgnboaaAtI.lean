/-
  BreakingAt of the program by contract. Conditions: lengths and capacities within the reach of a slice, an index of int's range.
-/
import Derived.Test.YtddkedinkgnboaaPkD
import Derived.Test.YtddkedinkgnboaaPkC
namespace Go.Proofs.Ytddkedinkgnboaa
open Go.RowKit
set_option linter.unusedVariables false

/-- what the function that passes the breakings ahead of an index leans on: the counter's box, the measure's, the index's, the counter's map -/
structure RAt (W t k : Int) (ad : Addr) (n c kb mb ib r g : Nat) (zs : List Int) (G : Nat → Prop) (s : Int) (w : World) : Prop where
  lo : 0 ≤ s
  hi : s ≤ 9223372036854775807
  co : Blk w kb #[.slice (some ad) n c, .map (some r)] 63
  ms : Blk w mb #[.int .i64 W, .int .i64 t, .int .i64 k] 24
  ix : Blk w ib #[.int .i64 s] 3
  cm : CMapG w r zs (fun j => G j ∨ j = ib)
  wd : IntsB w g (some ad) zs
  gk : g ≤ kb ∧ g ≤ mb ∧ g ≤ ib ∧ g ≤ r
  no : ¬ G kb ∧ ¬ G mb ∧ ¬ G ib
  ne : kb ≠ ib ∧ mb ≠ ib ∧ kb ≠ r ∧ mb ≠ r ∧ ib ≠ r
  gg : ∀ j, G j → g ≤ j

set_option maxRecDepth 100000 in
set_option maxHeartbeats 1600000 in
theorem ldAt_any (W t k : Int) (ad : Addr) (n c kb mb ib r g p q : Nat) (zs : List Int) (G : Nat → Prop) (s : Int) (w : World) (hn : zs.length = n) (hc : n ≤ c) (hcm : c ≤ maxLen) (hm : msrB ⟨W, t, k⟩ = true) (ht : textB zs = true) (hq : q ≤ n) (hG : ∀ j, G j → j < w.heap.size) (h : RAt W t k ad n c kb mb ib r g zs G s w) :
    Calls Try.prog 51 #[.int .i64 p, .int .i64 q, .pointer (some ⟨kb, 0, none⟩), .pointer (some ⟨mb, 0, none⟩), .pointer (some ⟨ib, 0, none⟩)] w fun e w' => e = .returned (.bool (ldA ⟨W, t, k⟩ zs s p q).1) ∧ RAt W t k ad n c kb mb ib r g zs G (ldA ⟨W, t, k⟩ zs s p q).2 w' ∧ ExtX (fun j => j = ib ∨ j = r) w w' := by
  have HC := Lib.hid (cmWayG_any (fun j => G j ∨ j = ib) W t k ad n c r q zs w (fun j hj => by rcases hj with hj | hj; exact hG j hj; rw [hj]; exact h.ix.lt) hn hc hcm h.wd.ints hm ht h.cm hq)
  obtain ⟨-, -, h40⟩ := textB_parts ht
  have hw := wayF_range (m := ⟨W, t, k⟩) h40 (i := q) (by omega)
  have HA : Hid (ldA ⟨W, t, k⟩ zs s p q = if wayF ⟨W, t, k⟩ zs q ≤ s then (false, s - wayF ⟨W, t, k⟩ zs q) else (true, s)) := rfl
  obtain ⟨x, hx⟩ : ∃ x, wayF ⟨W, t, k⟩ zs q = x := ⟨_, rfl⟩
  rw [hx] at HC HA hw
  have HH := Lib.hid h
  obtain ⟨k0, k1⟩ := h.co.two
  obtain ⟨m0, m1, m2⟩ := h.ms.three
  have hlo := h.lo; have hhi := h.hi
  -- behind the counting
  have HR : Hid (∀ w1, w.grownBy w1 (some r) → CMapG w1 r zs (fun j => G j ∨ j = ib) → RAt W t k ad n c kb mb ib r g zs G s w1) := fun w1 hg hM =>
    ⟨HH.out.lo, HH.out.hi, HH.out.co.by_ hg HH.out.ne.2.2.1, HH.out.ms.by_ hg HH.out.ne.2.2.2.1, HH.out.ix.by_ hg HH.out.ne.2.2.2.2, hM, HH.out.wd.keep3 hg HH.out.gk.2.2.2, HH.out.gk, HH.out.no, HH.out.ne, HH.out.gg⟩
  clear h hx hG hn hc hcm hm ht hq
  by_cases hle : x ≤ s
  · have e1 : IntKind.i64.wrap (s - x) = s - x := by rw [IntKind.wrap_i64]; omega
    rw [if_pos hle] at HA
    have hge : decide (x ≤ s) = true := decide_eq_true hle
    go_enter Try.func51, Try.ntmps51
    go_wp2_with (go_at_call 48; refine HC.out.mono ?_; rintro e w1 ⟨rfl, hg1, hM1⟩; have HR1 := Lib.hid (HR.out w1 hg1 hM1); have HG1 := Lib.hid hg1; obtain ⟨i0, i1⟩ := HR1.out.ix.one; clear hg1 hM1)
    go_ret
    rw [HA.out]
    refine ⟨rfl, ⟨by show 0 ≤ s - x; omega, by show s - x ≤ _; omega, HR1.out.co.other _ _ HR1.out.ne.1, HR1.out.ms.other _ _ HR1.out.ne.2.1, HR1.out.ix.set1 _, HR1.out.cm.ext (fun j _ hj => setCell_blk w1 ib 0 _ j (fun e => hj (.inr e))), HR1.out.wd.ext (X := fun j => j = ib) (ExtX.by_ (grown_cell w1 ⟨ib, 0, none⟩ _) (fun q e => by cases e; rfl)) (fun j hj => by rw [hj]; exact HR1.out.gk.2.2.1), HR1.out.gk, HR1.out.no, HR1.out.ne, HR1.out.gg⟩, ?_⟩
    exact (ExtX.by_ (X := fun j => j = ib ∨ j = r) HG1.out (fun q e => by cases e; exact .inr rfl)).trans (ExtX.by_ (grown_cell w1 ⟨ib, 0, none⟩ _) (fun q e => by cases e; exact .inl rfl))
  · rw [if_neg hle] at HA
    have hge : decide (x ≤ s) = false := decide_eq_false hle
    go_enter Try.func51, Try.ntmps51
    go_wp2_with (go_at_call 48; refine HC.out.mono ?_; rintro e w1 ⟨rfl, hg1, hM1⟩; have HR1 := Lib.hid (HR.out w1 hg1 hM1); have HG1 := Lib.hid hg1; obtain ⟨i0, i1⟩ := HR1.out.ix.one; clear hg1 hM1)
    go_ret
    rw [HA.out]
    exact ⟨rfl, HR1.out, ExtX.by_ HG1.out (fun q e => by cases e; exact .inr rfl)⟩
theorem atLeads (W t k : Int) (ad : Addr) (n c kb mb ib r g g1 : Nat) (zs : List Int) (hg1 : g ≤ g1) (hr1 : r < g1) (hn : zs.length = n) (hc : n ≤ c) (hcm : c ≤ maxLen) (hm : msrB ⟨W, t, k⟩ = true) (ht : textB zs = true) :
    LeadsOK ⟨W, t, k⟩ zs 51 #[.pointer (some ⟨kb, 0, none⟩), .pointer (some ⟨mb, 0, none⟩), .pointer (some ⟨ib, 0, none⟩)] g1 (fun j => j = ib ∨ j = r) (RAt W t k ad n c kb mb ib r g zs) (ldA ⟨W, t, k⟩ zs) where
  ent := fun args w => by kernel_rfl
  ext := fun G s w w' h he => ⟨h.lo, h.hi, h.co.ext he h.no.1, h.ms.ext he h.no.2.1, h.ix.ext he h.no.2.2, h.cm.ext (fun j hj hG => he.block j hj (fun hx => hG (.inl hx))), h.wd.ext he h.gg, h.gk, h.no, h.ne, h.gg⟩
  join := fun G G' s w h hG => ⟨h.lo, h.hi, h.co, h.ms, h.ix, h.cm.join (fun j hj => hj.elim (fun hj => (hG j hj).imp .inl id) (fun hj => .inl (.inr hj))), h.wd, h.gk,
    ⟨fun hs => (hG _ hs).elim h.no.1 (fun hx => by have := h.co.lt; omega), fun hs => (hG _ hs).elim h.no.2.1 (fun hx => by have := h.ms.lt; omega), fun hs => (hG _ hs).elim h.no.2.2 (fun hx => by have := h.ix.lt; omega)⟩, h.ne,
    fun j hj => (hG j hj).elim (h.gg j) (fun hx => by have := h.co.lt; have := h.gk.1; omega)⟩
  kept := fun G s w w' row h hg hr => by
    refine ⟨h.lo, h.hi, h.co.kept hg (fun q e => (hr q e).2), h.ms.kept hg (fun q e => (hr q e).2), h.ix.kept hg (fun q e => (hr q e).2), ?_, h.wd.ext (X := fun k => g1 ≤ k) (ExtX.by_ hg (fun q e => (hr q e).1)) (fun k hk => by omega), h.gk, h.no, h.ne, h.gg⟩
    obtain ⟨hG, es, clock, h1, h2⟩ := h.cm
    refine ⟨hG, es, clock, (hg.block r (Array.getElem?_eq_some_iff.1 h1).1 (fun e => by have := (hr r e.symm).1; omega)).trans h1, fun e he => ?_⟩
    obtain ⟨W, t, k, p, a, b, c, d, f⟩ := h2 e he
    exact ⟨W, t, k, p, a, b, c, d, fun hn => by
      obtain ⟨a', e', hc⟩ := f hn
      exact ⟨a', e', fun j hj => cell_kept (hc j hj) hg (fun q e => (hr q e).2)⟩⟩
  call := fun G s p q w h hG hg hpq hq hl => ldAt_any W t k ad n c kb mb ib r g p q zs G s w hn hc hcm hm ht (by omega) (fun j hj => (hG j hj).2) h
end Go.Proofs.Ytddkedinkgnboaa
