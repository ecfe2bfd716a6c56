/-
  Magazines in memory: how one reads, and one that is the call's own. Plain words, no condition.
-/
import Derived.Test.YthoepelgmplcmaaMatE
namespace Go.Proofs.Ythoepelgmplcmaa
open Go.RowKit
set_option linter.unusedVariables false

/-- all teeth are in the range of int -/
def wfM (ms : List (List Mat)) : Prop := ∀ xs ∈ ms, ∀ x ∈ xs, (Lit.int .i64 x.2).wf = true
/-- the slice with the address A reads as the magazine ms, in blocks from lo up to hi -/
def MagI (w : World) (lo hi : Nat) (A : Option Addr) (ms : List (List Mat)) : Prop :=
  0 < ms.length → ∃ ad, A = some ad ∧ lo ≤ ad.block ∧ ad.block < hi ∧ ∀ j xs, ms[j]? = some xs → ∃ Aj cj, w.cell? (ad.add j) = some (.slice Aj xs.length cj) ∧ xs.length ≤ cj ∧ cj ≤ maxLen ∧ MatsI w lo hi Aj xs
section
variable {w w' : World} {lo hi : Nat} {A : Option Addr} {ms : List (List Mat)}
theorem MagI.at_ {k : Nat} (h : MagI w lo hi A ms) (hk : k < ms.length) : ∃ ad xs Aj cj, A = some ad ∧ Hid (ms[k]? = some xs) ∧ w.cell? (ad.add k) = some (.slice Aj xs.length cj) ∧ xs.length ≤ cj ∧ cj ≤ maxLen ∧ MatsI w lo hi Aj xs := by
  obtain ⟨ad, e, _, _, hc⟩ := h (by omega)
  obtain ⟨Aj, cj, h1, h2, h3, h4⟩ := hc k ms[k] (List.getElem?_eq_getElem hk)
  exact ⟨ad, ms[k], Aj, cj, e, List.getElem?_eq_getElem hk, h1, h2, h3, h4⟩
theorem MagI.keep (h : MagI w lo hi A ms) (hk : ∀ p : Addr, lo ≤ p.block → p.block < hi → w'.cell? p = w.cell? p) : MagI w' lo hi A ms := fun hn => by
  obtain ⟨ad, e, h1, h2, hc⟩ := h hn
  refine ⟨ad, e, h1, h2, fun j xs hx => ?_⟩
  obtain ⟨Aj, cj, c1, c2, c3, c4⟩ := hc j xs hx
  exact ⟨Aj, cj, (hk _ (by rw [block_add]; exact h1) (by rw [block_add]; exact h2)).trans c1, c2, c3, c4.keep hk⟩
theorem MagI.below {B : Nat} (h : MagI w lo hi A ms) (hB : hi ≤ B) (hb : Below B w w') : MagI w' lo hi A ms := h.keep fun p _ h2 => hb.cell (by omega)
theorem MagI.chg {lo' hi' : Nat} (h : MagI w lo hi A ms) (hc : Chg lo' hi' w w') (hs : hi ≤ w.heap.size) (hn : hi ≤ lo' ∨ hi' ≤ lo) : MagI w' lo hi A ms :=
  h.keep fun p h1 h2 => hc.cell (by omega) (by omega)
theorem MagI.wide {lo' hi' : Nat} (h : MagI w lo hi A ms) (h1 : lo' ≤ lo) (h2 : hi ≤ hi') : MagI w lo' hi' A ms := fun hn => by
  obtain ⟨ad, e, g1, g2, hc⟩ := h hn
  refine ⟨ad, e, by omega, by omega, fun j xs hx => ?_⟩
  obtain ⟨Aj, cj, c1, c2, c3, c4⟩ := hc j xs hx
  exact ⟨Aj, cj, c1, c2, c3, c4.wide h1 h2⟩
theorem MagI.nil (w : World) (lo hi : Nat) (A : Option Addr) : MagI w lo hi A [] := fun h => absurd h (by simp)
end

/-- the value v, with the headers hs, is a magazine of the call's own that holds ms, in blocks from B up to hi, no two rows in one block -/
structure OwnMag (w : World) (B hi : Nat) (v : Value) (hs : List Value) (ms : List (List Mat)) : Prop where
  outer : w.ownsRow B 32 1 v ms.length hs
  rows : ∀ (j : Nat) (xs : List Mat), ms[j]? = some xs → ∃ h : Value, hs[j]? = some h ∧ OwnM w B h xs
  apart : ∀ (i j : Nat) (h h' : Value) (g : Nat), hs[i]? = some h → hs[j]? = some h' → h.ownBlock = some g → h'.ownBlock = some g → i = j
  other : ∀ (i : Nat) (h : Value) (g : Nat), hs[i]? = some h → h.ownBlock = some g → v.ownBlock ≠ some g ∧ g < hi
  top : ∀ g : Nat, v.ownBlock = some g → g < hi
section
variable {w w' : World} {B hi : Nat} {v : Value} {hs : List Value} {ms : List (List Mat)}
theorem OwnMag.len (h : OwnMag w B hi v hs ms) : hs.length = ms.length := by have := h.outer.1; omega
theorem OwnMag.form (h : OwnMag w B hi v hs ms) : ∃ A c, v = .slice A ms.length c ∧ ms.length ≤ c ∧ c ≤ maxLen ∧ (∀ a, A = some a → ∃ g, a = ⟨g, 0, none⟩ ∧ B ≤ g ∧ g < w.heap.size) ∧ (0 < ms.length → ∃ a, A = some a) := by
  rcases h.outer.2 with ⟨rfl, hn⟩ | ⟨g, cap, cur, rfl, hg, hh, hcap, hcm, _⟩
  · exact ⟨none, 0, by rw [hn], by omega, Nat.zero_le _, fun a ha => (by cases ha), fun h => by omega⟩
  · exact ⟨some ⟨g, 0, none⟩, cap, rfl, hcap, hcm, fun a ha => ⟨g, by injection ha with ha; exact ha.symm, hg, (Array.getElem?_eq_some_iff.1 hh).1⟩, fun _ => ⟨_, rfl⟩⟩
theorem OwnMag.reads {A : Option Addr} {n c : Nat} (h : OwnMag w B hi (.slice A n c) hs ms) : MagI w B hi A ms := fun hn => by
  obtain ⟨A', c', hv, _, _, hA, hS⟩ := h.form
  injection hv with e1 e2 e3
  subst e1
  obtain ⟨a, ha⟩ := hS hn
  subst ha
  obtain ⟨g, rfl, h1, h2⟩ := hA a rfl
  refine ⟨_, rfl, h1, h.top g rfl, fun j xs hx => ?_⟩
  obtain ⟨hj, e, ho⟩ := h.rows j xs hx
  obtain ⟨Aj, cj, rfl, k1, k2, hA', _⟩ := ho.form
  have hc := World.ownsRow.cells h.outer (g := g) rfl j _ e
  refine ⟨Aj, cj, hc, k1, k2, ?_⟩
  intro hp
  obtain ⟨ad, e1, g1, g2, hcell⟩ := ho.reads hp
  refine ⟨ad, e1, g1, ?_, hcell⟩
  obtain ⟨g', rfl, q1, q2⟩ := hA' ad e1
  subst e1
  exact (h.other j _ g' e rfl).2
theorem OwnMag.blocks (h : OwnMag w B hi v hs ms) : ∀ (i : Nat) (h' : Value) (g : Nat), hs[i]? = some h' → h'.ownBlock = some g → B ≤ g ∧ g < w.heap.size := fun i h' g hi' hg => by
  have hlt : i < ms.length := by rw [← h.len]; exact (List.getElem?_eq_some_iff.1 hi').1
  obtain ⟨h'', e, ho⟩ := h.rows i ms[i] (List.getElem?_eq_getElem hlt)
  rw [hi'] at e
  injection e with e
  subst e
  exact ho.lt g hg
theorem OwnMag.below (h : OwnMag w B hi v hs ms) (hb : Below w.heap.size w w') : OwnMag w' B hi v hs ms where
  outer := row_keep h.outer hb
  rows := fun j xs hx => by obtain ⟨hj, e, ho⟩ := h.rows j xs hx; exact ⟨hj, e, ho.below hb⟩
  apart := h.apart
  other := h.other
  top := h.top
theorem OwnMag.chg {lo' hi' : Nat} (h : OwnMag w B hi v hs ms) (hc : Chg lo' hi' w w') (hn : hi ≤ lo' ∨ hi' ≤ B) : OwnMag w' B hi v hs ms where
  outer := by
    refine ⟨h.outer.1, ?_⟩
    have hl := World.ownsRow.lt h.outer
    have ht := h.top
    rcases h.outer.2 with hnil | ⟨g, cap, cur, rfl, hg, hh, rest⟩
    · exact .inl hnil
    · exact .inr ⟨g, cap, cur, rfl, hg, (hc.block g (hl g rfl).2 (by have := ht g rfl; omega)).trans hh, rest⟩
  rows := fun j xs hx => by
    obtain ⟨hj, e, ho⟩ := h.rows j xs hx
    exact ⟨hj, e, ho.chg hc fun k hk => by have h1 := ho.lt k hk; have h2 := (h.other j hj k e hk).2; omega⟩
  apart := h.apart
  other := h.other
  top := h.top
end
end Go.Proofs.Ythoepelgmplcmaa
