/-
  A magazine at work, as memory: a row of channels, in each the matrices that lie in it. What making, sending and receiving leave of it. Plain rules, no condition but those in each premise.
-/
import Derived.Test.YtdijlofcgcikjaaDoorChan
import Derived.Test.YtdijlofcgcikjaaDoorPkF
import Derived.Conc.SmallLaws
import Derived.Conc.LoneCalls
import Derived.Conc.Token
namespace Go.Proofs.YtdijlofcgcikjaaDoor
open Go.RowKit Go.Conc
set_option linter.unusedVariables false

def cvM (x : Mat) : Value := .agg #[.int .i64 x.1, .int .i64 x.2]
def bufM (xs : List Mat) : Array Value := (xs.map cvM).toArray
theorem bufM_size (xs : List Mat) : (bufM xs).size = xs.length := by unfold bufM; simp
theorem bufM_push (xs : List Mat) (x : Mat) : (bufM xs).push (cvM x) = bufM (xs ++ [x]) := by unfold bufM; simp
theorem bufM_tail (x : Mat) (xs : List Mat) : (bufM (x :: xs)).extract 1 (bufM (x :: xs)).size = bufM xs := by
  unfold bufM
  refine Array.ext' ?_
  simp
  exact List.take_of_length_le (by simp)
theorem bufM_head (x : Mat) (xs : List Mat) : (bufM (x :: xs)).getD 0 undef = cvM x := by unfold bufM; rfl
/-- the row v of channels hs (none: not made yet) holds the magazine ms, in blocks from B up to hi, no two channels the same -/
structure ChM (w : World) (B hi : Nat) (v : Value) (hs : List (Option Nat)) (ms : List (List Mat)) : Prop where
  len : hs.length = ms.length
  outer : w.ownsRow B 103 1 v hs.length (hs.map Value.chan)
  chans : ∀ (i c : Nat), hs[i]? = some (some c) → ∃ (xs : List Mat) (s r : Nat), ms[i]? = some xs ∧ w.heap[c]? = some (.chan 20 (bufM xs) false s r false)
  place : ∀ (i c : Nat), hs[i]? = some (some c) → B ≤ c ∧ c < hi ∧ v.ownBlock ≠ some c
  apart : ∀ (i j c : Nat), hs[i]? = some (some c) → hs[j]? = some (some c) → i = j
  top : ∀ g, v.ownBlock = some g → g < hi
theorem row_keepB {w w' : World} {B size n : Nat} {T : TypeId} {v : Value} {xs : List Value} (h : w.ownsRow B T size v n xs) (hk : ∀ b, v.ownBlock = some b → w'.heap[b]? = w.heap[b]?) : w'.ownsRow B T size v n xs := by
  refine ⟨h.1, ?_⟩
  rcases h.2 with hn | ⟨g, cap, cur, hv, hg, hh, rest⟩
  · exact .inl hn
  · exact .inr ⟨g, cap, cur, hv, hg, (hk g (by rw [hv]; rfl)).trans hh, rest⟩
section
variable {w w' : World} {B hi : Nat} {v : Value} {hs : List (Option Nat)} {ms : List (List Mat)}
theorem ChM.keep (h : ChM w B hi v hs ms) (hk : ∀ b, B ≤ b → b < hi → w'.heap[b]? = w.heap[b]?) : ChM w' B hi v hs ms where
  len := h.len
  outer := row_keepB h.outer fun b hb => hk b (World.ownsRow.lt h.outer b hb).1 (h.top b hb)
  chans := fun i c hc => by
    obtain ⟨xs, s, r, h1, h2⟩ := h.chans i c hc
    obtain ⟨p1, p2, -⟩ := h.place i c hc
    exact ⟨xs, s, r, h1, (hk c p1 p2).trans h2⟩
  place := h.place
  apart := h.apart
  top := h.top
theorem ChM.below (h : ChM w B hi v hs ms) (hhi : hi ≤ w.heap.size) (hb : Below w.heap.size w w') : ChM w' B hi v hs ms := h.keep fun b _ h2 => hb.block b (by omega)
theorem ChM.chg {lo' hi' : Nat} (h : ChM w B hi v hs ms) (hhi : hi ≤ w.heap.size) (hc : Chg lo' hi' w w') (hn : hi ≤ lo' ∨ hi' ≤ B) : ChM w' B hi v hs ms := h.keep fun b h1 h2 => hc.block b (by omega) (by omega)
theorem ChM.wide {hi' : Nat} (h : ChM w B hi v hs ms) (hle : hi ≤ hi') : ChM w B hi' v hs ms :=
  ⟨h.len, h.outer, h.chans, fun i c hc => by obtain ⟨a, b, c'⟩ := h.place i c hc; exact ⟨a, by omega, c'⟩, h.apart, fun g hg => by have := h.top g hg; omega⟩
theorem chg_setChan (w : World) (c cap : Nat) (buf : Array Value) (cl : Bool) (s r : Nat) (tm : Bool) : Chg c (c + 1) w (w.setChan c cap buf cl s r tm) :=
  ⟨rfl, rfl, rfl, by rw [size_setChan]; exact Nat.le_refl _, fun k hk hn => heap_setChan_ne w cap buf cl s r tm (by omega)⟩
/-- what lies in a channel turned -/
theorem ChM.comm (h : ChM w B hi v hs ms) {i c : Nat} (hc : hs[i]? = some (some c)) (ys : List Mat) (s r : Nat) : ChM (w.setChan c 20 (bufM ys) false s r false) B hi v hs (ms.set i ys) where
  len := by rw [List.length_set]; exact h.len
  outer := row_keepB h.outer fun b hb => heap_setChan_ne w _ _ _ _ _ _ (fun e => (h.place i c hc).2.2 (by rw [hb, e]))
  chans := fun j d hd => by
    obtain ⟨xs, s1, r1, h1, h2⟩ := h.chans j d hd
    obtain ⟨_, _, _, _, h0⟩ := h.chans i c hc
    by_cases e : j = i
    · subst e
      rw [hc] at hd; injection hd with hd; injection hd with hd; subst hd
      exact ⟨ys, s, r, List.getElem?_set_self (List.getElem?_eq_some_iff.1 h1).1, heap_setChan_self w h0 _ _ _ _ _ _⟩
    · have hne : c ≠ d := fun e2 => e (h.apart j i d hd (e2 ▸ hc))
      exact ⟨xs, s1, r1, by rw [List.getElem?_set_ne (fun e2 => e e2.symm)]; exact h1, (heap_setChan_ne w _ _ _ _ _ _ hne).trans h2⟩
  place := h.place
  apart := h.apart
  top := h.top
/-- a channel made and laid into the row -/
theorem ChM.make {g n cap i : Nat} (h : ChM w B hi (.slice (some ⟨g, 0, none⟩) n cap) hs ms) (hn : hs[i]? = some none) (hx : ms[i]? = some []) (hhi : hi ≤ w.heap.size) :
    ChM ((w.alloc (.chan 20 #[] false 0 0 false)).setCell ⟨g, i, none⟩ (.chan (some w.heap.size))) B (w.heap.size + 1) (.slice (some ⟨g, 0, none⟩) n cap) (hs.set i (some w.heap.size)) ms := by
  have hg := h.top g rfl
  have hB := (World.ownsRow.lt h.outer g rfl).1
  have hil := (List.getElem?_eq_some_iff.1 hn).1
  have hold : ∀ b, b < w.heap.size → b ≠ g → ((w.alloc (.chan 20 #[] false 0 0 false)).setCell ⟨g, i, none⟩ (.chan (some w.heap.size))).heap[b]? = w.heap[b]? := fun b hb hne => by
    rw [Below.heap_setCell _ _ _ _ (by show b ≠ g; exact hne)]
    exact ((Below.refl w.heap.size w).alloc (Nat.le_refl _) _).block b hb
  refine ⟨by rw [List.length_set]; exact h.len, ?_, ?_, ?_, ?_, fun g' hg' => by have := h.top g' hg'; omega⟩
  · have ha : (w.alloc (.chan 20 #[] false 0 0 false)).ownsRow B 103 1 (.slice (some ⟨g, 0, none⟩) n cap) hs.length (hs.map Value.chan) := row_keepB h.outer fun b hb => ((Below.refl w.heap.size w).alloc (Nat.le_refl _) _).block b (by have := h.top b hb; omega)
    have hnl : n = hs.length := by
      rcases ha.2 with ⟨he, _⟩ | ⟨g', cap', cur, he, _⟩
      · cases he
      · injection he with _ e2 _
    subst hnl
    have := (ha.stored i (.chan (some w.heap.size))).1
    rw [List.length_set, List.map_set]
    exact this
  · intro j d hd
    by_cases e : j = i
    · subst e
      rw [List.getElem?_set_self hil] at hd
      injection hd with hd; injection hd with hd; subst hd
      refine ⟨[], 0, 0, hx, ?_⟩
      rw [Below.heap_setCell _ _ _ _ (by show w.heap.size ≠ g; omega)]
      exact heap_alloc_new w _
    · rw [List.getElem?_set_ne (fun e2 => e e2.symm)] at hd
      obtain ⟨xs, s, r, h1, h2⟩ := h.chans j d hd
      obtain ⟨p1, p2, p3⟩ := h.place j d hd
      exact ⟨xs, s, r, h1, (hold d (by omega) (fun e2 => p3 (by rw [e2]; rfl))).trans h2⟩
  · intro j d hd
    by_cases e : j = i
    · subst e
      rw [List.getElem?_set_self hil] at hd
      injection hd with hd; injection hd with hd; subst hd
      exact ⟨by omega, by omega, fun e2 => by have e3 : g = w.heap.size := (by injection e2); omega⟩
    · rw [List.getElem?_set_ne (fun e2 => e e2.symm)] at hd
      obtain ⟨p1, p2, p3⟩ := h.place j d hd
      exact ⟨p1, by omega, p3⟩
  · intro j k d hj hk
    by_cases e1 : j = i
    · by_cases e2 : k = i
      · omega
      · subst e1
        rw [List.getElem?_set_self hil] at hj
        rw [List.getElem?_set_ne (fun e => e2 e.symm)] at hk
        injection hj with hj; injection hj with hj; subst hj
        have := (h.place k _ hk).2.1; omega
    · by_cases e2 : k = i
      · subst e2
        rw [List.getElem?_set_self hil] at hk
        rw [List.getElem?_set_ne (fun e => e1 e.symm)] at hj
        injection hk with hk; injection hk with hk; subst hk
        have := (h.place j _ hj).2.1; omega
      · rw [List.getElem?_set_ne (fun e => e1 e.symm)] at hj
        rw [List.getElem?_set_ne (fun e => e2 e.symm)] at hk
        exact h.apart j k d hj hk
/-- channel i, made already -/
theorem ChM.at_ (h : ChM w B hi v hs ms) {i : Nat} {xs : List Mat} {c : Nat} (hc : hs[i]? = some (some c)) (hx : ms[i]? = some xs) : ∃ s r, w.heap[c]? = some (.chan 20 (bufM xs) false s r false) := by
  obtain ⟨ys, s, r, h1, h2⟩ := h.chans i c hc
  rw [hx] at h1; injection h1 with h1; subst h1
  exact ⟨s, r, h2⟩
end
end Go.Proofs.YtdijlofcgcikjaaDoor
