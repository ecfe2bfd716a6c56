/-
 Contracts and plain mathematics (Chan, ChM, RegA, PlanT, PlanC, LoadM, UnldM), each with its conditions in its own statement.
-/
import Derived.Test.YtimhnkpccbcohaaGreatDoorRows
import Derived.Conc.LoneSelect
import Derived.Conc.LoneSelectN
import Derived.WalkKit
import Derived.Test.YtimhnkpccbcohaaGreatDoorZPkB
import Derived.Conc.SmallLaws
import Derived.Conc.LoneCalls
import Derived.Conc.Token
import Derived.Orders
import Derived.Test.YtimhnkpccbcohaaGreatDoorZPkG
import Derived.Test.YtimhnkpccbcohaaGreatDoorZPkH
import Derived.Test.YtimhnkpccbcohaaGreatDoorZPkE
import Derived.Deep.Cut
namespace Go.Proofs.YtimhnkpccbcohaaGreatDoor
open Go.RowKit Go.Conc

/-- The rest l of a region leads to Q. -/
def RegTo (P : Program) (ops : Array Oper) (Q : Exit → Act → World → Prop) (l : List Nat) (a : Act) (w : World) : Prop :=
 ∀ (b : Frame) (k : List Item) (cs : List Frame), ∃ e a' w', Q e a' w' ∧ Arrives P (lone (b.at a (.inRegion ops l :: k)) cs w) b k cs e a' w'

section
variable {P : Program} {ops : Array Oper} {Q : Exit → Act → World → Prop} {a : Act} {w : World} {i : Nat} {rest : List Nat} {o : Oper}

theorem RegTo.region {id : Nat} (h : RegTo P ops Q (List.range ops.size) a w) : (Code.region id ops false).wp P Q a w :=
 fun b k cs => let ⟨e, a', w', q, r⟩ := h b k cs; ⟨e, a', w', q, .of_steps (.one step_region) r⟩
theorem RegTo.draw {id : Nat} (h : ∀ t, RegTo P ops Q (Region.schedule (P.follows .mixedOrders) ops t) a { w with drawn := w.drawn + 1 }) : (Code.region id ops true).wp P Q a w :=
 fun b k cs => let ⟨e, a', w', q, r⟩ := h _ b k cs; ⟨e, a', w', q, .of_steps (.one step_region_draw) r⟩
theorem RegTo.nil (h : Q .normal a w) : RegTo P ops Q [] a w := fun _ _ _ => ⟨.normal, a, w, h, .one step_region_end⟩
theorem RegTo.value {v : Value} {w' : World} (ho : ops[i]? = some o) (hw : Region.wanted o (yielded ops a.tmps) = true) (hr : (execOp a.eval o).run P w = .ok (.value v) w')
  (h : RegTo P ops Q rest (a.put o.dst v) w') : RegTo P ops Q (i :: rest) a w := fun b k cs => by
 obtain ⟨e, a', w'', hq, harr⟩ := h b k cs
 refine ⟨e, a', w'', hq, .of_steps (.one (step_lone_go ?_)) harr⟩
 have hfin : (b.at a (.inRegion ops (i :: rest) :: k)).finish v = b.at (a.put o.dst v) (.inRegion ops rest :: k) := by
  rw [Frame.finish_at, ho]; rfl
 rw [stepG_op ho hw, ← hfin]
 simp [stepG.apply, hr]
theorem RegTo.skip {w' : World} (ho : ops[i]? = some o) (hw : Region.wanted o (yielded ops a.tmps) = true) (hr : (execOp a.eval o).run P w = .ok .skip w')
  (h : RegTo P ops Q rest (a.put o.dst undef) w') : RegTo P ops Q (i :: rest) a w := fun b k cs => by
 obtain ⟨e, a', w'', hq, harr⟩ := h b k cs
 refine ⟨e, a', w'', hq, .of_steps (.one (step_lone_go ?_)) harr⟩
 have hfin : (b.at a (.inRegion ops (i :: rest) :: k)).finish undef = b.at (a.put o.dst undef) (.inRegion ops rest :: k) := by
  rw [Frame.finish_at, ho]; rfl
 rw [stepG_op ho hw, ← hfin]
 simp [stepG.apply, hr]

/-- the machine is at a communication -/
theorem at_comm {b : Frame} {k : List Item} {cs : List Frame} {cases : Array CommCase} {blocking : Bool} {shape : CommShape} {w' : World} (ho : ops[i]? = some o) (hw : Region.wanted o (yielded ops a.tmps) = true)
  (hr : (execOp a.eval o).run P w = .ok (.comm cases blocking shape) w') :
  ∃ es, stepG P true (G (b.at a (.inRegion ops (i :: rest) :: k)) cs) w = .comm (G (b.at a (.inRegion ops (i :: rest) :: k)) cs) cases blocking shape w' es := by
 have hg := stepG_op (P := P) (b := b) (k := k) (cs := cs) (w := w) (rest := rest) ho hw
 unfold G
 rw [hg]
 simp [stepG.apply, hr, GStep.after]

variable {c cap s r : Nat} {buf : Array Value} {z v : Value} {tm closed : Bool}
theorem RegTo.send (ho : ops[i]? = some o) (hw : Region.wanted o (yielded ops a.tmps) = true) (hr : (execOp a.eval o).run P w = .ok (.comm #[scase c v z] true .send) w)
  (hc : w.heap[c]? = some (.chan cap buf false s r tm)) (hroom : buf.size < cap)
  (h : RegTo P ops Q rest (a.put o.dst undef) (w.setChan c cap (buf.push v) false (s + 1) r tm)) : RegTo P ops Q (i :: rest) a w := fun b k cs => by
 obtain ⟨e, a', w'', hq, harr⟩ := h b k cs
 obtain ⟨es, hs⟩ := at_comm (P := P) (b := b) (k := k) (cs := cs) (rest := rest) ho hw hr
 have := step_lone_send_room hs hc hroom
 rw [Frame.finish_at, ho] at this
 exact ⟨e, a', w'', hq, .of_steps (.one this) harr⟩
theorem RegTo.recv (ho : ops[i]? = some o) (hw : Region.wanted o (yielded ops a.tmps) = true) (hr : (execOp a.eval o).run P w = .ok (.comm #[rcase c z] true (.recv false)) w)
  (hc : w.heap[c]? = some (.chan cap buf closed s r tm)) (hsome : 0 < buf.size)
  (h : RegTo P ops Q rest (a.put o.dst (buf.getD 0 undef)) (w.setChan c cap (buf.extract 1 buf.size) closed s (r + 1) tm)) : RegTo P ops Q (i :: rest) a w := fun b k cs => by
 obtain ⟨e, a', w'', hq, harr⟩ := h b k cs
 obtain ⟨es, hs⟩ := at_comm (P := P) (b := b) (k := k) (cs := cs) (rest := rest) ho hw hr
 have := step_lone_recv_buf false hs hc hsome
 rw [Frame.finish_at, ho] at this
 exact ⟨e, a', w'', hq, .of_steps (.one this) harr⟩
/-- a select of one receive with a default: something is there -/
theorem RegTo.sel_recv (ho : ops[i]? = some o) (hw : Region.wanted o (yielded ops a.tmps) = true) (hr : (execOp a.eval o).run P w = .ok (.comm #[rcase c z] false .select) w)
  (hc : w.heap[c]? = some (.chan cap buf closed s r tm)) (hsome : 0 < buf.size)
  (h : RegTo P ops Q rest (a.put o.dst (.tuple #[goInt 0, .bool true, buf.getD 0 undef])) (w.setChan c cap (buf.extract 1 buf.size) closed s (r + 1) tm)) : RegTo P ops Q (i :: rest) a w := fun b k cs => by
 obtain ⟨e, a', w'', hq, harr⟩ := h b k cs
 obtain ⟨es, hs⟩ := at_comm (P := P) (b := b) (k := k) (cs := cs) (rest := rest) ho hw hr
 have := step_lone_select_recv_buf hs hc hsome
 rw [Frame.finish_at, ho] at this
 exact ⟨e, a', w'', hq, .of_steps (.one this) harr⟩
/-- .. nothing is there -/
theorem RegTo.sel_none (ho : ops[i]? = some o) (hw : Region.wanted o (yielded ops a.tmps) = true) (hr : (execOp a.eval o).run P w = .ok (.comm #[rcase c z] false .select) w)
  (hc : w.heap[c]? = some (.chan cap #[] false s r tm))
  (h : RegTo P ops Q rest (a.put o.dst (.tuple #[goInt (-1), .bool false, z])) w) : RegTo P ops Q (i :: rest) a w := fun b k cs => by
 obtain ⟨e, a', w'', hq, harr⟩ := h b k cs
 obtain ⟨es, hs⟩ := at_comm (P := P) (b := b) (k := k) (cs := cs) (rest := rest) ho hw hr
 have := step_lone_select_default hs hc
 rw [Frame.finish_at, ho] at this
 exact ⟨e, a', w'', hq, .of_steps (.one this) harr⟩
/-- a select of one send with a default: there is room -/
theorem RegTo.sel_send (ho : ops[i]? = some o) (hw : Region.wanted o (yielded ops a.tmps) = true) (hr : (execOp a.eval o).run P w = .ok (.comm #[scase c v z] false .select) w)
  (hc : w.heap[c]? = some (.chan cap buf false s r tm)) (hroom : buf.size < cap)
  (h : RegTo P ops Q rest (a.put o.dst (.tuple #[goInt 0, .bool false])) (w.setChan c cap (buf.push v) false (s + 1) r tm)) : RegTo P ops Q (i :: rest) a w := fun b k cs => by
 obtain ⟨e, a', w'', hq, harr⟩ := h b k cs
 obtain ⟨es, hs⟩ := at_comm (P := P) (b := b) (k := k) (cs := cs) (rest := rest) ho hw hr
 have := step_lone_select_send_room hs hc hroom
 rw [Frame.finish_at, ho] at this
 exact ⟨e, a', w'', hq, .of_steps (.one this) harr⟩
/-- .. there is none -/
theorem RegTo.sel_full (ho : ops[i]? = some o) (hw : Region.wanted o (yielded ops a.tmps) = true) (hr : (execOp a.eval o).run P w = .ok (.comm #[scase c v z] false .select) w)
  (hc : w.heap[c]? = some (.chan cap buf false s r tm)) (hfull : cap ≤ buf.size)
  (h : RegTo P ops Q rest (a.put o.dst (.tuple #[goInt (-1), .bool false])) w) : RegTo P ops Q (i :: rest) a w := fun b k cs => by
 obtain ⟨e, a', w'', hq, harr⟩ := h b k cs
 obtain ⟨es, hs⟩ := at_comm (P := P) (b := b) (k := k) (cs := cs) (rest := rest) ho hw hr
 have := step_lone_select_send_full hs hc hfull
 rw [Frame.finish_at, ho] at this
 exact ⟨e, a', w'', hq, .of_steps (.one this) harr⟩
end
end Go.Proofs.YtimhnkpccbcohaaGreatDoor

namespace Go.Proofs.YtimhnkpccbcohaaGreatDoor
open Go.RowKit Go.Conc
set_option linter.unusedVariables false

def cvM (x : Mat) : Value := .agg #[.int .i64 x.1, .int .i64 x.2]
def bufM (xs : List Mat) : Array Value := (xs.map cvM).toArray
theorem bufM_size (xs : List Mat) : (bufM xs).size = xs.length := by unfold bufM; simp
theorem bufM_push (xs : List Mat) (x : Mat) : (bufM xs).push (cvM x) = bufM (xs ++ [x]) := by unfold bufM; simp
theorem bufM_tail (x : Mat) (xs : List Mat) : (bufM (x :: xs)).extract 1 (bufM (x :: xs)).size = bufM xs := by
 unfold bufM
 refine Array.ext' ?_
 simp
 exact List.take_of_length_le (by simp)
theorem bufM_head (x : Mat) (xs : List Mat) : (bufM (x :: xs)).getD 0 undef = cvM x := by unfold bufM; rfl
/-- the row v of channels hs (none: not made yet) holds the magazine ms, in blocks from B up to hi, no two channels the same -/
structure ChM (w : World) (B hi : Nat) (v : Value) (hs : List (Option Nat)) (ms : List (List Mat)) : Prop where
 len : hs.length = ms.length
 outer : w.ownsRow B 158 1 v hs.length (hs.map Value.chan)
 chans : ∀ (i c : Nat), hs[i]? = some (some c) → ∃ (xs : List Mat) (s r : Nat), ms[i]? = some xs ∧ w.heap[c]? = some (.chan 20 (bufM xs) false s r false)
 place : ∀ (i c : Nat), hs[i]? = some (some c) → B ≤ c ∧ c < hi ∧ v.ownBlock ≠ some c
 apart : ∀ (i j c : Nat), hs[i]? = some (some c) → hs[j]? = some (some c) → i = j
 top : ∀ g, v.ownBlock = some g → g < hi
theorem row_keepB {w w' : World} {B size n : Nat} {T : TypeId} {v : Value} {xs : List Value} (h : w.ownsRow B T size v n xs) (hk : ∀ b, v.ownBlock = some b → w'.heap[b]? = w.heap[b]?) : w'.ownsRow B T size v n xs := by
 refine ⟨h.1, ?_⟩
 rcases h.2 with hn | ⟨g, cap, cur, hv, hg, hh, rest⟩
 ·exact .inl hn
 ·exact .inr ⟨g, cap, cur, hv, hg, (hk g (by rw [hv]; rfl)).trans hh, rest⟩
section
variable {w w' : World} {B hi : Nat} {v : Value} {hs : List (Option Nat)} {ms : List (List Mat)}
theorem ChM.keep (h : ChM w B hi v hs ms) (hk : ∀ b, B ≤ b → b < hi → w'.heap[b]? = w.heap[b]?) : ChM w' B hi v hs ms where
 len := h.len
 outer := row_keepB h.outer fun b hb => hk b (World.ownsRow.lt h.outer b hb).1 (h.top b hb)
 chans := fun i c hc => by
  obtain ⟨xs, s, r, h1, h2⟩ := h.chans i c hc
  obtain ⟨p1, p2, -⟩ := h.place i c hc
  exact ⟨xs, s, r, h1, (hk c p1 p2).trans h2⟩
 place := h.place
 apart := h.apart
 top := h.top
theorem ChM.below (h : ChM w B hi v hs ms) (hhi : hi ≤ w.heap.size) (hb : Below w.heap.size w w') : ChM w' B hi v hs ms := h.keep fun b _ h2 => hb.block b (by omega)
theorem ChM.chg {lo' hi' : Nat} (h : ChM w B hi v hs ms) (hhi : hi ≤ w.heap.size) (hc : Chg lo' hi' w w') (hn : hi ≤ lo' ∨ hi' ≤ B) : ChM w' B hi v hs ms := h.keep fun b h1 h2 => hc.block b (by omega) (by omega)
theorem ChM.wide {hi' : Nat} (h : ChM w B hi v hs ms) (hle : hi ≤ hi') : ChM w B hi' v hs ms :=
 ⟨h.len, h.outer, h.chans, fun i c hc => by obtain ⟨a, b, c'⟩ := h.place i c hc; exact ⟨a, by omega, c'⟩, h.apart, fun g hg => by have := h.top g hg; omega⟩
theorem chg_setChan (w : World) (c cap : Nat) (buf : Array Value) (cl : Bool) (s r : Nat) (tm : Bool) : Chg c (c + 1) w (w.setChan c cap buf cl s r tm) :=
 ⟨rfl, rfl, rfl, by rw [size_setChan]; exact Nat.le_refl _, fun k hk hn => heap_setChan_ne w cap buf cl s r tm (by omega)⟩
/-- what lies in a channel turned -/
theorem ChM.comm (h : ChM w B hi v hs ms) {i c : Nat} (hc : hs[i]? = some (some c)) (ys : List Mat) (s r : Nat) : ChM (w.setChan c 20 (bufM ys) false s r false) B hi v hs (ms.set i ys) where
 len := by rw [List.length_set]; exact h.len
 outer := row_keepB h.outer fun b hb => heap_setChan_ne w _ _ _ _ _ _ (fun e => (h.place i c hc).2.2 (by rw [hb, e]))
 chans := fun j d hd => by
  obtain ⟨xs, s1, r1, h1, h2⟩ := h.chans j d hd
  obtain ⟨_, _, _, _, h0⟩ := h.chans i c hc
  by_cases e : j = i
  ·subst e
   rw [hc] at hd; injection hd with hd; injection hd with hd; subst hd
   exact ⟨ys, s, r, List.getElem?_set_self (List.getElem?_eq_some_iff.1 h1).1, heap_setChan_self w h0 _ _ _ _ _ _⟩
  ·have hne : c ≠ d := fun e2 => e (h.apart j i d hd (e2 ▸ hc))
   exact ⟨xs, s1, r1, by rw [List.getElem?_set_ne (fun e2 => e e2.symm)]; exact h1, (heap_setChan_ne w _ _ _ _ _ _ hne).trans h2⟩
 place := h.place
 apart := h.apart
 top := h.top
/-- a channel made and laid into the row -/
theorem ChM.make {g n cap i : Nat} (h : ChM w B hi (.slice (some ⟨g, 0, none⟩) n cap) hs ms) (hn : hs[i]? = some none) (hx : ms[i]? = some []) (hhi : hi ≤ w.heap.size) :
  ChM ((w.alloc (.chan 20 #[] false 0 0 false)).setCell ⟨g, i, none⟩ (.chan (some w.heap.size))) B (w.heap.size + 1) (.slice (some ⟨g, 0, none⟩) n cap) (hs.set i (some w.heap.size)) ms := by
 have hg := h.top g rfl
 have hB := (World.ownsRow.lt h.outer g rfl).1
 have hil := (List.getElem?_eq_some_iff.1 hn).1
 have hold : ∀ b, b < w.heap.size → b ≠ g → ((w.alloc (.chan 20 #[] false 0 0 false)).setCell ⟨g, i, none⟩ (.chan (some w.heap.size))).heap[b]? = w.heap[b]? := fun b hb hne => by
  rw [Below.heap_setCell _ _ _ _ (by show b ≠ g; exact hne)]
  exact ((Below.refl w.heap.size w).alloc (Nat.le_refl _) _).block b hb
 refine ⟨by rw [List.length_set]; exact h.len, ?_, ?_, ?_, ?_, fun g' hg' => by have := h.top g' hg'; omega⟩
 ·have ha : (w.alloc (.chan 20 #[] false 0 0 false)).ownsRow B 158 1 (.slice (some ⟨g, 0, none⟩) n cap) hs.length (hs.map Value.chan) := row_keepB h.outer fun b hb => ((Below.refl w.heap.size w).alloc (Nat.le_refl _) _).block b (by have := h.top b hb; omega)
  have hnl : n = hs.length := by
   rcases ha.2 with ⟨he, _⟩ | ⟨g', cap', cur, he, _⟩
   ·cases he
   ·injection he with _ e2 _
  subst hnl
  have := (ha.stored i (.chan (some w.heap.size))).1
  rw [List.length_set, List.map_set]
  exact this
 ·intro j d hd
  by_cases e : j = i
  ·subst e
   rw [List.getElem?_set_self hil] at hd
   injection hd with hd; injection hd with hd; subst hd
   refine ⟨[], 0, 0, hx, ?_⟩
   rw [Below.heap_setCell _ _ _ _ (by show w.heap.size ≠ g; omega)]
   exact heap_alloc_new w _
  ·rw [List.getElem?_set_ne (fun e2 => e e2.symm)] at hd
   obtain ⟨xs, s, r, h1, h2⟩ := h.chans j d hd
   obtain ⟨p1, p2, p3⟩ := h.place j d hd
   exact ⟨xs, s, r, h1, (hold d (by omega) (fun e2 => p3 (by rw [e2]; rfl))).trans h2⟩
 ·intro j d hd
  by_cases e : j = i
  ·subst e
   rw [List.getElem?_set_self hil] at hd
   injection hd with hd; injection hd with hd; subst hd
   exact ⟨by omega, by omega, fun e2 => by have e3 : g = w.heap.size := (by injection e2); omega⟩
  ·rw [List.getElem?_set_ne (fun e2 => e e2.symm)] at hd
   obtain ⟨p1, p2, p3⟩ := h.place j d hd
   exact ⟨p1, by omega, p3⟩
 ·intro j k d hj hk
  by_cases e1 : j = i
  ·by_cases e2 : k = i
   ·omega
   ·subst e1
    rw [List.getElem?_set_self hil] at hj
    rw [List.getElem?_set_ne (fun e => e2 e.symm)] at hk
    injection hj with hj; injection hj with hj; subst hj
    have := (h.place k _ hk).2.1; omega
  ·by_cases e2 : k = i
   ·subst e2
    rw [List.getElem?_set_self hil] at hk
    rw [List.getElem?_set_ne (fun e => e1 e.symm)] at hj
    injection hk with hk; injection hk with hk; subst hk
    have := (h.place j _ hj).2.1; omega
   ·rw [List.getElem?_set_ne (fun e => e1 e.symm)] at hj
    rw [List.getElem?_set_ne (fun e => e2 e.symm)] at hk
    exact h.apart j k d hj hk
/-- channel i, made already -/
theorem ChM.at_ (h : ChM w B hi v hs ms) {i : Nat} {xs : List Mat} {c : Nat} (hc : hs[i]? = some (some c)) (hx : ms[i]? = some xs) : ∃ s r, w.heap[c]? = some (.chan 20 (bufM xs) false s r false) := by
 obtain ⟨ys, s, r, h1, h2⟩ := h.chans i c hc
 rw [hx] at h1; injection h1 with h1; subst h1
 exact ⟨s, r, h2⟩
end
end Go.Proofs.YtimhnkpccbcohaaGreatDoor

namespace Go.Proofs.YtimhnkpccbcohaaGreatDoor
open Go.RowKit Go.Conc
set_option linter.unusedVariables false

section
variable {P : Program} {md : Region.Mode} {ops : Array Oper} {Q : Exit → Act → World → Prop}
/-- operation i leads to K -/
def StepTo (P : Program) (ops : Array Oper) (Q : Exit → Act → World → Prop) (i : Nat) (K : Act → World → Prop) (a : Act) (w : World) : Prop :=
 ∀ rest, (∀ a' w', K a' w' → RegTo P ops Q rest a' w') → RegTo P ops Q (i :: rest) a w
theorem count_set_false : ∀ (l : List Bool) (i : Nat), l[i]? = some false → (l.set i true).count false + 1 = l.count false
 | [], i, h => by simp at h
 | b :: l, 0, h => by simp at h; subst h; simp
 | b :: l, i + 1, h => by
  have ih := count_set_false l i (by simpa using h)
  rw [List.set_cons_succ, List.count_cons, List.count_cons]
  omega
theorem ready_false {listed : Array Bool} {i : Nat} (h : i ∈ Region.ready md ops listed) : listed[i]? = some false := by
 unfold Region.ready at h
 rw [List.mem_filter] at h
 have h2 := h.2
 rw [Bool.and_eq_true] at h2
 have h3 := h2.1
 unfold Array.getD at h3
 by_cases hi : i < listed.size
 ·rw [Array.getElem?_eq_getElem hi]
  simp [hi] at h3
  rw [h3]
 ·simp [hi] at h3
theorem ready_none {listed : Array Bool} (h : listed.toList.count false = 0) : Region.ready md ops listed = [] := by
 cases hr : Region.ready md ops listed with
 | nil => rfl
 | cons i r =>
  have hf := ready_false (md := md) (ops := ops) (listed := listed) (i := i) (by rw [hr]; simp)
  have : false ∈ listed.toList := by
   rw [← Array.getElem?_toList] at hf
   exact List.mem_of_getElem? hf
  have := List.count_pos_iff.2 this
  omega
theorem regInv (I : Array Bool → Act → World → Prop)
  (step : ∀ listed a w, I listed a w → ∀ i ∈ Region.ready md ops listed, StepTo P ops Q i (I (listed.setIfInBounds i true)) a w)
  (fin : ∀ listed a w, I listed a w → Region.ready md ops listed = [] → Q .normal a w) :
  ∀ (fuel t : Nat) (listed : Array Bool) (a : Act) (w : World), listed.toList.count false ≤ fuel → I listed a w → RegTo P ops Q (Region.linearise.go md ops fuel t listed []) a w := by
 intro fuel
 induction fuel with
 | zero =>
  intro t listed a w hc h
  simp only [Region.linearise.go]
  exact RegTo.nil (fin _ _ _ h (ready_none (by omega)))
 | succ fuel ih =>
  intro t listed a w hc h
  simp only [Region.linearise.go]
  change RegTo P ops Q (match (Region.ready md ops listed)[t % (Region.ready md ops listed).length]? with
   | some i => Region.linearise.go md ops fuel (t / (Region.ready md ops listed).length) (listed.setIfInBounds i true) [i]
   | none => [].reverse) a w
  cases hi : (Region.ready md ops listed)[t % (Region.ready md ops listed).length]? with
  | none =>
   have hnil : Region.ready md ops listed = [] := by
    cases hr : Region.ready md ops listed with
    | nil => rfl
    | cons x xs =>
     rw [hr] at hi
     have hlt : t % (x :: xs).length < (x :: xs).length := Nat.mod_lt _ (by simp)
     rw [List.getElem?_eq_getElem hlt] at hi
     cases hi
   exact RegTo.nil (fin _ _ _ h hnil)
  | some i =>
   simp only []
   rw [linearise_go_acc, List.reverse_singleton, List.singleton_append]
   have hm := List.mem_of_getElem? hi
   refine step _ _ _ h i hm _ (fun a' w' h' => ih _ _ a' w' ?_ h')
   have hf := ready_false hm
   rw [← Array.getElem?_toList] at hf
   have := count_set_false _ _ hf
   rw [Array.toList_setIfInBounds]
   omega
theorem wp_region_inv {id : Nat} {a : Act} {w : World} (I : Array Bool → Act → World → Prop) (hm : P.follows .mixedOrders = true)
  (step : ∀ listed a w, I listed a w → ∀ i ∈ Region.ready .any ops listed, StepTo P ops Q i (I (listed.setIfInBounds i true)) a w)
  (fin : ∀ listed a w, I listed a w → Region.ready .any ops listed = [] → Q .normal a w)
  (h0 : I (Array.replicate ops.size false) a { w with drawn := w.drawn + 1 }) : (Code.region id ops true).wp P Q a w :=
 RegTo.draw fun t => by
  simp only [Region.schedule, hm, Bool.true_or, if_true]
  refine regInv I step fin ops.size t _ a _ ?_ h0
  simp
end
end Go.Proofs.YtimhnkpccbcohaaGreatDoor

namespace Go.Proofs.YtimhnkpccbcohaaGreatDoor
open Go.RowKit Go.Shelf
set_option linter.unusedVariables false

section
variable {P : Program} {ops : Array Oper} {Q : Exit → Act → World → Prop} {S : World → Prop} {md : Region.Mode} {L : Nat}
/-- L waits for each other operation -/
def waitsB (md : Region.Mode) (ops : Array Oper) (L : Nat) : Bool := match ops[L]? with
 | some o => (List.range ops.size).all fun j => j == L || o.after.toList.any fun e => Region.binds md e && e.on == j
 | none => true
theorem waits_all (h : waitsB md ops L = true) {listed : Array Bool} (hz : listed.size = ops.size) (hr : L ∈ Region.ready md ops listed) {i : Nat} (hi : i ∈ Region.ready md ops listed) : i = L := by
 obtain ⟨hu, o, ho, hall⟩ := mem_ready.1 hr
 obtain ⟨hui, oi, hoi, -⟩ := mem_ready.1 hi
 unfold waitsB at h
 rw [ho] at h
 simp only at h
 rw [List.all_eq_true] at h
 have hil := (Array.getElem?_eq_some_iff.1 hoi).1
 have h1 := h i (List.mem_range.2 hil)
 rw [Bool.or_eq_true] at h1
 rcases h1 with h1 | h1
 ·exact eq_of_beq h1
 ·exfalso
  rw [List.any_eq_true] at h1
  obtain ⟨e, he, hb⟩ := h1
  rw [Bool.and_eq_true] at hb
  have h2 := hall e (by simpa using he) hb.1
  rw [eq_of_beq hb.2] at h2
  have hil2 : i < listed.size := by omega
  simp [hil2] at hui h2
  rw [hui] at h2; cases h2
inductive PlanT where
 | done
 | last (i : Nat)
 | take (i : Nat) (p : PlanT)
 | one (i : Nat) (p : PlanT)
def planTB (ops : Array Oper) (L : Nat) : PlanT → Nat → Array Bool → Bool
 | .done, _, listed => (Region.ready .any ops listed).isEmpty
 | .last i, k + 1, listed => i == L && ((Region.ready .any ops listed == [i]) && (Region.ready .any ops (listed.setIfInBounds i true)).isEmpty)
 | .take i p, k + 1, listed => (i != L) && (Region.free .any ops listed i && ((Region.ready .any ops listed).contains i && planTB ops L p k (listed.setIfInBounds i true)))
 | .one i p, k + 1, listed => (Region.ready .any ops listed == [i]) && planTB ops L p k (listed.setIfInBounds i true)
 | _, 0, _ => false
end
end Go.Proofs.YtimhnkpccbcohaaGreatDoor

namespace Go.Proofs.YtimhnkpccbcohaaGreatDoor
open Go.RowKit Go.Conc Go.Shelf
set_option linter.unusedVariables false

/-- a communication that one goroutine does alone: what it yields, and the world behind it -/
inductive LoneComm : World → Array CommCase → Bool → CommShape → Value → World → Prop
 | send {w : World} {c cap s r : Nat} {buf : Array Value} {z v : Value} {tm : Bool} (hc : w.heap[c]? = some (.chan cap buf false s r tm)) (hroom : buf.size < cap) : LoneComm w #[scase c v z] true .send undef (w.setChan c cap (buf.push v) false (s + 1) r tm)
 | recv {w : World} {c cap s r : Nat} {buf : Array Value} {z : Value} {tm closed : Bool} (hc : w.heap[c]? = some (.chan cap buf closed s r tm)) (hsome : 0 < buf.size) : LoneComm w #[rcase c z] true (.recv false) (buf.getD 0 undef) (w.setChan c cap (buf.extract 1 buf.size) closed s (r + 1) tm)
section
variable {P : Program} {ops : Array Oper} {Q : Exit → Act → World → Prop} {S : World → Prop} {md : Region.Mode} {L : Nat}
def cStep (P : Program) (ops : Array Oper) (i : Nat) (K : Act → World → Prop) (a : Act) (w : World) : Prop :=
 ∃ o, ops[i]? = some o ∧ Region.wanted o (yielded ops a.tmps) = true ∧
  ((∃ u w', (execOp a.eval o).run P w = .ok (.value u) w' ∧ K (a.put o.dst u) w') ∨ (∃ w', (execOp a.eval o).run P w = .ok .skip w' ∧ K (a.put o.dst undef) w') ∨
   ∃ cs b sh u w', (execOp a.eval o).run P w = .ok (.comm cs b sh) w ∧ LoneComm w cs b sh u w' ∧ K (a.put o.dst u) w')
theorem cStep_mono {i : Nat} {K K' : Act → World → Prop} {a : Act} {w : World} (h : ∀ a w, K a w → K' a w) (hh : cStep P ops i K a w) : cStep P ops i K' a w := by
 obtain ⟨o, ho, hw, hh⟩ := hh
 refine ⟨o, ho, hw, ?_⟩
 rcases hh with ⟨u, w', h1, h2⟩ | ⟨w', h1, h2⟩ | ⟨cs, b, sh, u, w', h1, h2, h3⟩
 ·exact .inl ⟨u, w', h1, h _ _ h2⟩
 ·exact .inr (.inl ⟨w', h1, h _ _ h2⟩)
 ·exact .inr (.inr ⟨cs, b, sh, u, w', h1, h2, h _ _ h3⟩)
theorem cStep_to {i : Nat} {K : Act → World → Prop} {a : Act} {w : World} (h : cStep P ops i K a w) : StepTo P ops Q i K a w := by
 intro rest hrest
 obtain ⟨o, ho, hw, h⟩ := h
 rcases h with ⟨u, w', h1, h2⟩ | ⟨w', h1, h2⟩ | ⟨cs, b, sh, u, w', h1, h2, h3⟩
 ·exact RegTo.value ho hw h1 (hrest _ _ h2)
 ·exact RegTo.skip ho hw h1 (hrest _ _ h2)
 ·cases h2 with
  | send hc hroom => exact RegTo.send ho hw h1 hc hroom (hrest _ _ h3)
  | recv hc hsome => exact RegTo.recv ho hw h1 hc hsome (hrest _ _ h3)
def QuietAt (P : Program) (ops : Array Oper) (S : World → Prop) (o : Oper) (v : Value) (a : Act) : Prop :=
 Region.wanted o (yielded ops a.tmps) = true ∧ ∀ w, S w → (execOp a.eval o).run P w = .ok (.value v) w
theorem QuietAt.step {i : Nat} {o : Oper} {v : Value} {a : Act} (hi : ops[i]? = some o) (hy : QuietAt P ops S o v a) {K : Act → World → Prop} {w : World} (hS : S w) (h : K (a.put o.dst v) w) : cStep P ops i K a w :=
 ⟨o, hi, hy.1, .inl ⟨v, w, hy.2 w hS, h⟩⟩
theorem cStep_put {j : Nat} {oi oj : Oper} {v : Value} (hj : ops[j]? = some oj) (hap : oi.apart ops oj = true) (hsi : ∀ cs b, oi.op ≠ .select cs b) (hsj : ∀ cs b, oj.op ≠ .select cs b) {K : Act → World → Prop} {a : Act} {w : World}
  (hy : QuietAt P ops S oi v a) (h : cStep P ops j K (a.put oi.dst v) w) : cStep P ops j (fun a' w' => QuietAt P ops S oi v a' ∧ K (a'.put oi.dst v) w') a w := by
 obtain ⟨h1, h2, h3⟩ := Oper.apart_spec hap
 have keep : ∀ u, QuietAt P ops S oi v (a.put oj.dst u) := fun u => by
  unfold QuietAt at hy ⊢
  rw [execOp_put oi hsi a oj.dst u h3, wanted_put oi a oj.dst u h3]
  exact hy
 obtain ⟨o, ho, hw, h⟩ := h
 rw [hj] at ho; injection ho with ho; subst ho
 rw [wanted_put oj a oi.dst v h1] at hw
 rw [execOp_put oj hsj a oi.dst v h1] at h
 refine ⟨oj, hj, hw, ?_⟩
 rcases h with ⟨u, w', e1, e2⟩ | ⟨w', e1, e2⟩ | ⟨cs, b, sh, u, w', e1, e2, e3⟩
 ·exact .inl ⟨u, w', e1, keep u, by rw [← Act.put_comm a v u h2]; exact e2⟩
 ·exact .inr (.inl ⟨w', e1, keep undef, by rw [← Act.put_comm a v undef h2]; exact e2⟩)
 ·exact .inr (.inr ⟨cs, b, sh, u, w', e1, e2, keep u, by rw [← Act.put_comm a v u h2]; exact e3⟩)
def wpAnyC (P : Program) (md : Region.Mode) (ops : Array Oper) (Q : Exit → Act → World → Prop) (S : World → Prop) (L : Nat) : Nat → Array Bool → Act → World → Prop
 | 0, listed, a, w => Region.ready md ops listed = [] ∧ Q .normal a w
 | k + 1, listed, a, w => (Region.ready md ops listed = [] → Q .normal a w) ∧ ∀ i ∈ Region.ready md ops listed, cStep P ops i (fun a' w' => (i = L ∨ S w') ∧ wpAnyC P md ops Q S L k (listed.setIfInBounds i true) a' w') a w
theorem anyC_first {i : Nat} {oi : Oper} {v : Value} (hw : waitsB md ops L = true) (hiL : i ≠ L) (hi : ops[i]? = some oi) (hsel : ∀ (j : Nat) (o : Oper) cs b, ops[j]? = some o → o.op ≠ .select cs b) :
  ∀ (k : Nat) (listed : Array Bool) (a : Act) (w : World), listed.size = ops.size →
   (∀ j oj, ops[j]? = some oj → j ≠ i → listed.getD j true = false → (∀ e ∈ oj.after, Region.binds md e = true → e.on ≠ i) → oi.apart ops oj = true) →
   i ∈ Region.ready md ops listed → QuietAt P ops S oi v a → S w →
   wpAnyC P md ops Q S L k (listed.setIfInBounds i true) (a.put oi.dst v) w → wpAnyC P md ops Q S L (k + 1) listed a w := by
 intro k
 induction k with
 | zero =>
  intro listed a w hz _ hr hy hS H
  refine ⟨fun h => (by rw [h] at hr; cases hr), fun j hj => ?_⟩
  rcases Decidable.em (j = i) with rfl | hji
  ·exact hy.step hi hS ⟨.inr hS, H⟩
  ·have h0 := ready_mono hj hji
   rw [H.1] at h0; cases h0
 | succ k ih =>
  intro listed a w hz hfree hr hy hS H
  refine ⟨fun h => (by rw [h] at hr; cases hr), fun j hj => ?_⟩
  rcases Decidable.em (j = i) with rfl | hji
  ·exact hy.step hi hS ⟨.inr hS, H⟩
  have hjL : j ≠ L := fun e => by subst e; exact hiL (waits_all hw hz hj hr)
  obtain ⟨hjun, oj, hoj, hall⟩ := mem_ready.1 hj
  have hnot : ∀ e ∈ oj.after, Region.binds md e = true → e.on ≠ i := fun e he hb heq => by
   have h1 := hall e he hb
   have h0 := (mem_ready.1 hr).1
   rw [heq] at h1
   have hil : i < listed.size := by rw [hz]; exact (Array.getElem?_eq_some_iff.1 hi).1
   simp [hil] at h0 h1
   rw [h0] at h1; cases h1
  have hput := cStep_put hoj (hfree j oj hoj hji hjun hnot) (fun cs b => hsel i oi cs b hi) (fun cs b => hsel j oj cs b hoj) hy (H.2 j (ready_mono hj hji))
  refine cStep_mono (fun a' w' h3 => ?_) hput
  have hS' : S w' := h3.2.1.resolve_left hjL
  refine ⟨.inr hS', ih (listed.setIfInBounds j true) a' w' (by simp [hz]) ?_ (ready_mono hr (Ne.symm hji)) h3.1 hS' ?_⟩
  ·intro x ox hx hxi hun hno
   refine hfree x ox hx hxi ?_ hno
   rcases Decidable.em (j = x) with rfl | hjx
   ·exact hjun
   ·rw [Go.getD_set_ne true hjx] at hun; exact hun
  ·rw [Array.setIfInBounds_comm _ _ hji]
   exact h3.2.2
def wpPlanC (P : Program) (ops : Array Oper) (Q : Exit → Act → World → Prop) (S : World → Prop) : PlanT → Act → World → Prop
 | .done, a, w => Q .normal a w
 | .last i, a, w => cStep P ops i (fun a' w' => Q .normal a' w') a w
 | .take i p, a, w => ∃ o v, ops[i]? = some o ∧ QuietAt P ops S o v a ∧ wpPlanC P ops Q S p (a.put o.dst v) w
 | .one i p, a, w => cStep P ops i (fun a' w' => S w' ∧ wpPlanC P ops Q S p a' w') a w
theorem planC_any (hw : waitsB .any ops L = true) (hs : Region.noSelect ops = true) : ∀ (pl : PlanT) (k : Nat) (listed : Array Bool) (a : Act) (w : World), listed.size = ops.size → planTB ops L pl k listed = true → S w → wpPlanC P ops Q S pl a w →
  wpAnyC P .any ops Q S L k listed a w
 | .done, 0, listed, a, w, hz, hB, hS, h => ⟨List.isEmpty_iff.1 hB, h⟩
 | .done, k + 1, listed, a, w, hz, hB, hS, h => by
  have hB : (Region.ready .any ops listed).isEmpty = true := hB
  rw [List.isEmpty_iff] at hB
  exact ⟨fun _ => h, by rw [hB]; simp⟩
 | .last i, 0, listed, a, w, hz, hB, hS, h => by simp [planTB] at hB
 | .take i p, 0, listed, a, w, hz, hB, hS, h => by simp [planTB] at hB
 | .one i p, 0, listed, a, w, hz, hB, hS, h => by simp [planTB] at hB
 | .last i, k + 1, listed, a, w, hz, hB, hS, h => by
  unfold planTB at hB
  rw [Bool.and_eq_true, Bool.and_eq_true] at hB
  have h1 := eq_of_beq hB.2.1
  refine ⟨fun h0 => (by rw [h0] at h1; cases h1), fun j hj => ?_⟩
  rw [h1, List.mem_singleton] at hj
  subst hj
  refine cStep_mono (fun a' w' h' => ⟨.inl (eq_of_beq hB.1), ?_⟩) h
  have h2 := List.isEmpty_iff.1 hB.2.2
  cases k with
  | zero => exact ⟨h2, h'⟩
  | succ k => exact ⟨fun _ => h', by rw [h2]; simp⟩
 | .take i p, k + 1, listed, a, w, hz, hB, hS, h => by
  unfold planTB at hB
  rw [Bool.and_eq_true, Bool.and_eq_true, Bool.and_eq_true] at hB
  obtain ⟨o, v, ho, hy, h⟩ := h
  exact anyC_first hw (by simpa using hB.1) ho (Region.noSelect_spec hs) k listed a w hz (Region.free_spec ho hB.2.1) (by simpa using hB.2.2.1) hy hS (planC_any hw hs p k _ _ _ (by simp [hz]) hB.2.2.2 hS h)
 | .one i p, k + 1, listed, a, w, hz, hB, hS, h => by
  unfold planTB at hB
  rw [Bool.and_eq_true] at hB
  have h1 := eq_of_beq hB.1
  refine ⟨fun h0 => (by rw [h0] at h1; cases h1), fun j hj => ?_⟩
  rw [h1, List.mem_singleton] at hj
  subst hj
  exact cStep_mono (fun a' w' h' => ⟨.inr h'.1, planC_any hw hs p k _ _ _ (by simp [hz]) hB.2 h'.1 h'.2⟩) h
theorem wp_region_planC {id : Nat} {a : Act} {w : World} (L : Nat) (pl : PlanT) (S : World → Prop) (hm : P.follows .mixedOrders = true) (hs : Region.noSelect ops = true) (hB : (waitsB .any ops L && planTB ops L pl ops.size (Array.replicate ops.size false)) = true)
  (hS : S w.drew) (h : wpPlanC P ops Q S pl a w.drew) : (Code.region id ops true).wp P Q a w := by
 rw [Bool.and_eq_true] at hB
 refine wp_region_inv (fun listed a w => ∃ k, wpAnyC P .any ops Q S L k listed a w) hm ?_ ?_ ⟨_, planC_any hB.1 hs pl _ _ a w.drew (by simp) hB.2 hS h⟩
 ·rintro listed a w ⟨k, hk⟩ i hi
  cases k with
  | zero => rw [hk.1] at hi; cases hi
  | succ k => exact cStep_to (cStep_mono (fun a' w' h' => ⟨k, h'.2⟩) (hk.2 i hi))
 ·rintro listed a w ⟨k, hk⟩ hr
  cases k with
  | zero => exact hk.2
  | succ k => exact hk.1 hr
theorem planC_quiet {i : Nat} {p : PlanT} {o : Oper} {v : Value} {a : Act} {w : World} (ho : ops.toList[i]? = some o) (hw : Region.wanted o (yielded ops a.tmps) = true) (hy : ∀ w1, S w1 → (execOp a.eval o).run P w1 = .ok (.value v) w1)
  (h : wpPlanC P ops Q S p (a.put o.dst v) w) : wpPlanC P ops Q S (.take i p) a w :=
 ⟨o, v, by rw [← Array.getElem?_toList]; exact ho, ⟨hw, hy⟩, h⟩
theorem planC_value {i : Nat} {p : PlanT} {o : Oper} {u : Value} {a : Act} {w w' : World} (ho : ops.toList[i]? = some o) (hw : Region.wanted o (yielded ops a.tmps) = true) (hr : (execOp a.eval o).run P w = .ok (.value u) w') (hS : S w')
  (h : wpPlanC P ops Q S p (a.put o.dst u) w') : wpPlanC P ops Q S (.one i p) a w :=
 ⟨o, by rw [← Array.getElem?_toList]; exact ho, hw, .inl ⟨u, w', hr, hS, h⟩⟩
theorem planC_comm {i : Nat} {p : PlanT} {o : Oper} {u : Value} {cs : Array CommCase} {b : Bool} {sh : CommShape} {a : Act} {w w' : World} (ho : ops.toList[i]? = some o) (hw : Region.wanted o (yielded ops a.tmps) = true) (hr : (execOp a.eval o).run P w = .ok (.comm cs b sh) w) (hc : LoneComm w cs b sh u w') (hS : S w')
  (h : wpPlanC P ops Q S p (a.put o.dst u) w') : wpPlanC P ops Q S (.one i p) a w :=
 ⟨o, by rw [← Array.getElem?_toList]; exact ho, hw, .inr (.inr ⟨cs, b, sh, u, w', hr, hc, hS, h⟩)⟩
theorem planC_lastSkip {i : Nat} {o : Oper} {a : Act} {w w' : World} (ho : ops.toList[i]? = some o) (hw : Region.wanted o (yielded ops a.tmps) = true) (hr : (execOp a.eval o).run P w = .ok .skip w')
  (h : Q .normal (a.put o.dst undef) w') : wpPlanC P ops Q S (.last i) a w :=
 ⟨o, by rw [← Array.getElem?_toList]; exact ho, hw, .inr (.inl ⟨w', hr, h⟩)⟩
end
end Go.Proofs.YtimhnkpccbcohaaGreatDoor

namespace Go.Proofs.YtimhnkpccbcohaaGreatDoor
open Go.RowKit Go.Conc
set_option linter.unusedVariables false
set_option linter.unusedSimpArgs false

theorem chInfo : (Tryz.prog.info? 158).map (fun i => (i.zero, i.size, i.bytes)) = some (some (.chan none), 1, 8) := by kernel_rfl
theorem made_chan (n : Nat) : (madeCells (Value.chan none).cells (n * 1)).toList = List.replicate n (.chan none) := by
 apply List.ext_getElem
 ·simp [madeCells, Value.cells]
 ·intro i h1 h2
  simp [madeCells, Value.cells, Nat.mod_one]
theorem set_same {α : Type} : ∀ {l : List α} {i : Nat} {x : α}, l[i]? = some x → l.set i x = l
 | _ :: _, 0, _, h => by have := Option.some.inj h; subst this; rfl
 | y :: l, i + 1, _, h => by rw [List.set_cons_succ, set_same (l := l) h]
theorem chM_zero {w : World} {B n : Nat} (h : w.ownsRow B 158 1 (.slice (some ⟨B, 0, none⟩) n n) n (List.replicate n (.chan none))) (hl : B < w.heap.size) : ChM w B w.heap.size (.slice (some ⟨B, 0, none⟩) n n) (List.replicate n none) (List.replicate n []) where
 len := by rw [List.length_replicate, List.length_replicate]
 outer := by rw [List.length_replicate, List.map_replicate]; exact h
 chans := fun i c hc => by rw [List.getElem?_replicate] at hc; split at hc <;> simp at hc
 place := fun i c hc => by rw [List.getElem?_replicate] at hc; split at hc <;> simp at hc
 apart := fun i j c hc => by rw [List.getElem?_replicate] at hc; split at hc <;> simp at hc
 top := fun g hg => by have e : B = g := Option.some.inj hg; omega
section
variable {ops : Array Oper} {rest : List Oper} {o : Oper} {a : Act} {Q : Exit → Act → World → Prop}
set_option maxRecDepth 100000 in
/-- a row of n empty channels' handles, new -/
theorem wpl_make_chs (w : World) (hg : o.guard = none) (l : Operand) (hop : o.op = Op.makeSlice 111 l l) (n : Nat) (L : Int) (hl : a.eval l = .int .i64 L) (hL : L = (n : Int)) (hn : n ≤ 1048576)
  (hK : ∀ w', ChM w' w.heap.size w'.heap.size (.slice (some ⟨w.heap.size, 0, none⟩) n n) (List.replicate n none) (List.replicate n []) → Below w.heap.size w w' → w.heap.size < w'.heap.size → wpList Tryz.prog ops Q rest (a.put o.dst (.slice (some ⟨w.heap.size, 0, none⟩) n n)) w') :
  wpList Tryz.prog ops Q (o :: rest) a w := by
 obtain ⟨i0, hi, hz0, hz1, hz2⟩ := info_parts chInfo
 refine wpList_make_full w hg l l 111 hop w.heap.size 158 i0 (.chan none) 1 Tryz.underlying111 hi hz0 hz1 .i64 .i64 L L n hl hl hL hL (by rw [hz2]; omega) (by unfold maxLen; omega) (Nat.le_refl _) ?_
 intro w' h1 h2
 rw [made_chan] at h1
 have hlt := (World.ownsRow.lt h1 w.heap.size rfl).2
 exact hK w' (chM_zero h1 hlt) ((Below.refl _ _).grown h2 (Nat.le_refl _) (fun k hk => by cases hk)) hlt
end
theorem mkChan (w : World) : (Instr.makeChan 158 (.int .i64 20)).run Tryz.prog w = .ok (.chan (some w.heap.size)) (w.alloc (.chan 20 #[] false 0 0 false)) := by kernel_rfl
theorem planC_done {P : Program} {ops : Array Oper} {Q : Exit → Act → World → Prop} {S : World → Prop} {a : Act} {w : World} (h : Q .normal a w) : wpPlanC P ops Q S .done a w := h
theorem Blk.fill2 {w : World} {B : Nat} {a0 a1 : Value} {T : TypeId} (h : Blk w B #[a0, a1] T) (u0 u1 : Value) : Blk ((w.setCell ⟨B, 0, none⟩ u0).setCell ⟨B, 1, none⟩ u1) B #[u0, u1] T := heapSet (i := 1) (heapSet (i := 0) h u0) u1
theorem chg_one (w : World) (B i : Nat) (u : Value) : Chg B (B + 1) w (w.setCell ⟨B, i, none⟩ u) := ⟨rfl, rfl, rfl, by simp [World.setCell], fun k hk hn => Below.heap_setCell _ _ _ _ (by show k ≠ B; omega)⟩
theorem chg_two (w : World) (B : Nat) (u0 u1 : Value) : Chg B (B + 1) w ((w.setCell ⟨B, 0, none⟩ u0).setCell ⟨B, 1, none⟩ u1) := (chg_one w B 0 u0).trans (chg_one _ B 1 u1)
/-- the first i channels are made -/
def Made (hs : List (Option Nat)) (n i : Nat) : Prop := hs.length = n ∧ (∀ j, j < i → ∃ c, hs[j]? = some (some c)) ∧ ∀ j, i ≤ j → j < n → hs[j]? = some none
theorem made_step {hs : List (Option Nat)} {n i c : Nat} (h : Made hs n i) (hi : i < n) : Made (hs.set i (some c)) n (i + 1) := by
 obtain ⟨h1, h2, h3⟩ := h
 refine ⟨by rw [List.length_set]; exact h1, fun j hj => ?_, fun j hj hn => by rw [List.getElem?_set_ne (by omega)]; exact h3 j (by omega) hn⟩
 by_cases e : j = i
 ·subst e; exact ⟨c, List.getElem?_set_self (by omega)⟩
 ·rw [List.getElem?_set_ne (fun e2 => e e2.symm)]; exact h2 j (by omega)
/-- row i with j of its matrices -/
def rowJ (ms : List (List Mat)) (n i j : Nat) (xs : List Mat) : List (List Mat) := (halfMM ms n i).set i (xs.take j)
theorem rowJ_set {ms : List (List Mat)} {n i j : Nat} {xs : List Mat} : (rowJ ms n i j xs).set i (xs.take (j + 1)) = rowJ ms n i (j + 1) xs := by unfold rowJ; rw [List.set_set]
theorem rowJ_all {ms : List (List Mat)} {n i l : Nat} {xs : List Mat} (hn : ms.length = n) (hx : ms[i]? = some xs) (hl : xs.length = l) : rowJ ms n i l xs = halfMM ms n (i + 1) := by unfold rowJ; rw [← hl, List.take_length]; exact halfMM_set hn hx
theorem halfMM_full {ms : List (List Mat)} {n : Nat} (hn : ms.length = n) : halfMM ms n n = ms := by unfold halfMM; rw [Nat.sub_self, ← hn, List.take_length]; simp
theorem take_next {α : Type} {l : List α} {j : Nat} {x : α} (h : l[j]? = some x) : l.take (j + 1) = l.take j ++ [x] := by rw [List.take_add_one, h]; rfl
set_option maxRecDepth 100000 in
set_option maxHeartbeats 12800000 in
theorem load_any (lo hi0 lo2 hi2 : Nat) (v : Value) (f : Fnt) (A : Option Addr) (n c : Nat) (ms : List (List Mat)) (w : World) (h : FontV w lo hi0 v f) (hn : ms.length = n) (hm : n ≤ 1048576) (hlim : ∀ xs ∈ ms, xs.length ≤ 20) (hM : MagI w lo2 hi2 A ms) (hhi2 : hi2 ≤ w.heap.size) :
  Calls Tryz.prog 82 #[v, .slice A n c] w fun e w' => ∃ (Bc : Option Addr) (dc B hi : Nat) (hs : List (Option Nat)), (∃ B1 d1, v = .agg #[.string f.s, .slice B1 f.ws.length d1, .slice Bc f.cs.length dc]) ∧ e = .returned (.agg #[.slice Bc f.cs.length dc, .slice (some ⟨B, 0, none⟩) n n]) ∧ Made hs n n ∧ w.heap.size ≤ B ∧ hi ≤ w'.heap.size ∧ ChM w' B hi (.slice (some ⟨B, 0, none⟩) n n) hs ms ∧ Below w.heap.size w w' := by
 obtain ⟨B1, d1, B2, d2, hv⟩ := fontForm h
 obtain ⟨s, hs0⟩ : ∃ y, f.s = y := ⟨_, rfl⟩
 obtain ⟨p, hp⟩ : ∃ y, f.ws.length = y := ⟨_, rfl⟩
 obtain ⟨q, hq⟩ : ∃ y, f.cs.length = y := ⟨_, rfl⟩
 rw [hs0, hp, hq] at hv
 have HV : Hid (∃ X1 x1, (Value.agg #[.string s, .slice B1 p d1, .slice B2 q d2]) = .agg #[.string f.s, .slice X1 f.ws.length x1, .slice B2 f.cs.length d2]) := ⟨B1, d1, by rw [hs0, hp, hq]⟩
 have HQ := Lib.hid hq
 clear h hs0 hp hq
 rw [hv]
 obtain ⟨wa, hwa, hba, hza, Ra⟩ := mxWorld w #[.string s, .slice B1 p d1, .slice B2 q d2] 32
 obtain ⟨w1, hw1, hb1, hz1, E1⟩ := mxWorld wa #[.slice none 0 0, .slice none 0 0] 113
 rw [hza] at E1 hz1
 have T1 : Below w.heap.size w w1 := hba.trans (hb1.mono (by omega))
 have R1 := Ra.below hb1 (by omega)
 have M1 := hM.below hhi2 T1
 have Hn := Lib.hid hn; have HLIM := Lib.hid hlim
 go_enter Tryz.func82, Tryz.ntmps82
 clear hz1
 go_wp2_with (at_make; refine wpl_make_chs _ rfl (.tmp 11) rfl n _ rfl rfl hm ?_; intro w2 hC2 hb2 hz2)
 have T2 := Lib.hid (T1.trans (hb2.mono T1.size)); have R2 := Lib.hid (R1.below hb2 R1.lt); have E2 := Lib.hid (E1.below hb2 E1.lt); have M2 := Lib.hid (M1.below (Nat.le_trans hhi2 T1.size) hb2); have H2 := Lib.hid hC2
 have zh2 : w2.heap.size ≤ w2.heap.size := Nat.le_refl _
 clear hza
 obtain ⟨B, hB⟩ : ∃ y, w1.heap.size = y := ⟨_, rfl⟩
 rw [hB] at H2 hz2 ⊢
 have hBw : w.heap.size + 1 < B := by have := E1.lt; omega
 clear hwa hba Ra hw1 hb1 E1 T1 R1 M1 hC2 hb2 hB hM hn hlim hv
 have H0 : Hid (ChM w2 B w2.heap.size (.slice (some ⟨B, 0, none⟩) n n) (List.replicate n none) (halfMM ms n 0)) := by show ChM _ _ _ _ _ _; unfold halfMM; simpa using H2.out
 have HMD : Hid (Made (List.replicate n (none : Option Nat)) n 0) := ⟨List.length_replicate, fun j hj => by omega, fun j _ hj => by rw [List.getElem?_replicate, if_pos hj]⟩
 go_loopw [15] (fun iv wr => ∃ (i : Nat) (hs : List (Option Nat)) (hi : Nat), i ≤ n ∧ iv = .int .i64 i ∧ Hid (Made hs n i) ∧ Hid (Below w.heap.size w wr) ∧ Hid (Blk wr w.heap.size #[.string s, .slice B1 p d1, .slice B2 q d2] 32) ∧ Hid (Blk wr (w.heap.size + 1) #[.slice none 0 0, .slice none 0 0] 113) ∧ Hid (MagI wr lo2 hi2 A ms) ∧ Hid (ChM wr B hi (.slice (some ⟨B, 0, none⟩) n n) hs (halfMM ms n i)) ∧ hi ≤ wr.heap.size) (fun iv _ => n - (intOf iv).toNat)
 case atStart => exact ⟨0, _, _, Nat.zero_le _, rfl, HMD.out, T2.out, R2.out, E2.out, M2.out, H0.out, zh2⟩
 case round =>
  clear T2 R2 E2 M2 H2 H0 HMD zh2
  obtain ⟨i, hs, hi, hin, rfl, HM, T3, R3, E3, M3, H3, zh3⟩ := hrel
  obtain ⟨w3, h3⟩ : ∃ x, x = wr := ⟨_, rfl⟩
  subst h3
  by_cases hlt : i < n
  ·have hmi : hs[i]? = some none := HM.out.2.2 i (Nat.le_refl _) hlt
   have hxi : (halfMM ms n i)[i]? = some [] := halfMM_get Hn.out hlt
   obtain ⟨ad, xs, Aj, cj, rfl, hx, hcell, -, -, hI⟩ := M3.out.at_ (k := i) (by rw [Hn.out]; exact hlt)
   have hxl := HLIM.out xs (List.mem_of_getElem? hx.out)
   have HX := Lib.hid (hx.out)
   have HI3 := Lib.hid hI
   obtain ⟨l, hl⟩ : ∃ y, xs.length = y := ⟨_, rfl⟩
   rw [hl] at hcell hxl
   have HL := Lib.hid hl
   clear hl hx hI
   have ho := H3.out.outer
   rw [HM.out.1] at ho
   have ce1 := (ho.cellAt i (by omega)).trans (show (hs.map Value.chan)[i]? = some (.chan none) from by rw [List.getElem?_map, hmi]; rfl)
   have f1 := ho.frozenAt i
   have hBl := H3.out.top B rfl
   have hBw3 : B < w3.heap.size := by omega
   have mk := mkChan
   have hsz3 := T3.out.size
   have hini : (i : Int) < (n : Int) := by omega
   clear ho
   go_upto_region 6 with fail
   have H4 := Lib.hid (H3.out.make hmi hxi zh3)
   obtain ⟨c, hc⟩ : ∃ y, w3.heap.size = y := ⟨_, rfl⟩
   have hb4 : Below w3.heap.size w3 (w3.alloc (.chan 20 #[] false 0 0 false)) := (Below.refl _ _).alloc (Nat.le_refl _) _
   obtain ⟨w4, hw4⟩ : ∃ x, (w3.alloc (.chan 20 #[] false 0 0 false)).setCell ⟨B, i, none⟩ (.chan (some w3.heap.size)) = x := ⟨_, rfl⟩
   have T4 : Hid (Below w.heap.size w w4) := by show Below _ _ _; rw [← hw4]; exact (T3.out.trans (hb4.mono hsz3)).setCell (p := ⟨B, i, none⟩) (by show w.heap.size ≤ B; omega) _
   have R4 : Hid (Blk w4 w.heap.size #[.string s, .slice B1 p d1, .slice B2 q d2] 32) := by show Blk _ _ _ _; rw [← hw4]; exact (R3.out.below hb4 R3.out.lt).other ⟨B, i, none⟩ _ (by show w.heap.size ≠ B; omega)
   have E4 : Hid (Blk w4 (w.heap.size + 1) #[.slice none 0 0, .slice none 0 0] 113) := by show Blk _ _ _ _; rw [← hw4]; exact (E3.out.below hb4 E3.out.lt).other ⟨B, i, none⟩ _ (by show w.heap.size + 1 ≠ B; omega)
   have hch : Chg B (B + 1) (w3.alloc (.chan 20 #[] false 0 0 false)) w4 := by rw [← hw4]; exact ⟨rfl, rfl, rfl, by simp [World.setCell], fun k hk hn => Below.heap_setCell _ _ _ _ (by show k ≠ B; omega)⟩
   have M4 := Lib.hid ((M3.out.below (Nat.le_trans hhi2 hsz3) hb4).chg hch (by have := hb4.size; omega) (.inl (by omega)))
   have HI4 : Hid (MatsI w4 lo2 hi2 Aj xs) := (HI3.out.below (Nat.le_trans hhi2 hsz3) hb4).keep (fun p _ h2 => hch.cell (by have := hb4.size; omega) (by omega))
   rw [← World.setCell_alloc_past _ B i _ hBw3]
   rw [hw4] at H4 ⊢
   have hz4 : w4.heap.size = w3.heap.size + 1 := by rw [← hw4]; simp [World.setCell]
   rw [hc] at H4
   have zh4 : c + 1 ≤ w4.heap.size := by omega
   have HM4 := Lib.hid (made_step (c := c) HM.out hlt)
   have hci : (hs.set i (some c))[i]? = some (some c) := List.getElem?_set_self (by rw [HM.out.1]; exact hlt)
   have HCI := Lib.hid hci
   (try rw [hc])
   clear hci hw4 hc hch hb4 hz4 HI3 T3 R3 E3 M3 H3 zh3 HM hmi hxi hcell ce1 f1 hBl mk
   obtain ⟨hs4, hhs4⟩ : ∃ y, hs.set i (some c) = y := ⟨_, rfl⟩
   rw [hhs4] at H4 HM4 HCI
   clear hhs4
   have hr0 : rowJ ms n i 0 xs = halfMM ms n i := by unfold rowJ; rw [List.take_zero]; exact set_same (halfMM_get Hn.out hlt)
   rw [← hr0] at H4
   clear hr0
   go_wp2
   go_loopw [26] (fun jv wq => ∃ j : Nat, j ≤ l ∧ jv = .int .i64 j ∧ Hid (MatsI wq lo2 hi2 Aj xs) ∧ Hid (Below w.heap.size w wq) ∧ Hid (Blk wq w.heap.size #[.string s, .slice B1 p d1, .slice B2 q d2] 32) ∧ Hid (Blk wq (w.heap.size + 1) #[.slice none 0 0, .slice none 0 0] 113) ∧ Hid (MagI wq lo2 hi2 (some ad) ms) ∧ Hid (ChM wq B (c + 1) (.slice (some ⟨B, 0, none⟩) n n) hs4 (rowJ ms n i j xs)) ∧ (c + 1) ≤ wq.heap.size) (fun jv _ => l - (intOf jv).toNat)
   case atStart => exact ⟨0, Nat.zero_le _, rfl, HI4.out, T4.out, R4.out, E4.out, M4.out, H4.out, zh4⟩
   case round =>
    clear HI4 T4 R4 E4 M4 H4 zh4
    obtain ⟨j, hjl, rfl, HI5, T5, R5, E5, M5, H5, zh5⟩ := hrel
    obtain ⟨w5, h5⟩ : ∃ x, x = wr := ⟨_, rfl⟩
    subst h5
    by_cases hj : j < l
    ·obtain ⟨bd, z, rfl, hz, c1, c2⟩ := HI5.out.at_ (k := j) (by rw [HL.out]; exact hj)
     obtain ⟨k1, k2⟩ := z
     simp only at c1 c2
     have HZ := Lib.hid hz.out
     have hji : (j : Int) < (l : Int) := by omega
     go_upto_region 9 with fail
     obtain ⟨w6, hw6, hb6, hz6, hX6⟩ := mxWorld w5 #[.int .i64 k1, .int .i64 k2] 64
     obtain ⟨cb, hcb⟩ : ∃ y, w5.heap.size = y := ⟨_, rfl⟩
     rw [hw6, hcb]
     have hBl := H5.out.top B rfl
     have hcc : c + 1 ≤ cb := by omega
     have HI6 := Lib.hid (HI5.out.below (Nat.le_trans hhi2 T5.out.size) hb6)
     have zh6 : (c + 1) ≤ w6.heap.size := by have := hb6.size; omega
     have T6 := Lib.hid (T5.out.trans (hb6.mono T5.out.size)); have R6 := Lib.hid (R5.out.below hb6 R5.out.lt); have E6 := Lib.hid (E5.out.below hb6 E5.out.lt); have M6 := Lib.hid (M5.out.below (Nat.le_trans hhi2 T5.out.size) hb6); have H6 := Lib.hid (H5.out.below zh5 hb6)
     clear T5 R5 E5 M5 H5
     rw [hcb] at hX6
     have X6 := Lib.hid hX6
     clear hb6 hX6 hw6 hcb hz6 c1 c2 hz HI5
     have ho := H6.out.outer
     rw [HM4.out.1] at ho
     have ce1 := (ho.cellAt i (by omega)).trans (show (hs4.map Value.chan)[i]? = some (.chan (some c)) from by rw [List.getElem?_map, HCI.out]; rfl)
     have hxj : (rowJ ms n i j xs)[i]? = some (xs.take j) := List.getElem?_set_self (by rw [halfMM_len Hn.out (by omega)]; exact hlt)
     obtain ⟨sN, rN, hch⟩ := H6.out.at_ HCI.out hxj
     have hbz : (bufM (xs.take j)).size < 20 := by rw [bufM_size, List.length_take]; omega
     clear ho
     refine wp_region_planC 6 (.take 0 (.take 1 (.take 2 (.take 3 (.take 4 (.one 5 .done)))))) (fun w' => w'.cell? ⟨B, i, none⟩ = some (.chan (some c)) ∧ w'.cell? ⟨cb, 0, none⟩ = some (.int .i64 k1) ∧ w'.cell? ⟨cb, 1, none⟩ = some (.int .i64 k2)) (by kernel_rfl) (by kernel_rfl) (by kernel_rfl) ⟨ce1, cellOfBlk X6.out 0, cellOfBlk X6.out 1⟩ ?_
     iterate 5 (refine planC_quiet rfl (by rfl) (v := ?_) ?_ ?_; rotate_left; (intro w1 hSw; obtain ⟨h0, h1, h2⟩ := hSw; go_simp; try (with_reducible rfl)); (try simp only [Act.put, List.setIfInBounds_toArray, List.set_cons_zero, List.set_cons_succ]))
     have hcB : c ≠ B := fun e => (H6.out.place i c HCI.out).2.2 (by rw [e]; rfl)
     have hccb : c ≠ cb := by omega
     have hBc : B ≤ c := (H6.out.place i c HCI.out).1
     have hszd : w6.drew.heap.size = w6.heap.size := rfl
     have hcl : c < w6.heap.size := by have := (H6.out.place i c HCI.out).2.1; omega
     have hcbl := X6.out.lt
     have hcg : Chg c (c + 1) w6.drew (w6.drew.setChan c 20 ((bufM (xs.take j)).push (.agg #[.int .i64 k1, .int .i64 k2])) false (sN + 1) rN false) := chg_setChan _ _ _ _ _ _ _ _
     refine planC_comm rfl (by rfl) (by go_simp; rfl) (LoneComm.send (w := w6.drew) (v := .agg #[.int .i64 k1, .int .i64 k2]) (z := .tuple #[]) hch hbz) ⟨?_, ?_, ?_⟩ ?_
     ·exact (hcg.cell (p := ⟨B, i, none⟩) (by show B < w6.heap.size; omega) (by show ¬(c ≤ B ∧ B < c + 1); omega)).trans ce1
     ·exact (hcg.cell (p := ⟨cb, 0, none⟩) (by show cb < w6.heap.size; omega) (by show ¬(c ≤ cb ∧ cb < c + 1); omega)).trans (cellOfBlk X6.out 0)
     ·exact (hcg.cell (p := ⟨cb, 1, none⟩) (by show cb < w6.heap.size; omega) (by show ¬(c ≤ cb ∧ cb < c + 1); omega)).trans (cellOfBlk X6.out 1)
     (try simp only [Act.put, List.setIfInBounds_toArray, List.set_cons_zero, List.set_cons_succ])
     have HCG := Lib.hid hcg
     have hd6 : Below w6.heap.size w6 w6.drew := (Below.refl _ _).drew
     obtain ⟨ws, hws⟩ : ∃ x, w6.drew.setChan c 20 ((bufM (xs.take j)).push (.agg #[.int .i64 k1, .int .i64 k2])) false (sN + 1) rN false = x := ⟨_, rfl⟩
     have hq : ((bufM (xs.take j)).push (.agg #[.int .i64 k1, .int .i64 k2])) = bufM (xs.take (j + 1)) := by rw [show (Value.agg #[.int .i64 k1, .int .i64 k2]) = cvM (k1, k2) from rfl, bufM_push]; congr 1; exact (take_next HZ.out).symm
     have H7 : Hid (ChM ws B (c + 1) (.slice (some ⟨B, 0, none⟩) n n) hs4 (rowJ ms n i (j + 1) xs)) := by show ChM _ _ _ _ _ _; rw [← hws, hq, ← rowJ_set]; exact (H6.out.below zh6 hd6).comm HCI.out _ _ _
     rw [hws] at HCG ⊢
     have hz7 : w6.heap.size ≤ ws.heap.size := HCG.out.size
     have zh7 : c + 1 ≤ ws.heap.size := by omega
     have b7 : Below B w6 ws := (hd6.mono (by omega)).trans ((HCG.out.below (by omega)).mono hBc)
     have T7 := Lib.hid (T6.out.trans (b7.mono (by omega)))
     have R7 := Lib.hid (R6.out.below b7 (by omega))
     have E7 := Lib.hid (E6.out.below b7 (by omega))
     have M7 := Lib.hid (M6.out.below (by omega) b7)
     have HI7 := Lib.hid (HI6.out.below (by omega) b7)
     have hj1 : j + 1 ≤ l := by omega
     clear hws HCG hcg b7 hd6 T6 R6 E6 M6 H6 HI6 X6 HZ hq hch hbz zh6 ce1 hcl hcB hccb hszd hcbl hz7
     refine planC_done ?_
     go_wp2
     exact ⟨⟨j + 1, hj1, rfl, HI7, T7, R7, E7, M7, H7, zh7⟩, by simp [intOf]; omega⟩
    ·have hje : j = l := by omega
     subst hje
     have hjf : decide ((j : Int) < (j : Int)) = false := by simp
     go_wp2
     have H6 : Hid (ChM w5 B (c + 1) (.slice (some ⟨B, 0, none⟩) n n) hs4 (halfMM ms n (i + 1))) := by show ChM _ _ _ _ _ _; rw [← rowJ_all Hn.out HX.out HL.out]; exact H5.out
     exact ⟨⟨i + 1, hs4, c + 1, by omega, rfl, HM4, T5, R5, E5, M5, H6, zh5⟩, by simp [intOf]; omega⟩
  ·have hie : i = n := by omega
   subst hie
   have hnf : decide ((i : Int) < (i : Int)) = false := by simp
   have r2 := cellOfBlk R3.out 2
   have e0 := cellOfBlk E3.out 0
   have e1 := cellOfBlk E3.out 1
   have f0 := E3.out.warm 0
   have f1 := E3.out.warm 1
   go_wp2
   have hcg := chg_two w3 (w.heap.size + 1) (.slice B2 q d2) (.slice (some ⟨B, 0, none⟩) i i)
   have ry := E3.out.fill2 (.slice B2 q d2) (.slice (some ⟨B, 0, none⟩) i i)
   obtain ⟨y, hy⟩ : ∃ x, (w3.setCell ⟨w.heap.size + 1, 0, none⟩ (.slice B2 q d2)).setCell ⟨w.heap.size + 1, 1, none⟩ (.slice (some ⟨B, 0, none⟩) i i) = x := ⟨_, rfl⟩
   rw [hy] at hcg ry ⊢
   have y0 := cellOfBlk ry 0
   have y1 := cellOfBlk ry 1
   obtain ⟨X1, x1, hx⟩ := HV.out
   have hq := HQ.out
   have hE := E3.out.lt
   have hzz := hcg.size
   have HC : ChM y B hi (.slice (some ⟨B, 0, none⟩) i i) hs ms := by have h8 := H3.out.chg zh3 hcg (.inr (by omega)); rw [halfMM_full Hn.out] at h8; exact h8
   refine bodyPost_ret (v := .agg #[.slice B2 q d2, .slice (some ⟨B, 0, none⟩) i i]) (by simp [results, Tryz.results82, go_sem, y0, y1]) rfl ?_
   exact ⟨B2, d2, B, hi, hs, ⟨X1, x1, hx⟩, by rw [hq], HM.out, by omega, by omega, HC, T3.out.trans ((hcg.below (by omega)).mono (by omega))⟩
end Go.Proofs.YtimhnkpccbcohaaGreatDoor

namespace Go.Proofs.YtimhnkpccbcohaaGreatDoor
open Go.RowKit Go.Conc
set_option linter.unusedVariables false
set_option linter.unusedSimpArgs false

theorem Chg.upon {lo hi a b : Nat} {w w2 w3 : World} (h : Chg lo hi w w2) (k : Chg a b w2 w3) (ha : w.heap.size ≤ a) : Chg lo hi w w3 :=
 ⟨k.os.trans h.os, k.tape.trans h.tape, k.output.trans h.output, Nat.le_trans h.size k.size, fun i hi hn => (k.block i (Nat.lt_of_lt_of_le hi h.size) (by omega)).trans (h.block i hi hn)⟩
theorem run_len_chan {w : World} {c s r : Nat} {buf : Array Value} (ty : TypeId) (hc : w.heap[c]? = some (.chan 20 buf false s r false)) : (Builtin.len_ #[158] ty #[.chan (some c)]).run Tryz.prog w = .ok (.int .i64 (buf.size : Int)) w := by
 have hg : (getObj c).run Tryz.prog w = .ok (.chan 20 buf false s r false) w := by simp [getObj, Sem.run, hc]
 simp [Builtin.len_, run_underlying Tryz.underlying158, hg, goInt, Result.andThen]
theorem OwnMag.wid {w : World} {B hi hi' : Nat} {v : Value} {hs : List Value} {ms : List (List Mat)} (h : OwnMag w B hi v hs ms) (hle : hi ≤ hi') : OwnMag w B hi' v hs ms :=
 ⟨h.outer, h.rows, h.apart, fun i x g a b => ⟨(h.other i x g a b).1, Nat.lt_of_lt_of_le (h.other i x g a b).2 hle⟩, fun g a => Nat.lt_of_lt_of_le (h.top g a) hle⟩
section
variable {ops : Array Oper} {rest : List Oper} {o : Oper} {a : Act} {Q : Exit → Act → World → Prop}
theorem wpl_len_chan (w : World) (hg : o.guard = none) (m : Operand) (hop : o.op = Op.call { callee := Callee.builtin Builtin.len, args := #[m], argTypes := #[158] })
  (c : Nat) (xs : List Mat) (s r : Nat) (hm : a.eval m = .chan (some c)) (hc : w.heap[c]? = some (.chan 20 (bufM xs) false s r false)) (l : Nat) (hl : xs.length = l) (hK : wpList Tryz.prog ops Q rest (a.put o.dst (.int .i64 l)) w) :
  wpList Tryz.prog ops Q (o :: rest) a w := by
 refine wpList_plain hg fun K' hK' => ?_
 have hr := run_len_chan o.type hc
 rw [bufM_size, hl] at hr
 unfold Oper.wp
 simp [execOp, hop, resolve, invoke, builtin, hm, hr, Result.andThen]
 exact hK' _ _ hK
/-- append of one matrix, just made, to a row of the call's own: its run -/
theorem run_push_one {o : Oper} {a : Act} (w : World) (s x : Operand) (ho : o.op = .call { callee := .builtin .append, args := #[s, x], argTypes := #[35, 35] })
  (B : Nat) (v : Value) (xs : List Mat) (y : Mat) (hs : a.eval s = v) (hx : a.eval x = .slice (some ⟨w.heap.size, 0, none⟩) 1 1) (hown : OwnM w B v xs) (hB : B ≤ w.heap.size) (hlen : xs.length ≤ 1048576) :
  ∃ v' w', (execOp a.eval o).run Tryz.prog (w.alloc (.cells #[.int .i64 y.1, .int .i64 y.2] 64)) = .ok (.value v') w' ∧ OwnM w' B v' (xs ++ [y]) ∧ w.grownBy w' v.ownBlock ∧ (v'.ownBlock = v.ownBlock ∨ ∀ k, v'.ownBlock = some k → w.heap.size ≤ k) := by
 obtain ⟨i0, hi, hz0, hz1, hz2⟩ := info_parts matInfo
 obtain ⟨v', w', hr, h2, h3, _, hlie⟩ := run_append_own_at (P := Tryz.prog) (w := w.alloc (.cells #[.int .i64 y.1, .int .i64 y.2] 64)) B 35 o.type 64 i0 (.agg #[.int .i64 0, .int .i64 0]) 2 16 Tryz.underlying35 hi hz0 hz1 hz2 rfl (by decide) v xs.length (mcells xs) (World.ownsRow.alloc hown _) ⟨w.heap.size, 0, none⟩ 1 1 [.int .i64 y.1, .int .i64 y.2] rfl (by
  intro j u hj
  match j, hj with
  | 0, hj =>
   simp at hj; subst hj
   rw [add_zero_at, World.cell?_alloc_at _ _ _ _ rfl]
   rfl
  | 1, hj =>
   simp at hj; subst hj
   rw [addr_next, add_zero_at, World.cell?_alloc_at _ _ _ _ rfl]
   rfl) (by
  intro u hu
  simp at hu
  rcases hu with rfl | rfl <;> rfl) (by unfold maxLen; omega) (by omega) (by simp; omega)
 refine ⟨v', w', ?_, ?_, (World.grownBy_alloc _ _ _).trans h3, ?_⟩
 ·unfold execOp
  simp only [ho, resolve, invoke, builtin, Sem.run_bind, Sem.run_pure, Result.andThen_ok, List.map_toArray, List.map_cons, List.map_nil, hs, hx, hr]
 ·unfold OwnM
  rw [mcells_snoc, List.length_append]
  exact h2
 ·rcases hlie with h4 | h4
  ·exact .inl h4
  ·refine .inr fun k hk => ?_
   rw [h4] at hk
   have e2 := Option.some.inj hk
   simp at e2
   omega
theorem planC_push {S : World → Prop} {i : Nat} {p : PlanT} (w : World) (hi : ops.toList[i]? = some o) (hw : Region.wanted o (yielded ops a.tmps) = true) (s x : Operand) (ho : o.op = .call { callee := .builtin .append, args := #[s, x], argTypes := #[35, 35] })
  (B : Nat) (v : Value) (xs : List Mat) (y : Mat) (hs : a.eval s = v) (hx : a.eval x = .slice (some ⟨w.heap.size, 0, none⟩) 1 1) (hown : OwnM w B v xs) (hB : B ≤ w.heap.size) (hlen : xs.length ≤ 1048576)
  (hK : ∀ v' w', OwnM w' B v' (xs ++ [y]) → w.grownBy w' v.ownBlock → (v'.ownBlock = v.ownBlock ∨ ∀ k, v'.ownBlock = some k → w.heap.size ≤ k) → S w' ∧ wpPlanC Tryz.prog ops Q S p (a.put o.dst v') w') :
  wpPlanC Tryz.prog ops Q S (.one i p) a (w.alloc (.cells #[.int .i64 y.1, .int .i64 y.2] 64)) := by
 obtain ⟨v', w', hr, h1, h2, h3⟩ := run_push_one w s x ho B v xs y hs hx hown hB hlen
 exact planC_value hi hw hr (hK v' w' h1 h2 h3).1 (hK v' w' h1 h2 h3).2
end
/-- rows that are empty up to i -/
def drn (ms : List (List Mat)) (i : Nat) : List (List Mat) := List.replicate i [] ++ ms.drop i
theorem drn_get {ms : List (List Mat)} {i : Nat} {xs : List Mat} (hx : ms[i]? = some xs) : (drn ms i)[i]? = some xs := by
 unfold drn
 rw [List.getElem?_append_right (by simp), List.length_replicate, Nat.sub_self, List.getElem?_drop]; exact hx
theorem drn_set {ms : List (List Mat)} {i : Nat} (hi : i < ms.length) : (drn ms i).set i [] = drn ms (i + 1) := by
 apply List.ext_getElem?
 intro k
 unfold drn
 by_cases h1 : k = i
 ·subst h1
  rw [List.getElem?_set_self (by simp; omega), List.getElem?_append_left (by simp), List.getElem?_replicate, if_pos (by omega)]
 ·rw [List.getElem?_set_ne (fun e => h1 e.symm)]
  by_cases h2 : k < i
  ·rw [List.getElem?_append_left (by simpa using h2), List.getElem?_append_left (by simp; omega), List.getElem?_replicate, List.getElem?_replicate, if_pos h2, if_pos (by omega)]
  ·rw [List.getElem?_append_right (by simp; omega), List.getElem?_append_right (by simp; omega), List.length_replicate, List.length_replicate, List.getElem?_drop, List.getElem?_drop]
   congr 1; omega
/-- row i without its first j -/
def drnJ (ms : List (List Mat)) (i j : Nat) (xs : List Mat) : List (List Mat) := (drn ms i).set i (xs.drop j)
theorem drnJ_zero {ms : List (List Mat)} {i : Nat} {xs : List Mat} (hx : ms[i]? = some xs) : drnJ ms i 0 xs = drn ms i := by unfold drnJ; exact set_same (drn_get hx)
theorem drnJ_set {ms : List (List Mat)} {i j : Nat} {xs : List Mat} : (drnJ ms i j xs).set i (xs.drop (j + 1)) = drnJ ms i (j + 1) xs := by unfold drnJ; rw [List.set_set]
theorem drnJ_all {ms : List (List Mat)} {i l : Nat} {xs : List Mat} (hx : ms[i]? = some xs) (hl : xs.length = l) : drnJ ms i l xs = drn ms (i + 1) := by
 unfold drnJ; rw [← hl, List.drop_length]; exact drn_set (List.getElem?_eq_some_iff.1 hx).1
theorem drnJ_get {ms : List (List Mat)} {i j : Nat} {xs : List Mat} (hx : ms[i]? = some xs) : (drnJ ms i j xs)[i]? = some (xs.drop j) := by
 unfold drnJ; exact List.getElem?_set_self (by have := (List.getElem?_eq_some_iff.1 (drn_get hx)).1; exact this)
theorem drop_next {α : Type} {l : List α} {j : Nat} {x : α} (h : l[j]? = some x) : l.drop j = x :: l.drop (j + 1) := by
 obtain ⟨h1, h2⟩ := List.getElem?_eq_some_iff.1 h
 rw [List.drop_eq_getElem_cons h1, h2]
theorem rowJ_get {ms : List (List Mat)} {n i j : Nat} {xs : List Mat} (hn : ms.length = n) (hi : i < n) : (rowJ ms n i j xs)[i]? = some (xs.take j) := by
 unfold rowJ; exact List.getElem?_set_self (by rw [halfMM_len hn (by omega)]; exact hi)
theorem rowJ_zero {ms : List (List Mat)} {n i : Nat} {xs : List Mat} (hn : ms.length = n) (hi : i < n) : rowJ ms n i 0 xs = halfMM ms n i := by unfold rowJ; rw [List.take_zero]; exact set_same (halfMM_get hn hi)
theorem rowJ_len {ms : List (List Mat)} {n i j : Nat} {xs : List Mat} (hn : ms.length = n) (hi : i ≤ n) : (rowJ ms n i j xs).length = n := by unfold rowJ; rw [List.length_set]; exact halfMM_len hn hi
set_option maxRecDepth 100000 in
set_option maxHeartbeats 12800000 in
theorem unload_any (cv : Value) (hcv : cv.oneCell' = true) (B hi n : Nat) (hs : List (Option Nat)) (ms : List (List Mat)) (w : World) (hn : ms.length = n) (hm : n ≤ 1048576) (hlim : ∀ xs ∈ ms, xs.length ≤ 20) (hmd : Made hs n n) (h : ChM w B hi (.slice (some ⟨B, 0, none⟩) n n) hs ms) (hhi : hi ≤ w.heap.size) :
  Calls Tryz.prog 86 #[.agg #[cv, .slice (some ⟨B, 0, none⟩) n n]] w fun e w' => ∃ v' hs', e = .returned v' ∧ OwnMag w' w.heap.size w'.heap.size v' hs' ms ∧ Chg B hi w w' := by
 have hBh := h.top B rfl
 have hBw : B < w.heap.size := by omega
 obtain ⟨w1, hw1, hb1, hz1, R1⟩ := mxWorld w #[cv, .slice (some ⟨B, 0, none⟩) n n] 113
 have H1 := Lib.hid (h.below hhi hb1)
 have Hn := Lib.hid hn; have HLIM := Lib.hid hlim; have HMD := Lib.hid hmd
 clear h hn hlim hmd
 go_enter Tryz.func86, Tryz.ntmps86
 have q1 := cellOfBlk R1 1
 go_wp2_with (at_make; refine wpl_make_mag _ rfl (.tmp 8) rfl n _ rfl rfl hm ?_; intro w2 hM2 hb2 hz2; have q2 := (hb2.cell (p := ⟨w.heap.size, 1, none⟩) (show w.heap.size < w1.heap.size by omega)).trans q1)
 rw [hz1] at hM2 hb2 hz2
 have T2 : Hid (Chg B hi w w2) := Chg.of_below (hb1.trans (hb2.mono (by omega)))
 have R2 : Hid (Blk w2 w.heap.size #[cv, .slice (some ⟨B, 0, none⟩) n n] 113) := R1.below hb2 (by omega)
 have H2 : Hid (ChM w2 B hi (.slice (some ⟨B, 0, none⟩) n n) hs (drn ms 0)) := by show ChM _ _ _ _ _ _; have h9 := H1.out.keep (w' := w2) (fun b _ h2 => hb2.block b (by omega)); unfold drn; simpa using h9
 have M2 : Hid (OwnMag w2 (w.heap.size + 1) w2.heap.size (.slice (some ⟨w.heap.size + 1, 0, none⟩) n n) (List.replicate n (.slice none 0 0)) (halfMM ms n 0)) := by show OwnMag _ _ _ _ _ _; unfold halfMM; simpa using hM2
 have Z2 := Lib.hid hz2
 clear hw1 hb1 hz1 R1 H1 hM2 hb2 hz2 q1 q2
 go_loopw [13] (fun iv wr => ∃ (i : Nat) (hs2 : List Value), i ≤ n ∧ iv = .int .i64 i ∧ Hid (Chg B hi w wr) ∧ Hid (w.heap.size + 1 < wr.heap.size) ∧ Hid (Blk wr w.heap.size #[cv, .slice (some ⟨B, 0, none⟩) n n] 113) ∧ Hid (OwnMag wr (w.heap.size + 1) wr.heap.size (.slice (some ⟨w.heap.size + 1, 0, none⟩) n n) hs2 (halfMM ms n i)) ∧ Hid (ChM wr B hi (.slice (some ⟨B, 0, none⟩) n n) hs (drn ms i))) (fun iv _ => n - (intOf iv).toNat)
 case atStart => exact ⟨0, _, Nat.zero_le _, rfl, T2.out, Z2.out, R2.out, M2.out, H2.out⟩
 case round =>
  clear T2 Z2 R2 M2 H2
  obtain ⟨i, hs2, hin, rfl, T3, Z3, R3, M3, H3⟩ := hrel
  obtain ⟨w3, h3⟩ : ∃ x, x = wr := ⟨_, rfl⟩
  subst h3
  by_cases hlt : i < n
  ·obtain ⟨c, hci⟩ := HMD.out.2.1 i hlt
   have HCI := Lib.hid hci
   obtain ⟨xs, hx⟩ : ∃ xs, ms[i]? = some xs := ⟨_, List.getElem?_eq_getElem (by rw [Hn.out]; exact hlt)⟩
   have hxl := HLIM.out xs (List.mem_of_getElem? hx)
   have HX := Lib.hid hx
   obtain ⟨l, hl⟩ : ∃ y, xs.length = y := ⟨_, rfl⟩
   rw [hl] at hxl
   have HL := Lib.hid hl
   have ho := H3.out.outer
   rw [HMD.out.1] at ho
   have ce1 := (ho.cellAt i (by omega)).trans (show (hs.map Value.chan)[i]? = some (.chan (some c)) from by rw [List.getElem?_map, hci]; rfl)
   obtain ⟨sN, rN, hch⟩ := H3.out.at_ hci (drn_get hx)
   have hini : (i : Int) < (n : Int) := by omega
   clear ho hx hci hl
   go_wp2_with (refine wpl_len_chan _ rfl (.tmp 18) rfl c xs sN rN rfl hch l HL.out ?_)
   have M4 : Hid (OwnMag w3 (w.heap.size + 1) w3.heap.size (.slice (some ⟨w.heap.size + 1, 0, none⟩) n n) hs2 (rowJ ms n i 0 xs)) := by show OwnMag _ _ _ _ _ _; rw [rowJ_zero Hn.out hlt]; exact M3.out
   have H4 : Hid (ChM w3 B hi (.slice (some ⟨B, 0, none⟩) n n) hs (drnJ ms i 0 xs)) := by show ChM _ _ _ _ _ _; rw [drnJ_zero HX.out]; exact H3.out
   clear M3 H3 ce1 hch hini
   go_loopw [20] (fun jv wq => ∃ (j : Nat) (hs5 : List Value), j ≤ l ∧ jv = .int .i64 j ∧ Hid (Chg B hi w wq) ∧ Hid (w.heap.size + 1 < wq.heap.size) ∧ Hid (Blk wq w.heap.size #[cv, .slice (some ⟨B, 0, none⟩) n n] 113) ∧ Hid (OwnMag wq (w.heap.size + 1) wq.heap.size (.slice (some ⟨w.heap.size + 1, 0, none⟩) n n) hs5 (rowJ ms n i j xs)) ∧ Hid (ChM wq B hi (.slice (some ⟨B, 0, none⟩) n n) hs (drnJ ms i j xs))) (fun jv _ => l - (intOf jv).toNat)
   case atStart => exact ⟨0, _, Nat.zero_le _, rfl, T3.out, Z3.out, R3.out, M4.out, H4.out⟩
   case round =>
    clear T3 Z3 R3 M4 H4
    obtain ⟨j, hs5, hjl, rfl, T5, Z5, R5, M5, H5⟩ := hrel
    obtain ⟨w5, h5⟩ : ∃ x, x = wr := ⟨_, rfl⟩
    subst h5
    by_cases hj : j < l
    ·have hji : (j : Int) < (l : Int) := by omega
     obtain ⟨z, hz⟩ : ∃ z, xs[j]? = some z := ⟨_, List.getElem?_eq_getElem (by rw [HL.out]; exact hj)⟩
     obtain ⟨k1, k2⟩ := z
     have HZ := Lib.hid hz
     clear hz
     obtain ⟨h0, hh0, hO0⟩ := M5.out.rows i _ (rowJ_get Hn.out hlt)
     have HH0 := Lib.hid hh0
     have HO0 := Lib.hid hO0
     have ho := H5.out.outer
     rw [HMD.out.1] at ho
     have hm := M5.out.outer
     rw [rowJ_len Hn.out (by omega)] at hm
     have d1 := (hm.cellAt i (by omega)).trans hh0
     have f1 := hm.frozenAt i
     obtain ⟨sN, rN, hch⟩ := H5.out.at_ HCI.out (drnJ_get HX.out)
     clear ho hm hh0 hO0
     go_upto_region 7 with fail
     have hne : 0 < (bufM (xs.drop j)).size := by rw [bufM_size, List.length_drop, HL.out]; omega
     refine wp_region_planC 11 (.take 0 (.take 1 (.take 2 (.take 3 (.take 4 (.take 5 (.take 6 (.one 7 (.one 8 (.one 9 (.take 10 (.last 11)))))))))))) (fun w' => w'.cell? ⟨w.heap.size + 1, i, none⟩ = some h0) (by kernel_rfl) (by kernel_rfl) (by kernel_rfl) d1 ?_
     iterate 7 (refine planC_quiet rfl (by rfl) (v := ?_) ?_ ?_; rotate_left; (intro w1 hSw; have h0c := hSw; go_simp; try (with_reducible rfl)); (try simp only [Act.put, List.setIfInBounds_toArray, List.set_cons_zero, List.set_cons_succ]))
     have hdr : xs.drop j = (k1, k2) :: xs.drop (j + 1) := drop_next HZ.out
     rw [hdr] at hch hne
     have hcB := (H5.out.place i c HCI.out).1
     have hch2 := (H5.out.place i c HCI.out).2.1
     have hT := T5.out.size
     have hZ := Z5.out
     have hcg : Chg c (c + 1) w5.drew (w5.drew.setChan c 20 ((bufM ((k1, k2) :: xs.drop (j + 1))).extract 1 (bufM ((k1, k2) :: xs.drop (j + 1))).size) false sN (rN + 1) false) := chg_setChan _ _ _ _ _ _ _ _
     have hdz : w5.drew.heap.size = w5.heap.size := rfl
     refine planC_comm rfl (by rfl) (by go_simp; rfl) (LoneComm.recv (w := w5.drew) (z := .agg #[.int .i64 0, .int .i64 0]) hch hne) ?_ ?_
     ·exact (hcg.cell (p := ⟨w.heap.size + 1, i, none⟩) (by show w.heap.size + 1 < w5.heap.size; omega) (by show ¬(c ≤ w.heap.size + 1 ∧ w.heap.size + 1 < c + 1); omega)).trans d1
     rw [bufM_head]
     (try simp only [Act.put, List.setIfInBounds_toArray, List.set_cons_zero, List.set_cons_succ])
     rw [bufM_tail] at hcg ⊢
     unfold cvM
     obtain ⟨w6, hw6⟩ : ∃ x, w5.drew.setChan c 20 (bufM (xs.drop (j + 1))) false sN (rN + 1) false = x := ⟨_, rfl⟩
     have hd5 : Below w5.heap.size w5 w5.drew := (Below.refl _ _).drew
     have H6 : Hid (ChM w6 B hi (.slice (some ⟨B, 0, none⟩) n n) hs (drnJ ms i (j + 1) xs)) := by show ChM _ _ _ _ _ _; rw [← hw6, ← drnJ_set]; exact (H5.out.below (by omega) hd5).comm HCI.out _ _ _
     rw [hw6] at hcg ⊢
     have b6 : Below B w5 w6 := (hd5.mono (by omega)).trans ((hcg.below (by omega)).mono hcB)
     have hz6 := hcg.size
     have c6 : Chg c (c + 1) w5 w6 := (Chg.of_below hd5).trans hcg
     have T6 := Lib.hid (T5.out.trans (c6.wide hcB (by omega)))
     have R6 : Hid (Blk w6 w.heap.size #[cv, .slice (some ⟨B, 0, none⟩) n n] 113) := (c6.block w.heap.size (by omega) (by omega)).trans R5.out
     have M6 : Hid (OwnMag w6 (w.heap.size + 1) w6.heap.size (.slice (some ⟨w.heap.size + 1, 0, none⟩) n n) hs5 (rowJ ms n i j xs)) := (M5.out.chg c6 (.inr (by omega))).wid (by omega)
     have d6 : w6.cell? ⟨w.heap.size + 1, i, none⟩ = some h0 := (c6.cell (p := ⟨w.heap.size + 1, i, none⟩) (by show w.heap.size + 1 < w5.heap.size; omega) (by show ¬(c ≤ w.heap.size + 1 ∧ w.heap.size + 1 < c + 1); omega)).trans d1
     have HO6 : Hid (OwnM w6 (w.heap.size + 1) h0 (xs.take j)) := by obtain ⟨h9, e9, o9⟩ := M6.out.rows i _ (rowJ_get Hn.out hlt); rw [HH0.out] at e9; injection e9 with e9; subst e9; exact o9
     refine planC_value rfl (by rfl) (u := .slice (some ⟨w6.heap.size, 0, none⟩) 1 1) (w' := w6.alloc (.cells #[.int .i64 k1, .int .i64 k2] 64)) (by go_simp) ?_ ?_
     ·exact (((Below.refl _ w6).alloc (Nat.le_refl _) _).cell (p := ⟨w.heap.size + 1, i, none⟩) (by show w.heap.size + 1 < w6.heap.size; omega)).trans d6
     (try simp only [Act.put, List.setIfInBounds_toArray, List.set_cons_zero, List.set_cons_succ])
     refine planC_push w6 rfl (by rfl) (.tmp 27) (.tmp 30) rfl (w.heap.size + 1) h0 (xs.take j) (k1, k2) rfl rfl HO6.out (by omega) (by rw [List.length_take]; omega) ?_
     intro v7 w7 hO7 hg7 hf7
     have hk7 := M6.out.kept HH0.out hg7
     rw [rowJ_len Hn.out (by omega)] at hk7
     have d7 := (hk7.cellAt i (by omega)).trans HH0.out
     have f7 := hk7.frozenAt i
     refine ⟨d7, ?_⟩
     have hst := M6.out.store (rowJ_get Hn.out hlt) HH0.out hg7 hO7 hf7 (Nat.le_refl _)
     rw [← take_next HZ.out, rowJ_set] at hst
     obtain ⟨A7, c7, rfl, -⟩ := hO7.form
     have e7 : (xs.take j ++ [(k1, k2)]).length = j + 1 := by rw [List.length_append, List.length_take, HL.out, Nat.min_eq_left (by omega)]; rfl
     rw [e7] at hst ⊢
     (try simp only [Act.put, List.setIfInBounds_toArray, List.set_cons_zero, List.set_cons_succ])
     refine planC_quiet rfl (by rfl) (v := ?_) ?_ ?_; rotate_left; (intro w1 hSw; have h0c := hSw; go_simp; try (with_reducible rfl)); (try simp only [Act.put, List.setIfInBounds_toArray, List.set_cons_zero, List.set_cons_succ])
     refine planC_lastSkip rfl (by rfl) (w' := w7.setCell ⟨w.heap.size + 1, i, none⟩ (.slice A7 (j + 1) c7)) (by go_simp) ?_
     (try simp only [Act.put, List.setIfInBounds_toArray, List.set_cons_zero, List.set_cons_succ])
     have hgs := hg7.size
     obtain ⟨w8, hw8⟩ : ∃ x, w7.setCell ⟨w.heap.size + 1, i, none⟩ (.slice A7 (j + 1) c7) = x := ⟨_, rfl⟩
     rw [hw8] at hst ⊢
     have c8 : Chg (w.heap.size + 1) w6.heap.size w6 w8 := by rw [← hw8]; exact (Chg.of_grown hg7 (fun g hg => ⟨(M6.out.blocks i _ g HH0.out hg).1, (M6.out.blocks i _ g HH0.out hg).2⟩)).trans ((chg_one _ _ _ _).wide (Nat.le_refl _) (by omega))
     have b8 := c8.below (by omega)
     have T8 : Hid (Chg B hi w w8) := T6.out.upon c8 (by omega)
     have R8 : Hid (Blk w8 w.heap.size #[cv, .slice (some ⟨B, 0, none⟩) n n] 113) := (b8.block w.heap.size (by omega)).trans R6.out
     have H8 : Hid (ChM w8 B hi (.slice (some ⟨B, 0, none⟩) n n) hs (drnJ ms i (j + 1) xs)) := H6.out.keep fun b _ h2 => b8.block b (by omega)
     have hz8 := c8.size
     have Z8 : Hid (w.heap.size + 1 < w8.heap.size) := by show _ < _; omega
     have M8 := Lib.hid hst
     have hj1 : j + 1 ≤ l := by omega
     clear hst hg7 hf7 hO7 hk7 d7 f7 d6 HO6 M6 R6 T6 H6 c6 b6 c8 b8 hw8 hw6 hcg hd5 hz6 hch hne hdr T5 Z5 R5 M5 H5 d1 f1 HH0 HO0 hgs hz8
     go_wp2
     exact ⟨⟨j + 1, _, hj1, rfl, T8, Z8, R8, M8, H8⟩, by simp [intOf]; omega⟩
    ·have hje : j = l := by omega
     subst hje
     have hjf : decide ((j : Int) < (j : Int)) = false := by simp
     have H6 : Hid (ChM w5 B hi (.slice (some ⟨B, 0, none⟩) n n) hs (drn ms (i + 1))) := by show ChM _ _ _ _ _ _; rw [← drnJ_all HX.out HL.out]; exact H5.out
     have M6 : Hid (OwnMag w5 (w.heap.size + 1) w5.heap.size (.slice (some ⟨w.heap.size + 1, 0, none⟩) n n) hs5 (halfMM ms n (i + 1))) := by show OwnMag _ _ _ _ _ _; rw [← rowJ_all Hn.out HX.out HL.out]; exact M5.out
     go_wp2
     exact ⟨⟨i + 1, hs5, by omega, rfl, T5, Z5, R5, M6, H6⟩, by simp [intOf]; omega⟩
  ·have hie : i = n := by omega
   subst hie
   have hnf : decide ((i : Int) < (i : Int)) = false := by simp
   go_wp2
   have hM := M3.out
   rw [halfMM_full Hn.out] at hM
   go_ret
   exact ⟨_, hs2, rfl, hM.base (by omega), T3.out⟩
end Go.Proofs.YtimhnkpccbcohaaGreatDoor
