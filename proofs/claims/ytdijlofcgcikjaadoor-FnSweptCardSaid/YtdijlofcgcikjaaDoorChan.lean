/-
  Communications of one goroutine as steps of a region: a send with room, a receive that finds something, a select of one case with a default. Plain rules for every program, no condition but those in each premise.
-/
import Derived.Test.YtdijlofcgcikjaaDoorRows
import Derived.Conc.LoneSelect
import Derived.Conc.LoneSelectN
import Derived.WalkKit
namespace Go.Proofs.YtdijlofcgcikjaaDoor
open Go.RowKit Go.Conc

/-- The rest l of a region leads to Q. -/
def RegTo (P : Program) (ops : Array Oper) (Q : Exit → Act → World → Prop) (l : List Nat) (a : Act) (w : World) : Prop :=
  ∀ (b : Frame) (k : List Item) (cs : List Frame), ∃ e a' w', Q e a' w' ∧ Arrives P (lone (b.at a (.inRegion ops l :: k)) cs w) b k cs e a' w'

section
variable {P : Program} {ops : Array Oper} {Q : Exit → Act → World → Prop} {a : Act} {w : World} {i : Nat} {rest : List Nat} {o : Oper}

theorem RegTo.region {id : Nat} (h : RegTo P ops Q (List.range ops.size) a w) : (Code.region id ops false).wp P Q a w :=
  fun b k cs => let ⟨e, a', w', q, r⟩ := h b k cs; ⟨e, a', w', q, .of_steps (.one step_region) r⟩
theorem RegTo.draw {id : Nat} (h : ∀ t, RegTo P ops Q (Region.schedule (P.follows .mixedOrders) ops t) a { w with drawn := w.drawn + 1 }) : (Code.region id ops true).wp P Q a w :=
  fun b k cs => let ⟨e, a', w', q, r⟩ := h _ b k cs; ⟨e, a', w', q, .of_steps (.one step_region_draw) r⟩
theorem RegTo.nil (h : Q .normal a w) : RegTo P ops Q [] a w := fun _ _ _ => ⟨.normal, a, w, h, .one step_region_end⟩
theorem RegTo.of_wp {l : List Nat} (h : wpOps P ops Q l a w) : RegTo P ops Q l a w := wp_ops l a w h

theorem RegTo.value {v : Value} {w' : World} (ho : ops[i]? = some o) (hw : Region.wanted o (yielded ops a.tmps) = true) (hr : (execOp a.eval o).run P w = .ok (.value v) w')
    (h : RegTo P ops Q rest (a.put o.dst v) w') : RegTo P ops Q (i :: rest) a w := fun b k cs => by
  obtain ⟨e, a', w'', hq, harr⟩ := h b k cs
  refine ⟨e, a', w'', hq, .of_steps (.one (step_lone_go ?_)) harr⟩
  have hfin : (b.at a (.inRegion ops (i :: rest) :: k)).finish v = b.at (a.put o.dst v) (.inRegion ops rest :: k) := by
    rw [Frame.finish_at, ho]; rfl
  rw [stepG_op ho hw, ← hfin]
  simp [stepG.apply, hr]
theorem RegTo.skip {w' : World} (ho : ops[i]? = some o) (hw : Region.wanted o (yielded ops a.tmps) = true) (hr : (execOp a.eval o).run P w = .ok .skip w')
    (h : RegTo P ops Q rest (a.put o.dst undef) w') : RegTo P ops Q (i :: rest) a w := fun b k cs => by
  obtain ⟨e, a', w'', hq, harr⟩ := h b k cs
  refine ⟨e, a', w'', hq, .of_steps (.one (step_lone_go ?_)) harr⟩
  have hfin : (b.at a (.inRegion ops (i :: rest) :: k)).finish undef = b.at (a.put o.dst undef) (.inRegion ops rest :: k) := by
    rw [Frame.finish_at, ho]; rfl
  rw [stepG_op ho hw, ← hfin]
  simp [stepG.apply, hr]

/-- the machine is at a communication -/
theorem at_comm {b : Frame} {k : List Item} {cs : List Frame} {cases : Array CommCase} {blocking : Bool} {shape : CommShape} {w' : World} (ho : ops[i]? = some o) (hw : Region.wanted o (yielded ops a.tmps) = true)
    (hr : (execOp a.eval o).run P w = .ok (.comm cases blocking shape) w') :
    ∃ es, stepG P true (G (b.at a (.inRegion ops (i :: rest) :: k)) cs) w = .comm (G (b.at a (.inRegion ops (i :: rest) :: k)) cs) cases blocking shape w' es := by
  have hg := stepG_op (P := P) (b := b) (k := k) (cs := cs) (w := w) (rest := rest) ho hw
  unfold G
  rw [hg]
  simp [stepG.apply, hr, GStep.after]

variable {c cap s r : Nat} {buf : Array Value} {z v : Value} {tm closed : Bool}
theorem RegTo.send (ho : ops[i]? = some o) (hw : Region.wanted o (yielded ops a.tmps) = true) (hr : (execOp a.eval o).run P w = .ok (.comm #[scase c v z] true .send) w)
    (hc : w.heap[c]? = some (.chan cap buf false s r tm)) (hroom : buf.size < cap)
    (h : RegTo P ops Q rest (a.put o.dst undef) (w.setChan c cap (buf.push v) false (s + 1) r tm)) : RegTo P ops Q (i :: rest) a w := fun b k cs => by
  obtain ⟨e, a', w'', hq, harr⟩ := h b k cs
  obtain ⟨es, hs⟩ := at_comm (P := P) (b := b) (k := k) (cs := cs) (rest := rest) ho hw hr
  have := step_lone_send_room hs hc hroom
  rw [Frame.finish_at, ho] at this
  exact ⟨e, a', w'', hq, .of_steps (.one this) harr⟩
theorem RegTo.recv (ho : ops[i]? = some o) (hw : Region.wanted o (yielded ops a.tmps) = true) (hr : (execOp a.eval o).run P w = .ok (.comm #[rcase c z] true (.recv false)) w)
    (hc : w.heap[c]? = some (.chan cap buf closed s r tm)) (hsome : 0 < buf.size)
    (h : RegTo P ops Q rest (a.put o.dst (buf.getD 0 undef)) (w.setChan c cap (buf.extract 1 buf.size) closed s (r + 1) tm)) : RegTo P ops Q (i :: rest) a w := fun b k cs => by
  obtain ⟨e, a', w'', hq, harr⟩ := h b k cs
  obtain ⟨es, hs⟩ := at_comm (P := P) (b := b) (k := k) (cs := cs) (rest := rest) ho hw hr
  have := step_lone_recv_buf false hs hc hsome
  rw [Frame.finish_at, ho] at this
  exact ⟨e, a', w'', hq, .of_steps (.one this) harr⟩
/-- a select of one receive with a default: something is there -/
theorem RegTo.sel_recv (ho : ops[i]? = some o) (hw : Region.wanted o (yielded ops a.tmps) = true) (hr : (execOp a.eval o).run P w = .ok (.comm #[rcase c z] false .select) w)
    (hc : w.heap[c]? = some (.chan cap buf closed s r tm)) (hsome : 0 < buf.size)
    (h : RegTo P ops Q rest (a.put o.dst (.tuple #[goInt 0, .bool true, buf.getD 0 undef])) (w.setChan c cap (buf.extract 1 buf.size) closed s (r + 1) tm)) : RegTo P ops Q (i :: rest) a w := fun b k cs => by
  obtain ⟨e, a', w'', hq, harr⟩ := h b k cs
  obtain ⟨es, hs⟩ := at_comm (P := P) (b := b) (k := k) (cs := cs) (rest := rest) ho hw hr
  have := step_lone_select_recv_buf hs hc hsome
  rw [Frame.finish_at, ho] at this
  exact ⟨e, a', w'', hq, .of_steps (.one this) harr⟩
/-- .. nothing is there -/
theorem RegTo.sel_none (ho : ops[i]? = some o) (hw : Region.wanted o (yielded ops a.tmps) = true) (hr : (execOp a.eval o).run P w = .ok (.comm #[rcase c z] false .select) w)
    (hc : w.heap[c]? = some (.chan cap #[] false s r tm))
    (h : RegTo P ops Q rest (a.put o.dst (.tuple #[goInt (-1), .bool false, z])) w) : RegTo P ops Q (i :: rest) a w := fun b k cs => by
  obtain ⟨e, a', w'', hq, harr⟩ := h b k cs
  obtain ⟨es, hs⟩ := at_comm (P := P) (b := b) (k := k) (cs := cs) (rest := rest) ho hw hr
  have := step_lone_select_default hs hc
  rw [Frame.finish_at, ho] at this
  exact ⟨e, a', w'', hq, .of_steps (.one this) harr⟩
/-- a select of one send with a default: there is room -/
theorem RegTo.sel_send (ho : ops[i]? = some o) (hw : Region.wanted o (yielded ops a.tmps) = true) (hr : (execOp a.eval o).run P w = .ok (.comm #[scase c v z] false .select) w)
    (hc : w.heap[c]? = some (.chan cap buf false s r tm)) (hroom : buf.size < cap)
    (h : RegTo P ops Q rest (a.put o.dst (.tuple #[goInt 0, .bool false])) (w.setChan c cap (buf.push v) false (s + 1) r tm)) : RegTo P ops Q (i :: rest) a w := fun b k cs => by
  obtain ⟨e, a', w'', hq, harr⟩ := h b k cs
  obtain ⟨es, hs⟩ := at_comm (P := P) (b := b) (k := k) (cs := cs) (rest := rest) ho hw hr
  have := step_lone_select_send_room hs hc hroom
  rw [Frame.finish_at, ho] at this
  exact ⟨e, a', w'', hq, .of_steps (.one this) harr⟩
/-- .. there is none -/
theorem RegTo.sel_full (ho : ops[i]? = some o) (hw : Region.wanted o (yielded ops a.tmps) = true) (hr : (execOp a.eval o).run P w = .ok (.comm #[scase c v z] false .select) w)
    (hc : w.heap[c]? = some (.chan cap buf false s r tm)) (hfull : cap ≤ buf.size)
    (h : RegTo P ops Q rest (a.put o.dst (.tuple #[goInt (-1), .bool false])) w) : RegTo P ops Q (i :: rest) a w := fun b k cs => by
  obtain ⟨e, a', w'', hq, harr⟩ := h b k cs
  obtain ⟨es, hs⟩ := at_comm (P := P) (b := b) (k := k) (cs := cs) (rest := rest) ho hw hr
  have := step_lone_select_send_full hs hc hfull
  rw [Frame.finish_at, ho] at this
  exact ⟨e, a', w'', hq, .of_steps (.one this) harr⟩
end
end Go.Proofs.YtdijlofcgcikjaaDoor
