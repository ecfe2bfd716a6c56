/-
 Contracts and plain mathematics (SetQ, EngTU), each with its conditions in its own statement.
-/
import Derived.Test.YtimhnkpccbcohaaGreatDoorZReadMG
import Derived.Test.YtimhnkpccbcohaaGreatDoorZCastQ
import Derived.Test.YtimhnkpccbcohaaGreatDoorZDropM
import Derived.Test.YtimhnkpccbcohaaGreatDoorZPushTG
import Derived.Test.YtimhnkpccbcohaaGreatDoorZAsG
import Derived.Test.YtimhnkpccbcohaaGreatDoorZEngCG
namespace Go.Proofs.YtimhnkpccbcohaaGreatDoor
open Go.RowKit Go.Conc
set_option linter.unusedVariables false
set_option linter.unusedSimpArgs false

/-- how many bytes are keyed -/
def keyJ (X : Mch) (s : ByteArray) : Nat := ((List.range s.size).find? (fun i => !keyYes (keyN X s i) (byt s i))).getD s.size
theorem keyJ_end (X : Mch) (s : ByteArray) : KeyEnd X s (keyJ X s) := by
 unfold keyJ
 cases hf : (List.range s.size).find? (fun i => !keyYes (keyN X s i) (byt s i)) with
 | none =>
  rw [List.find?_eq_none] at hf
  exact ⟨⟨Nat.le_refl _, fun i hi => by simpa using hf i (List.mem_range.2 hi)⟩, .inl rfl⟩
 | some j =>
  rw [List.find?_range_eq_some] at hf
  obtain ⟨h1, h2, h3⟩ := hf
  exact ⟨⟨Nat.le_of_lt (List.mem_range.1 h2), fun i hi => by simpa using h3 i hi⟩, .inr (by simpa using h1)⟩
def keyRX (X : Mch) (s : ByteArray) : Mch := if machB X then keyN X s (keyJ X s) else zeroX
def keyRN (X : Mch) (s : ByteArray) : Int := if machB X then (keyJ X s : Int) else -1
theorem keyRes_eq {X Y : Mch} {s : ByteArray} {n : Int} (h : KeyRes X s n Y) : n = keyRN X s ∧ Y = keyRX X s := by
 unfold keyRN keyRX
 rcases h with ⟨h0, h1, h2⟩ | ⟨h0, j, h1, h2, h3⟩
 ·rw [h0]; exact ⟨h1, h2⟩
 ·rw [h0, if_pos rfl, if_pos rfl, ← (h1.unique (keyJ_end X s))]
  exact ⟨h2, h3⟩
theorem keyJ_le (X : Mch) (s : ByteArray) : keyJ X s ≤ s.size := (keyJ_end X s).1.1
theorem keyRX_mach {X : Mch} (s : ByteArray) (h : machB X = true) : machB (keyRX X s) = true := by
 unfold keyRX; rw [if_pos h]; exact keyN_mach h _ (keyJ_end X s).1
theorem keyRX_wf {X : Mch} (s : ByteArray) (h : machB X = true) (wf : WfX X) : WfX (keyRX X s) := by
 unfold keyRX; rw [if_pos h]; exact keyN_wf wf _
theorem clearX_wf {X : Mch} (wf : WfX X) : WfX (clearX X) := by
 refine ⟨wf.ms, fun x hx => (by cases hx), fun x hx => ?_⟩
 rcases List.mem_append.1 hx with h9 | h9
 ·exact wf.wt x h9
 ·exact wf.ln x (List.mem_filter.1 h9).1
theorem dropGo_wf {X : Mch} {j k : Nat} (wf : WfX X) (h : DropAt X.f X.ms X.wt k j) : WfX (dropGo X j) :=
 ⟨h.wf wf.ms wf.wt, wf.ln, fun x hx => wf.wt x (List.mem_of_mem_drop hx)⟩
theorem dropGo_mach {X : Mch} {j k : Nat} (hm : machB X = true) (h : DropAt X.f X.ms X.wt k j) : machB (dropGo X j) = true := by
 obtain ⟨hmg, hsp, hwl, hwa, hln, hset, hg⟩ := machB_parts hm
 refine machB_mk (h.mag hmg (fun x hx => List.all_eq_true.1 hwa x hx)) ((inB_iff _ _ _).1 hsp) (by show (X.wt.drop j).length ≤ 240; rw [List.length_drop]; omega) ?_ hln hset hg
 exact List.all_eq_true.2 fun x hx => List.all_eq_true.1 hwa x (List.mem_of_mem_drop hx)
/-- a line that is set: the machine then, and what was cast -/
def setOk (X : Mch) (s : ByteArray) : Bool := !decide (keyRN X s < s.size) && castOk (keyRX X s) true
def setY (X : Mch) (s : ByteArray) : Mch := dropXX (castX (keyRX X s) true) 240
def setT (X : Mch) (s : ByteArray) : ByteArray := castT (keyRX X s) true
theorem setOk_key {X : Mch} {s : ByteArray} (h : setOk X s = true) (hm : machB X = true) : keyJ X s = s.size ∧ castOk (keyRX X s) true = true := by
 unfold setOk at h
 rw [Bool.and_eq_true, Bool.not_eq_true', decide_eq_false_iff_not] at h
 unfold keyRN at h
 rw [if_pos hm] at h
 have := keyJ_le X s
 exact ⟨by have := h.1; omega, h.2⟩
theorem setOk_mach {X : Mch} {s : ByteArray} (h : setOk X s = true) : machB X = true := by
 cases hm : machB X with
 | true => rfl
 | false =>
  unfold setOk keyRN at h
  rw [hm] at h
  simp at h
  omega
theorem setY_eq {X : Mch} {s : ByteArray} (h : setOk X s = true) : castX (keyRX X s) true = clearX (keyRX X s) ∧ setY X s = dropGo (clearX (keyRX X s)) (dropN (clearX (keyRX X s)) 240) ∧ machB (clearX (keyRX X s)) = true := by
 have hm := setOk_mach h
 obtain ⟨h1, h2⟩ := setOk_key h hm
 obtain ⟨z1, -, -⟩ := cast_on h2
 have h3 : machB (clearX (keyRX X s)) = true := by
  rw [clear_mach (keyRX_mach s hm)]
  unfold castOk at h2
  rw [Bool.and_eq_true, Bool.and_eq_true] at h2
  exact h2.2.2
 refine ⟨z1, ?_, h3⟩
 unfold setY
 rw [z1, (dropX_on (by unfold dropXOk; rw [h3]; rfl)).1]
theorem setY_mach {X : Mch} {s : ByteArray} (h : setOk X s = true) : machB (setY X s) = true := by
 obtain ⟨-, h2, h3⟩ := setY_eq h
 rw [h2]; exact dropGo_mach h3 (drop_end _ _)
theorem setY_wf {X : Mch} {s : ByteArray} (h : setOk X s = true) (wf : WfX X) : WfX (setY X s) := by
 obtain ⟨-, h2, h3⟩ := setY_eq h
 rw [h2]; exact dropGo_wf (clearX_wf (keyRX_wf s (setOk_mach h) wf)) (drop_end _ _)
/-- lines that are set: none if one of them cannot be set -/
def setGo : List ByteArray → Mch → Option (Mch × List ByteArray)
 | [], X => some (X, [])
 | s :: ls, X => if setOk X s then (setGo ls (setY X s)).map (fun p => (p.1, setT X s :: p.2)) else none
theorem setGo_cons (s : ByteArray) (ls : List ByteArray) (X : Mch) : setGo (s :: ls) X = if setOk X s then (setGo ls (setY X s)).map (fun p => (p.1, setT X s :: p.2)) else none := rfl
theorem setGo_append : ∀ (a b : List ByteArray) (X : Mch), setGo (a ++ b) X = (setGo a X).bind (fun p => (setGo b p.1).map (fun q => (q.1, p.2 ++ q.2)))
 | [], b, X => by
  show setGo b X = (setGo b X).map (fun q => (q.1, [] ++ q.2))
  cases setGo b X <;> rfl
 | s :: a, b, X => by
  show setGo (s :: (a ++ b)) X = _
  rw [setGo_cons, setGo_cons]
  cases hs : setOk X s with
  | false => rfl
  | true =>
   simp only [if_true]
   rw [setGo_append a b (setY X s)]
   cases setGo a (setY X s) with
   | none => rfl
   | some p =>
    obtain ⟨Z, us⟩ := p
    simp only [Option.bind_some, Option.map_some]
    cases setGo b Z <;> rfl
theorem setGo_mach : ∀ {ls : List ByteArray} {X Y : Mch} {ts : List ByteArray}, machB X = true → WfX X → setGo ls X = some (Y, ts) → machB Y = true ∧ WfX Y ∧ ts.length = ls.length
 | [], X, Y, ts, h, wf, e => by
  injection e with e; injection e with e1 e2; subst e1; subst e2; exact ⟨h, wf, rfl⟩
 | s :: ls, X, Y, ts, h, wf, e => by
  unfold setGo at e
  cases hs : setOk X s with
  | false => rw [hs] at e; cases e
  | true =>
   rw [hs, if_pos rfl] at e
   cases hg : setGo ls (setY X s) with
   | none => rw [hg] at e; cases e
   | some p =>
    obtain ⟨Z, us⟩ := p
    rw [hg] at e
    injection e with e; injection e with e1 e2; subst e1; subst e2
    obtain ⟨h1, h2, h3⟩ := setGo_mach (setY_mach hs) (setY_wf hs wf) hg
    exact ⟨h1, h2, by simp [h3]⟩
/-- one more line -/
theorem setGo_next {ls : List ByteArray} {X Y : Mch} {ts : List ByteArray} {j : Nat} {s : ByteArray} (hs : ls[j]? = some s) (h : setGo (ls.take j) X = some (Y, ts)) :
  (setOk Y s = true → setGo (ls.take (j + 1)) X = some (setY Y s, ts ++ [setT Y s])) ∧ (setOk Y s = false → setGo ls X = none) := by
 have h1 : ls.take (j + 1) = ls.take j ++ [s] := by
  rw [List.take_add_one, hs]; rfl
 refine ⟨fun h2 => ?_, fun h2 => ?_⟩
 ·rw [h1, setGo_append, h]
  show (setGo [s] Y).map _ = _
  rw [setGo_cons, h2]; rfl
 ·have h3 : ls = ls.take (j + 1) ++ ls.drop (j + 1) := (List.take_append_drop _ _).symm
  have h4 : setGo (ls.take (j + 1)) X = none := by
   rw [h1, setGo_append, h]
   show (setGo [s] Y).map _ = _
   rw [setGo_cons, h2]; rfl
  rw [h3, setGo_append, h4]; rfl
/-- the answer of SetLines -/
def setsOk (X : Mch) (ls : List ByteArray) : Bool := machB X && (setGo ls X).isSome
def setsX (X : Mch) (ls : List ByteArray) : Mch := if machB X then ((setGo ls X).map (·.1)).getD zeroX else zeroX
def setsT (X : Mch) (ls : List ByteArray) : List ByteArray := if machB X then ((setGo ls X).map (·.2)).getD [] else []
theorem sets_no {X : Mch} {ls : List ByteArray} (h : machB X = false) : setsOk X ls = false ∧ setsX X ls = zeroX ∧ setsT X ls = [] := by
 unfold setsOk setsX setsT; rw [h]; exact ⟨rfl, rfl, rfl⟩
theorem sets_none {X : Mch} {ls : List ByteArray} (h : setGo ls X = none) : setsOk X ls = false ∧ setsX X ls = zeroX ∧ setsT X ls = [] := by
 unfold setsOk setsX setsT; rw [h]; cases machB X <;> exact ⟨rfl, rfl, rfl⟩
theorem sets_some {X Y : Mch} {ls ts : List ByteArray} (hm : machB X = true) (h : setGo ls X = some (Y, ts)) : setsOk X ls = true ∧ setsX X ls = Y ∧ setsT X ls = ts := by
 unfold setsOk setsX setsT; rw [hm, h]; exact ⟨rfl, rfl, rfl⟩
end Go.Proofs.YtimhnkpccbcohaaGreatDoor

namespace Go.Proofs.YtimhnkpccbcohaaGreatDoor
open Go.RowKit Go.Conc
set_option linter.unusedVariables false
set_option linter.unusedSimpArgs false

theorem OwnT.rise {w : World} {B B' : Nat} {v : Value} {xs : List Mat} (h : OwnT w B v xs) (hB : ∀ k, v.ownBlock = some k → B' ≤ k) : OwnT w B' v xs := by
 rcases h with h | ⟨g, o, cap, pre, rfl, h, ho⟩
 ·exact .inl h
 ·exact .inr ⟨g, o, cap, pre, rfl, h.rise hB, ho⟩
section
variable {w w' : World} {lo E : Nat} {X : Mch} {A : Option Addr} {c : Nat} {A2 : Option Addr} {d : Nat} {M : Option Addr} {q e0 : Nat} {L : Option Addr} {lc : Nat} {T : Option Addr} {tc : Nat} {Bc : Option Addr} {dc B hi : Nat} {hs : List (Option Nat)} {km f0 f1 l0 l1 t0 t1 p0 p1 : Nat}
theorem EngT.noline (h : EngT w lo E X A c A2 d M q e0 L lc T tc Bc dc B hi hs km f0 f1 l0 l1 t0 t1 p0 p1) : EngT (w.setCell ⟨E, 8, none⟩ (.slice none 0 0)) lo E ⟨X.f, X.ms, X.sp, X.w, X.t, X.k, [], X.wt⟩ A c A2 d M q e0 none 0 T tc Bc dc B hi hs km f0 f1 l0 l1 t0 t1 p0 p1 := by
 obtain ⟨e1, e2⟩ := h.at_
 have e3 := h.low; have e4 := h.top; have e5 := h.o3; have e6 := h.o4; have e7 := h.o0
 have fE := h.fE; have lE := h.lE; have tE := h.tE
 unfold Off at fE lE tE
 have hc := chg_one w E 8 (.slice none 0 0)
 have hz : (w.setCell ⟨E, 8, none⟩ (.slice none 0 0)).heap.size = w.heap.size := by simp [World.setCell]
 exact ⟨heapSet (i := 8) h.blk _, h.font.chg hc (by unfold Off; omega), ⟨rfl, .inl ⟨rfl, rfl⟩⟩, fun k hk => (by cases hk), h.wait.chg hc (fun k hk => by have := h.wait.lt k hk; have := h.waitT k hk; omega), h.waitT, h.fl, h.ft, h.lt, h.fE, h.lE, h.tE, h.low, ⟨by omega, by omega, by omega⟩, by rw [hz]; exact h.t0h, h.codes.chgE hc (by omega) (by omega), h.o0, h.made, h.chs.chg (by omega) hc (.inl (by omega)), ownsMapE_chg h.keys hc (by omega), h.o3, h.o4⟩
theorem EngT.waits (h : EngT w lo E X A c A2 d M q e0 L lc T tc Bc dc B hi hs km f0 f1 l0 l1 t0 t1 p0 p1) {T' : Option Addr} {tc' : Nat} {xs : List Mat} (hg : w.grownBy w' (Value.slice T X.wt.length tc).ownBlock) (ho : OwnT w' t0 (.slice T' xs.length tc') xs) (hf : (Value.slice T' xs.length tc').ownBlock = (Value.slice T X.wt.length tc).ownBlock ∨ ∀ k, (Value.slice T' xs.length tc').ownBlock = some k → w.heap.size ≤ k) :
  ∃ t0' t1', ((t0' = t0 ∧ t1' = t1) ∨ w.heap.size ≤ t0') ∧ EngT (w'.setCell ⟨E, 9, none⟩ (.slice T' xs.length tc')) lo E ⟨X.f, X.ms, X.sp, X.w, X.t, X.k, X.ln, xs⟩ A c A2 d M q e0 L lc T' tc' Bc dc B hi hs km f0 f1 l0 l1 t0' t1' p0 p1 := by
 obtain ⟨e1, e2⟩ := h.at_
 have e3 := h.low; have e4 := h.top; have e5 := h.o3; have e6 := h.o4; have e7 := h.o0
 have fE := h.fE; have lE := h.lE; have tE := h.tE; have ft := h.ft; have lt := h.lt
 unfold Off at fE lE tE ft lt
 have hgs := hg.size
 have hc1 : Chg t0 t1 w w' := Chg.of_grown hg (fun g hq => ⟨(h.wait.lt g hq).1, h.waitT g hq⟩)
 have hc2 := chg_one w' E 9 (.slice T' xs.length tc')
 have hz : (w'.setCell ⟨E, 9, none⟩ (.slice T' xs.length tc')).heap.size = w'.heap.size := by simp [World.setCell]
 have hblk : Blk (w'.setCell ⟨E, 9, none⟩ (.slice T' xs.length tc')) E #[.string X.f.s, .slice A X.f.ws.length c, .slice A2 X.f.cs.length d, .slice M q e0, .int .i64 X.sp, .int .i64 X.w, .int .i64 X.t, .int .i64 X.k, .slice L X.ln.length lc, .slice T' xs.length tc', .slice Bc X.f.cs.length dc, .slice (some ⟨B, 0, none⟩) X.ms.length X.ms.length, .map (some km)] 118 := heapSet (i := 9) ((hc1.block E e2 (by omega)).trans h.blk) _
 have hfont := (h.font.chg hc1 (by unfold Off; omega)).chg hc2 (by unfold Off; omega)
 have hline := (h.line.chg hc1 (fun k hk => by have := h.line.lt k hk; have := h.lineT k hk; omega)).chg hc2 (fun k hk => by have := h.line.lt k hk; have := h.lineT k hk; omega)
 have hcod := (h.codes.chgE hc1 (by omega) (by omega)).chgE hc2 (by omega) (by omega)
 have hchs := (h.chs.chg (by omega) hc1 (by omega)).chg (by omega) hc2 (.inl (by omega))
 have hkey := ownsMapE_chg (ownsMapE_chg h.keys hc1 (by omega)) hc2 (by omega)
 have ho2 : OwnT (w'.setCell ⟨E, 9, none⟩ (.slice T' xs.length tc')) t0 (.slice T' xs.length tc') xs := ho.chg hc2 (fun k hk => by
  rcases hf with hf | hf
  ·have h9 := hf ▸ hk; have := (h.wait.lt k h9).1; have := h.waitT k h9; omega
  ·have := hf k hk; omega)
 rcases hf with hf | hf
 ·exact ⟨t0, t1, .inl ⟨rfl, rfl⟩, ⟨hblk, hfont, hline, h.lineT, ho2, fun k hk => h.waitT k (hf ▸ hk), h.fl, h.ft, h.lt, h.fE, h.lE, h.tE, h.low, ⟨by omega, by omega, by omega⟩, by have := h.t0h; omega, hcod, h.o0, h.made, hchs, hkey, h.o3, h.o4⟩⟩
 ·exact ⟨w.heap.size, w'.heap.size, .inr (Nat.le_refl _), ⟨hblk, hfont, hline, h.lineT, ho2.rise hf, fun k hk => by have := (ho.lt k hk).2; omega, h.fl, .inl (by omega), .inl (by omega), h.fE, h.lE, .inr (by omega), ⟨by omega, by omega, by omega, by omega⟩, ⟨by omega, by omega, by omega⟩, by omega, hcod, h.o0, h.made, hchs, hkey, h.o3, h.o4⟩⟩
end
section
variable {ops : Array Oper} {rest : List Oper} {o : Oper} {a : Act} {Q : Exit → Act → World → Prop}
theorem planC_pushT {S : World → Prop} {i : Nat} {p : PlanT} (w : World) (hi : ops.toList[i]? = some o) (hw : Region.wanted o (yielded ops a.tmps) = true) (s x : Operand) (ho : o.op = .call { callee := .builtin .append, args := #[s, x], argTypes := #[35, 35] })
  (B : Nat) (v : Value) (xs : List Mat) (y : Mat) (hs : a.eval s = v) (hx : a.eval x = .slice (some ⟨w.heap.size, 0, none⟩) 1 1) (hown : OwnT w B v xs) (hB : B ≤ w.heap.size) (hlen : xs.length ≤ 1048576)
  (hK : ∀ v' w', OwnT w' B v' (xs ++ [y]) → w.grownBy w' v.ownBlock → (v'.ownBlock = v.ownBlock ∨ ∀ k, v'.ownBlock = some k → w.heap.size ≤ k) → S w' ∧ wpPlanC Tryz.prog ops Q S p (a.put o.dst v') w') :
  wpPlanC Tryz.prog ops Q S (.one i p) a (w.alloc (.cells #[.int .i64 y.1, .int .i64 y.2] 64)) := by
 obtain ⟨v', w', hr, h1, -, h2, h3⟩ := run_pushT w s x ho B v xs y hs hx hown hB hlen
 exact planC_value hi hw hr (hK v' w' h1 h2 h3).1 (hK v' w' h1 h2 h3).2
end
theorem EngT.engx {w : World} {lo E : Nat} {X : Mch} {A : Option Addr} {c : Nat} {A2 : Option Addr} {d : Nat} {M : Option Addr} {q e0 : Nat} {L : Option Addr} {lc : Nat} {T : Option Addr} {tc : Nat} {Bc : Option Addr} {dc B hi : Nat} {hs : List (Option Nat)} {km f0 f1 l0 l1 t0 t1 p0 p1 : Nat} (h : EngT w lo E X A c A2 d M q e0 L lc T tc Bc dc B hi hs km f0 f1 l0 l1 t0 t1 p0 p1) : EngX w lo E X := ⟨A, c, A2, d, M, q, e0, L, lc, T, tc, Bc, dc, B, hi, hs, km, f0, f1, l0, l1, t0, t1, p0, p1, h⟩
theorem EngX.below {w w' : World} {lo E : Nat} {X : Mch} (h : EngX w lo E X) (hb : Below w.heap.size w w') : EngX w' lo E X := by
 obtain ⟨A, c, A2, d, M, q, e0, L, lc, T, tc, Bc, dc, B, hi, hs, km, f0, f1, l0, l1, t0, t1, p0, p1, hP⟩ := h
 exact ⟨A, c, A2, d, M, q, e0, L, lc, T, tc, Bc, dc, B, hi, hs, km, f0, f1, l0, l1, t0, t1, p0, p1, hP.below hb⟩
end Go.Proofs.YtimhnkpccbcohaaGreatDoor
