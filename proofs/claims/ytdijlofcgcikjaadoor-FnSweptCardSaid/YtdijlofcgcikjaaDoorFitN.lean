/-
  CountFitting by contract, model and program. Conditions: lengths of at most 2^20, which are at most the capacity.
-/
import Derived.Test.YtdijlofcgcikjaaDoorSpecW
import Derived.Test.YtdijlofcgcikjaaDoorConcat
import Derived.Deep.RegionWith
namespace Go.Proofs.YtdijlofcgcikjaaDoor
open Go.RowKit
set_option linter.unusedVariables false

/-- appending a list to a row of the call's own, as a step of a region that draws -/
theorem step_app_any {ops : Array Oper} {o : Oper} {a : Act} {w : World} {K : Act → World → Prop} {Q : Exit → Act → World → Prop} {E : Prop} (hw : Region.wanted o (yielded ops a.tmps) = true) (s x : Operand)
    (ho : o.op = .call { callee := .builtin .append, args := #[s, x], argTypes := #[23, 23] })
    (B : Nat) (v : Value) (zs ys : List Int) (A : Option Addr) (m c : Nat) (hs : a.eval s = v) (hx : a.eval x = .slice A m c) (hm : ys.length = m) (hI : Ints w A ys) (hown : Own w B v zs) (hB : B ≤ w.heap.size) (hlen : zs.length + m ≤ 2097152)
    (hK : ∀ v' w', Own w' B v' (zs ++ ys) → w.grownBy w' v.ownBlock → K (a.put o.dst v') w') :
    if Region.wanted o (yielded ops a.tmps) = true then Oper.wp Tryd.prog o a w K Q else E := by
  rw [if_pos hw]
  obtain ⟨i0, hi, hz0, hz1, hz2⟩ := info_parts intInfo
  rcases Nat.eq_zero_or_pos m with h0 | hpos
  · subst h0
    have hy : ys = [] := List.eq_nil_of_length_eq_zero hm
    subst hy
    cases A with
    | none =>
      have hrun := run_append_none_int (w := w) B o.type v zs c hown
      unfold Oper.wp execOp
      simp only [ho, resolve, invoke, builtin, Sem.run_bind, Sem.run_pure, Result.andThen_ok, List.map_toArray, List.map_cons, List.map_nil, hs, hx, hrun]
      exact hK v w (by rw [List.append_nil]; exact hown) (World.grownBy.refl w _)
    | some ad =>
      refine wp_append_own w s x 23 ho B 3 i0 (.int .i64 0) 1 8 Tryd.underlying23 hi hz0 hz1 hz2 rfl (by decide) v zs.length (zs.map (Value.int .i64)) hs hown ad 0 c [] hx rfl (fun j u hj => by simp at hj) (fun u hu => by simp at hu) (by unfold maxLen; omega) (by omega) hB ?_
      intro v' w' h1 h2 _
      refine hK v' w' ?_ h2
      unfold Own
      rw [List.append_nil]
      simpa using h1
  · obtain ⟨ad, rfl, hc⟩ := hI (by omega)
    refine wp_append_own w s x 23 ho B 3 i0 (.int .i64 0) 1 8 Tryd.underlying23 hi hz0 hz1 hz2 rfl (by decide) v zs.length (zs.map (Value.int .i64)) hs hown ad m c (ys.map (Value.int .i64)) hx (by simp [hm]) ?_ ?_ (by unfold maxLen; omega) (by omega) hB ?_
    · intro j u hj
      rw [List.getElem?_map] at hj
      cases hy : ys[j]? with
      | none => rw [hy] at hj; cases hj
      | some y =>
        rw [hy] at hj
        simp at hj; subst hj
        rw [hc j (lt_at hy), getD_at hy]
    · intro u hu
      obtain ⟨y, _, rfl⟩ := List.mem_map.1 hu
      rfl
    · intro v' w' h1 h2 _
      refine hK v' w' ?_ h2
      unfold Own
      rw [List.map_append, List.length_append, hm]
      exact h1

/-- how many items of more fit -/
def cntF (m : Msr) (zs ys : List Int) : Nat := (List.range ys.length).findIdx (fun k => !fitsB m (zs ++ ys.take (k + 1)))
def cfB (m : Msr) (zs ys : List Int) : Bool := goodB m zs && lineB ys
def cfI (m : Msr) (zs ys : List Int) : Int := if cfB m zs ys then cntF m zs ys else -1
theorem range_at {n k : Nat} (h : k < n) : (List.range n)[k]? = some k := by rw [List.getElem?_range h]
theorem cntF_stop {m : Msr} {zs ys : List Int} {k : Nat} (hk : k < ys.length) (hno : fitsB m (zs ++ ys.take (k + 1)) = false) (hall : ∀ i, i < k → fitsB m (zs ++ ys.take (i + 1)) = true) : cntF m zs ys = k := by
  unfold cntF
  have hk' : k < (List.range ys.length).length := by simpa using hk
  rw [List.findIdx_eq hk']
  refine ⟨by simp [hno], fun j hj => by simp [hall j hj]⟩
theorem cntF_all {m : Msr} {zs ys : List Int} (hall : ∀ i, i < ys.length → fitsB m (zs ++ ys.take (i + 1)) = true) : cntF m zs ys = ys.length := by
  unfold cntF
  have : (List.range ys.length).findIdx (fun k => !fitsB m (zs ++ ys.take (k + 1))) = (List.range ys.length).length := by
    rw [List.findIdx_eq_length]
    intro x hx
    simp [hall x (List.mem_range.1 hx)]
  rw [this, List.length_range]
theorem ints_pre {w : World} {A : Option Addr} {zs : List Int} {k : Nat} (h : Ints w A zs) : Ints w A (zs.take k) := fun hn => by
  rw [List.length_take] at hn
  obtain ⟨ad, e, hc⟩ := h (by omega)
  refine ⟨ad, e, fun j hj => ?_⟩
  rw [List.length_take] at hj
  rw [hc j (by omega)]
  simp only [List.getD, List.getElem?_take]
  rw [if_pos (by omega)]
theorem intsB_pre {w : World} {b : Nat} {A : Option Addr} {zs : List Int} {k : Nat} (h : IntsB w b A zs) : IntsB w b A (zs.take k) := fun hn => by
  rw [List.length_take] at hn
  obtain ⟨ad, e, hl, hc⟩ := h (by omega)
  refine ⟨ad, e, hl, fun j hj => ?_⟩
  rw [List.length_take] at hj
  rw [hc j (by omega)]
  simp only [List.getD, List.getElem?_take]
  rw [if_pos (by omega)]

theorem parts2 (w : World) (A1 : Option Addr) (n1 c1 : Nat) (zs1 : List Int) (A2 : Option Addr) (n2 c2 : Nat) (zs2 : List Int) (T : TypeId) (h1 : zs1.length = n1) (h2 : zs2.length = n2) (i1 : IntsB w w.heap.size A1 zs1) (i2 : IntsB w w.heap.size A2 zs2) :
    PartsAt (w.alloc (.cells #[.slice A1 n1 c1, .slice A2 n2 c2] T)) ⟨w.heap.size, 0, none⟩ (w.heap.size + 1) [⟨A1, n1, c1, zs1⟩, ⟨A2, n2, c2, zs2⟩] := by
  have hb := below_new w (.cells #[.slice A1 n1 c1, .slice A2 n2 c2] T)
  refine ⟨Nat.lt_succ_self _, fun j p hp => ?_⟩
  have wide : ∀ {A : Option Addr} {zs : List Int}, IntsB w w.heap.size A zs → IntsB (w.alloc (.cells #[.slice A1 n1 c1, .slice A2 n2 c2] T)) (w.heap.size + 1) A zs := fun h hn => by
    obtain ⟨ad, e, hl, hc⟩ := (h.keep (Nat.le_refl _) hb) hn
    exact ⟨ad, e, by omega, hc⟩
  match j, hp with
  | 0, hp =>
    simp at hp; subst hp
    exact ⟨by rw [add_zero_at, World.cell?_alloc_at _ _ _ _ rfl]; rfl, h1, wide i1⟩
  | 1, hp =>
    simp at hp; subst hp
    exact ⟨by rw [add_zero_at, World.cell?_alloc_at _ _ _ _ rfl]; rfl, h2, wide i2⟩

end Go.Proofs.YtdijlofcgcikjaaDoor
