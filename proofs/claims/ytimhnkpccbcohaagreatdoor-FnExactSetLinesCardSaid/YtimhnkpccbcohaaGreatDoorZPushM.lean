/-
 append(row, Matrix{..}) at a row of the call's own, and the row as it was; the engine's line grown and stored. Lengths of at most 2^20.
-/
import Derived.Test.YtimhnkpccbcohaaGreatDoorZPushTG
namespace Go.Proofs.YtimhnkpccbcohaaGreatDoor
open Go.RowKit Go.Conc
set_option linter.unusedVariables false
set_option linter.unusedSimpArgs false

set_option maxHeartbeats 1600000 in
theorem run_pushM {o : Oper} {a : Act} (w : World) (s x : Operand) (ho : o.op = .call { callee := .builtin .append, args := #[s, x], argTypes := #[35, 35] })
  (B : Nat) (v : Value) (xs : List Mat) (y : Mat) (hs : a.eval s = v) (hx : a.eval x = .slice (some ⟨w.heap.size, 0, none⟩) 1 1) (hown : OwnM w B v xs) (hB : B ≤ w.heap.size) (hlen : xs.length ≤ 1048576) :
  ∃ v' w', (execOp a.eval o).run Tryz.prog (w.alloc (.cells #[.int .i64 y.1, .int .i64 y.2] 64)) = .ok (.value v') w' ∧ OwnM w' B v' (xs ++ [y]) ∧ OwnM w' B v xs ∧ w.grownBy w' v.ownBlock ∧ (v'.ownBlock = v.ownBlock ∨ ∀ k, v'.ownBlock = some k → w.heap.size ≤ k) := by
 obtain ⟨i0, hi, hz0, hz1, hz2⟩ := info_parts matInfo
 rcases hown.2 with ⟨rfl, hn⟩ | ⟨g, cap, cur9, rfl, -⟩
 ·obtain rfl := List.eq_nil_of_length_eq_zero hn
  obtain ⟨v', w', h1, h2, h3, h4⟩ := run_push_one w s x ho B (.slice none 0 0) [] y hs hx ⟨rfl, .inl ⟨rfl, rfl⟩⟩ hB (by simp)
  exact ⟨v', w', h1, h2, ⟨rfl, .inl ⟨rfl, rfl⟩⟩, h3, h4⟩
 ·obtain ⟨pre, hpre⟩ : ∃ pre : List Mat, pre = [] := ⟨_, rfl⟩
  obtain ⟨o9, ho90⟩ : ∃ o9 : Nat, o9 = 0 := ⟨_, rfl⟩
  have ho9 : 0 < cap → o9 = pre.length * 2 := fun _ => by rw [hpre, ho90]; rfl
  have h : OwnM w B (.slice (some ⟨g, 0, none⟩) (pre ++ xs).length (pre.length + cap)) (pre ++ xs) := by rw [hpre]; simpa using hown
  rw [show (⟨g, 0, none⟩ : Addr) = ⟨g, o9, none⟩ from by rw [ho90]] at hs ⊢
  obtain ⟨wA, hwA⟩ : ∃ z, w.alloc (.cells #[.int .i64 y.1, .int .i64 y.2] 64) = z := ⟨_, rfl⟩
  have hbA : Below w.heap.size w wA := by rw [← hwA]; exact below_new _ _
  have hzA : wA.heap.size = w.heap.size + 1 := by rw [← hwA]; simp
  have hO : OwnM wA B (.slice (some ⟨g, 0, none⟩) (pre ++ xs).length (pre.length + cap)) (pre ++ xs) := h.below hbA
  have hgA : w.grownBy wA (some g) := by rw [← hwA]; exact World.grownBy_alloc _ _ _
  have hnews : ∀ j u, [Value.int .i64 y.1, .int .i64 y.2][j]? = some u → wA.cell? ((⟨w.heap.size, 0, none⟩ : Addr).add j) = some u := by
   intro j u hj
   rw [← hwA]
   match j, hj with
   | 0, hj =>
    simp at hj; subst hj
    rw [add_zero_at, World.cell?_alloc_at _ _ _ _ rfl]
    rfl
   | 1, hj =>
    simp at hj; subst hj
    rw [addr_next, add_zero_at, World.cell?_alloc_at _ _ _ _ rfl]
    rfl
  have hone : ∀ u ∈ [Value.int .i64 y.1, .int .i64 y.2], u.oneCell' = true := by
   intro u hu
   simp at hu
   rcases hu with rfl | rfl <;> rfl
  have hg := h.lt g rfl
  obtain ⟨N, hN⟩ : ∃ N, (pre ++ xs).length = N := ⟨_, rfl⟩
  have hNn : pre.length + xs.length = N := by rw [← hN, List.length_append]
  obtain ⟨p, hp⟩ : ∃ p, pre.length = p := ⟨_, rfl⟩
  rw [hwA]
  by_cases hr : xs.length + 1 ≤ cap
  ·have ho9' := ho9 (by omega)
   rcases hO.2 with ⟨e, -⟩ | ⟨g', C, cur, e, c1, c2, c3, c4, c5, c6⟩
   ·cases e
   ·injection e with e1 e2 e3
    injection e1 with e1
    injection e1 with e1
    subst e1; subst e3
    rw [hN] at c6 c3
    have hLl : (cur.toList.take ((N + 1) * 2)).length = (N + 1) * 2 := by rw [List.length_take, Array.length_toList]; omega
    have hLong : wA.ownsRow B 64 2 (.slice (some ⟨g, 0, none⟩) (N + 1) (pre.length + cap)) (N + 1) (cur.toList.take ((N + 1) * 2)) :=
     ⟨hLl, .inr ⟨g, pre.length + cap, cur, rfl, c1, c2, by omega, c4, c5, rfl⟩⟩
    have s1 := hLong.stored (N * 2) (.int .i64 y.1)
    have s2 := s1.1.stored (N * 2 + 1) (.int .i64 y.2)
    have hlast : ((cur.toList.take ((N + 1) * 2)).set (N * 2) (.int .i64 y.1)).set (N * 2 + 1) (.int .i64 y.2) = mcells ((pre ++ xs) ++ [y]) := by
     rw [← hN]
     refine mcells_last (by rw [hN]; exact hLl) ?_
     rw [List.take_take, Nat.min_eq_left (by omega), hN]; exact c6
    have hrun := run_append_room_cells (P := Tryz.prog) wA 35 o.type 64 i0 Tryz.underlying35 hi g o9 xs.length cap ⟨w.heap.size, 0, none⟩ 1 1 [.int .i64 y.1, .int .i64 y.2] (by rw [hz1]; rfl) hnews hone hr (fun j hj => by
      rw [hz1, hLong.cellAt (o9 + xs.length * 2 + j) (by simp at hj; omega), List.getElem?_eq_getElem (by rw [hLl]; simp at hj; omega)]; rfl) (fun j hj => hLong.frozenAt _)
    rw [hz1] at hrun
    have he : wA.setCells g (o9 + xs.length * 2) [.int .i64 y.1, .int .i64 y.2] = (wA.setCell ⟨g, N * 2, none⟩ (.int .i64 y.1)).setCell ⟨g, N * 2 + 1, none⟩ (.int .i64 y.2) := by
     have h9 : o9 + xs.length * 2 = N * 2 := by omega
     rw [h9]; rfl
    rw [he] at hrun
    have hnew : OwnM ((wA.setCell ⟨g, N * 2, none⟩ (.int .i64 y.1)).setCell ⟨g, N * 2 + 1, none⟩ (.int .i64 y.2)) B (.slice (some ⟨g, 0, none⟩) ((pre ++ xs) ++ [y]).length (pre.length + cap)) ((pre ++ xs) ++ [y]) := by
     unfold OwnM
     rw [List.length_append, hN, ← hlast]
     exact s2.1
    refine ⟨.slice (some ⟨g, o9, none⟩) (xs.length + 1) cap, _, ?_, (by subst hpre; subst ho90; simpa using hnew), (by subst hpre; subst ho90; simpa using hnew.short), (hgA.trans s1.2).trans s2.2, .inl rfl⟩
    unfold execOp
    simp only [ho, resolve, invoke, builtin, Sem.run_bind, Sem.run_pure, Result.andThen_ok, List.map_toArray, List.map_cons, List.map_nil, hs, hx, hrun]
  ·have holds : ∀ j u, (mcells xs)[j]? = some u → wA.cell? ((⟨g, o9, none⟩ : Addr).add j) = some u := by
    intro j u hj
    have hjl : j < xs.length * 2 := by have := (List.getElem?_eq_some_iff.1 hj).1; rwa [mcells_len] at this
    have hcap : xs.length ≤ cap := by have := (ownM_caps h).1; rw [List.length_append] at this; omega
    have ho9' := ho9 (by omega)
    have hc := hO.cellAt (o9 + j) (by rw [hN]; omega)
    have hm : (mcells (pre ++ xs))[o9 + j]? = some u := by
     rw [mcells_append, List.getElem?_append_right (by rw [mcells_len]; omega), mcells_len, ho9', Nat.add_sub_cancel_left]; exact hj
    rw [hm] at hc
    have e4 : (⟨g, o9, none⟩ : Addr).add j = ⟨g, o9 + j, none⟩ := by unfold Addr.add; split <;> simp_all
    rw [e4]; exact hc
   obtain ⟨v', w', hrun, r1, r2⟩ := run_append_arg_grows (P := Tryz.prog) wA 35 o.type 64 i0 (.agg #[.int .i64 0, .int .i64 0]) 2 16 Tryz.underlying35 hi hz0 hz1 hz2 rfl (by decide) ⟨g, o9, none⟩ xs.length cap (mcells xs) (by rw [mcells_len]) holds ⟨w.heap.size, 0, none⟩ 1 1 [.int .i64 y.1, .int .i64 y.2] rfl hnews (by omega) (by unfold maxLen; omega) (by omega)
   have hnew : OwnM w' wA.heap.size v' (xs ++ [y]) := by
    unfold OwnM
    rw [mcells_snoc, List.length_append]
    exact r1
   refine ⟨v', w', ?_, hnew.base (by omega), (by subst hpre; subst ho90; simpa using hO.grown r2 (.inr (by simp [Value.ownBlock]))), ?_, .inr fun k hk => ?_⟩
   ·unfold execOp
    simp only [ho, resolve, invoke, builtin, Sem.run_bind, Sem.run_pure, Result.andThen_ok, List.map_toArray, List.map_cons, List.map_nil, hs, hx, hrun]
   ·exact ⟨r2.os.trans hgA.os, r2.tape.trans hgA.tape, r2.output.trans hgA.output, Nat.le_trans hgA.size r2.size, fun k hk hne => (r2.block k (by have := hgA.size; omega) (by simp)).trans (hgA.block k hk hne)⟩
   ·have := (hnew.lt k hk).1; omega
theorem step_pushM {ops : Array Oper} {o : Oper} {a : Act} {K : Act → World → Prop} {Q : Exit → Act → World → Prop} {Z : Prop} (w : World) (hw : Region.wanted o (yielded ops a.tmps) = true) (s x : Operand) (ho : o.op = .call { callee := .builtin .append, args := #[s, x], argTypes := #[35, 35] })
  (B : Nat) (v : Value) (xs : List Mat) (y : Mat) (hs : a.eval s = v) (hx : a.eval x = .slice (some ⟨w.heap.size, 0, none⟩) 1 1) (hown : OwnM w B v xs) (hB : B ≤ w.heap.size) (hlen : xs.length ≤ 1048576)
  (hK : ∀ v' w', OwnM w' B v' (xs ++ [y]) → OwnM w' B v xs → w.grownBy w' v.ownBlock → (v'.ownBlock = v.ownBlock ∨ ∀ k, v'.ownBlock = some k → w.heap.size ≤ k) → K (a.put o.dst v') w') :
  if Region.wanted o (yielded ops a.tmps) = true then Oper.wp Tryz.prog o a (w.alloc (.cells #[.int .i64 y.1, .int .i64 y.2] 64)) K Q else Z := by
 rw [if_pos hw]
 obtain ⟨v', w', hr, h1, h2, h3, h4⟩ := run_pushM w s x ho B v xs y hs hx hown hB hlen
 unfold Oper.wp
 rw [hr]
 exact hK v' w' h1 h2 h3 h4
section
variable {w w' : World} {lo E : Nat} {X : Mch} {A : Option Addr} {c : Nat} {A2 : Option Addr} {d : Nat} {M : Option Addr} {q e0 : Nat} {L : Option Addr} {lc : Nat} {T : Option Addr} {tc : Nat} {Bc : Option Addr} {dc B hi : Nat} {hs : List (Option Nat)} {km f0 f1 l0 l1 t0 t1 p0 p1 : Nat}
/-- the line's block grew or was left: the line still reads -/
theorem EngT.grownL (h : EngT w lo E X A c A2 d M q e0 L lc T tc Bc dc B hi hs km f0 f1 l0 l1 t0 t1 p0 p1) (hg : w.grownBy w' (Value.slice L X.ln.length lc).ownBlock) (hl : OwnM w' l0 (.slice L X.ln.length lc) X.ln) : EngT w' lo E X A c A2 d M q e0 L lc T tc Bc dc B hi hs km f0 f1 l0 l1 t0 t1 p0 p1 := by
 obtain ⟨e1, e2⟩ := h.at_
 have e3 := h.low; have e4 := h.top; have e5 := h.o3; have e6 := h.o4; have e7 := h.o0; have e9 := h.t0h; have e8 := hg.size
 have lE := h.lE; have fl := h.fl; have lt := h.lt
 have hl1 := h.line.lt; have hl2 := h.lineT
 have hc : Chg l0 l1 w w' := Chg.of_grown hg (fun g hq => ⟨(hl1 g hq).1, hl2 g hq⟩)
 unfold Off at lE fl lt
 exact ⟨(hc.block E e2 (by omega)).trans h.blk, h.font.chg hc (by unfold Off; omega), hl, h.lineT, h.wait.chg hc (fun k hk => by have := h.wait.lt k hk; have := h.waitT k hk; omega), h.waitT, h.fl, h.ft, h.lt, h.fE, h.lE, h.tE, h.low, ⟨by omega, by omega, by omega⟩, by omega, h.codes.chgE hc (by omega) (by omega), h.o0, h.made, h.chs.chg (by omega) hc (by omega), ownsMapE_chg h.keys hc (by omega), h.o3, h.o4⟩
/-- another line is stored -/
theorem EngT.setLine (h : EngT w lo E X A c A2 d M q e0 L lc T tc Bc dc B hi hs km f0 f1 l0 l1 t0 t1 p0 p1) {z : Nat} (hz : f1 ≤ z ∧ t1 ≤ z ∧ E < z ∧ z ≤ w.heap.size ∧ t0 ≤ z) {L' : Option Addr} {lc' b0 : Nat} {ys : List Mat} (ho : OwnM w b0 (.slice L' ys.length lc') ys) (hf : (Value.slice L' ys.length lc').ownBlock = (Value.slice L X.ln.length lc).ownBlock ∨ ∀ k, (Value.slice L' ys.length lc').ownBlock = some k → z ≤ k) :
  ∃ l0' l1', ((l0' = l0 ∧ l1' = l1) ∨ z ≤ l0') ∧ EngT (w.setCell ⟨E, 8, none⟩ (.slice L' ys.length lc')) lo E ⟨X.f, X.ms, X.sp, X.w, X.t, X.k, ys, X.wt⟩ A c A2 d M q e0 L' lc' T tc Bc dc B hi hs km f0 f1 l0' l1' t0 t1 p0 p1 := by
 obtain ⟨e1, e2⟩ := h.at_
 have e3 := h.low; have e4 := h.top; have e5 := h.o3; have e6 := h.o4; have e7 := h.o0
 have fE := h.fE; have lE := h.lE; have tE := h.tE; have fl := h.fl; have lt := h.lt
 unfold Off at fE lE tE fl lt
 have hc := chg_one w E 8 (.slice L' ys.length lc')
 have hzz : (w.setCell ⟨E, 8, none⟩ (.slice L' ys.length lc')).heap.size = w.heap.size := by simp [World.setCell]
 have hblk := heapSet (i := 8) h.blk (.slice L' ys.length lc')
 have hF := h.font.chg hc (by unfold Off; omega)
 have hW := h.wait.chg hc (fun k hk => by have := h.wait.lt k hk; have := h.waitT k hk; omega)
 have hch := h.chs.chg (by omega) hc (.inl (by omega))
 have hco := h.codes.chgE hc (by omega) (by omega)
 have hke := ownsMapE_chg h.keys hc (by omega)
 rcases hf with hf | hf
 ·exact ⟨l0, l1, .inl ⟨rfl, rfl⟩, hblk, hF, (ho.rise (fun k hk => (h.line.lt k (hf ▸ hk)).1)).chg hc (fun k hk => by rw [hf] at hk; have := h.line.lt k hk; have := h.lineT k hk; omega), fun k hk => h.lineT k (hf ▸ hk), hW, h.waitT, h.fl, h.ft, h.lt, h.fE, h.lE, h.tE, h.low, ⟨by omega, by omega, by omega⟩, by rw [hzz]; exact h.t0h, hco, h.o0, h.made, hch, hke, h.o3, h.o4⟩
 ·exact ⟨z, w.heap.size, .inr (Nat.le_refl _), hblk, hF, (ho.rise hf).chg hc (fun k hk => by have := hf k hk; omega), fun k hk => (ho.lt k hk).2, hW, h.waitT, .inl hz.1, h.ft, .inr hz.2.1, h.fE, .inr (by omega), h.tE, ⟨e3.1, by omega, e3.2.2.1, e3.2.2.2⟩, ⟨by omega, by omega, by omega⟩, by rw [hzz]; exact h.t0h, hco, h.o0, h.made, hch, hke, h.o3, h.o4⟩
end
end Go.Proofs.YtimhnkpccbcohaaGreatDoor
