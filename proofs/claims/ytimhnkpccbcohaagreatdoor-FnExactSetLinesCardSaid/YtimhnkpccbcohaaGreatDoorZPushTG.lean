/-
 Contracts and plain mathematics (EngT, PushT), each with its conditions in its own statement.
-/
import Derived.Test.YtimhnkpccbcohaaGreatDoorZMchX2G
import Derived.Test.YtimhnkpccbcohaaGreatDoorZPkK
import Derived.ArgAppend
namespace Go.Proofs.YtimhnkpccbcohaaGreatDoor
open Go.RowKit Go.Conc
set_option linter.unusedVariables false
set_option linter.unusedSimpArgs false

structure EngT (w : World) (lo E : Nat) (X : Mch) (A : Option Addr) (c : Nat) (A2 : Option Addr) (d : Nat) (M : Option Addr) (q e0 : Nat) (L : Option Addr) (lc : Nat) (T : Option Addr) (tc : Nat) (Bc : Option Addr) (dc B hi : Nat) (hs : List (Option Nat)) (km f0 f1 l0 l1 t0 t1 p0 p1 : Nat) : Prop where
 blk : Blk w E #[.string X.f.s, .slice A X.f.ws.length c, .slice A2 X.f.cs.length d, .slice M q e0, .int .i64 X.sp, .int .i64 X.w, .int .i64 X.t, .int .i64 X.k, .slice L X.ln.length lc, .slice T X.wt.length tc, .slice Bc X.f.cs.length dc, .slice (some ⟨B, 0, none⟩) X.ms.length X.ms.length, .map (some km)] 118
 font : FontO w f0 f1 (.agg #[.string X.f.s, .slice A X.f.ws.length c, .slice A2 X.f.cs.length d]) X.f
 line : OwnM w l0 (.slice L X.ln.length lc) X.ln
 lineT : ∀ k, (Value.slice L X.ln.length lc).ownBlock = some k → k < l1
 wait : OwnT w t0 (.slice T X.wt.length tc) X.wt
 waitT : ∀ k, (Value.slice T X.wt.length tc).ownBlock = some k → k < t1
 fl : Off f0 f1 l0 l1
 ft : Off f0 f1 t0 t1
 lt : Off l0 l1 t0 t1
 fE : Off f0 f1 B (E + 1)
 lE : Off l0 l1 B (E + 1)
 tE : Off t0 t1 B (E + 1)
 low : lo ≤ f0 ∧ lo ≤ l0 ∧ lo ≤ t0 ∧ lo ≤ B
 top : f1 ≤ w.heap.size ∧ l1 ≤ w.heap.size ∧ t1 ≤ w.heap.size
 t0h : t0 ≤ w.heap.size
 codes : IntsI w p0 p1 Bc X.f.cs
 o0 : p1 ≤ lo
 made : Made hs X.ms.length X.ms.length
 chs : ChM w B hi (.slice (some ⟨B, 0, none⟩) X.ms.length X.ms.length) hs X.ms
 keys : w.ownsMap Tryz.prog 21 (plainElem (H := Unit) Tryz.prog 3) km X.f.s.size (keysD X.f.s X.f.s.size)
 o3 : hi ≤ km
 o4 : km < E
def EngX (w : World) (lo E : Nat) (X : Mch) : Prop := ∃ A c A2 d M q e0 L lc T tc Bc dc B hi hs km f0 f1 l0 l1 t0 t1 p0 p1, EngT w lo E X A c A2 d M q e0 L lc T tc Bc dc B hi hs km f0 f1 l0 l1 t0 t1 p0 p1
section
variable {w w' : World} {lo E : Nat} {X : Mch} {A : Option Addr} {c : Nat} {A2 : Option Addr} {d : Nat} {M : Option Addr} {q e0 : Nat} {L : Option Addr} {lc : Nat} {T : Option Addr} {tc : Nat} {Bc : Option Addr} {dc B hi : Nat} {hs : List (Option Nat)} {km f0 f1 l0 l1 t0 t1 p0 p1 : Nat}
theorem EngT.at_ (h : EngT w lo E X A c A2 d M q e0 L lc T tc Bc dc B hi hs km f0 f1 l0 l1 t0 t1 p0 p1) : B < hi ∧ E < w.heap.size := ⟨h.chs.top B rfl, h.blk.lt⟩
theorem EngT.below (h : EngT w lo E X A c A2 d M q e0 L lc T tc Bc dc B hi hs km f0 f1 l0 l1 t0 t1 p0 p1) (hb : Below w.heap.size w w') : EngT w' lo E X A c A2 d M q e0 L lc T tc Bc dc B hi hs km f0 f1 l0 l1 t0 t1 p0 p1 := by
 obtain ⟨e1, e2⟩ := h.at_
 have e3 := h.low; have e4 := h.top; have e5 := h.o3; have e6 := h.o4; have e7 := h.o0; have e8 := hb.size
 exact ⟨h.blk.below hb e2, h.font.below hb, h.line.below hb, h.lineT, h.wait.below hb, h.waitT, h.fl, h.ft, h.lt, h.fE, h.lE, h.tE, h.low, ⟨by omega, by omega, by omega⟩, Nat.le_trans h.t0h e8, h.codes.below (by omega) hb, h.o0, h.made, h.chs.below (by omega) hb, ownsMapE_below h.keys hb, h.o3, h.o4⟩
theorem EngP.tailed (h : EngP w lo E X A c A2 d M q e0 L lc T tc Bc dc B hi hs km f0 f1 l0 l1 t0 t1 p0 p1) : EngT w lo E X A c A2 d M q e0 L lc T tc Bc dc B hi hs km f0 f1 l0 l1 t0 t1 p0 p1 :=
 ⟨h.blk, h.font, h.line, h.lineT, h.wait.tailed, h.waitT, h.fl, h.ft, h.lt, h.fE, h.lE, h.tE, h.low, h.top, h.t0h, h.codes, h.o0, h.made, h.chs, h.keys, h.o3, h.o4⟩
/-- the channels have changed -/
theorem EngT.comm (h : EngT w lo E X A c A2 d M q e0 L lc T tc Bc dc B hi hs km f0 f1 l0 l1 t0 t1 p0 p1) {ms' : List (List Mat)} (hc : Chg B hi w w') (hl : ms'.length = X.ms.length) (hch : ChM w' B hi (.slice (some ⟨B, 0, none⟩) X.ms.length X.ms.length) hs ms') : EngT w' lo E ⟨X.f, ms', X.sp, X.w, X.t, X.k, X.ln, X.wt⟩ A c A2 d M q e0 L lc T tc Bc dc B hi hs km f0 f1 l0 l1 t0 t1 p0 p1 := by
 obtain ⟨e1, e2⟩ := h.at_
 have e3 := h.low; have e4 := h.top; have e5 := h.o3; have e6 := h.o4; have e7 := h.o0; have e8 := hc.size; have e9 := h.t0h
 have fE := h.fE; have lE := h.lE; have tE := h.tE
 unfold Off at fE lE tE
 have hblk := (hc.block E e2 (by omega)).trans h.blk
 refine ⟨?_, h.font.chg hc (by unfold Off; omega), h.line.chg hc (fun k hk => by have := h.line.lt k hk; have := h.lineT k hk; omega), h.lineT, h.wait.chg hc (fun k hk => by have := h.wait.lt k hk; have := h.waitT k hk; omega), h.waitT, h.fl, h.ft, h.lt, h.fE, h.lE, h.tE, h.low, ⟨by omega, by omega, by omega⟩, by omega, h.codes.chgE hc (by omega) (by omega), h.o0, ?_, ?_, ownsMapE_chg h.keys hc (by omega), h.o3, h.o4⟩
 ·show Blk _ _ _ _
  simp only [hl]
  exact hblk
 ·simp only [hl]; exact h.made
 ·simp only [hl]; exact hch
/-- the first of the waiting row is gone -/
theorem EngT.next (h : EngT w lo E X A c A2 d M q e0 L lc T tc Bc dc B hi hs km f0 f1 l0 l1 t0 t1 p0 p1) {x : Mat} {xs : List Mat} (hx : X.wt = x :: xs) {T' : Option Addr} (hA : 1 < tc → T' = T.map (·.add 2)) (hA2 : tc = 1 → T' = T) : EngT (w.setCell ⟨E, 9, none⟩ (.slice T' xs.length (tc - 1))) lo E ⟨X.f, X.ms, X.sp, X.w, X.t, X.k, X.ln, xs⟩ A c A2 d M q e0 L lc T' (tc - 1) Bc dc B hi hs km f0 f1 l0 l1 t0 t1 p0 p1 := by
 obtain ⟨e1, e2⟩ := h.at_
 have e3 := h.low; have e4 := h.top; have e5 := h.o3; have e6 := h.o4; have e7 := h.o0
 have fE := h.fE; have lE := h.lE; have tE := h.tE
 unfold Off at fE lE tE
 have hc := chg_one w E 9 (.slice T' xs.length (tc - 1))
 have hz : (w.setCell ⟨E, 9, none⟩ (.slice T' xs.length (tc - 1))).heap.size = w.heap.size := by simp [World.setCell]
 have hw := h.wait
 have hwT := h.waitT
 rw [hx] at hw hwT
 have hcap := hw.caps.1
 simp only [List.length_cons] at hcap
 have hown : ∀ k, (Value.slice T' xs.length (tc - 1)).ownBlock = some k → (Value.slice T (x :: xs).length tc).ownBlock = some k := fun k hk => by
  by_cases h1 : tc = 1
  ·rw [hA2 h1] at hk
   cases T with
   | none => cases hk
   | some ad => exact hk
  ·rw [hA (by omega)] at hk
   cases T with
   | none => cases hk
   | some ad => simp only [Option.map_some, Value.ownBlock, Addr.add] at hk ⊢; exact hk
 have hw2 := (hw.tail hA hA2).chg hc (fun k hk => by have h3 := hown k hk; have := hw.lt k h3; have := hwT k h3; omega)
 exact ⟨heapSet (i := 9) h.blk _, h.font.chg hc (by unfold Off; omega), h.line.chg hc (fun k hk => by have := h.line.lt k hk; have := h.lineT k hk; omega), h.lineT, hw2, fun k hk => hwT k (hown k hk), h.fl, h.ft, h.lt, h.fE, h.lE, h.tE, h.low, ⟨by omega, by omega, by omega⟩, by rw [hz]; exact h.t0h, h.codes.chgE hc (by omega) (by omega), h.o0, h.made, h.chs.chg (by omega) hc (.inl (by omega)), ownsMapE_chg h.keys hc (by omega), h.o3, h.o4⟩
end
end Go.Proofs.YtimhnkpccbcohaaGreatDoor

namespace Go.Proofs.YtimhnkpccbcohaaGreatDoor
open Go.RowKit Go.Conc
set_option linter.unusedVariables false
set_option linter.unusedSimpArgs false

theorem OwnM.short {w : World} {B c : Nat} {A : Option Addr} {zs : List Mat} {y : Mat} (h : OwnM w B (.slice A (zs ++ [y]).length c) (zs ++ [y])) : OwnM w B (.slice A zs.length c) zs := by
 refine ⟨by rw [mcells_len], ?_⟩
 rcases h.2 with ⟨e, hn⟩ | ⟨g, cap, cur, e, h1, h2, h3, h4, h5, h6⟩
 ·rw [List.length_append] at hn; simp at hn
 ·injection e with e1 e2 e3
  subst e1; subst e3
  rw [List.length_append] at h3 h6
  simp only [List.length_cons, List.length_nil] at h3 h6
  refine .inr ⟨g, c, cur, rfl, h1, h2, by omega, h4, h5, ?_⟩
  have h7 := congrArg (List.take (zs.length * 2)) h6
  rw [List.take_take, mcells_append, List.take_left' (by rw [mcells_len]), Nat.min_eq_left (by omega)] at h7
  exact h7
theorem mcells_last {zs : List Mat} {y : Mat} {L : List Value} (hL : L.length = (zs.length + 1) * 2) (ht : L.take (zs.length * 2) = mcells zs) : (L.set (zs.length * 2) (.int .i64 y.1)).set (zs.length * 2 + 1) (.int .i64 y.2) = mcells (zs ++ [y]) := by
 have e : L = mcells zs ++ L.drop (zs.length * 2) := by rw [← ht]; exact (List.take_append_drop _ _).symm
 have hd : (L.drop (zs.length * 2)).length = 2 := by rw [List.length_drop]; omega
 obtain ⟨a, b, hab⟩ : ∃ a b, L.drop (zs.length * 2) = [a, b] := by
  match L.drop (zs.length * 2), hd with
  | [a, b], _ => exact ⟨a, b, rfl⟩
 rw [e, hab, mcells_append]
 have hl : (mcells zs).length = zs.length * 2 := mcells_len zs
 rw [List.set_append, if_neg (by omega), hl, Nat.sub_self, List.set_append, if_neg (by omega), hl, show zs.length * 2 + 1 - zs.length * 2 = 1 from by omega]
 rfl
set_option maxHeartbeats 1600000 in
theorem run_pushT {o : Oper} {a : Act} (w : World) (s x : Operand) (ho : o.op = .call { callee := .builtin .append, args := #[s, x], argTypes := #[35, 35] })
  (B : Nat) (v : Value) (xs : List Mat) (y : Mat) (hs : a.eval s = v) (hx : a.eval x = .slice (some ⟨w.heap.size, 0, none⟩) 1 1) (hown : OwnT w B v xs) (hB : B ≤ w.heap.size) (hlen : xs.length ≤ 1048576) :
  ∃ v' w', (execOp a.eval o).run Tryz.prog (w.alloc (.cells #[.int .i64 y.1, .int .i64 y.2] 64)) = .ok (.value v') w' ∧ OwnT w' B v' (xs ++ [y]) ∧ OwnT w' B v xs ∧ w.grownBy w' v.ownBlock ∧ (v'.ownBlock = v.ownBlock ∨ ∀ k, v'.ownBlock = some k → w.heap.size ≤ k) := by
 obtain ⟨i0, hi, hz0, hz1, hz2⟩ := info_parts matInfo
 rcases hown with ⟨rfl, rfl⟩ | ⟨g, o9, cap, pre, rfl, h, ho9⟩
 ·obtain ⟨v', w', h1, h2, h3, h4⟩ := run_push_one w s x ho B (.slice none 0 0) [] y hs hx ⟨rfl, .inl ⟨rfl, rfl⟩⟩ hB (by simp)
  exact ⟨v', w', h1, h2.tailed, .inl ⟨rfl, rfl⟩, h3, h4⟩
 ·obtain ⟨wA, hwA⟩ : ∃ z, w.alloc (.cells #[.int .i64 y.1, .int .i64 y.2] 64) = z := ⟨_, rfl⟩
  have hbA : Below w.heap.size w wA := by rw [← hwA]; exact below_new _ _
  have hzA : wA.heap.size = w.heap.size + 1 := by rw [← hwA]; simp
  have hO : OwnM wA B (.slice (some ⟨g, 0, none⟩) (pre ++ xs).length (pre.length + cap)) (pre ++ xs) := h.below hbA
  have hgA : w.grownBy wA (some g) := by rw [← hwA]; exact World.grownBy_alloc _ _ _
  have hnews : ∀ j u, [Value.int .i64 y.1, .int .i64 y.2][j]? = some u → wA.cell? ((⟨w.heap.size, 0, none⟩ : Addr).add j) = some u := by
   intro j u hj
   rw [← hwA]
   match j, hj with
   | 0, hj =>
    simp at hj; subst hj
    rw [add_zero_at, World.cell?_alloc_at _ _ _ _ rfl]
    rfl
   | 1, hj =>
    simp at hj; subst hj
    rw [addr_next, add_zero_at, World.cell?_alloc_at _ _ _ _ rfl]
    rfl
  have hone : ∀ u ∈ [Value.int .i64 y.1, .int .i64 y.2], u.oneCell' = true := by
   intro u hu
   simp at hu
   rcases hu with rfl | rfl <;> rfl
  have hg := h.lt g rfl
  obtain ⟨N, hN⟩ : ∃ N, (pre ++ xs).length = N := ⟨_, rfl⟩
  have hNn : pre.length + xs.length = N := by rw [← hN, List.length_append]
  obtain ⟨p, hp⟩ : ∃ p, pre.length = p := ⟨_, rfl⟩
  rw [hwA]
  by_cases hr : xs.length + 1 ≤ cap
  ·have ho9' := ho9 (by omega)
   rcases hO.2 with ⟨e, -⟩ | ⟨g', C, cur, e, c1, c2, c3, c4, c5, c6⟩
   ·cases e
   ·injection e with e1 e2 e3
    injection e1 with e1
    injection e1 with e1
    subst e1; subst e3
    rw [hN] at c6 c3
    have hLl : (cur.toList.take ((N + 1) * 2)).length = (N + 1) * 2 := by rw [List.length_take, Array.length_toList]; omega
    have hLong : wA.ownsRow B 64 2 (.slice (some ⟨g, 0, none⟩) (N + 1) (pre.length + cap)) (N + 1) (cur.toList.take ((N + 1) * 2)) :=
     ⟨hLl, .inr ⟨g, pre.length + cap, cur, rfl, c1, c2, by omega, c4, c5, rfl⟩⟩
    have s1 := hLong.stored (N * 2) (.int .i64 y.1)
    have s2 := s1.1.stored (N * 2 + 1) (.int .i64 y.2)
    have hlast : ((cur.toList.take ((N + 1) * 2)).set (N * 2) (.int .i64 y.1)).set (N * 2 + 1) (.int .i64 y.2) = mcells ((pre ++ xs) ++ [y]) := by
     rw [← hN]
     refine mcells_last (by rw [hN]; exact hLl) ?_
     rw [List.take_take, Nat.min_eq_left (by omega), hN]; exact c6
    have hrun := run_append_room_cells (P := Tryz.prog) wA 35 o.type 64 i0 Tryz.underlying35 hi g o9 xs.length cap ⟨w.heap.size, 0, none⟩ 1 1 [.int .i64 y.1, .int .i64 y.2] (by rw [hz1]; rfl) hnews hone hr (fun j hj => by
      rw [hz1, hLong.cellAt (o9 + xs.length * 2 + j) (by simp at hj; omega), List.getElem?_eq_getElem (by rw [hLl]; simp at hj; omega)]; rfl) (fun j hj => hLong.frozenAt _)
    rw [hz1] at hrun
    have he : wA.setCells g (o9 + xs.length * 2) [.int .i64 y.1, .int .i64 y.2] = (wA.setCell ⟨g, N * 2, none⟩ (.int .i64 y.1)).setCell ⟨g, N * 2 + 1, none⟩ (.int .i64 y.2) := by
     have h9 : o9 + xs.length * 2 = N * 2 := by omega
     rw [h9]; rfl
    rw [he] at hrun
    have hnew : OwnM ((wA.setCell ⟨g, N * 2, none⟩ (.int .i64 y.1)).setCell ⟨g, N * 2 + 1, none⟩ (.int .i64 y.2)) B (.slice (some ⟨g, 0, none⟩) ((pre ++ xs) ++ [y]).length (pre.length + cap)) ((pre ++ xs) ++ [y]) := by
     unfold OwnM
     rw [List.length_append, hN, ← hlast]
     exact s2.1
    refine ⟨.slice (some ⟨g, o9, none⟩) (xs.length + 1) cap, _, ?_, .inr ⟨g, o9, cap, pre, by rw [List.length_append]; rfl, by rw [← List.append_assoc]; exact hnew, ho9⟩, .inr ⟨g, o9, cap, pre, rfl, hnew.short, ho9⟩, (hgA.trans s1.2).trans s2.2, .inl rfl⟩
    unfold execOp
    simp only [ho, resolve, invoke, builtin, Sem.run_bind, Sem.run_pure, Result.andThen_ok, List.map_toArray, List.map_cons, List.map_nil, hs, hx, hrun]
  ·have holds : ∀ j u, (mcells xs)[j]? = some u → wA.cell? ((⟨g, o9, none⟩ : Addr).add j) = some u := by
    intro j u hj
    have hjl : j < xs.length * 2 := by have := (List.getElem?_eq_some_iff.1 hj).1; rwa [mcells_len] at this
    have hcap : xs.length ≤ cap := by have := (ownM_caps h).1; rw [List.length_append] at this; omega
    have ho9' := ho9 (by omega)
    have hc := hO.cellAt (o9 + j) (by rw [hN]; omega)
    have hm : (mcells (pre ++ xs))[o9 + j]? = some u := by
     rw [mcells_append, List.getElem?_append_right (by rw [mcells_len]; omega), mcells_len, ho9', Nat.add_sub_cancel_left]; exact hj
    rw [hm] at hc
    have e4 : (⟨g, o9, none⟩ : Addr).add j = ⟨g, o9 + j, none⟩ := by unfold Addr.add; split <;> simp_all
    rw [e4]; exact hc
   obtain ⟨v', w', hrun, r1, r2⟩ := run_append_arg_grows (P := Tryz.prog) wA 35 o.type 64 i0 (.agg #[.int .i64 0, .int .i64 0]) 2 16 Tryz.underlying35 hi hz0 hz1 hz2 rfl (by decide) ⟨g, o9, none⟩ xs.length cap (mcells xs) (by rw [mcells_len]) holds ⟨w.heap.size, 0, none⟩ 1 1 [.int .i64 y.1, .int .i64 y.2] rfl hnews (by omega) (by unfold maxLen; omega) (by omega)
   have hnew : OwnM w' wA.heap.size v' (xs ++ [y]) := by
    unfold OwnM
    rw [mcells_snoc, List.length_append]
    exact r1
   refine ⟨v', w', ?_, (hnew.base (by omega)).tailed, .inr ⟨g, o9, cap, pre, rfl, hO.grown r2 (.inr (by simp [Value.ownBlock])), ho9⟩, ?_, .inr fun k hk => ?_⟩
   ·unfold execOp
    simp only [ho, resolve, invoke, builtin, Sem.run_bind, Sem.run_pure, Result.andThen_ok, List.map_toArray, List.map_cons, List.map_nil, hs, hx, hrun]
   ·exact ⟨r2.os.trans hgA.os, r2.tape.trans hgA.tape, r2.output.trans hgA.output, Nat.le_trans hgA.size r2.size, fun k hk hne => (r2.block k (by have := hgA.size; omega) (by simp)).trans (hgA.block k hk hne)⟩
   ·have := (hnew.lt k hk).1; omega
end Go.Proofs.YtimhnkpccbcohaaGreatDoor
