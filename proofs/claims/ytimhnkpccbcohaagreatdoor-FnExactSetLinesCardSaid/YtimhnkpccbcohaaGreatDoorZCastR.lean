/-
 A machine in the making: its ten words lie in a block, its parts are the call's own, its line is empty.
-/
import Derived.Test.YtimhnkpccbcohaaGreatDoorZCntMagG
import Derived.Test.YtimhnkpccbcohaaGreatDoorZCastQ
namespace Go.Proofs.YtimhnkpccbcohaaGreatDoor
open Go.RowKit Go.Conc
set_option linter.unusedVariables false
set_option linter.unusedSimpArgs false

structure OutP (w : World) (O b : Nat) (X : Mch) (A : Option Addr) (c : Nat) (A2 : Option Addr) (d : Nat) (M : Option Addr) (e : Nat) (T : Option Addr) (tc : Nat) (hs : List Value) (f0 f1 g0 g1 t0 t1 : Nat) : Prop where
 nil : X.ln = []
 blk : Blk w O #[.string X.f.s, .slice A X.f.ws.length c, .slice A2 X.f.cs.length d, .slice M X.ms.length e, .int .i64 X.sp, .int .i64 X.w, .int .i64 X.t, .int .i64 X.k, .slice none 0 0, .slice T X.wt.length tc] 37
 font : FontO w f0 f1 (.agg #[.string X.f.s, .slice A X.f.ws.length c, .slice A2 X.f.cs.length d]) X.f
 mag : OwnMag w g0 g1 (.slice M X.ms.length e) hs X.ms
 wait : OwnM w t0 (.slice T X.wt.length tc) X.wt
 waitT : ∀ k, (Value.slice T X.wt.length tc).ownBlock = some k → k < t1
 fg : Off f0 f1 g0 g1
 ft : Off f0 f1 t0 t1
 gt : Off g0 g1 t0 t1
 fi : b ≤ f0 ∧ f1 ≤ w.heap.size
 gi : b ≤ g0 ∧ g1 ≤ w.heap.size
 ti : b ≤ t0 ∧ t1 ≤ w.heap.size ∧ t0 ≤ w.heap.size
 fO : f1 ≤ O
 gO : g1 ≤ O
 tO : t1 ≤ O ∨ O < t0
 low : b ≤ O
section
variable {w w' : World} {O b : Nat} {X : Mch} {A : Option Addr} {c : Nat} {A2 : Option Addr} {d : Nat} {M : Option Addr} {e : Nat} {T : Option Addr} {tc : Nat} {hs : List Value} {f0 f1 g0 g1 t0 t1 : Nat}
theorem OutP.below (h : OutP w O b X A c A2 d M e T tc hs f0 f1 g0 g1 t0 t1) (hb : Below w.heap.size w w') : OutP w' O b X A c A2 d M e T tc hs f0 f1 g0 g1 t0 t1 := by
 have hz := hb.size
 have q1 := h.fi; have q2 := h.gi; have q3 := h.ti
 exact ⟨h.nil, h.blk.below hb h.blk.lt, h.font.below hb, h.mag.below hb, h.wait.below hb, h.waitT, h.fg, h.ft, h.gt, ⟨q1.1, by omega⟩, ⟨q2.1, by omega⟩, ⟨q3.1, by omega, by omega⟩, h.fO, h.gO, h.tO, h.low⟩
theorem OutP.spare (h : OutP w O b X A c A2 d M e T tc hs f0 f1 g0 g1 t0 t1) (z : Int) : OutP (w.setCell ⟨O, 4, none⟩ (.int .i64 z)) O b ⟨X.f, X.ms, z, X.w, X.t, X.k, X.ln, X.wt⟩ A c A2 d M e T tc hs f0 f1 g0 g1 t0 t1 := by
 have hc := chg_set w O 4 (.int .i64 z)
 have hz : (w.setCell ⟨O, 4, none⟩ (.int .i64 z)).heap.size = w.heap.size := by simp [World.setCell]
 have q1 := h.fi; have q2 := h.gi; have q3 := h.ti; have q4 := h.low; have q6 := h.fO; have q7 := h.gO; have q8 := h.tO
 refine ⟨h.nil, heapSet (i := 4) h.blk _, h.font.chg hc (by unfold Off; omega), h.mag.chg hc (by omega), h.wait.chg hc (fun k hk => ?_), h.waitT, h.fg, h.ft, h.gt, by rw [hz]; exact q1, by rw [hz]; exact q2, by rw [hz]; exact q3, h.fO, h.gO, h.tO, h.low⟩
 have := (h.wait.lt k hk).1; have := h.waitT k hk; omega
theorem OutP.waits (h : OutP w O b X A c A2 d M e T tc hs f0 f1 g0 g1 t0 t1) {T' : Option Addr} {tc' : Nat} {xs : List Mat} (hg : w.grownBy w' (Value.slice T X.wt.length tc).ownBlock) (ho : OwnM w' t0 (.slice T' xs.length tc') xs) (hf : (Value.slice T' xs.length tc').ownBlock = (Value.slice T X.wt.length tc).ownBlock ∨ ∀ k, (Value.slice T' xs.length tc').ownBlock = some k → w.heap.size ≤ k) :
  ∃ t0' t1', OutP (w'.setCell ⟨O, 9, none⟩ (.slice T' xs.length tc')) O b ⟨X.f, X.ms, X.sp, X.w, X.t, X.k, X.ln, xs⟩ A c A2 d M e T' tc' hs f0 f1 g0 g1 t0' t1' := by
 have ft := h.ft; have gt := h.gt
 have q1 := h.fi; have q2 := h.gi; have q3 := h.ti; have q4 := h.low; have q5 := h.blk.lt; have q6 := h.fO; have q7 := h.gO; have q8 := h.tO
 unfold Off at ft gt
 have hgs := hg.size
 have hc1 : Chg t0 t1 w w' := Chg.of_grown hg (fun g hq => ⟨(h.wait.lt g hq).1, h.waitT g hq⟩)
 have hc2 := chg_set w' O 9 (.slice T' xs.length tc')
 have hz : (w'.setCell ⟨O, 9, none⟩ (.slice T' xs.length tc')).heap.size = w'.heap.size := by simp [World.setCell]
 have hblk : Blk (w'.setCell ⟨O, 9, none⟩ (.slice T' xs.length tc')) O #[.string X.f.s, .slice A X.f.ws.length c, .slice A2 X.f.cs.length d, .slice M X.ms.length e, .int .i64 X.sp, .int .i64 X.w, .int .i64 X.t, .int .i64 X.k, .slice none 0 0, .slice T' xs.length tc'] 37 := heapSet (i := 9) ((hc1.block O q5 (by omega)).trans h.blk) _
 have hfont := (h.font.chg hc1 (by unfold Off; omega)).chg hc2 (by unfold Off; omega)
 have hmag := (h.mag.chg hc1 (by omega)).chg hc2 (by omega)
 have ho2 : OwnM (w'.setCell ⟨O, 9, none⟩ (.slice T' xs.length tc')) t0 (.slice T' xs.length tc') xs := ho.chg hc2 (fun k hk => by
  rcases hf with hf | hf
  ·have h9 := hf ▸ hk; have := (h.wait.lt k h9).1; have := h.waitT k h9; omega
  ·have := hf k hk; omega)
 rcases hf with hf | hf
 ·exact ⟨t0, t1, ⟨h.nil, hblk, hfont, hmag, ho2, fun k hk => h.waitT k (hf ▸ hk), h.fg, h.ft, h.gt, ⟨q1.1, by omega⟩, ⟨q2.1, by omega⟩, ⟨q3.1, by omega, by omega⟩, q6, q7, q8, q4⟩⟩
 ·exact ⟨w.heap.size, w'.heap.size, ⟨h.nil, hblk, hfont, hmag, ho2.rise hf, fun k hk => by have := (ho.lt k hk).2; omega, h.fg, .inl (by omega), .inl (by omega), ⟨q1.1, by omega⟩, ⟨q2.1, by omega⟩, ⟨by omega, by omega, by omega⟩, q6, q7, .inr q5, q4⟩⟩
/-- what is made reads as a machine whose parts are the call's own -/
theorem OutP.own (h : OutP w O b X A c A2 d M e T tc hs f0 f1 g0 g1 t0 t1) : MchX w b w.heap.size (.agg #[.string X.f.s, .slice A X.f.ws.length c, .slice A2 X.f.cs.length d, .slice M X.ms.length e, .int .i64 X.sp, .int .i64 X.w, .int .i64 X.t, .int .i64 X.k, .slice none 0 0, .slice T X.wt.length tc]) X := by
 have q1 := h.fi; have q2 := h.gi; have q3 := h.ti
 have hb : b ≤ w.heap.size := by omega
 refine ⟨A, c, A2, d, M, e, none, 0, T, tc, hs, f0, f1, g0, g1, b, b, t0, t1, ⟨?_, h.font, h.mag, ?_, ?_, h.wait, h.waitT, h.fg, .inr q1.1, h.ft, .inr q2.1, h.gt, .inl q3.1, q1, q2, ⟨Nat.le_refl _, hb⟩, ⟨q3.1, q3.2.1⟩⟩⟩
 ·unfold mwords; rw [h.nil]; rfl
 ·rw [h.nil]; exact ⟨rfl, .inl ⟨rfl, rfl⟩⟩
 ·rw [h.nil]; intro k hk; cases hk
end
theorem small_clear {X : Mch} (h : SmallX X) (h1 : X.ln.length ≤ 120) (h2 : X.wt.length ≤ 240) : SmallX (clearX X) := by
 refine ⟨h.f, h.ms, h.row, h.tot, by simp [clearX], ?_⟩
 have h3 : (mtsN X.ln).length ≤ X.ln.length := List.length_filter_le _ _
 show (X.wt ++ mtsN X.ln).length ≤ 1048576
 rw [List.length_append]
 omega
/-- a copied machine, its line taken away -/
theorem MchX.out {w : World} {O b : Nat} {X : Mch} {v : Value} (h : MchX w b O v X) (hO : w.heap.size = O) (hbO : b ≤ O) :
  ∃ A c A2 d M e L lc T tc, v = .agg #[.string X.f.s, .slice A X.f.ws.length c, .slice A2 X.f.cs.length d, .slice M X.ms.length e, .int .i64 X.sp, .int .i64 X.w, .int .i64 X.t, .int .i64 X.k, .slice L X.ln.length lc, .slice T X.wt.length tc] ∧ (∀ w', Below O w w' → O < w'.heap.size → Blk w' O #[.string X.f.s, .slice A X.f.ws.length c, .slice A2 X.f.cs.length d, .slice M X.ms.length e, .int .i64 X.sp, .int .i64 X.w, .int .i64 X.t, .int .i64 X.k, .slice none 0 0, .slice T X.wt.length tc] 37 → ∃ hs f0 f1 g0 g1 t0 t1, OutP w' O b ⟨X.f, X.ms, X.sp, X.w, X.t, X.k, [], X.wt⟩ A c A2 d M e T tc hs f0 f1 g0 g1 t0 t1) := by
 obtain ⟨A, c, A2, d, M, e, L, lc, T, tc, hs, f0, f1, g0, g1, l0, l1, t0, t1, h⟩ := h
 subst hO
 have q1 := h.fi; have q2 := h.gi; have q3 := h.li; have q4 := h.ti
 refine ⟨A, c, A2, d, M, e, L, lc, T, tc, h.v, fun w' hb hO1 hblk => ?_⟩
 have hz := hb.size
 by_cases ht : t0 ≤ w.heap.size
 ·exact ⟨hs, f0, f1, g0, g1, t0, t1, ⟨rfl, hblk, h.font.below hb, h.mag.below hb, h.wait.below hb, h.waitT, h.fg, h.ft, h.gt, by omega, by omega, by omega, q1.2, q2.2, .inl q4.2, hbO⟩⟩
 ·have hnone : ∀ k, (Value.slice T X.wt.length tc).ownBlock = some k → False := fun k hk => by have h1 := h.wait.lt k hk; omega
  exact ⟨hs, f0, f1, g0, g1, w.heap.size, w.heap.size, ⟨rfl, hblk, h.font.below hb, h.mag.below hb, (h.wait.rise (fun k hk => (hnone k hk).elim)).below hb, fun k hk => (hnone k hk).elim, h.fg, .inl q1.2, .inl q2.2, by omega, by omega, by omega, q1.2, q2.2, .inl (Nat.le_refl _), hbO⟩⟩
end Go.Proofs.YtimhnkpccbcohaaGreatDoor
