/-
 Contracts and plain mathematics (MchM, LnKit, MchU, MchK), each with its conditions in its own statement.
-/
import Derived.Test.YtimhnkpccbcohaaGreatDoorZPkB
import Derived.Test.YtimhnkpccbcohaaGreatDoorZPkC
import Derived.Test.YtimhnkpccbcohaaGreatDoorZPkD
import Derived.Test.YtimhnkpccbcohaaGreatDoorZPkA
namespace Go.Proofs.YtimhnkpccbcohaaGreatDoor
open Go.RowKit
set_option linter.unusedVariables false

/-- font, magazine, spare bands, measure, line, waiting -/
structure Mch where
 f : Fnt
 ms : List (List Mat)
 sp : Int
 w : Int
 t : Int
 k : Int
 ln : List Mat
 wt : List Mat
def Mch.big (X : Mch) : Nat := X.f.big + magBig X.ms + X.ln.length + X.wt.length
/-- lengths of at most 2^20 -/
structure SmallX (X : Mch) : Prop where
 f : Small X.f
 ms : X.ms.length ≤ 1048576
 row : ∀ xs ∈ X.ms, xs.length ≤ 1048576
 tot : tot X.ms ≤ 1048576
 ln : X.ln.length ≤ 1048576
 wt : X.wt.length ≤ 1048576
/-- all teeth are in the range of int -/
structure WfX (X : Mch) : Prop where
 ms : wfM X.ms
 ln : ∀ x ∈ X.ln, (Lit.int .i64 x.2).wf = true
 wt : ∀ x ∈ X.wt, (Lit.int .i64 x.2).wf = true
theorem len_tot {ms : List (List Mat)} {xs : List Mat} (h : xs ∈ ms) : xs.length ≤ tot ms := by
 unfold tot
 induction ms with
 | nil => cases h
 | cons y ys ih =>
  rw [List.map_cons, List.sum_cons]
  rcases List.mem_cons.1 h with rfl | h
  ·omega
  ·have := ih h; omega
theorem big_smallX {X : Mch} (h : X.big ≤ 1048576) : SmallX X := by
 unfold Mch.big Fnt.big magBig at h
 exact ⟨⟨by omega, by omega, by omega⟩, by omega, fun xs hx => by have := len_tot hx; omega, by omega, by omega, by omega⟩

/-- the ten words of a machine -/
def mwords (X : Mch) (A : Option Addr) (c : Nat) (A2 : Option Addr) (d : Nat) (M : Option Addr) (e : Nat) (L : Option Addr) (lc : Nat) (T : Option Addr) (tc : Nat) : Array Value :=
 #[.string X.f.s, .slice A X.f.ws.length c, .slice A2 X.f.cs.length d, .slice M X.ms.length e, .int .i64 X.sp, .int .i64 X.w, .int .i64 X.t, .int .i64 X.k, .slice L X.ln.length lc, .slice T X.wt.length tc]
structure MchP (w : World) (lo hi : Nat) (X : Mch) (A : Option Addr) (c : Nat) (A2 : Option Addr) (d : Nat) (M : Option Addr) (e : Nat) (L : Option Addr) (lc : Nat) (T : Option Addr) (tc : Nat) : Prop where
 font : FontV w lo hi (.agg #[.string X.f.s, .slice A X.f.ws.length c, .slice A2 X.f.cs.length d]) X.f
 mag : MagI w lo hi M X.ms
 line : MatsI w lo hi L X.ln
 wait : MatsI w lo hi T X.wt
 me : X.ms.length ≤ e
 em : e ≤ maxLen
 ll : X.ln.length ≤ lc
 lm : lc ≤ maxLen
 tl : X.wt.length ≤ tc
 tm : tc ≤ maxLen
/-- the value v reads as the machine X, in blocks from lo up to hi -/
def MchV (w : World) (lo hi : Nat) (v : Value) (X : Mch) : Prop :=
 ∃ A c A2 d M e L lc T tc, v = .agg (mwords X A c A2 d M e L lc T tc) ∧ MchP w lo hi X A c A2 d M e L lc T tc
section
variable {w w' : World} {lo hi : Nat} {X : Mch} {v : Value} {A A2 M L T : Option Addr} {c d e lc tc : Nat}
theorem MchP.keep (h : MchP w lo hi X A c A2 d M e L lc T tc) (hk : ∀ p : Addr, lo ≤ p.block → p.block < hi → w'.cell? p = w.cell? p) : MchP w' lo hi X A c A2 d M e L lc T tc :=
 ⟨h.font.keep hk, h.mag.keep hk, h.line.keep hk, h.wait.keep hk, h.me, h.em, h.ll, h.lm, h.tl, h.tm⟩
theorem MchP.below {B : Nat} (h : MchP w lo hi X A c A2 d M e L lc T tc) (hB : hi ≤ B) (hb : Below B w w') : MchP w' lo hi X A c A2 d M e L lc T tc := h.keep fun p _ h2 => hb.cell (by omega)
theorem MchP.chg {lo' hi' : Nat} (h : MchP w lo hi X A c A2 d M e L lc T tc) (hc : Chg lo' hi' w w') (hs : hi ≤ w.heap.size) (hn : hi ≤ lo' ∨ hi' ≤ lo) : MchP w' lo hi X A c A2 d M e L lc T tc :=
 h.keep fun p h1 h2 => hc.cell (by omega) (by omega)
theorem MchV.below {B : Nat} (h : MchV w lo hi v X) (hB : hi ≤ B) (hb : Below B w w') : MchV w' lo hi v X := by
 obtain ⟨A, c, A2, d, M, e, L, lc, T, tc, hv, hp⟩ := h
 exact ⟨A, c, A2, d, M, e, L, lc, T, tc, hv, hp.below hB hb⟩
theorem MchV.chg {lo' hi' : Nat} (h : MchV w lo hi v X) (hc : Chg lo' hi' w w') (hs : hi ≤ w.heap.size) (hn : hi ≤ lo' ∨ hi' ≤ lo) : MchV w' lo hi v X := by
 obtain ⟨A, c, A2, d, M, e, L, lc, T, tc, hv, hp⟩ := h
 exact ⟨A, c, A2, d, M, e, L, lc, T, tc, hv, hp.chg hc hs hn⟩
theorem MatsI.cutM {hi' n : Nat} {xs : List Mat} (h : OwnM w lo (.slice A n c) xs) (hk : ∀ k, (Value.slice A n c).ownBlock = some k → k < hi') : MatsI w lo hi' A xs := fun hn => by
 obtain ⟨ad, e, h1, h2, hc⟩ := h.reads hn
 obtain ⟨A', c', hv, _, _, hA, _⟩ := h.form
 injection hv with e1 e2 e3
 subst e1
 obtain ⟨g, rfl, h3, h4⟩ := hA ad e
 subst e
 exact ⟨_, rfl, h1, hk g rfl, hc⟩
theorem ownM_caps {B n : Nat} {xs : List Mat} (h : OwnM w B (.slice A n c) xs) : xs.length ≤ c ∧ c ≤ maxLen := by
 obtain ⟨A', c', hv, h1, h2, _⟩ := h.form
 injection hv with e1 e2 e3
 subst e3
 exact ⟨h1, h2⟩
theorem ownMag_caps {B n hi : Nat} {hs : List Value} {ms : List (List Mat)} (h : OwnMag w B hi (.slice A n c) hs ms) : ms.length ≤ c ∧ c ≤ maxLen := by
 obtain ⟨A', c', hv, h1, h2, _⟩ := h.form
 injection hv with e1 e2 e3
 subst e3
 exact ⟨h1, h2⟩
end

/-- the words of a machine and what they hold, by names -/
theorem MchV.parts {w : World} {lo hi : Nat} {X : Mch} {v : Value} (h : MchV w lo hi v X) : ∃ s A n c A2 m d M q e L l lc T r tc, v = .agg #[.string s, .slice A n c, .slice A2 m d, .slice M q e, .int .i64 X.sp, .int .i64 X.w, .int .i64 X.t, .int .i64 X.k, .slice L l lc, .slice T r tc]
  ∧ FontV w lo hi (.agg #[.string s, .slice A n c, .slice A2 m d]) X.f ∧ X.ms.length = q ∧ MagI w lo hi M X.ms ∧ q ≤ e ∧ e ≤ maxLen ∧ X.ln.length = l ∧ MatsI w lo hi L X.ln ∧ l ≤ lc ∧ lc ≤ maxLen ∧ X.wt.length = r ∧ MatsI w lo hi T X.wt ∧ r ≤ tc ∧ tc ≤ maxLen := by
 obtain ⟨A, c, A2, d, M, e, L, lc, T, tc, hv, hp⟩ := h
 exact ⟨_, A, _, c, A2, _, d, M, _, e, L, _, lc, T, _, tc, hv, hp.font, rfl, hp.mag, hp.me, hp.em, rfl, hp.line, hp.ll, hp.lm, rfl, hp.wait, hp.tl, hp.tm⟩
theorem MchV.form {w : World} {lo hi : Nat} {X : Mch} {v : Value} (h : MchV w lo hi v X) : ∃ s A n c A2 m d M q e sp W t k L l lc T r tc, v = .agg #[.string s, .slice A n c, .slice A2 m d, .slice M q e, .int .i64 sp, .int .i64 W, .int .i64 t, .int .i64 k, .slice L l lc, .slice T r tc] := by
 obtain ⟨A, c, A2, d, M, e, L, lc, T, tc, hv, hp⟩ := h
 exact ⟨_, A, _, c, A2, _, d, M, _, e, _, _, _, _, L, _, lc, T, _, tc, hv⟩
theorem cellOfBlk {w : World} {B : Nat} {cs : Array Value} {T : TypeId} (h : Blk w B cs T) (i : Nat) : w.cell? ⟨B, i, none⟩ = cs[i]? := by
 unfold Blk at h
 simp [World.cell?, h]
theorem Blk.ten {w : World} {B : Nat} {a0 a1 a2 a3 a4 a5 a6 a7 a8 a9 : Value} {T : TypeId} (h : Blk w B #[a0, a1, a2, a3, a4, a5, a6, a7, a8, a9] T) :
  w.cell? ⟨B, 0, none⟩ = some a0 ∧ w.cell? ⟨B, 1, none⟩ = some a1 ∧ w.cell? ⟨B, 2, none⟩ = some a2 ∧ w.cell? ⟨B, 3, none⟩ = some a3 ∧ w.cell? ⟨B, 4, none⟩ = some a4 ∧ w.cell? ⟨B, 5, none⟩ = some a5 ∧ w.cell? ⟨B, 6, none⟩ = some a6 ∧ w.cell? ⟨B, 7, none⟩ = some a7 ∧ w.cell? ⟨B, 8, none⟩ = some a8 ∧ w.cell? ⟨B, 9, none⟩ = some a9 :=
 ⟨cellOfBlk h 0, cellOfBlk h 1, cellOfBlk h 2, cellOfBlk h 3, cellOfBlk h 4, cellOfBlk h 5, cellOfBlk h 6, cellOfBlk h 7, cellOfBlk h 8, cellOfBlk h 9⟩
theorem mxWorld (w : World) (cs : Array Value) (T : TypeId) : ∃ w0, w.alloc (.cells cs T) = w0 ∧ Below w.heap.size w w0 ∧ w0.heap.size = w.heap.size + 1 ∧ Blk w0 w.heap.size cs T :=
 ⟨_, rfl, (Below.refl _ _).alloc (Nat.le_refl _) _, by simp, Blk.new _ _ _⟩

/-- two ranges of blocks that do not meet -/
def Off (a b c d : Nat) : Prop := b ≤ c ∨ d ≤ a
/-- .. and each of its parts is the call's own, in ranges of blocks that do not meet -/
structure MchO (w : World) (B hi : Nat) (v : Value) (X : Mch) (A : Option Addr) (c : Nat) (A2 : Option Addr) (d : Nat) (M : Option Addr) (e : Nat) (L : Option Addr) (lc : Nat) (T : Option Addr) (tc : Nat) (hs : List Value) (f0 f1 g0 g1 l0 l1 t0 t1 : Nat) : Prop where
 v : v = .agg (mwords X A c A2 d M e L lc T tc)
 font : FontO w f0 f1 (.agg #[.string X.f.s, .slice A X.f.ws.length c, .slice A2 X.f.cs.length d]) X.f
 mag : OwnMag w g0 g1 (.slice M X.ms.length e) hs X.ms
 line : OwnM w l0 (.slice L X.ln.length lc) X.ln
 lineT : ∀ k, (Value.slice L X.ln.length lc).ownBlock = some k → k < l1
 wait : OwnM w t0 (.slice T X.wt.length tc) X.wt
 waitT : ∀ k, (Value.slice T X.wt.length tc).ownBlock = some k → k < t1
 fg : Off f0 f1 g0 g1
 fl : Off f0 f1 l0 l1
 ft : Off f0 f1 t0 t1
 gl : Off g0 g1 l0 l1
 gt : Off g0 g1 t0 t1
 lt : Off l0 l1 t0 t1
 fi : B ≤ f0 ∧ f1 ≤ hi
 gi : B ≤ g0 ∧ g1 ≤ hi
 li : B ≤ l0 ∧ l1 ≤ hi
 ti : B ≤ t0 ∧ t1 ≤ hi
def MchX (w : World) (B hi : Nat) (v : Value) (X : Mch) : Prop := ∃ A c A2 d M e L lc T tc hs f0 f1 g0 g1 l0 l1 t0 t1, MchO w B hi v X A c A2 d M e L lc T tc hs f0 f1 g0 g1 l0 l1 t0 t1
section
variable {w w' : World} {B hi : Nat} {X : Mch} {v : Value}
theorem MchX.reads (h : MchX w B hi v X) : MchV w B hi v X := by
 obtain ⟨A, c, A2, d, M, e, L, lc, T, tc, hs, f0, f1, g0, g1, l0, l1, t0, t1, h⟩ := h
 have fv := h.font.font
 refine ⟨A, c, A2, d, M, e, L, lc, T, tc, h.v, ?_, h.mag.reads.wide h.gi.1 h.gi.2, (MatsI.cutM h.line h.lineT).wide h.li.1 h.li.2, (MatsI.cutM h.wait h.waitT).wide h.ti.1 h.ti.2, (ownMag_caps h.mag).1, (ownMag_caps h.mag).2, (ownM_caps h.line).1, (ownM_caps h.line).2, (ownM_caps h.wait).1, (ownM_caps h.wait).2⟩
 obtain ⟨A', c', A2', d', hv, h1, h2, rest⟩ := fv
 exact ⟨A', c', A2', d', hv, h1.wide h.fi.1 h.fi.2, h2.wide h.fi.1 h.fi.2, rest⟩
theorem MchX.below (h : MchX w B hi v X) (hb : Below w.heap.size w w') : MchX w' B hi v X := by
 obtain ⟨A, c, A2, d, M, e, L, lc, T, tc, hs, f0, f1, g0, g1, l0, l1, t0, t1, h⟩ := h
 exact ⟨A, c, A2, d, M, e, L, lc, T, tc, hs, f0, f1, g0, g1, l0, l1, t0, t1, ⟨h.v, h.font.below hb, h.mag.below hb, h.line.below hb, h.lineT, h.wait.below hb, h.waitT, h.fg, h.fl, h.ft, h.gl, h.gt, h.lt, h.fi, h.gi, h.li, h.ti⟩⟩
theorem MchX.wide {B' hi' : Nat} (h : MchX w B hi v X) (h1 : B' ≤ B) (h2 : hi ≤ hi') : MchX w B' hi' v X := by
 obtain ⟨A, c, A2, d, M, e, L, lc, T, tc, hs, f0, f1, g0, g1, l0, l1, t0, t1, h⟩ := h
 exact ⟨A, c, A2, d, M, e, L, lc, T, tc, hs, f0, f1, g0, g1, l0, l1, t0, t1, ⟨h.v, h.font, h.mag, h.line, h.lineT, h.wait, h.waitT, h.fg, h.fl, h.ft, h.gl, h.gt, h.lt, ⟨by have := h.fi.1; omega, by have := h.fi.2; omega⟩, ⟨by have := h.gi.1; omega, by have := h.gi.2; omega⟩, ⟨by have := h.li.1; omega, by have := h.li.2; omega⟩, ⟨by have := h.ti.1; omega, by have := h.ti.2; omega⟩⟩⟩
theorem FontO.chg {lo' hi' f0 f1 : Nat} {f : Fnt} (h : FontO w f0 f1 v f) (hc : Chg lo' hi' w w') (hn : Off f0 f1 lo' hi') : FontO w' f0 f1 v f := by
 obtain ⟨A, c, A2, d, mid, hv, h1, hm, h2, hm2, h3, h4, hs⟩ := h
 unfold Off at hn
 have l1 := fun g hg => World.ownsRow.lt h1 g hg
 have l2 := fun g hg => World.ownsRow.lt h2 g hg
 exact ⟨A, c, A2, d, mid, hv, hc.own h1 (fun k hk => by have := l1 k hk; have := hm k hk; omega), hm, hc.own h2 (fun k hk => by have := l2 k hk; have := hm2 k hk; omega), hm2, h3, h4, hs⟩
theorem MchX.chg {lo' hi' : Nat} (h : MchX w B hi v X) (hc : Chg lo' hi' w w') (hn : Off B hi lo' hi') : MchX w' B hi v X := by
 obtain ⟨A, c, A2, d, M, e, L, lc, T, tc, hs, f0, f1, g0, g1, l0, l1, t0, t1, h⟩ := h
 have q1 := h.fi; have q2 := h.gi; have q3 := h.li; have q4 := h.ti
 unfold Off at hn
 refine ⟨A, c, A2, d, M, e, L, lc, T, tc, hs, f0, f1, g0, g1, l0, l1, t0, t1, ⟨h.v, h.font.chg hc (by unfold Off; omega), h.mag.chg hc (by omega), h.line.chg hc (fun k hk => ?_), h.lineT, h.wait.chg hc (fun k hk => ?_), h.waitT, h.fg, h.fl, h.ft, h.gl, h.gt, h.lt, h.fi, h.gi, h.li, h.ti⟩⟩
 ·have := h.line.lt k hk; have := h.lineT k hk; omega
 ·have := h.wait.lt k hk; have := h.waitT k hk; omega
end

/-! what a machine is -/
def bandM (x : Mat) : Bool := x.1 == -1 && x.2 == 0
def setM (f : Fnt) (x : Mat) : Bool := bandM x || matB f x
def itemM (f : Fnt) (x : Mat) : Int := if x.1 < 0 then 0 else f.ws.getD x.1.toNat 0
def itemsM (f : Fnt) (ln : List Mat) : List Int := ln.map (itemM f)
def Mch.m (X : Mch) : Msr := ⟨X.w, X.t, X.k⟩
def machB (X : Mch) : Bool := magB X.f X.ms && (inB X.sp 0 60 && ((decide (X.wt.length ≤ 240) && X.wt.all (matB X.f)) && ((decide (X.ln.length ≤ 120) && X.ln.all (setM X.f)) && goodB X.m (itemsM X.f X.ln))))
end Go.Proofs.YtimhnkpccbcohaaGreatDoor

namespace Go.Proofs.YtimhnkpccbcohaaGreatDoor
open Go.RowKit
set_option linter.unusedVariables false

set_option maxHeartbeats 400000 in
theorem toMeasure_any (W t k : Int) (w : World) :
  Calls Tryz.prog 36 #[.agg #[.int .i64 W, .int .i64 t, .int .i64 k]] w fun e w' => e = .returned (.agg #[.int .i64 W, .int .i64 t, .int .i64 k]) ∧ Below w.heap.size w w' := by
 go_enter Tryz.func36, Tryz.ntmps36
 go_wp2
 refine bodyPost_ret (v := .agg #[.int .i64 W, .int .i64 t, .int .i64 k]) (by simp [results, Tryz.results36, go_sem]) rfl ⟨rfl, ?_⟩
 exact (((Below.refl _ _).alloc (Nat.le_refl _) _).alloc (by simp) _).alloc (by simp <;> omega) _
end Go.Proofs.YtimhnkpccbcohaaGreatDoor

namespace Go.Proofs.YtimhnkpccbcohaaGreatDoor
open Go.RowKit
set_option linter.unusedVariables false

theorem heapSet {w : World} {B i : Nat} {cs : Array Value} {T : TypeId} (h : Blk w B cs T) (u : Value) : Blk (w.setCell ⟨B, i, none⟩ u) B (cs.setIfInBounds i u) T := by
 unfold Blk; exact heap_setCell_same w B i _ _ _ h
theorem Blk.fill {w : World} {B : Nat} {a0 a1 a2 a3 a4 a5 a6 a7 a8 a9 : Value} {T : TypeId} (h : Blk w B #[a0, a1, a2, a3, a4, a5, a6, a7, a8, a9] T) (u0 u1 u2 u3 u4 u5 u6 u7 u8 u9 : Value) :
  Blk (((((((((((w.setCell ⟨B, 0, none⟩ u0).setCell ⟨B, 1, none⟩ u1).setCell ⟨B, 2, none⟩ u2).setCell ⟨B, 3, none⟩ u3).setCell ⟨B, 4, none⟩ u4).setCell ⟨B, 5, none⟩ u5).setCell ⟨B, 6, none⟩ u6).setCell ⟨B, 7, none⟩ u7).setCell ⟨B, 8, none⟩ u8).setCell ⟨B, 9, none⟩ u9)) B #[u0, u1, u2, u3, u4, u5, u6, u7, u8, u9] T := by
 have h0 : Blk (w.setCell ⟨B, 0, none⟩ u0) B #[u0, a1, a2, a3, a4, a5, a6, a7, a8, a9] T := heapSet (i := 0) h u0
 have h1 : Blk ((w.setCell ⟨B, 0, none⟩ u0).setCell ⟨B, 1, none⟩ u1) B #[u0, u1, a2, a3, a4, a5, a6, a7, a8, a9] T := heapSet (i := 1) h0 u1
 have h2 : Blk (((w.setCell ⟨B, 0, none⟩ u0).setCell ⟨B, 1, none⟩ u1).setCell ⟨B, 2, none⟩ u2) B #[u0, u1, u2, a3, a4, a5, a6, a7, a8, a9] T := heapSet (i := 2) h1 u2
 have h3 : Blk ((((w.setCell ⟨B, 0, none⟩ u0).setCell ⟨B, 1, none⟩ u1).setCell ⟨B, 2, none⟩ u2).setCell ⟨B, 3, none⟩ u3) B #[u0, u1, u2, u3, a4, a5, a6, a7, a8, a9] T := heapSet (i := 3) h2 u3
 have h4 : Blk (((((w.setCell ⟨B, 0, none⟩ u0).setCell ⟨B, 1, none⟩ u1).setCell ⟨B, 2, none⟩ u2).setCell ⟨B, 3, none⟩ u3).setCell ⟨B, 4, none⟩ u4) B #[u0, u1, u2, u3, u4, a5, a6, a7, a8, a9] T := heapSet (i := 4) h3 u4
 have h5 : Blk ((((((w.setCell ⟨B, 0, none⟩ u0).setCell ⟨B, 1, none⟩ u1).setCell ⟨B, 2, none⟩ u2).setCell ⟨B, 3, none⟩ u3).setCell ⟨B, 4, none⟩ u4).setCell ⟨B, 5, none⟩ u5) B #[u0, u1, u2, u3, u4, u5, a6, a7, a8, a9] T := heapSet (i := 5) h4 u5
 have h6 : Blk (((((((w.setCell ⟨B, 0, none⟩ u0).setCell ⟨B, 1, none⟩ u1).setCell ⟨B, 2, none⟩ u2).setCell ⟨B, 3, none⟩ u3).setCell ⟨B, 4, none⟩ u4).setCell ⟨B, 5, none⟩ u5).setCell ⟨B, 6, none⟩ u6) B #[u0, u1, u2, u3, u4, u5, u6, a7, a8, a9] T := heapSet (i := 6) h5 u6
 have h7 : Blk ((((((((w.setCell ⟨B, 0, none⟩ u0).setCell ⟨B, 1, none⟩ u1).setCell ⟨B, 2, none⟩ u2).setCell ⟨B, 3, none⟩ u3).setCell ⟨B, 4, none⟩ u4).setCell ⟨B, 5, none⟩ u5).setCell ⟨B, 6, none⟩ u6).setCell ⟨B, 7, none⟩ u7) B #[u0, u1, u2, u3, u4, u5, u6, u7, a8, a9] T := heapSet (i := 7) h6 u7
 have h8 : Blk (((((((((w.setCell ⟨B, 0, none⟩ u0).setCell ⟨B, 1, none⟩ u1).setCell ⟨B, 2, none⟩ u2).setCell ⟨B, 3, none⟩ u3).setCell ⟨B, 4, none⟩ u4).setCell ⟨B, 5, none⟩ u5).setCell ⟨B, 6, none⟩ u6).setCell ⟨B, 7, none⟩ u7).setCell ⟨B, 8, none⟩ u8) B #[u0, u1, u2, u3, u4, u5, u6, u7, u8, a9] T := heapSet (i := 8) h7 u8
 have h9 : Blk ((((((((((w.setCell ⟨B, 0, none⟩ u0).setCell ⟨B, 1, none⟩ u1).setCell ⟨B, 2, none⟩ u2).setCell ⟨B, 3, none⟩ u3).setCell ⟨B, 4, none⟩ u4).setCell ⟨B, 5, none⟩ u5).setCell ⟨B, 6, none⟩ u6).setCell ⟨B, 7, none⟩ u7).setCell ⟨B, 8, none⟩ u8).setCell ⟨B, 9, none⟩ u9) B #[u0, u1, u2, u3, u4, u5, u6, u7, u8, u9] T := heapSet (i := 9) h8 u9
 exact h9
theorem Blk.warm {w : World} {B : Nat} {cs : Array Value} {T : TypeId} (h : Blk w B cs T) (i : Nat) : w.frozen? ⟨B, i, none⟩ = false := by
 unfold Blk at h
 simp [World.frozen?, h]
theorem ownM_set {w : World} {B : Nat} {v : Value} {xs : List Mat} (h : OwnM w B v xs) {a : Addr} (ha : a.block < B) (u : Value) : OwnM (w.setCell a u) B v xs := ownsRow_setCell_below h ha u
theorem FontO.names {w : World} {B hi : Nat} {v : Value} {f : Fnt} (h : FontO w B hi v f) : ∃ s A n c A2 m d, v = .agg #[.string s, .slice A n c, .slice A2 m d] := by
 obtain ⟨A, c, A2, d, mid, hv, -⟩ := h
 exact ⟨_, A, _, c, A2, _, d, hv⟩
/-- one value stored in a block below all that a font holds -/
theorem FontO.setB {w : World} {B hi b o : Nat} {v : Value} {f : Fnt} (h : FontO w B hi v f) (hb : b < B) (u : Value) : FontO (w.setCell ⟨b, o, none⟩ u) B hi v f := by
 obtain ⟨A, c, A2, d, mid, hv, h1, hm, h2, hm2, h3, h4, hs⟩ := h
 exact ⟨A, c, A2, d, mid, hv, own_set h1 hb u, hm, own_set h2 (by show b < mid; omega) u, hm2, h3, h4, hs⟩
theorem OwnMag.setB {w : World} {B hi b o : Nat} {v : Value} {hs : List Value} {ms : List (List Mat)} (h : OwnMag w B hi v hs ms) (hb : b < B) (u : Value) : OwnMag (w.setCell ⟨b, o, none⟩ u) B hi v hs ms where
 outer := ownsRow_setCell_below h.outer (by show b < B; exact hb) u
 rows := fun j xs hx => by obtain ⟨hj, e, ho⟩ := h.rows j xs hx; exact ⟨hj, e, ownM_set ho (by show b < B; exact hb) u⟩
 apart := h.apart
 other := h.other
 top := h.top
theorem MchX.build {w : World} {B hi : Nat} {X : Mch} {s : ByteArray} {A A2 M L T : Option Addr} {n c m d q e l lc r tc : Nat} {hs : List Value} {f0 f1 g0 g1 l0 l1 t0 t1 : Nat}
  (h1 : FontO w f0 f1 (.agg #[.string s, .slice A n c, .slice A2 m d]) X.f) (h2 : OwnMag w g0 g1 (.slice M q e) hs X.ms)
  (h3 : OwnM w l0 (.slice L l lc) X.ln) (h3t : ∀ k, (Value.slice L l lc).ownBlock = some k → k < l1) (h4 : OwnM w t0 (.slice T r tc) X.wt) (h4t : ∀ k, (Value.slice T r tc).ownBlock = some k → k < t1)
  (o1 : Off f0 f1 g0 g1) (o2 : Off f0 f1 l0 l1) (o3 : Off f0 f1 t0 t1) (o4 : Off g0 g1 l0 l1) (o5 : Off g0 g1 t0 t1) (o6 : Off l0 l1 t0 t1)
  (i1 : B ≤ f0 ∧ f1 ≤ hi) (i2 : B ≤ g0 ∧ g1 ≤ hi) (i3 : B ≤ l0 ∧ l1 ≤ hi) (i4 : B ≤ t0 ∧ t1 ≤ hi) :
  MchX w B hi (.agg #[.string s, .slice A n c, .slice A2 m d, .slice M q e, .int .i64 X.sp, .int .i64 X.w, .int .i64 X.t, .int .i64 X.k, .slice L l lc, .slice T r tc]) X := by
 have h1' := h1
 obtain ⟨A', c', A2', d', mid, hv, -⟩ := h1'
 injection hv with hv
 injection hv with hv
 simp only [List.cons.injEq, Value.string.injEq, Value.slice.injEq] at hv
 obtain ⟨rfl, ⟨rfl, rfl, rfl⟩, ⟨rfl, rfl, rfl⟩, -⟩ := hv
 obtain ⟨M', e', hv2, -⟩ := h2.form
 simp only [Value.slice.injEq] at hv2
 obtain ⟨rfl, rfl, rfl⟩ := hv2
 obtain ⟨L', e2', hv3, -⟩ := h3.form
 simp only [Value.slice.injEq] at hv3
 obtain ⟨rfl, rfl, rfl⟩ := hv3
 obtain ⟨T', e3', hv4, -⟩ := h4.form
 simp only [Value.slice.injEq] at hv4
 obtain ⟨rfl, rfl, rfl⟩ := hv4
 exact ⟨A, c, A2, d, M, e, L, lc, T, tc, hs, f0, f1, g0, g1, l0, l1, t0, t1, ⟨rfl, h1, h2, h3, h3t, h4, h4t, o1, o2, o3, o4, o5, o6, i1, i2, i3, i4⟩⟩

set_option maxRecDepth 100000 in
set_option maxHeartbeats 3200000 in
theorem toMachine_any (lo hi : Nat) (v : Value) (X : Mch) (w : World) (h : MchV w lo hi v X) (hhi : hi ≤ w.heap.size) (hs : SmallX X) :
  Calls Tryz.prog 9 #[v] w fun e w' => ∃ v', e = .returned v' ∧ MchX w' w.heap.size w'.heap.size v' X ∧ Below w.heap.size w w' := by
 obtain ⟨s, A, n, c, A2, m, d, M, q, e0, L, l, lc, T, r, tc, rfl, hf, hq, hM, hqe, hem, hl, hL, hllc, hlm, hr, hT, hrt, htm⟩ := h.parts
 have Hq := Lib.hid hq; have Hl := Lib.hid hl; have Hr := Lib.hid hr; have HS := Lib.hid hs
 have hq1 : q ≤ 1048576 := by rw [← hq]; exact hs.ms
 have hl1 : l ≤ 1048576 := by rw [← hl]; exact hs.ln
 have hr1 : r ≤ 1048576 := by rw [← hr]; exact hs.wt
 obtain ⟨sp, hsp⟩ : ∃ x, X.sp = x := ⟨_, rfl⟩
 obtain ⟨W, hW⟩ : ∃ x, X.w = x := ⟨_, rfl⟩
 obtain ⟨t, ht⟩ : ∃ x, X.t = x := ⟨_, rfl⟩
 obtain ⟨k, hk⟩ : ∃ x, X.k = x := ⟨_, rfl⟩
 rw [hsp, hW, ht, hk] at h ⊢
 have HE : Hid (X.sp = sp ∧ X.w = W ∧ X.t = t ∧ X.k = k) := ⟨hsp, hW, ht, hk⟩
 obtain ⟨wA, hA, hbA, hzA, KA⟩ := mxWorld w #[.string s, .slice A n c, .slice A2 m d, .slice M q e0, .int .i64 sp, .int .i64 W, .int .i64 t, .int .i64 k, .slice L l lc, .slice T r tc] 30
 obtain ⟨wB, hB, hbB, hzB, RB⟩ := mxWorld wA #[.string ⟨#[]⟩, .slice none 0 0, .slice none 0 0, .slice none 0 0, .int .i64 0, .int .i64 0, .int .i64 0, .int .i64 0, .slice none 0 0, .slice none 0 0] 37
 obtain ⟨wC, hC, hbC, hzC, OC⟩ := mxWorld wB #[.string ⟨#[]⟩, .slice none 0 0, .slice none 0 0, .slice none 0 0, .int .i64 0, .int .i64 0, .int .i64 0, .int .i64 0, .slice none 0 0, .slice none 0 0] 37
 rw [hzA] at RB
 rw [hzB, hzA] at OC
 have K0 := Lib.hid ((KA.below hbB (by omega)).below hbC (by omega))
 have R0 := Lib.hid (RB.below hbC (by omega))
 have O0 := Lib.hid OC
 have hb0 : Below w.heap.size w wC := (hbA.trans (hbB.mono (by omega))).trans (hbC.mono (by omega))
 have T0 := Lib.hid hb0
 have F0 := Lib.hid (hf.below hhi hb0); have M0 := Lib.hid (hM.below hhi hb0); have L0 := Lib.hid (hL.below hhi hb0); have W0 := Lib.hid (hT.below hhi hb0)
 have Z0 : Hid (wC.heap.size = w.heap.size + 3) := by show _ = _; omega
 subst hA hB hC
 clear h hf hq hM hqe hem hl hL hllc hlm hr hT hrt htm hsp hW ht hk hbA hbB hbC hb0 hzA hzB hzC KA RB OC hs
 go_enter Tryz.func9, Tryz.ntmps9
 go_wp2_with fail
 have zz := Z0.out
 refine (toFont_any lo hi _ X.f _ F0.out (by omega) HS.out.f).mono ?_
 rintro e w1 ⟨v1, rfl, hO1, hb⟩
 obtain ⟨s1, A1, n1, c1, B1, m1, d1, rfl⟩ := hO1.names
 have K1 := Lib.hid (K0.out.below hb (by omega)); have R1 := Lib.hid (R0.out.below hb (by omega)); have O1 := Lib.hid (O0.out.below hb (by omega)); have T1 := Lib.hid (T0.out.trans (hb.mono (by omega)))
 have M1 := Lib.hid (M0.out.below (by omega) hb); have L1 := Lib.hid (L0.out.below (by omega) hb); have W1 := Lib.hid (W0.out.below (by omega) hb)
 have z1 : w.heap.size + 3 ≤ w1.heap.size := by have := hb.size; omega
 rw [zz] at hO1
 have P1 := Lib.hid hO1
 clear hO1 hb zz Z0 K0 R0 O0 T0 M0 L0 W0 F0
 obtain ⟨kc0, kc1, kc2, kc3, kc4, kc5, kc6, kc7, kc8, kc9⟩ := K1.out.ten
 obtain ⟨oc0, oc1, oc2, oc3, oc4, oc5, oc6, oc7, oc8, oc9⟩ := O1.out.ten
 have fz := O1.out.warm
 go_wp2_with fail
 obtain ⟨x1, hx⟩ : ∃ x, (((w1.setCell ⟨w.heap.size + 1 + 1, 0, none⟩ (.string s1)).setCell ⟨w.heap.size + 1 + 1, 1, none⟩ (.slice A1 n1 c1)).setCell ⟨w.heap.size + 1 + 1, 2, none⟩ (.slice B1 m1 d1)) = x := ⟨_, rfl⟩
 have ox : Blk x1 (w.heap.size + 1 + 1) #[.string s1, .slice A1 n1 c1, .slice B1 m1 d1, .slice none 0 0, .int .i64 0, .int .i64 0, .int .i64 0, .int .i64 0, .slice none 0 0, .slice none 0 0] 37 := by rw [← hx]; exact (heapSet (i := 2) (heapSet (i := 1) (heapSet (i := 0) O1.out _) _) _)
 have kx := (((K1.out.other ⟨w.heap.size + 1 + 1, 0, none⟩ (.string s1) (by show w.heap.size ≠ w.heap.size + 1 + 1; omega)).other ⟨w.heap.size + 1 + 1, 1, none⟩ (.slice A1 n1 c1) (by show w.heap.size ≠ w.heap.size + 1 + 1; omega)).other ⟨w.heap.size + 1 + 1, 2, none⟩ (.slice B1 m1 d1) (by show w.heap.size ≠ w.heap.size + 1 + 1; omega))
 have rx := (((R1.out.other ⟨w.heap.size + 1 + 1, 0, none⟩ (.string s1) (by show w.heap.size + 1 ≠ w.heap.size + 1 + 1; omega)).other ⟨w.heap.size + 1 + 1, 1, none⟩ (.slice A1 n1 c1) (by show w.heap.size + 1 ≠ w.heap.size + 1 + 1; omega)).other ⟨w.heap.size + 1 + 1, 2, none⟩ (.slice B1 m1 d1) (by show w.heap.size + 1 ≠ w.heap.size + 1 + 1; omega))
 have bx : Below w.heap.size w1 x1 := by rw [← hx]; exact ((((Below.refl _ _).setCell (show w.heap.size ≤ (⟨w.heap.size + 1 + 1, 0, none⟩ : Addr).block by show w.heap.size ≤ w.heap.size + 1 + 1; omega) _).setCell (show w.heap.size ≤ (⟨w.heap.size + 1 + 1, 1, none⟩ : Addr).block by show w.heap.size ≤ w.heap.size + 1 + 1; omega) _).setCell (show w.heap.size ≤ (⟨w.heap.size + 1 + 1, 2, none⟩ : Addr).block by show w.heap.size ≤ w.heap.size + 1 + 1; omega) _)
 have zx : x1.heap.size = w1.heap.size := by rw [← hx]; simp
 rw [hx] at kx rx ⊢
 have Mx := M1.out.below hhi bx
 have Lx := L1.out.below hhi bx
 have Wx := W1.out.below hhi bx
 have Px := (((P1.out.setB (b := w.heap.size + 1 + 1) (o := 0) (by omega) (.string s1)).setB (b := w.heap.size + 1 + 1) (o := 1) (by omega) (.slice A1 n1 c1)).setB (b := w.heap.size + 1 + 1) (o := 2) (by omega) (.slice B1 m1 d1))
 rw [hx] at Px
 refine (toMatrixSS_any lo hi _ _ _ X.ms x1 Hq.out hq1 HS.out.row (by omega) Mx).mono ?_
 rintro e w2 ⟨v2, hs2, rfl, hO2, hb⟩
 obtain ⟨M2, e2, hv2, -⟩ := hO2.form
 rw [Hq.out] at hv2
 subst hv2
 rw [zx] at hO2
 have zq : x1.heap.size ≤ w2.heap.size := hb.size
 have K2 := Lib.hid (kx.below hb (by omega)); have R2 := Lib.hid (rx.below hb (by omega)); have O2 := Lib.hid (ox.below hb (by omega)); have T2 := Lib.hid ((T1.out.trans bx).trans (hb.mono (by omega)))
 have L2 := Lib.hid (Lx.below (by omega) hb)
 have W2 := Lib.hid (Wx.below (by omega) hb)
 have P2 := Lib.hid (Px.below hb)
 have z2 : w1.heap.size ≤ w2.heap.size := by omega
 have G2 := Lib.hid (hO2)
 clear hO2 Mx M1 zx hb hx ox kx rx bx zq Lx Wx Px K1 R1 O1 T1 L1 W1 P1 kc0 kc1 kc2 kc3 kc4 kc5 kc6 kc7 kc8 kc9 oc0 oc1 oc2 oc3 oc4 oc5 oc6 oc7 oc8 oc9 fz
 obtain ⟨kc0, kc1, kc2, kc3, kc4, kc5, kc6, kc7, kc8, kc9⟩ := K2.out.ten
 obtain ⟨oc0, oc1, oc2, oc3, oc4, oc5, oc6, oc7, oc8, oc9⟩ := O2.out.ten
 have fz := O2.out.warm
 go_wp2_with fail
 obtain ⟨x2, hx⟩ : ∃ x, ((w2.setCell ⟨w.heap.size + 1 + 1, 3, none⟩ (.slice M2 q e2)).setCell ⟨w.heap.size + 1 + 1, 4, none⟩ (.int .i64 sp)) = x := ⟨_, rfl⟩
 have ox : Blk x2 (w.heap.size + 1 + 1) #[.string s1, .slice A1 n1 c1, .slice B1 m1 d1, .slice M2 q e2, .int .i64 sp, .int .i64 0, .int .i64 0, .int .i64 0, .slice none 0 0, .slice none 0 0] 37 := by rw [← hx]; exact (heapSet (i := 4) (heapSet (i := 3) O2.out _) _)
 have kx := ((K2.out.other ⟨w.heap.size + 1 + 1, 3, none⟩ (.slice M2 q e2) (by show w.heap.size ≠ w.heap.size + 1 + 1; omega)).other ⟨w.heap.size + 1 + 1, 4, none⟩ (.int .i64 sp) (by show w.heap.size ≠ w.heap.size + 1 + 1; omega))
 have rx := ((R2.out.other ⟨w.heap.size + 1 + 1, 3, none⟩ (.slice M2 q e2) (by show w.heap.size + 1 ≠ w.heap.size + 1 + 1; omega)).other ⟨w.heap.size + 1 + 1, 4, none⟩ (.int .i64 sp) (by show w.heap.size + 1 ≠ w.heap.size + 1 + 1; omega))
 have bx : Below w.heap.size w2 x2 := by rw [← hx]; exact (((Below.refl _ _).setCell (show w.heap.size ≤ (⟨w.heap.size + 1 + 1, 3, none⟩ : Addr).block by show w.heap.size ≤ w.heap.size + 1 + 1; omega) _).setCell (show w.heap.size ≤ (⟨w.heap.size + 1 + 1, 4, none⟩ : Addr).block by show w.heap.size ≤ w.heap.size + 1 + 1; omega) _)
 have zx : x2.heap.size = w2.heap.size := by rw [← hx]; simp
 rw [hx] at kx rx ⊢
 have Lx := L2.out.below hhi bx
 have Wx := W2.out.below hhi bx
 have Px := ((P2.out.setB (b := w.heap.size + 1 + 1) (o := 3) (by omega) (.slice M2 q e2)).setB (b := w.heap.size + 1 + 1) (o := 4) (by omega) (.int .i64 sp))
 rw [hx] at Px
 have Gx := ((G2.out.setB (b := w.heap.size + 1 + 1) (o := 3) (by omega) (.slice M2 q e2)).setB (b := w.heap.size + 1 + 1) (o := 4) (by omega) (.int .i64 sp))
 rw [hx] at Gx
 refine (toMeasure_any W t k x2).mono ?_
 rintro e w3 ⟨rfl, hb⟩
 have zq : x2.heap.size ≤ w3.heap.size := hb.size
 have K3 := Lib.hid (kx.below hb (by omega)); have R3 := Lib.hid (rx.below hb (by omega)); have O3 := Lib.hid (ox.below hb (by omega)); have T3 := Lib.hid ((T2.out.trans bx).trans (hb.mono (by omega)))
 have L3 := Lib.hid (Lx.below (by omega) hb)
 have W3 := Lib.hid (Wx.below (by omega) hb)
 have P3 := Lib.hid (Px.below hb)
 have G3 := Lib.hid (Gx.below hb)
 have z3 : w2.heap.size ≤ w3.heap.size := by omega
 clear zx hb hx ox kx rx bx zq Lx Wx Px Gx K2 R2 O2 T2 L2 W2 P2 G2 kc0 kc1 kc2 kc3 kc4 kc5 kc6 kc7 kc8 kc9 oc0 oc1 oc2 oc3 oc4 oc5 oc6 oc7 oc8 oc9 fz
 obtain ⟨kc0, kc1, kc2, kc3, kc4, kc5, kc6, kc7, kc8, kc9⟩ := K3.out.ten
 obtain ⟨oc0, oc1, oc2, oc3, oc4, oc5, oc6, oc7, oc8, oc9⟩ := O3.out.ten
 have fz := O3.out.warm
 go_wp2_with fail
 obtain ⟨x3, hx⟩ : ∃ x, (((w3.setCell ⟨w.heap.size + 1 + 1, 5, none⟩ (.int .i64 W)).setCell ⟨w.heap.size + 1 + 1, 6, none⟩ (.int .i64 t)).setCell ⟨w.heap.size + 1 + 1, 7, none⟩ (.int .i64 k)) = x := ⟨_, rfl⟩
 have ox : Blk x3 (w.heap.size + 1 + 1) #[.string s1, .slice A1 n1 c1, .slice B1 m1 d1, .slice M2 q e2, .int .i64 sp, .int .i64 W, .int .i64 t, .int .i64 k, .slice none 0 0, .slice none 0 0] 37 := by rw [← hx]; exact (heapSet (i := 7) (heapSet (i := 6) (heapSet (i := 5) O3.out _) _) _)
 have kx := (((K3.out.other ⟨w.heap.size + 1 + 1, 5, none⟩ (.int .i64 W) (by show w.heap.size ≠ w.heap.size + 1 + 1; omega)).other ⟨w.heap.size + 1 + 1, 6, none⟩ (.int .i64 t) (by show w.heap.size ≠ w.heap.size + 1 + 1; omega)).other ⟨w.heap.size + 1 + 1, 7, none⟩ (.int .i64 k) (by show w.heap.size ≠ w.heap.size + 1 + 1; omega))
 have rx := (((R3.out.other ⟨w.heap.size + 1 + 1, 5, none⟩ (.int .i64 W) (by show w.heap.size + 1 ≠ w.heap.size + 1 + 1; omega)).other ⟨w.heap.size + 1 + 1, 6, none⟩ (.int .i64 t) (by show w.heap.size + 1 ≠ w.heap.size + 1 + 1; omega)).other ⟨w.heap.size + 1 + 1, 7, none⟩ (.int .i64 k) (by show w.heap.size + 1 ≠ w.heap.size + 1 + 1; omega))
 have bx : Below w.heap.size w3 x3 := by rw [← hx]; exact ((((Below.refl _ _).setCell (show w.heap.size ≤ (⟨w.heap.size + 1 + 1, 5, none⟩ : Addr).block by show w.heap.size ≤ w.heap.size + 1 + 1; omega) _).setCell (show w.heap.size ≤ (⟨w.heap.size + 1 + 1, 6, none⟩ : Addr).block by show w.heap.size ≤ w.heap.size + 1 + 1; omega) _).setCell (show w.heap.size ≤ (⟨w.heap.size + 1 + 1, 7, none⟩ : Addr).block by show w.heap.size ≤ w.heap.size + 1 + 1; omega) _)
 have zx : x3.heap.size = w3.heap.size := by rw [← hx]; simp
 rw [hx] at kx rx ⊢
 have Lx := L3.out.below hhi bx
 have Wx := W3.out.below hhi bx
 have Px := (((P3.out.setB (b := w.heap.size + 1 + 1) (o := 5) (by omega) (.int .i64 W)).setB (b := w.heap.size + 1 + 1) (o := 6) (by omega) (.int .i64 t)).setB (b := w.heap.size + 1 + 1) (o := 7) (by omega) (.int .i64 k))
 rw [hx] at Px
 have Gx := (((G3.out.setB (b := w.heap.size + 1 + 1) (o := 5) (by omega) (.int .i64 W)).setB (b := w.heap.size + 1 + 1) (o := 6) (by omega) (.int .i64 t)).setB (b := w.heap.size + 1 + 1) (o := 7) (by omega) (.int .i64 k))
 rw [hx] at Gx
 refine (toMatrixS_any lo hi _ _ _ X.ln x3 Hl.out hl1 (by omega) Lx).mono ?_
 rintro e w4 ⟨v4, rfl, hO4, hb⟩
 obtain ⟨L2, f2, hv4, -⟩ := hO4.form
 rw [Hl.out] at hv4
 subst hv4
 have Qt := Lib.hid (fun k hk => (hO4.lt k hk).2)
 rw [zx] at hO4
 have zq : x3.heap.size ≤ w4.heap.size := hb.size
 have K4 := Lib.hid (kx.below hb (by omega)); have R4 := Lib.hid (rx.below hb (by omega)); have O4 := Lib.hid (ox.below hb (by omega)); have T4 := Lib.hid ((T3.out.trans bx).trans (hb.mono (by omega)))
 have W4 := Lib.hid (Wx.below (by omega) hb)
 have P4 := Lib.hid (Px.below hb)
 have G4 := Lib.hid (Gx.below hb)
 have z4 : w3.heap.size ≤ w4.heap.size := by omega
 have Q4 := Lib.hid (hO4)
 clear hO4 Lx L3 zx hb hx ox kx rx bx zq Wx Px Gx K3 R3 O3 T3 W3 P3 G3 kc0 kc1 kc2 kc3 kc4 kc5 kc6 kc7 kc8 kc9 oc0 oc1 oc2 oc3 oc4 oc5 oc6 oc7 oc8 oc9 fz
 obtain ⟨kc0, kc1, kc2, kc3, kc4, kc5, kc6, kc7, kc8, kc9⟩ := K4.out.ten
 obtain ⟨oc0, oc1, oc2, oc3, oc4, oc5, oc6, oc7, oc8, oc9⟩ := O4.out.ten
 have fz := O4.out.warm
 go_wp2_with fail
 obtain ⟨x4, hx⟩ : ∃ x, (w4.setCell ⟨w.heap.size + 1 + 1, 8, none⟩ (.slice L2 l f2)) = x := ⟨_, rfl⟩
 have ox : Blk x4 (w.heap.size + 1 + 1) #[.string s1, .slice A1 n1 c1, .slice B1 m1 d1, .slice M2 q e2, .int .i64 sp, .int .i64 W, .int .i64 t, .int .i64 k, .slice L2 l f2, .slice none 0 0] 37 := by rw [← hx]; exact (heapSet (i := 8) O4.out _)
 have kx := (K4.out.other ⟨w.heap.size + 1 + 1, 8, none⟩ (.slice L2 l f2) (by show w.heap.size ≠ w.heap.size + 1 + 1; omega))
 have rx := (R4.out.other ⟨w.heap.size + 1 + 1, 8, none⟩ (.slice L2 l f2) (by show w.heap.size + 1 ≠ w.heap.size + 1 + 1; omega))
 have bx : Below w.heap.size w4 x4 := by rw [← hx]; exact ((Below.refl _ _).setCell (show w.heap.size ≤ (⟨w.heap.size + 1 + 1, 8, none⟩ : Addr).block by show w.heap.size ≤ w.heap.size + 1 + 1; omega) _)
 have zx : x4.heap.size = w4.heap.size := by rw [← hx]; simp
 rw [hx] at kx rx ⊢
 have Wx := W4.out.below hhi bx
 have Px := (P4.out.setB (b := w.heap.size + 1 + 1) (o := 8) (by omega) (.slice L2 l f2))
 rw [hx] at Px
 have Gx := (G4.out.setB (b := w.heap.size + 1 + 1) (o := 8) (by omega) (.slice L2 l f2))
 rw [hx] at Gx
 have Qx := (ownM_set (a := ⟨w.heap.size + 1 + 1, 8, none⟩) Q4.out (by show w.heap.size + 1 + 1 < _; omega) (.slice L2 l f2))
 rw [hx] at Qx
 refine (toMatrixS_any lo hi _ _ _ X.wt x4 Hr.out hr1 (by omega) Wx).mono ?_
 rintro e w5 ⟨v5, rfl, hO5, hb⟩
 obtain ⟨T2, h2, hv5, -⟩ := hO5.form
 rw [Hr.out] at hv5
 subst hv5
 have Ut := Lib.hid (fun k hk => (hO5.lt k hk).2)
 rw [zx] at hO5
 have zq : x4.heap.size ≤ w5.heap.size := hb.size
 have K5 := Lib.hid (kx.below hb (by omega)); have R5 := Lib.hid (rx.below hb (by omega)); have O5 := Lib.hid (ox.below hb (by omega)); have T5 := Lib.hid ((T4.out.trans bx).trans (hb.mono (by omega)))
 have P5 := Lib.hid (Px.below hb)
 have G5 := Lib.hid (Gx.below hb)
 have Q5 := Lib.hid (Qx.below hb)
 have z5 : w4.heap.size ≤ w5.heap.size := by omega
 have U5 := Lib.hid (hO5)
 clear hO5 Wx W4 zx hb hx ox kx rx bx zq Px Gx Qx K4 R4 O4 T4 P4 G4 Q4 kc0 kc1 kc2 kc3 kc4 kc5 kc6 kc7 kc8 kc9 oc0 oc1 oc2 oc3 oc4 oc5 oc6 oc7 oc8 oc9 fz
 obtain ⟨kc0, kc1, kc2, kc3, kc4, kc5, kc6, kc7, kc8, kc9⟩ := K5.out.ten
 obtain ⟨oc0, oc1, oc2, oc3, oc4, oc5, oc6, oc7, oc8, oc9⟩ := O5.out.ten
 have fz := O5.out.warm
 obtain ⟨rc0, rc1, rc2, rc3, rc4, rc5, rc6, rc7, rc8, rc9⟩ := R5.out.ten
 have fr := R5.out.warm
 go_wp2_with fail
 obtain ⟨x5, hx⟩ : ∃ x, (((((((((((w5.setCell ⟨w.heap.size + 1 + 1, 9, none⟩ (.slice T2 r h2)).setCell ⟨w.heap.size + 1, 0, none⟩ (.string s1)).setCell ⟨w.heap.size + 1, 1, none⟩ (.slice A1 n1 c1)).setCell ⟨w.heap.size + 1, 2, none⟩ (.slice B1 m1 d1)).setCell ⟨w.heap.size + 1, 3, none⟩ (.slice M2 q e2)).setCell ⟨w.heap.size + 1, 4, none⟩ (.int .i64 sp)).setCell ⟨w.heap.size + 1, 5, none⟩ (.int .i64 W)).setCell ⟨w.heap.size + 1, 6, none⟩ (.int .i64 t)).setCell ⟨w.heap.size + 1, 7, none⟩ (.int .i64 k)).setCell ⟨w.heap.size + 1, 8, none⟩ (.slice L2 l f2)).setCell ⟨w.heap.size + 1, 9, none⟩ (.slice T2 r h2)) = x := ⟨_, rfl⟩
 have rx : Blk x5 (w.heap.size + 1) #[.string s1, .slice A1 n1 c1, .slice B1 m1 d1, .slice M2 q e2, .int .i64 sp, .int .i64 W, .int .i64 t, .int .i64 k, .slice L2 l f2, .slice T2 r h2] 37 := by rw [← hx]; exact Blk.fill (R5.out.other ⟨w.heap.size + 1 + 1, 9, none⟩ (.slice T2 r h2) (by show w.heap.size + 1 ≠ w.heap.size + 1 + 1; omega)) (.string s1) (.slice A1 n1 c1) (.slice B1 m1 d1) (.slice M2 q e2) (.int .i64 sp) (.int .i64 W) (.int .i64 t) (.int .i64 k) (.slice L2 l f2) (.slice T2 r h2)
 have bx : Below w.heap.size w5 x5 := by rw [← hx]; exact ((((((((((((Below.refl _ _).setCell (show w.heap.size ≤ (⟨w.heap.size + 1 + 1, 9, none⟩ : Addr).block by show w.heap.size ≤ w.heap.size + 1 + 1; omega) (.slice T2 r h2)).setCell (show w.heap.size ≤ (⟨w.heap.size + 1, 0, none⟩ : Addr).block by show w.heap.size ≤ w.heap.size + 1; omega) (.string s1)).setCell (show w.heap.size ≤ (⟨w.heap.size + 1, 1, none⟩ : Addr).block by show w.heap.size ≤ w.heap.size + 1; omega) (.slice A1 n1 c1)).setCell (show w.heap.size ≤ (⟨w.heap.size + 1, 2, none⟩ : Addr).block by show w.heap.size ≤ w.heap.size + 1; omega) (.slice B1 m1 d1)).setCell (show w.heap.size ≤ (⟨w.heap.size + 1, 3, none⟩ : Addr).block by show w.heap.size ≤ w.heap.size + 1; omega) (.slice M2 q e2)).setCell (show w.heap.size ≤ (⟨w.heap.size + 1, 4, none⟩ : Addr).block by show w.heap.size ≤ w.heap.size + 1; omega) (.int .i64 sp)).setCell (show w.heap.size ≤ (⟨w.heap.size + 1, 5, none⟩ : Addr).block by show w.heap.size ≤ w.heap.size + 1; omega) (.int .i64 W)).setCell (show w.heap.size ≤ (⟨w.heap.size + 1, 6, none⟩ : Addr).block by show w.heap.size ≤ w.heap.size + 1; omega) (.int .i64 t)).setCell (show w.heap.size ≤ (⟨w.heap.size + 1, 7, none⟩ : Addr).block by show w.heap.size ≤ w.heap.size + 1; omega) (.int .i64 k)).setCell (show w.heap.size ≤ (⟨w.heap.size + 1, 8, none⟩ : Addr).block by show w.heap.size ≤ w.heap.size + 1; omega) (.slice L2 l f2)).setCell (show w.heap.size ≤ (⟨w.heap.size + 1, 9, none⟩ : Addr).block by show w.heap.size ≤ w.heap.size + 1; omega) (.slice T2 r h2))
 have zx : x5.heap.size = w5.heap.size := by rw [← hx]; simp
 have Px := (((((((((((P5.out.setB (b := w.heap.size + 1 + 1) (o := 9) (by omega) (.slice T2 r h2)).setB (b := w.heap.size + 1) (o := 0) (by omega) (.string s1)).setB (b := w.heap.size + 1) (o := 1) (by omega) (.slice A1 n1 c1)).setB (b := w.heap.size + 1) (o := 2) (by omega) (.slice B1 m1 d1)).setB (b := w.heap.size + 1) (o := 3) (by omega) (.slice M2 q e2)).setB (b := w.heap.size + 1) (o := 4) (by omega) (.int .i64 sp)).setB (b := w.heap.size + 1) (o := 5) (by omega) (.int .i64 W)).setB (b := w.heap.size + 1) (o := 6) (by omega) (.int .i64 t)).setB (b := w.heap.size + 1) (o := 7) (by omega) (.int .i64 k)).setB (b := w.heap.size + 1) (o := 8) (by omega) (.slice L2 l f2)).setB (b := w.heap.size + 1) (o := 9) (by omega) (.slice T2 r h2))
 have Gx := (((((((((((G5.out.setB (b := w.heap.size + 1 + 1) (o := 9) (by omega) (.slice T2 r h2)).setB (b := w.heap.size + 1) (o := 0) (by omega) (.string s1)).setB (b := w.heap.size + 1) (o := 1) (by omega) (.slice A1 n1 c1)).setB (b := w.heap.size + 1) (o := 2) (by omega) (.slice B1 m1 d1)).setB (b := w.heap.size + 1) (o := 3) (by omega) (.slice M2 q e2)).setB (b := w.heap.size + 1) (o := 4) (by omega) (.int .i64 sp)).setB (b := w.heap.size + 1) (o := 5) (by omega) (.int .i64 W)).setB (b := w.heap.size + 1) (o := 6) (by omega) (.int .i64 t)).setB (b := w.heap.size + 1) (o := 7) (by omega) (.int .i64 k)).setB (b := w.heap.size + 1) (o := 8) (by omega) (.slice L2 l f2)).setB (b := w.heap.size + 1) (o := 9) (by omega) (.slice T2 r h2))
 have Qx := (ownM_set (a := ⟨w.heap.size + 1, 9, none⟩) (ownM_set (a := ⟨w.heap.size + 1, 8, none⟩) (ownM_set (a := ⟨w.heap.size + 1, 7, none⟩) (ownM_set (a := ⟨w.heap.size + 1, 6, none⟩) (ownM_set (a := ⟨w.heap.size + 1, 5, none⟩) (ownM_set (a := ⟨w.heap.size + 1, 4, none⟩) (ownM_set (a := ⟨w.heap.size + 1, 3, none⟩) (ownM_set (a := ⟨w.heap.size + 1, 2, none⟩) (ownM_set (a := ⟨w.heap.size + 1, 1, none⟩) (ownM_set (a := ⟨w.heap.size + 1, 0, none⟩) (ownM_set (a := ⟨w.heap.size + 1 + 1, 9, none⟩) Q5.out (by show w.heap.size + 1 + 1 < _; omega) (.slice T2 r h2)) (by show w.heap.size + 1 < _; omega) (.string s1)) (by show w.heap.size + 1 < _; omega) (.slice A1 n1 c1)) (by show w.heap.size + 1 < _; omega) (.slice B1 m1 d1)) (by show w.heap.size + 1 < _; omega) (.slice M2 q e2)) (by show w.heap.size + 1 < _; omega) (.int .i64 sp)) (by show w.heap.size + 1 < _; omega) (.int .i64 W)) (by show w.heap.size + 1 < _; omega) (.int .i64 t)) (by show w.heap.size + 1 < _; omega) (.int .i64 k)) (by show w.heap.size + 1 < _; omega) (.slice L2 l f2)) (by show w.heap.size + 1 < _; omega) (.slice T2 r h2))
 have Ux := (ownM_set (a := ⟨w.heap.size + 1, 9, none⟩) (ownM_set (a := ⟨w.heap.size + 1, 8, none⟩) (ownM_set (a := ⟨w.heap.size + 1, 7, none⟩) (ownM_set (a := ⟨w.heap.size + 1, 6, none⟩) (ownM_set (a := ⟨w.heap.size + 1, 5, none⟩) (ownM_set (a := ⟨w.heap.size + 1, 4, none⟩) (ownM_set (a := ⟨w.heap.size + 1, 3, none⟩) (ownM_set (a := ⟨w.heap.size + 1, 2, none⟩) (ownM_set (a := ⟨w.heap.size + 1, 1, none⟩) (ownM_set (a := ⟨w.heap.size + 1, 0, none⟩) (ownM_set (a := ⟨w.heap.size + 1 + 1, 9, none⟩) U5.out (by show w.heap.size + 1 + 1 < _; omega) (.slice T2 r h2)) (by show w.heap.size + 1 < _; omega) (.string s1)) (by show w.heap.size + 1 < _; omega) (.slice A1 n1 c1)) (by show w.heap.size + 1 < _; omega) (.slice B1 m1 d1)) (by show w.heap.size + 1 < _; omega) (.slice M2 q e2)) (by show w.heap.size + 1 < _; omega) (.int .i64 sp)) (by show w.heap.size + 1 < _; omega) (.int .i64 W)) (by show w.heap.size + 1 < _; omega) (.int .i64 t)) (by show w.heap.size + 1 < _; omega) (.int .i64 k)) (by show w.heap.size + 1 < _; omega) (.slice L2 l f2)) (by show w.heap.size + 1 < _; omega) (.slice T2 r h2))
 rw [hx] at Px Gx Qx Ux ⊢
 obtain ⟨r0, r1, r2, r3, r4, r5, r6, r7, r8, r9⟩ := rx.ten
 have hX := MchX.build (B := w.heap.size) (hi := x5.heap.size) (l1 := w4.heap.size) (t1 := w5.heap.size) Px Gx Qx Qt.out Ux Ut.out (by unfold Off; omega) (by unfold Off; omega) (by unfold Off; omega) (by unfold Off; omega) (by unfold Off; omega) (by unfold Off; omega) ⟨by omega, by omega⟩ ⟨by omega, by omega⟩ ⟨by omega, by omega⟩ ⟨by omega, by omega⟩
 rw [HE.out.1, HE.out.2.1, HE.out.2.2.1, HE.out.2.2.2] at hX
 refine bodyPost_ret (v := .agg #[.string s1, .slice A1 n1 c1, .slice B1 m1 d1, .slice M2 q e2, .int .i64 sp, .int .i64 W, .int .i64 t, .int .i64 k, .slice L2 l f2, .slice T2 r h2]) (by simp [results, Tryz.results9, go_sem, r0, r1, r2, r3, r4, r5, r6, r7, r8, r9]) rfl ⟨_, rfl, hX, T5.out.trans bx⟩
end Go.Proofs.YtimhnkpccbcohaaGreatDoor

namespace Go.Proofs.YtimhnkpccbcohaaGreatDoor
open Go.RowKit
set_option linter.unusedVariables false

theorem Blk.chg {w w' : World} {lo hi B : Nat} {cs : Array Value} {T : TypeId} (h : Blk w B cs T) (hc : Chg lo hi w w') (hn : ¬ (lo ≤ B ∧ B < hi)) : Blk w' B cs T := (hc.block B h.lt hn).trans h
def mkF (k : Int) (f : Fnt) : Fnt := ⟨f.s, upFrom k f.ws.length, upFrom (k + f.ws.length) f.cs.length⟩
theorem upFrom_length (k : Int) (n : Nat) : (upFrom k n).length = n := by simp [upFrom]
set_option maxRecDepth 100000 in
set_option maxHeartbeats 800000 in
theorem markFontO_any (lo hi : Nat) (v : Value) (f : Fnt) (k : Int) (w : World) (h : FontO w lo hi v f) (hlo : lo ≤ w.heap.size) (hhi : hi ≤ w.heap.size) (hs : Small f) (hk0 : 0 ≤ k) (hk1 : k ≤ 1048576) (hk2 : k + f.ws.length ≤ 1048577) :
  Calls Tryz.prog 46 #[v, .int .i64 k] w fun e w' => e = .returned (.int .i64 (k + f.ws.length + f.cs.length)) ∧ FontO w' lo hi v (mkF k f) ∧ Chg lo hi w w' := by
 obtain ⟨A, c, A2, d, mid, rfl, hO1, hm1, hO2, hm2, h3, h4, hss⟩ := h
 obtain ⟨s, ws, cs⟩ := f
 obtain ⟨hs1, hs2, hs3⟩ := hs
 simp only at *
 obtain ⟨n, hn⟩ : ∃ n, ws.length = n := ⟨_, rfl⟩
 obtain ⟨m, hm⟩ : ∃ m, cs.length = m := ⟨_, rfl⟩
 have Hn := Lib.hid hn; have Hm := Lib.hid hm
 have HF : Hid (mkF k ⟨s, ws, cs⟩ = ⟨s, upFrom k n, upFrom (k + n) m⟩) := by show _ = _; unfold mkF; simp only; rw [hn, hm]
 rw [hn] at hO1 hm1 hs2 hk2
 rw [hm] at hO2 hm2 hs3
 rw [hn, hm, HF.out]
 have hL1 := Lib.hid (fun g hg => World.ownsRow.lt hO1 g hg)
 have hL2 := Lib.hid (fun g hg => World.ownsRow.lt hO2 g hg)
 have hW : Below w.heap.size w (w.alloc (.cells #[.string s, .slice A n c, .slice A2 m d] 32)) := (Below.refl _ _).alloc (Nat.le_refl _) _
 have G1 := Lib.hid (hO1.below hW); have G2 := Lib.hid (hO2.below hW)
 have HW := Lib.hid hW; have M1 := Lib.hid hm1; have M2 := Lib.hid hm2; have HSS := Lib.hid hss
 clear hn hm hO1 hO2 hW hm1 hm2 HF hss
 go_enter Tryz.func46, Tryz.ntmps46
 go_wp2_with fail
 refine (markIntS_any lo _ _ ws _ hk0 (by omega) (by rw [Hn.out]; exact hs2) G1.out).mono ?_
 rintro e w1 ⟨rfl, hP1, hg1⟩
 rw [Hn.out] at hP1
 rw [Hn.out]
 have c1 : Chg lo hi (w.alloc (.cells #[.string s, .slice A n c, .slice A2 m d] 32)) w1 := Chg.of_grown hg1 (fun g hg => ⟨(hL1.out g hg).1, by have := M1.out g hg; omega⟩)
 have O2 : Own w1 mid (.slice A2 m d) cs := by
  refine (Chg.of_grown (lo := lo) (hi := mid) hg1 (fun g hg => ⟨(hL1.out g hg).1, M1.out g hg⟩)).own G2.out fun g hg => ?_
  have := (hL2.out g hg).1; omega
 have k2 : w1.cell? ⟨w.heap.size, 2, none⟩ = some (.slice A2 m d) := by
  rw [c1.cell (by simp) (by simp <;> omega)]
  rw [World.cell?_alloc_at _ _ _ _ rfl]; rfl
 have C1 := Lib.hid c1
 have P1 := Lib.hid hP1
 have P2 := Lib.hid O2
 clear hP1 hg1 c1 O2
 go_wp2_with fail
 refine (markIntS_any mid _ _ cs _ (by omega) (by omega) (by rw [Hm.out]; exact hs3) P2.out).mono ?_
 rintro e w2 ⟨rfl, hP2, hg2⟩
 rw [Hm.out] at hP2
 rw [Hm.out]
 have C2 := Lib.hid (Chg.of_grown (lo := lo) (hi := hi) hg2 (fun g hg => ⟨by have := (hL2.out g hg).1; omega, M2.out g hg⟩))
 have R1 := Lib.hid ((Chg.of_grown (lo := mid) (hi := hi) hg2 (fun g hg => ⟨(hL2.out g hg).1, M2.out g hg⟩)).own P1.out (fun g hg => by have := M1.out g hg; omega))
 have R2 := Lib.hid hP2
 clear hP2 hg2
 go_wp2
 go_ret
 exact ⟨rfl, ⟨A, c, A2, d, mid, by simp only; rw [upFrom_length, upFrom_length], by simp only; rw [upFrom_length]; exact R1.out, by simp only; rw [upFrom_length]; exact M1.out, by simp only; rw [upFrom_length]; exact R2.out, by simp only; rw [upFrom_length]; exact M2.out, h3, h4, HSS.out⟩, ((Chg.of_below HW.out).trans C1.out).trans C2.out⟩
set_option maxRecDepth 100000 in
set_option maxHeartbeats 800000 in
theorem heldFont_any (lo hi : Nat) (v : Value) (f : Fnt) (k : Int) (w : World) (h : FontV w lo hi v (mkF k f)) (hhi : hi ≤ w.heap.size) (hs : Small f) (hk0 : 0 ≤ k) (hk1 : k ≤ 1048576) (hk2 : k + f.ws.length ≤ 1048576) :
  Calls Tryz.prog 49 #[v, .int .i64 k] w fun e w' => e = .returned (.int .i64 (k + f.ws.length + f.cs.length)) ∧ Below w.heap.size w w' := by
 obtain ⟨A, c, A2, d, rfl, hI1, hI2, hc1, hc2, hd1, hd2, hss⟩ := h
 obtain ⟨s, ws, cs⟩ := f
 obtain ⟨hs1, hs2, hs3⟩ := hs
 unfold mkF at *
 simp only [upFrom_length] at *
 obtain ⟨n, hn⟩ : ∃ n, ws.length = n := ⟨_, rfl⟩
 obtain ⟨m, hm⟩ : ∃ m, cs.length = m := ⟨_, rfl⟩
 rw [hn] at hI1 hI2 hs2 hk2 ⊢
 rw [hm] at hI2 hs3 ⊢
 have hW : Below w.heap.size w (w.alloc (.cells #[.string s, .slice A n c, .slice A2 m d] 32)) := (Below.refl _ _).alloc (Nat.le_refl _) _
 have G1 := Lib.hid (hI1.below hhi hW); have G2 := Lib.hid (hI2.below hhi hW)
 have HW := Lib.hid hW
 clear hn hm hI1 hI2 hc1 hc2 hd1 hd2 hss hW
 go_enter Tryz.func49, Tryz.ntmps49
 go_wp2_with fail
 refine (heldIntS_any _ _ _ k _ hk0 hk1 hs2 G1.out.ints).mono ?_
 rintro e w' ⟨rfl, rfl⟩
 have e1 : decide (k + (n : Int) < 0) = false := decide_eq_false (by omega)
 go_wp2_with fail
 refine (heldIntS_any _ _ _ (k + n) _ (by omega) (by omega) hs3 G2.out.ints).mono ?_
 rintro e w' ⟨rfl, rfl⟩
 have e2 : decide (k + (n : Int) + (m : Int) < 0) = false := decide_eq_false (by omega)
 go_wp2
 go_ret
 exact ⟨rfl, HW.out⟩
/-- how far the marks of a machine go -/
def Mch.marks (X : Mch) : Nat := X.f.ws.length + X.f.cs.length + 2 * tot X.ms + 2 * X.ln.length + 2 * X.wt.length
def markX (k : Int) (X : Mch) : Mch :=
 ⟨mkF k X.f, upMM (k + X.f.ws.length + X.f.cs.length) X.ms, X.sp, X.w, X.t, X.k, upM (k + X.f.ws.length + X.f.cs.length + 2 * tot X.ms) X.ln.length, upM (k + X.f.ws.length + X.f.cs.length + 2 * tot X.ms + 2 * X.ln.length) X.wt.length⟩
set_option maxRecDepth 100000 in
set_option maxHeartbeats 3200000 in
theorem markMachine_any (B hi : Nat) (v : Value) (X : Mch) (k : Int) (w : World) (h : MchX w B hi v X) (hhi : hi ≤ w.heap.size) (hs : X.big ≤ 1048576) (hk0 : 0 ≤ k) (hk1 : k ≤ 1) :
  Calls Tryz.prog 12 #[v, .int .i64 k] w fun e w' => e = .returned (.int .i64 (k + X.marks)) ∧ MchX w' B hi v (markX k X) ∧ Chg B hi w w' := by
 obtain ⟨A, c, A2, d, M, e0, L, lc, T, tc, hs0, f0, f1, g0, g1, l0, l1, t0, t1, h⟩ := h
 have hS := big_smallX hs
 have hb : X.f.ws.length + X.f.cs.length + X.ms.length + tot X.ms + X.ln.length + X.wt.length ≤ 1048576 := by unfold Mch.big Fnt.big magBig at hs; omega
 obtain ⟨hv, hF, hG, hL, hLt, hT, hTt, o1, o2, o3, o4, o5, o6, i1, i2, i3, i4⟩ := h
 unfold mwords at hv
 subst hv
 obtain ⟨s, hs1⟩ : ∃ x, X.f.s = x := ⟨_, rfl⟩
 obtain ⟨n, hn⟩ : ∃ x, X.f.ws.length = x := ⟨_, rfl⟩
 obtain ⟨m, hm⟩ : ∃ x, X.f.cs.length = x := ⟨_, rfl⟩
 obtain ⟨q, hq⟩ : ∃ x, X.ms.length = x := ⟨_, rfl⟩
 obtain ⟨l, hl⟩ : ∃ x, X.ln.length = x := ⟨_, rfl⟩
 obtain ⟨r, hr⟩ : ∃ x, X.wt.length = x := ⟨_, rfl⟩
 obtain ⟨tt, htt⟩ : ∃ x, tot X.ms = x := ⟨_, rfl⟩
 have HMk : Hid (X.marks = n + m + 2 * tt + 2 * l + 2 * r) := by show _ = _; unfold Mch.marks; rw [hn, hm, htt, hl, hr]
 have HX : Hid (markX k X = ⟨mkF k X.f, upMM (k + n + m) X.ms, X.sp, X.w, X.t, X.k, upM (k + n + m + 2 * tt) l, upM (k + n + m + 2 * tt + 2 * l) r⟩) := by show _ = _; unfold markX; rw [hn, hm, htt, hl, hr]
 rw [hs1, hn, hm] at hF
 rw [hq] at hG
 rw [hl] at hL hLt
 rw [hr] at hT hTt
 rw [hs1, hn, hm, hq, hl, hr, HMk.out, HX.out]
 rw [hn, hm, hq, htt, hl, hr] at hb
 have Hn := Lib.hid hn; have Hm := Lib.hid hm; have Hl := Lib.hid hl; have Hr := Lib.hid hr; have Htt := Lib.hid htt
 unfold Off at o1 o2 o3 o4 o5 o6
 have hff : f0 ≤ f1 := by obtain ⟨_, _, _, _, mid, _, _, _, _, _, h3, h4, _⟩ := hF; omega
 have lF := hF; have lG := hG; have lL := fun k hk => OwnM.lt hL k hk; have lT := fun k hk => OwnM.lt hT k hk
 obtain ⟨w0, hw0, hb0, hz0, K0⟩ := mxWorld w #[.string s, .slice A n c, .slice A2 m d, .slice M q e0, .int .i64 X.sp, .int .i64 X.w, .int .i64 X.t, .int .i64 X.k, .slice L l lc, .slice T r tc] 37
 have K0 := Lib.hid K0
 have F0 := Lib.hid (hF.below hb0); have G0 := Lib.hid (hG.below hb0); have L0 := Lib.hid (hL.below hb0); have T0 := Lib.hid (hT.below hb0)
 have C0 := Lib.hid (Chg.of_below (lo := B) (hi := hi) hb0)
 have LT := Lib.hid hLt; have TT := Lib.hid hTt; have LL := Lib.hid lL; have TL := Lib.hid lT
 have z0 : w.heap.size < w0.heap.size := by omega
 clear hs hF hG hL hT hLt hTt hn hm hq hl hr htt hs1 lF lG lL lT hb0 hz0 HMk HX
 obtain ⟨kc0, kc1, kc2, kc3, kc4, kc5, kc6, kc7, kc8, kc9⟩ := K0.out.ten
 go_enter Tryz.func12, Tryz.ntmps12
 go_wp2_with fail
 clear hw0
 refine (markFontO_any f0 f1 _ X.f k w0 F0.out (by omega) (by omega) hS.f hk0 (by omega) (by rw [Hn.out]; omega)).mono ?_
 rintro e w1 ⟨rfl, hF1, hc⟩
 rw [Hn.out, Hm.out]
 have F1 := Lib.hid hF1
 have K1 := Lib.hid (K0.out.chg hc (by omega)); have C1 := Lib.hid (C0.out.trans (hc.wide (by omega) (by omega)))
 have G1 := Lib.hid (G0.out.chg hc (by omega))
 have L1 := Lib.hid (L0.out.chg hc (fun x hx => by have := LL.out x hx; have := LT.out x hx; omega))
 have T1 := Lib.hid (T0.out.chg hc (fun x hx => by have := TL.out x hx; have := TT.out x hx; omega))
 have z1 : w0.heap.size ≤ w1.heap.size := hc.size
 clear hF1 hc F0 K0 C0 G0 L0 T0 kc0 kc1 kc2 kc3 kc4 kc5 kc6 kc7 kc8 kc9
 obtain ⟨kc0, kc1, kc2, kc3, kc4, kc5, kc6, kc7, kc8, kc9⟩ := K1.out.ten
 go_wp2_with fail
 refine (markMatrixSS_any g0 g1 _ hs0 (k + n + m) X.ms w1 (by omega) (by omega) hS.ms hS.tot G1.out).mono ?_
 rintro e w2 ⟨rfl, hG2, hc⟩
 rw [Htt.out]
 have G2 := Lib.hid hG2
 have F2 := Lib.hid (F1.out.chg hc (by unfold Off; omega))
 have K2 := Lib.hid (K1.out.chg hc (by omega)); have C2 := Lib.hid (C1.out.trans (hc.wide (by omega) (by omega)))
 have L2 := Lib.hid (L1.out.chg hc (fun x hx => by have := LL.out x hx; have := LT.out x hx; omega))
 have T2 := Lib.hid (T1.out.chg hc (fun x hx => by have := TL.out x hx; have := TT.out x hx; omega))
 have z2 : w1.heap.size ≤ w2.heap.size := hc.size
 clear hG2 hc F1 K1 C1 G1 L1 T1 kc0 kc1 kc2 kc3 kc4 kc5 kc6 kc7 kc8 kc9
 obtain ⟨kc0, kc1, kc2, kc3, kc4, kc5, kc6, kc7, kc8, kc9⟩ := K2.out.ten
 go_wp2_with fail
 refine (markMatrixS_any l0 _ (k + n + m + 2 * tt) X.ln w2 (by omega) (by omega) hS.ln L2.out).mono ?_
 rintro e w3 ⟨rfl, hL3, hg⟩
 rw [Hl.out] at hL3
 rw [Hl.out]
 have hc : Chg l0 l1 w2 w3 := Chg.of_grown hg (fun x hx => ⟨(LL.out x hx).1, LT.out x hx⟩)
 have L3 := Lib.hid hL3
 have F3 := Lib.hid (F2.out.chg hc (by unfold Off; omega)); have G3 := Lib.hid (G2.out.chg hc (by omega))
 have K3 := Lib.hid (K2.out.chg hc (by omega)); have C3 := Lib.hid (C2.out.trans (hc.wide (by omega) (by omega)))
 have T3 := Lib.hid (T2.out.chg hc (fun x hx => by have := TL.out x hx; have := TT.out x hx; omega))
 have z3 : w2.heap.size ≤ w3.heap.size := hc.size
 clear hL3 hg hc F2 K2 C2 G2 L2 T2 kc0 kc1 kc2 kc3 kc4 kc5 kc6 kc7 kc8 kc9
 obtain ⟨kc0, kc1, kc2, kc3, kc4, kc5, kc6, kc7, kc8, kc9⟩ := K3.out.ten
 go_wp2_with fail
 refine (markMatrixS_any t0 _ (k + n + m + 2 * tt + 2 * l) X.wt w3 (by omega) (by omega) hS.wt T3.out).mono ?_
 rintro e w4 ⟨rfl, hT4, hg⟩
 rw [Hr.out] at hT4
 rw [Hr.out]
 have hc : Chg t0 t1 w3 w4 := Chg.of_grown hg (fun x hx => ⟨(TL.out x hx).1, TT.out x hx⟩)
 have T4 := Lib.hid hT4
 have F4 := Lib.hid (F3.out.chg hc (by unfold Off; omega)); have G4 := Lib.hid (G3.out.chg hc (by omega))
 have L4 := Lib.hid (L3.out.chg hc (fun x hx => by have := LL.out x hx; have := LT.out x hx; omega))
 have C4 := Lib.hid (C3.out.trans (hc.wide (by omega) (by omega)))
 clear hT4 hg hc F3 K3 C3 G3 L3 T3 kc0 kc1 kc2 kc3 kc4 kc5 kc6 kc7 kc8 kc9
 go_wp2
 go_ret
 refine ⟨ret_int (by push_cast; omega), ?_, C4.out⟩
 have := MchX.build (X := ⟨mkF k X.f, upMM (k + n + m) X.ms, X.sp, X.w, X.t, X.k, upM (k + n + m + 2 * tt) l, upM (k + n + m + 2 * tt + 2 * l) r⟩) F4.out G4.out L4.out LT.out T4.out TT.out (by unfold Off; omega) (by unfold Off; omega) (by unfold Off; omega) (by unfold Off; omega) (by unfold Off; omega) (by unfold Off; omega) i1 i2 i3 i4
 exact this
set_option maxRecDepth 100000 in
set_option maxHeartbeats 3200000 in
theorem heldMachine_any (lo hi : Nat) (v : Value) (X : Mch) (k : Int) (w : World) (h : MchV w lo hi v (markX k X)) (hhi : hi ≤ w.heap.size) (hs : X.big ≤ 1048575) (hk0 : 0 ≤ k) (hk1 : k ≤ 1) :
  Calls Tryz.prog 13 #[v, .int .i64 k] w fun e w' => e = .returned (.int .i64 (k + X.marks)) ∧ Below w.heap.size w w' := by
 have hS := big_smallX (X := X) (by omega)
 have hb : X.f.ws.length + X.f.cs.length + X.ms.length + tot X.ms + X.ln.length + X.wt.length ≤ 1048575 := by unfold Mch.big Fnt.big magBig at hs; omega
 obtain ⟨s, A, n, c, A2, m, d, M, q, e0, L, l, lc, T, r, tc, rfl, hf, hq, hM, hqe, hem, hl, hL, hllc, hlm, hr, hT, hrt, htm⟩ := h.parts
 unfold markX at hf hq hM hl hL hr hT
 simp only at hf hq hM hl hL hr hT
 rw [upMM_len] at hq
 rw [upM_len] at hl hr
 obtain ⟨a, ha⟩ : ∃ x, X.f.ws.length = x := ⟨_, rfl⟩
 obtain ⟨b, hbb⟩ : ∃ x, X.f.cs.length = x := ⟨_, rfl⟩
 obtain ⟨tt, htt⟩ : ∃ x, tot X.ms = x := ⟨_, rfl⟩
 have HMk : Hid (X.marks = a + b + 2 * tt + 2 * l + 2 * r) := by show _ = _; unfold Mch.marks; rw [ha, hbb, htt, hl, hr]
 rw [ha, hbb] at hM
 rw [ha, hbb, htt, hl] at hL
 rw [ha, hbb, htt, hl, hr] at hT
 rw [ha, hbb, hq, htt, hl, hr] at hb
 rw [HMk.out]
 have hsp : (markX k X).sp = X.sp := rfl
 obtain ⟨sp, hsp⟩ : ∃ x, (markX k X).sp = x := ⟨_, rfl⟩
 obtain ⟨W, hW⟩ : ∃ x, (markX k X).w = x := ⟨_, rfl⟩
 obtain ⟨t, ht⟩ : ∃ x, (markX k X).t = x := ⟨_, rfl⟩
 obtain ⟨k2, hk⟩ : ∃ x, (markX k X).k = x := ⟨_, rfl⟩
 rw [hsp, hW, ht, hk] at h ⊢
 have Ha := Lib.hid ha; have Hb := Lib.hid hbb; have Htt := Lib.hid htt; have Hq := Lib.hid hq
 have hl1 : l ≤ 1048576 := by omega
 have hr1 : r ≤ 1048576 := by omega
 obtain ⟨w0, hw0, hb0, hz0, K0⟩ := mxWorld w #[.string s, .slice A n c, .slice A2 m d, .slice M q e0, .int .i64 sp, .int .i64 W, .int .i64 t, .int .i64 k2, .slice L l lc, .slice T r tc] 37
 have K0 := Lib.hid K0; have B0 := Lib.hid hb0
 have F0 := Lib.hid (hf.below hhi hb0); have M0 := Lib.hid (hM.below hhi hb0); have L0 := Lib.hid (hL.below hhi hb0); have W0 := Lib.hid (hT.below hhi hb0)
 have z0 : w.heap.size < w0.heap.size := by omega
 clear h hf hq hM hqe hem hl hL hllc hlm hr hT hrt htm hsp hW ht hk ha hbb htt hb0 hz0 HMk hs
 obtain ⟨kc0, kc1, kc2, kc3, kc4, kc5, kc6, kc7, kc8, kc9⟩ := K0.out.ten
 have v1 : decide (k + (a : Int) + (b : Int) < 0) = false := decide_eq_false (by omega)
 have v2 : decide (k + (a : Int) + (b : Int) + 2 * (tt : Int) < 0) = false := decide_eq_false (by omega)
 have v3 : decide (k + (a : Int) + (b : Int) + 2 * (tt : Int) + 2 * (l : Int) < 0) = false := decide_eq_false (by omega)
 have v4 : decide (k + (a : Int) + (b : Int) + 2 * (tt : Int) + 2 * (l : Int) + 2 * (r : Int) < 0) = false := decide_eq_false (by omega)
 go_enter Tryz.func13, Tryz.ntmps13
 go_wp2_with fail
 clear hw0
 refine (heldFont_any lo hi _ X.f k w0 F0.out (by omega) hS.f hk0 (by omega) (by rw [Ha.out]; omega)).mono ?_
 rintro e w1 ⟨rfl, hb1⟩
 rw [Ha.out, Hb.out]
 have K1 := Lib.hid (K0.out.below hb1 z0); have B1 := Lib.hid (B0.out.trans (hb1.mono (by omega)))
 have M1 := Lib.hid (M0.out.below (by omega) hb1); have L1 := Lib.hid (L0.out.below (by omega) hb1); have W1 := Lib.hid (W0.out.below (by omega) hb1)
 clear hb1 kc0 kc1 kc2 kc3 kc4 kc5 kc6 kc7 kc8 kc9 K0 B0 M0 L0 W0 F0
 obtain ⟨kc0, kc1, kc2, kc3, kc4, kc5, kc6, kc7, kc8, kc9⟩ := K1.out.ten
 go_wp2_with fail
 refine (heldMatrixSS_any lo hi _ _ _ (k + a + b) X.ms w1 Hq.out (by omega) (by omega) (by omega) (by rw [Htt.out]; omega) M1.out).mono ?_
 rintro e w1' ⟨rfl, rfl⟩
 rw [Htt.out]
 go_wp2_with fail
 refine (heldMatrixS_any lo hi _ _ _ (k + a + b + 2 * tt) w1 (by omega) (by omega) hl1 L1.out).mono ?_
 rintro e w1' ⟨rfl, rfl⟩
 go_wp2_with fail
 refine (heldMatrixS_any lo hi _ _ _ (k + a + b + 2 * tt + 2 * l) w1 (by omega) (by omega) hr1 W1.out).mono ?_
 rintro e w1' ⟨rfl, rfl⟩
 go_wp2
 go_ret
 exact ⟨ret_int (by push_cast; omega), B1.out⟩
end Go.Proofs.YtimhnkpccbcohaaGreatDoor
