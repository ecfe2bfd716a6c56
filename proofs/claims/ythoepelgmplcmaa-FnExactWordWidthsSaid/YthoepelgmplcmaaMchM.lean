/-
  Machines as values: how one reads in memory, and one that is the call's own. Plain words, no condition.
-/
import Derived.Test.YthoepelgmplcmaaHeld
import Derived.Test.YthoepelgmplcmaaMagE
import Derived.Test.YthoepelgmplcmaaPkB
import Derived.Test.YthoepelgmplcmaaLawsFont
import Derived.Test.YthoepelgmplcmaaMagOk
import Derived.Test.YthoepelgmplcmaaPkA
namespace Go.Proofs.Ythoepelgmplcmaa
open Go.RowKit
set_option linter.unusedVariables false

/-- font, magazine, spare bands, measure, line, waiting -/
structure Mch where
  f : Fnt
  ms : List (List Mat)
  sp : Int
  w : Int
  t : Int
  k : Int
  ln : List Mat
  wt : List Mat
def Mch.big (X : Mch) : Nat := X.f.big + magBig X.ms + X.ln.length + X.wt.length
/-- lengths of at most 2^20 -/
structure SmallX (X : Mch) : Prop where
  f : Small X.f
  ms : X.ms.length ≤ 1048576
  row : ∀ xs ∈ X.ms, xs.length ≤ 1048576
  tot : tot X.ms ≤ 1048576
  ln : X.ln.length ≤ 1048576
  wt : X.wt.length ≤ 1048576
/-- all teeth are in the range of int -/
structure WfX (X : Mch) : Prop where
  ms : wfM X.ms
  ln : ∀ x ∈ X.ln, (Lit.int .i64 x.2).wf = true
  wt : ∀ x ∈ X.wt, (Lit.int .i64 x.2).wf = true
theorem len_tot {ms : List (List Mat)} {xs : List Mat} (h : xs ∈ ms) : xs.length ≤ tot ms := by
  unfold tot
  induction ms with
  | nil => cases h
  | cons y ys ih =>
    rw [List.map_cons, List.sum_cons]
    rcases List.mem_cons.1 h with rfl | h
    · omega
    · have := ih h; omega
theorem big_smallX {X : Mch} (h : X.big ≤ 1048576) : SmallX X := by
  unfold Mch.big Fnt.big magBig at h
  exact ⟨⟨by omega, by omega, by omega⟩, by omega, fun xs hx => by have := len_tot hx; omega, by omega, by omega, by omega⟩

/-- the ten words of a machine -/
def mwords (X : Mch) (A : Option Addr) (c : Nat) (A2 : Option Addr) (d : Nat) (M : Option Addr) (e : Nat) (L : Option Addr) (lc : Nat) (T : Option Addr) (tc : Nat) : Array Value :=
  #[.string X.f.s, .slice A X.f.ws.length c, .slice A2 X.f.cs.length d, .slice M X.ms.length e, .int .i64 X.sp, .int .i64 X.w, .int .i64 X.t, .int .i64 X.k, .slice L X.ln.length lc, .slice T X.wt.length tc]
structure MchP (w : World) (lo hi : Nat) (X : Mch) (A : Option Addr) (c : Nat) (A2 : Option Addr) (d : Nat) (M : Option Addr) (e : Nat) (L : Option Addr) (lc : Nat) (T : Option Addr) (tc : Nat) : Prop where
  font : FontV w lo hi (.agg #[.string X.f.s, .slice A X.f.ws.length c, .slice A2 X.f.cs.length d]) X.f
  mag : MagI w lo hi M X.ms
  line : MatsI w lo hi L X.ln
  wait : MatsI w lo hi T X.wt
  me : X.ms.length ≤ e
  em : e ≤ maxLen
  ll : X.ln.length ≤ lc
  lm : lc ≤ maxLen
  tl : X.wt.length ≤ tc
  tm : tc ≤ maxLen
/-- the value v reads as the machine X, in blocks from lo up to hi -/
def MchV (w : World) (lo hi : Nat) (v : Value) (X : Mch) : Prop :=
  ∃ A c A2 d M e L lc T tc, v = .agg (mwords X A c A2 d M e L lc T tc) ∧ MchP w lo hi X A c A2 d M e L lc T tc
section
variable {w w' : World} {lo hi : Nat} {X : Mch} {v : Value} {A A2 M L T : Option Addr} {c d e lc tc : Nat}
theorem MchP.keep (h : MchP w lo hi X A c A2 d M e L lc T tc) (hk : ∀ p : Addr, lo ≤ p.block → p.block < hi → w'.cell? p = w.cell? p) : MchP w' lo hi X A c A2 d M e L lc T tc :=
  ⟨h.font.keep hk, h.mag.keep hk, h.line.keep hk, h.wait.keep hk, h.me, h.em, h.ll, h.lm, h.tl, h.tm⟩
theorem MchP.below {B : Nat} (h : MchP w lo hi X A c A2 d M e L lc T tc) (hB : hi ≤ B) (hb : Below B w w') : MchP w' lo hi X A c A2 d M e L lc T tc := h.keep fun p _ h2 => hb.cell (by omega)
theorem MchP.chg {lo' hi' : Nat} (h : MchP w lo hi X A c A2 d M e L lc T tc) (hc : Chg lo' hi' w w') (hs : hi ≤ w.heap.size) (hn : hi ≤ lo' ∨ hi' ≤ lo) : MchP w' lo hi X A c A2 d M e L lc T tc :=
  h.keep fun p h1 h2 => hc.cell (by omega) (by omega)
theorem MchV.below {B : Nat} (h : MchV w lo hi v X) (hB : hi ≤ B) (hb : Below B w w') : MchV w' lo hi v X := by
  obtain ⟨A, c, A2, d, M, e, L, lc, T, tc, hv, hp⟩ := h
  exact ⟨A, c, A2, d, M, e, L, lc, T, tc, hv, hp.below hB hb⟩
theorem MchV.chg {lo' hi' : Nat} (h : MchV w lo hi v X) (hc : Chg lo' hi' w w') (hs : hi ≤ w.heap.size) (hn : hi ≤ lo' ∨ hi' ≤ lo) : MchV w' lo hi v X := by
  obtain ⟨A, c, A2, d, M, e, L, lc, T, tc, hv, hp⟩ := h
  exact ⟨A, c, A2, d, M, e, L, lc, T, tc, hv, hp.chg hc hs hn⟩
theorem MatsI.cutM {hi' n : Nat} {xs : List Mat} (h : OwnM w lo (.slice A n c) xs) (hk : ∀ k, (Value.slice A n c).ownBlock = some k → k < hi') : MatsI w lo hi' A xs := fun hn => by
  obtain ⟨ad, e, h1, h2, hc⟩ := h.reads hn
  obtain ⟨A', c', hv, _, _, hA, _⟩ := h.form
  injection hv with e1 e2 e3
  subst e1
  obtain ⟨g, rfl, h3, h4⟩ := hA ad e
  subst e
  exact ⟨_, rfl, h1, hk g rfl, hc⟩
theorem ownM_caps {B n : Nat} {xs : List Mat} (h : OwnM w B (.slice A n c) xs) : xs.length ≤ c ∧ c ≤ maxLen := by
  obtain ⟨A', c', hv, h1, h2, _⟩ := h.form
  injection hv with e1 e2 e3
  subst e3
  exact ⟨h1, h2⟩
theorem ownMag_caps {B n hi : Nat} {hs : List Value} {ms : List (List Mat)} (h : OwnMag w B hi (.slice A n c) hs ms) : ms.length ≤ c ∧ c ≤ maxLen := by
  obtain ⟨A', c', hv, h1, h2, _⟩ := h.form
  injection hv with e1 e2 e3
  subst e3
  exact ⟨h1, h2⟩
end

/-- the words of a machine and what they hold, by names -/
theorem MchV.parts {w : World} {lo hi : Nat} {X : Mch} {v : Value} (h : MchV w lo hi v X) : ∃ s A n c A2 m d M q e L l lc T r tc, v = .agg #[.string s, .slice A n c, .slice A2 m d, .slice M q e, .int .i64 X.sp, .int .i64 X.w, .int .i64 X.t, .int .i64 X.k, .slice L l lc, .slice T r tc]
    ∧ FontV w lo hi (.agg #[.string s, .slice A n c, .slice A2 m d]) X.f ∧ X.ms.length = q ∧ MagI w lo hi M X.ms ∧ q ≤ e ∧ e ≤ maxLen ∧ X.ln.length = l ∧ MatsI w lo hi L X.ln ∧ l ≤ lc ∧ lc ≤ maxLen ∧ X.wt.length = r ∧ MatsI w lo hi T X.wt ∧ r ≤ tc ∧ tc ≤ maxLen := by
  obtain ⟨A, c, A2, d, M, e, L, lc, T, tc, hv, hp⟩ := h
  exact ⟨_, A, _, c, A2, _, d, M, _, e, L, _, lc, T, _, tc, hv, hp.font, rfl, hp.mag, hp.me, hp.em, rfl, hp.line, hp.ll, hp.lm, rfl, hp.wait, hp.tl, hp.tm⟩
theorem MchV.form {w : World} {lo hi : Nat} {X : Mch} {v : Value} (h : MchV w lo hi v X) : ∃ s A n c A2 m d M q e sp W t k L l lc T r tc, v = .agg #[.string s, .slice A n c, .slice A2 m d, .slice M q e, .int .i64 sp, .int .i64 W, .int .i64 t, .int .i64 k, .slice L l lc, .slice T r tc] := by
  obtain ⟨A, c, A2, d, M, e, L, lc, T, tc, hv, hp⟩ := h
  exact ⟨_, A, _, c, A2, _, d, M, _, e, _, _, _, _, L, _, lc, T, _, tc, hv⟩
theorem cellOfBlk {w : World} {B : Nat} {cs : Array Value} {T : TypeId} (h : Blk w B cs T) (i : Nat) : w.cell? ⟨B, i, none⟩ = cs[i]? := by
  unfold Blk at h
  simp [World.cell?, h]
theorem Blk.ten {w : World} {B : Nat} {a0 a1 a2 a3 a4 a5 a6 a7 a8 a9 : Value} {T : TypeId} (h : Blk w B #[a0, a1, a2, a3, a4, a5, a6, a7, a8, a9] T) :
    w.cell? ⟨B, 0, none⟩ = some a0 ∧ w.cell? ⟨B, 1, none⟩ = some a1 ∧ w.cell? ⟨B, 2, none⟩ = some a2 ∧ w.cell? ⟨B, 3, none⟩ = some a3 ∧ w.cell? ⟨B, 4, none⟩ = some a4 ∧ w.cell? ⟨B, 5, none⟩ = some a5 ∧ w.cell? ⟨B, 6, none⟩ = some a6 ∧ w.cell? ⟨B, 7, none⟩ = some a7 ∧ w.cell? ⟨B, 8, none⟩ = some a8 ∧ w.cell? ⟨B, 9, none⟩ = some a9 :=
  ⟨cellOfBlk h 0, cellOfBlk h 1, cellOfBlk h 2, cellOfBlk h 3, cellOfBlk h 4, cellOfBlk h 5, cellOfBlk h 6, cellOfBlk h 7, cellOfBlk h 8, cellOfBlk h 9⟩
theorem mxWorld (w : World) (cs : Array Value) (T : TypeId) : ∃ w0, w.alloc (.cells cs T) = w0 ∧ Below w.heap.size w w0 ∧ w0.heap.size = w.heap.size + 1 ∧ Blk w0 w.heap.size cs T :=
  ⟨_, rfl, (Below.refl _ _).alloc (Nat.le_refl _) _, by simp, Blk.new _ _ _⟩

/-- two ranges of blocks that do not meet -/
def Off (a b c d : Nat) : Prop := b ≤ c ∨ d ≤ a
/-- .. and each of its parts is the call's own, in ranges of blocks that do not meet -/
structure MchO (w : World) (B hi : Nat) (v : Value) (X : Mch) (A : Option Addr) (c : Nat) (A2 : Option Addr) (d : Nat) (M : Option Addr) (e : Nat) (L : Option Addr) (lc : Nat) (T : Option Addr) (tc : Nat) (hs : List Value) (f0 f1 g0 g1 l0 l1 t0 t1 : Nat) : Prop where
  v : v = .agg (mwords X A c A2 d M e L lc T tc)
  font : FontO w f0 f1 (.agg #[.string X.f.s, .slice A X.f.ws.length c, .slice A2 X.f.cs.length d]) X.f
  mag : OwnMag w g0 g1 (.slice M X.ms.length e) hs X.ms
  line : OwnM w l0 (.slice L X.ln.length lc) X.ln
  lineT : ∀ k, (Value.slice L X.ln.length lc).ownBlock = some k → k < l1
  wait : OwnM w t0 (.slice T X.wt.length tc) X.wt
  waitT : ∀ k, (Value.slice T X.wt.length tc).ownBlock = some k → k < t1
  fg : Off f0 f1 g0 g1
  fl : Off f0 f1 l0 l1
  ft : Off f0 f1 t0 t1
  gl : Off g0 g1 l0 l1
  gt : Off g0 g1 t0 t1
  lt : Off l0 l1 t0 t1
  fi : B ≤ f0 ∧ f1 ≤ hi
  gi : B ≤ g0 ∧ g1 ≤ hi
  li : B ≤ l0 ∧ l1 ≤ hi
  ti : B ≤ t0 ∧ t1 ≤ hi
def MchX (w : World) (B hi : Nat) (v : Value) (X : Mch) : Prop := ∃ A c A2 d M e L lc T tc hs f0 f1 g0 g1 l0 l1 t0 t1, MchO w B hi v X A c A2 d M e L lc T tc hs f0 f1 g0 g1 l0 l1 t0 t1
section
variable {w w' : World} {B hi : Nat} {X : Mch} {v : Value}
theorem MchX.reads (h : MchX w B hi v X) : MchV w B hi v X := by
  obtain ⟨A, c, A2, d, M, e, L, lc, T, tc, hs, f0, f1, g0, g1, l0, l1, t0, t1, h⟩ := h
  have fv := h.font.font
  refine ⟨A, c, A2, d, M, e, L, lc, T, tc, h.v, ?_, h.mag.reads.wide h.gi.1 h.gi.2, (MatsI.cutM h.line h.lineT).wide h.li.1 h.li.2, (MatsI.cutM h.wait h.waitT).wide h.ti.1 h.ti.2, (ownMag_caps h.mag).1, (ownMag_caps h.mag).2, (ownM_caps h.line).1, (ownM_caps h.line).2, (ownM_caps h.wait).1, (ownM_caps h.wait).2⟩
  obtain ⟨A', c', A2', d', hv, h1, h2, rest⟩ := fv
  exact ⟨A', c', A2', d', hv, h1.wide h.fi.1 h.fi.2, h2.wide h.fi.1 h.fi.2, rest⟩
theorem MchX.below (h : MchX w B hi v X) (hb : Below w.heap.size w w') : MchX w' B hi v X := by
  obtain ⟨A, c, A2, d, M, e, L, lc, T, tc, hs, f0, f1, g0, g1, l0, l1, t0, t1, h⟩ := h
  exact ⟨A, c, A2, d, M, e, L, lc, T, tc, hs, f0, f1, g0, g1, l0, l1, t0, t1, ⟨h.v, h.font.below hb, h.mag.below hb, h.line.below hb, h.lineT, h.wait.below hb, h.waitT, h.fg, h.fl, h.ft, h.gl, h.gt, h.lt, h.fi, h.gi, h.li, h.ti⟩⟩
theorem MchX.wide {B' hi' : Nat} (h : MchX w B hi v X) (h1 : B' ≤ B) (h2 : hi ≤ hi') : MchX w B' hi' v X := by
  obtain ⟨A, c, A2, d, M, e, L, lc, T, tc, hs, f0, f1, g0, g1, l0, l1, t0, t1, h⟩ := h
  exact ⟨A, c, A2, d, M, e, L, lc, T, tc, hs, f0, f1, g0, g1, l0, l1, t0, t1, ⟨h.v, h.font, h.mag, h.line, h.lineT, h.wait, h.waitT, h.fg, h.fl, h.ft, h.gl, h.gt, h.lt, ⟨by have := h.fi.1; omega, by have := h.fi.2; omega⟩, ⟨by have := h.gi.1; omega, by have := h.gi.2; omega⟩, ⟨by have := h.li.1; omega, by have := h.li.2; omega⟩, ⟨by have := h.ti.1; omega, by have := h.ti.2; omega⟩⟩⟩
theorem FontO.chg {lo' hi' f0 f1 : Nat} {f : Fnt} (h : FontO w f0 f1 v f) (hc : Chg lo' hi' w w') (hn : Off f0 f1 lo' hi') : FontO w' f0 f1 v f := by
  obtain ⟨A, c, A2, d, mid, hv, h1, hm, h2, hm2, h3, h4, hs⟩ := h
  unfold Off at hn
  have l1 := fun g hg => World.ownsRow.lt h1 g hg
  have l2 := fun g hg => World.ownsRow.lt h2 g hg
  exact ⟨A, c, A2, d, mid, hv, hc.own h1 (fun k hk => by have := l1 k hk; have := hm k hk; omega), hm, hc.own h2 (fun k hk => by have := l2 k hk; have := hm2 k hk; omega), hm2, h3, h4, hs⟩
theorem MchX.chg {lo' hi' : Nat} (h : MchX w B hi v X) (hc : Chg lo' hi' w w') (hn : Off B hi lo' hi') : MchX w' B hi v X := by
  obtain ⟨A, c, A2, d, M, e, L, lc, T, tc, hs, f0, f1, g0, g1, l0, l1, t0, t1, h⟩ := h
  have q1 := h.fi; have q2 := h.gi; have q3 := h.li; have q4 := h.ti
  unfold Off at hn
  refine ⟨A, c, A2, d, M, e, L, lc, T, tc, hs, f0, f1, g0, g1, l0, l1, t0, t1, ⟨h.v, h.font.chg hc (by unfold Off; omega), h.mag.chg hc (by omega), h.line.chg hc (fun k hk => ?_), h.lineT, h.wait.chg hc (fun k hk => ?_), h.waitT, h.fg, h.fl, h.ft, h.gl, h.gt, h.lt, h.fi, h.gi, h.li, h.ti⟩⟩
  · have := h.line.lt k hk; have := h.lineT k hk; omega
  · have := h.wait.lt k hk; have := h.waitT k hk; omega
end

/-! what a machine is -/
def bandM (x : Mat) : Bool := x.1 == -1 && x.2 == 0
def setM (f : Fnt) (x : Mat) : Bool := bandM x || matB f x
def itemM (f : Fnt) (x : Mat) : Int := if x.1 < 0 then 0 else f.ws.getD x.1.toNat 0
def itemsM (f : Fnt) (ln : List Mat) : List Int := ln.map (itemM f)
def Mch.m (X : Mch) : Msr := ⟨X.w, X.t, X.k⟩
def machB (X : Mch) : Bool := magB X.f X.ms && (inB X.sp 0 60 && ((decide (X.wt.length ≤ 240) && X.wt.all (matB X.f)) && ((decide (X.ln.length ≤ 120) && X.ln.all (setM X.f)) && goodB X.m (itemsM X.f X.ln))))
end Go.Proofs.Ythoepelgmplcmaa
