/-
 Contracts and plain mathematics (Mem, Font, FontT, Mat, MatE, Mag, MagH, Mark, MarkS, Held, MagE), each with its conditions in its own statement.
-/
import Derived.Test.YtimhnkpccbcohaaGreatDoorZPkA
import Derived.Outline
import Derived.StillTailTactics
namespace Go.Proofs.YtimhnkpccbcohaaGreatDoor
open Go.RowKit
set_option linter.unusedVariables false

section
variable {ops : Array Oper} {rest : List Oper} {o : Oper} {a : Act} {Q : Exit → Act → World → Prop}
end
end Go.Proofs.YtimhnkpccbcohaaGreatDoor

namespace Go.Proofs.YtimhnkpccbcohaaGreatDoor
open Go.RowKit
set_option linter.unusedVariables false

/-- letters, widths, codes -/
structure Fnt where
 s : ByteArray
 ws : List Int
 cs : List Int

/-- the slice with the address A reads as zs, in blocks from lo up to hi -/
def IntsI (w : World) (lo hi : Nat) (A : Option Addr) (zs : List Int) : Prop :=
 0 < zs.length → ∃ ad, A = some ad ∧ lo ≤ ad.block ∧ ad.block < hi ∧ ∀ j, j < zs.length → w.cell? (ad.add j) = some (.int .i64 (zs.getD j 0))
section
variable {w w' : World} {lo hi : Nat} {A : Option Addr} {zs : List Int}
theorem IntsI.ints (h : IntsI w lo hi A zs) : Ints w A zs := fun hn => by
 obtain ⟨ad, e, _, _, hc⟩ := h hn
 exact ⟨ad, e, hc⟩
theorem IntsI.of (h : Ints w A zs) : IntsI w 0 w.heap.size A zs := fun hn => by
 obtain ⟨ad, e, hc⟩ := h hn
 exact ⟨ad, e, Nat.zero_le _, by have := World.block_lt_of_cell? _ _ (hc 0 hn); rwa [block_add] at this, hc⟩
theorem IntsI.keep (h : IntsI w lo hi A zs) (hk : ∀ p : Addr, lo ≤ p.block → p.block < hi → w'.cell? p = w.cell? p) : IntsI w' lo hi A zs := fun hn => by
 obtain ⟨ad, e, h1, h2, hc⟩ := h hn
 exact ⟨ad, e, h1, h2, fun j hj => (hk _ (by rw [block_add]; exact h1) (by rw [block_add]; exact h2)).trans (hc j hj)⟩
theorem IntsI.below {B : Nat} (h : IntsI w lo hi A zs) (hB : hi ≤ B) (hb : Below B w w') : IntsI w' lo hi A zs := h.keep fun p _ h2 => hb.cell (by omega)
theorem IntsI.wide {lo' hi' : Nat} (h : IntsI w lo hi A zs) (h1 : lo' ≤ lo) (h2 : hi ≤ hi') : IntsI w lo' hi' A zs := fun hn => by
 obtain ⟨ad, e, g1, g2, hc⟩ := h hn
 exact ⟨ad, e, by omega, by omega, hc⟩
theorem IntsI.of_own {B n c : Nat} (h : Own w B (.slice A n c) zs) : IntsI w B w.heap.size A zs := fun hn => by
 obtain ⟨A', c', hv, hI, hA, _, _⟩ := h.form
 injection hv with e1 e2 e3
 subst e1
 obtain ⟨ad, e, hc⟩ := hI hn
 obtain ⟨g, rfl, h1, h2⟩ := hA ad e
 exact ⟨_, e, h1, h2, hc⟩
end

/-- the value v reads as the font f, in blocks from lo up to hi -/
def FontV (w : World) (lo hi : Nat) (v : Value) (f : Fnt) : Prop :=
 ∃ A c B d, v = .agg #[.string f.s, .slice A f.ws.length c, .slice B f.cs.length d] ∧ IntsI w lo hi A f.ws ∧ IntsI w lo hi B f.cs ∧ f.ws.length ≤ c ∧ c ≤ maxLen ∧ f.cs.length ≤ d ∧ d ≤ maxLen ∧ f.s.size ≤ maxLen
def Small (f : Fnt) : Prop := f.s.size ≤ 1048576 ∧ f.ws.length ≤ 1048576 ∧ f.cs.length ≤ 1048576
theorem FontV.below {w w' : World} {lo hi B : Nat} {v : Value} {f : Fnt} (h : FontV w lo hi v f) (hB : hi ≤ B) (hb : Below B w w') : FontV w' lo hi v f := by
 obtain ⟨A, c, A2, d, hv, h1, h2, rest⟩ := h
 exact ⟨A, c, A2, d, hv, h1.below hB hb, h2.below hB hb, rest⟩
theorem FontV.keep {w w' : World} {lo hi : Nat} {v : Value} {f : Fnt} (h : FontV w lo hi v f) (hk : ∀ p : Addr, lo ≤ p.block → p.block < hi → w'.cell? p = w.cell? p) : FontV w' lo hi v f := by
 obtain ⟨A, c, A2, d, hv, h1, h2, rest⟩ := h
 exact ⟨A, c, A2, d, hv, h1.keep hk, h2.keep hk, rest⟩
/-- as FontV, and both slices are rows of the call's own, in different blocks -/
def FontO (w : World) (B hi : Nat) (v : Value) (f : Fnt) : Prop :=
 ∃ A c A2 d mid, v = .agg #[.string f.s, .slice A f.ws.length c, .slice A2 f.cs.length d] ∧ Own w B (.slice A f.ws.length c) f.ws ∧ (∀ k, (Value.slice A f.ws.length c).ownBlock = some k → k < mid) ∧ Own w mid (.slice A2 f.cs.length d) f.cs ∧ (∀ k, (Value.slice A2 f.cs.length d).ownBlock = some k → k < hi) ∧ B ≤ mid ∧ mid ≤ hi ∧ f.s.size ≤ maxLen
/-- from w to w' only blocks from lo up to hi have turned, besides new ones -/
structure Chg (lo hi : Nat) (w w' : World) : Prop where
 os : w'.os = w.os
 tape : w'.tape = w.tape
 output : w'.output = w.output
 size : w.heap.size ≤ w'.heap.size
 block : ∀ b, b < w.heap.size → ¬ (lo ≤ b ∧ b < hi) → w'.heap[b]? = w.heap[b]?
theorem Chg.refl (lo hi : Nat) (w : World) : Chg lo hi w w := ⟨rfl, rfl, rfl, Nat.le_refl _, fun _ _ _ => rfl⟩
theorem Chg.trans {lo hi : Nat} {a b c : World} (h : Chg lo hi a b) (k : Chg lo hi b c) : Chg lo hi a c :=
 ⟨k.os.trans h.os, k.tape.trans h.tape, k.output.trans h.output, Nat.le_trans h.size k.size, fun i hi hn => (k.block i (Nat.lt_of_lt_of_le hi h.size) hn).trans (h.block i hi hn)⟩
theorem Chg.of_below {lo hi : Nat} {w w' : World} (h : Below w.heap.size w w') : Chg lo hi w w' := ⟨h.os, h.tape, h.output, h.size, fun b hb _ => h.block b hb⟩
theorem Chg.of_grown {lo hi : Nat} {w w' : World} {row : Option Nat} (h : w.grownBy w' row) (hr : ∀ g, row = some g → lo ≤ g ∧ g < hi) : Chg lo hi w w' :=
 ⟨h.os, h.tape, h.output, h.size, fun b hb hn => h.block b hb (fun e => hn (hr b e.symm))⟩
theorem Chg.below {lo hi : Nat} {w w' : World} (h : Chg lo hi w w') (hl : lo ≤ w.heap.size) : Below lo w w' := ⟨h.os, h.tape, h.output, h.size, fun b hb => h.block b (by omega) (by omega)⟩
theorem Chg.cell {lo hi : Nat} {w w' : World} (h : Chg lo hi w w') {p : Addr} (hp : p.block < w.heap.size) (hn : ¬ (lo ≤ p.block ∧ p.block < hi)) : w'.cell? p = w.cell? p := World.cell?_of_block (w := w) (h.block p.block hp hn)
theorem Chg.wide {lo hi lo' hi' : Nat} {w w' : World} (h : Chg lo hi w w') (h1 : lo' ≤ lo) (h2 : hi ≤ hi') : Chg lo' hi' w w' :=
 ⟨h.os, h.tape, h.output, h.size, fun b hb hn => h.block b hb (by omega)⟩
theorem Chg.own {lo hi B : Nat} {w w' : World} {v : Value} {zs : List Int} (h : Chg lo hi w w') (hO : Own w B v zs) (hn : ∀ k, v.ownBlock = some k → ¬ (lo ≤ k ∧ k < hi)) : Own w' B v zs := by
 refine ⟨hO.1, ?_⟩
 have hlt := fun k hk => (World.ownsRow.lt hO k hk).2
 rcases hO.2 with hnil | ⟨g, cap, cur, rfl, hg, hh, rest⟩
 ·exact .inl hnil
 ·exact .inr ⟨g, cap, cur, rfl, hg, (h.block g (hlt g rfl) (hn g rfl)).trans hh, rest⟩
theorem own_caps {w : World} {B n c : Nat} {A : Option Addr} {zs : List Int} (h : Own w B (.slice A n c) zs) : zs.length ≤ c ∧ c ≤ maxLen := by
 obtain ⟨A', c', hv, _, _, h1, h2⟩ := h.form
 injection hv with e1 e2 e3
 subst e3
 exact ⟨h1, h2⟩
theorem IntsI.cut {w : World} {lo hi hi' n c : Nat} {A : Option Addr} {zs : List Int} (h : IntsI w lo hi A zs) (hO : Own w lo (.slice A n c) zs) (hk : ∀ k, (Value.slice A n c).ownBlock = some k → k < hi') : IntsI w lo hi' A zs := fun hn => by
 obtain ⟨ad, e, h1, h2, hc⟩ := h hn
 subst e
 exact ⟨ad, rfl, h1, hk _ rfl, hc⟩
theorem FontO.font {w : World} {B hi : Nat} {v : Value} {f : Fnt} (h : FontO w B hi v f) : FontV w B hi v f := by
 obtain ⟨A, c, A2, d, mid, hv, h1, hk, h2, hk2, h3, h4, hs⟩ := h
 exact ⟨A, c, A2, d, hv, ((IntsI.of_own h1).cut h1 hk).wide (Nat.le_refl _) h4, ((IntsI.of_own h2).cut h2 hk2).wide h3 (Nat.le_refl _), (own_caps h1).1, (own_caps h1).2, (own_caps h2).1, (own_caps h2).2, hs⟩
theorem FontO.below {w w' : World} {B hi : Nat} {v : Value} {f : Fnt} (h : FontO w B hi v f) (hb : Below w.heap.size w w') : FontO w' B hi v f := by
 obtain ⟨A, c, A2, d, mid, hv, h1, hm, h2, hm2, h3, h4, hs⟩ := h
 exact ⟨A, c, A2, d, mid, hv, h1.below hb, hm, h2.below hb, hm2, h3, h4, hs⟩
theorem FontV.chg {w w' : World} {lo hi lo' hi' : Nat} {v : Value} {f : Fnt} (h : FontV w lo hi v f) (hc : Chg lo' hi' w w') (hs : hi ≤ w.heap.size) (hn : hi ≤ lo' ∨ hi' ≤ lo) : FontV w' lo hi v f :=
 h.keep fun p h1 h2 => hc.cell (by omega) (by omega)

theorem bcell {w w1 : World} {B : Nat} (hb : Below B w w1) : ∀ b o, b < B → w1.cell? ⟨b, o, none⟩ = w.cell? ⟨b, o, none⟩ := fun b o h => hb.cell (p := ⟨b, o, none⟩) h
theorem bfroz {w w1 : World} {B : Nat} (hb : Below B w w1) : ∀ b o, b < B → w1.frozen? ⟨b, o, none⟩ = w.frozen? ⟨b, o, none⟩ := fun b o h => hb.frozen (p := ⟨b, o, none⟩) h

/-! ### szFont -/
/-- what is left, or -1 -/
def takeOff (left k : Int) : Int := if left < k then -1 else left - k
theorem szIntS_any (A : Option Addr) (n c : Nat) (left : Int) (w : World) (hm : n ≤ maxLen) (h0 : 0 ≤ left) (h1 : left ≤ 1048576) :
  Calls Tryz.prog 62 #[.slice A n c, .int .i64 left] w fun e w' => e = .returned (.int .i64 (takeOff left n)) ∧ w = w' := by
 unfold maxLen at hm
 by_cases hlt : left < n
 ·have Hk : Hid (takeOff left n = -1) := by show _ = _; unfold takeOff; rw [if_pos hlt]
  go_enter Tryz.func62, Tryz.ntmps62
  go_wp2
  go_ret
  exact ⟨ret_int Hk.out.symm, rfl⟩
 ·have Hk : Hid (takeOff left n = left - n) := by show _ = _; unfold takeOff; rw [if_neg hlt]
  go_enter Tryz.func62, Tryz.ntmps62
  go_wp2
  go_ret
  exact ⟨ret_int Hk.out.symm, rfl⟩

theorem takeOff_bad {left : Int} {k : Nat} (h : left < k) : takeOff left k = -1 := by unfold takeOff; rw [if_pos h]
theorem takeOff_good {left : Int} {k : Nat} (h : ¬ left < k) : takeOff left k = left - k := by unfold takeOff; rw [if_neg h]
/-- how many parts a font has -/
def Fnt.big (f : Fnt) : Nat := f.s.size + f.ws.length + f.cs.length
set_option maxHeartbeats 800000 in
theorem szFont_any (lo hi : Nat) (v : Value) (f : Fnt) (left : Int) (w : World) (h : FontV w lo hi v f) (h0 : 0 ≤ left) (h1 : left ≤ 1048576) :
  Calls Tryz.prog 28 #[v, .int .i64 left] w fun e w' => e = .returned (.int .i64 (takeOff left f.big)) ∧ Below w.heap.size w w' := by
 obtain ⟨A, c, A2, d, rfl, hI1, hI2, hc1, hc2, hd1, hd2, hss⟩ := h
 obtain ⟨s, ws, cs⟩ := f
 simp only at *
 obtain ⟨n, hn⟩ : ∃ n, ws.length = n := ⟨_, rfl⟩
 obtain ⟨m, hm⟩ : ∃ m, cs.length = m := ⟨_, rfl⟩
 have hbig : (Fnt.mk s ws cs).big = s.size + n + m := by unfold Fnt.big; simp only; rw [hn, hm]
 rw [hbig, hn, hm]
 rw [hn] at hc1
 rw [hm] at hd1
 clear hn hm hbig hI1 hI2
 have hn1 : n ≤ maxLen := by omega
 have hm1 : m ≤ maxLen := by omega
 have hss0 := hss
 unfold maxLen at hss
 by_cases hlt : left < s.size
 ·have Hk : Hid (takeOff left ((s.size + n + m : Nat) : Int) = -1) := by show _ = _; unfold takeOff; rw [if_pos (by omega)]
  clear hc1 hc2 hd1 hd2
  go_enter Tryz.func28, Tryz.ntmps28
  go_wp2
  go_ret
  exact ⟨ret_int Hk.out.symm, (Below.refl _ _).alloc (Nat.le_refl _) _⟩
 ·by_cases hlt2 : left - s.size < n
  ·have Hk : Hid (takeOff left ((s.size + n + m : Nat) : Int) = -1) := by show _ = _; unfold takeOff; rw [if_pos (by omega)]
   have Hq : Hid (takeOff (left - s.size) n = -1) := by show _ = _; unfold takeOff; rw [if_pos hlt2]
   clear hc1 hc2 hd1 hd2 hlt2
   go_enter Tryz.func28, Tryz.ntmps28
   go_wp2_with fail
   refine (szIntS_any _ _ _ _ _ hn1 (by omega) (by omega)).mono ?_
   rintro e w' ⟨rfl, rfl⟩
   rw [Hq.out]
   go_wp2
   go_ret
   exact ⟨ret_int Hk.out.symm, (Below.refl _ _).alloc (Nat.le_refl _) _⟩
  ·have Hq : Hid (takeOff (left - s.size) n = left - s.size - n) := by show _ = _; unfold takeOff; rw [if_neg hlt2]
   by_cases hlt3 : left - s.size - n < m
   ·have Hk : Hid (takeOff left ((s.size + n + m : Nat) : Int) = -1) := by show _ = _; unfold takeOff; rw [if_pos (by omega)]
    have Hr : Hid (takeOff (left - s.size - n) m = -1) := by show _ = _; unfold takeOff; rw [if_pos hlt3]
    clear hc1 hc2 hd1 hd2 hlt3
    go_enter Tryz.func28, Tryz.ntmps28
    go_wp2_with fail
    refine (szIntS_any _ _ _ _ _ hn1 (by omega) (by omega)).mono ?_
    rintro e w' ⟨rfl, rfl⟩
    rw [Hq.out]
    go_wp2_with fail
    refine (szIntS_any _ _ _ _ _ hm1 (by omega) (by omega)).mono ?_
    rintro e w' ⟨rfl, rfl⟩
    rw [Hr.out]
    go_wp2
    go_ret
    exact ⟨ret_int Hk.out.symm, (Below.refl _ _).alloc (Nat.le_refl _) _⟩
   ·have Hk : Hid (takeOff left ((s.size + n + m : Nat) : Int) = left - s.size - n - m) := by show _ = _; unfold takeOff; rw [if_neg (by omega)]; omega
    have Hr : Hid (takeOff (left - s.size - n) m = left - s.size - n - m) := by show _ = _; unfold takeOff; rw [if_neg hlt3]
    clear hc1 hc2 hd1 hd2
    go_enter Tryz.func28, Tryz.ntmps28
    go_wp2_with fail
    refine (szIntS_any _ _ _ _ _ hn1 (by omega) (by omega)).mono ?_
    rintro e w' ⟨rfl, rfl⟩
    rw [Hq.out]
    go_wp2_with fail
    refine (szIntS_any _ _ _ _ _ hm1 (by omega) (by omega)).mono ?_
    rintro e w' ⟨rfl, rfl⟩
    rw [Hr.out]
    go_wp2
    go_ret
    exact ⟨ret_int Hk.out.symm, (Below.refl _ _).alloc (Nat.le_refl _) _⟩
end Go.Proofs.YtimhnkpccbcohaaGreatDoor

namespace Go.Proofs.YtimhnkpccbcohaaGreatDoor
open Go.RowKit
set_option linter.unusedVariables false

theorem own_set {w : World} {B : Nat} {v : Value} {zs : List Int} (h : Own w B v zs) {a : Addr} (ha : a.block < B) (u : Value) : Own (w.setCell a u) B v zs := ownsRow_setCell_below h ha u
theorem own_baseB {w : World} {B B' : Nat} {v : Value} {zs : List Int} (h : Own w B v zs) (hB : B' ≤ B) : Own w B' v zs := by
 refine ⟨h.1, ?_⟩
 rcases h.2 with hn | ⟨g, cap, cur, hv, hg, rest⟩
 ·exact .inl hn
 ·exact .inr ⟨g, cap, cur, hv, by omega, rest⟩
theorem own_lt {w : World} {B : Nat} {v : Value} {zs : List Int} (h : Own w B v zs) : ∀ k, v.ownBlock = some k → k < w.heap.size := fun k hk => (World.ownsRow.lt h k hk).2

set_option maxHeartbeats 800000 in
theorem toFont_any (lo hi : Nat) (v : Value) (f : Fnt) (w : World) (h : FontV w lo hi v f) (hhi : hi ≤ w.heap.size) (hs : Small f) :
  Calls Tryz.prog 34 #[v] w fun e w' => ∃ v', e = .returned v' ∧ FontO w' w.heap.size w'.heap.size v' f ∧ Below w.heap.size w w' := by
 obtain ⟨A, c, A2, d, rfl, hI1, hI2, hc1, hc2, hd1, hd2, hss⟩ := h
 obtain ⟨s, ws, cs⟩ := f
 obtain ⟨hs1, hs2, hs3⟩ := hs
 simp only at *
 obtain ⟨n, hn⟩ : ∃ n, ws.length = n := ⟨_, rfl⟩
 obtain ⟨m, hm⟩ : ∃ m, cs.length = m := ⟨_, rfl⟩
 have Hn := Lib.hid hn; have Hm := Lib.hid hm
 rw [hn, hm]
 rw [hn] at hs2
 rw [hm] at hs3
 have H1 := Lib.hid hI1; have H2 := Lib.hid hI2; have Hss := Lib.hid hss
 clear hn hm hI1 hI2 hc1 hc2 hd1 hd2 hss
 go_enter Tryz.func34, Tryz.ntmps34
 go_wp2_with fail
 refine (toIntS_call _ _ _ ws _ Hn.out hs2 (H1.out.below hhi ((((Below.refl _ _).alloc (Nat.le_refl _) _).alloc (by simp) _).alloc (by simp <;> omega) _)).ints).mono ?_
 rintro e w1 ⟨B1, e1, rfl, hJ1, hO1, hb1, _, _⟩
 obtain ⟨bc1, bf1⟩ := And.intro (bcell hb1) (bfroz hb1)
 have hz1 : w.heap.size + 1 + 1 < w1.heap.size := by have := hb1.size; simp at this; omega
 have hz1a : w.heap.size + 1 < w1.heap.size := by omega
 have hz1b : w.heap.size < w1.heap.size := by omega
 have HO1 := Lib.hid hO1; have HB1 := Lib.hid hb1
 clear hJ1 hO1 hb1
 go_wp2_with fail
 refine (toIntS_call _ _ _ cs _ Hm.out hs3 (H2.out.below hhi ((((((Below.refl _ _).alloc (Nat.le_refl _) _).alloc (by simp) _).alloc (by simp <;> omega) _).trans (HB1.out.mono (by simp <;> omega))).setCell (by simp <;> omega) _)).ints).mono ?_
 rintro e w2 ⟨B2, e2, rfl, hJ2, hO2, hb2, _, _⟩
 obtain ⟨bc2, bf2⟩ := And.intro (bcell hb2) (bfroz hb2)
 have hz2 : w.heap.size + 1 + 1 < w2.heap.size := by have := hb2.size; simp at this; omega
 have hz2a : w.heap.size + 1 < w2.heap.size := by omega
 have hz2b : w.heap.size < w2.heap.size := by omega
 have HO2 := Lib.hid hO2; have HB2 := Lib.hid hb2
 clear hJ2 hO2 hb2
 go_wp2_with fail
 have hsz : w1.heap.size ≤ w2.heap.size := by have := HB2.out.size; simpa using this
 refine bodyPost_ret (v := .agg #[.string s, .slice B1 n e1, .slice B2 m e2]) (by simp [results, Tryz.results34, go_sem, bc1, bc2, hz1a]) rfl ⟨_, rfl, ?_, ?_⟩
 ·refine ⟨B1, e1, B2, e2, w1.heap.size, by rw [Hn.out, Hm.out], ?_, ?_, ?_, ?_, by omega, by simp <;> omega, Hss.out⟩
  ·rw [Hn.out]
   refine own_baseB (B := w.heap.size + 3) ?_ (by omega)
   have h1 : Own w1 (w.heap.size + 3) (.slice B1 n e1) ws := own_baseB HO1.out (by simp)
   have h2 : Own w2 (w.heap.size + 3) (.slice B1 n e1) ws := (own_set h1 (by simp <;> omega) _).below HB2.out
   exact own_set (own_set (own_set (own_set h2 (by simp <;> omega) _) (by simp <;> omega) _) (by simp <;> omega) _) (by simp <;> omega) _
  ·rw [Hn.out]
   exact own_lt HO1.out
  ·rw [Hm.out]
   have h2 : Own w2 w1.heap.size (.slice B2 m e2) cs := own_baseB HO2.out (by simp)
   exact own_set (own_set (own_set (own_set h2 (by simp <;> omega) _) (by simp <;> omega) _) (by simp <;> omega) _) (by simp <;> omega) _
  ·rw [Hm.out]
   have := own_lt HO2.out
   simpa using this
 ·have hb : Below w.heap.size w w2 := ((((((Below.refl _ _).alloc (Nat.le_refl _) _).alloc (by simp) _).alloc (by simp <;> omega) _).trans (HB1.out.mono (by simp <;> omega))).setCell (by simp <;> omega) _).trans (HB2.out.mono (by simp <;> omega))
  exact (((hb.setCell (by simp <;> omega) _).setCell (by simp) _).setCell (by simp) _).setCell (by simp) _

set_option maxHeartbeats 800000 in
theorem eqFont_same (lo hi lo2 hi2 : Nat) (v u : Value) (f : Fnt) (w : World) (h : FontV w lo hi v f) (h2 : FontV w lo2 hi2 u f) (hhi : hi ≤ w.heap.size) (hhi2 : hi2 ≤ w.heap.size) (hs : Small f) :
  Calls Tryz.prog 42 #[v, u] w fun e w' => e = .returned (.bool true) ∧ Below w.heap.size w w' := by
 obtain ⟨A, c, A2, d, rfl, hI1, hI2, hc1, hc2, hd1, hd2, hss⟩ := h
 obtain ⟨B, c', B2, d', rfl, hJ1, hJ2, hc1', hc2', hd1', hd2', hss'⟩ := h2
 obtain ⟨s, ws, cs⟩ := f
 obtain ⟨hs1, hs2, hs3⟩ := hs
 simp only at *
 obtain ⟨n, hn⟩ : ∃ n, ws.length = n := ⟨_, rfl⟩
 obtain ⟨m, hm⟩ : ∃ m, cs.length = m := ⟨_, rfl⟩
 have Hn := Lib.hid hn; have Hm := Lib.hid hm
 rw [hn, hm]
 rw [hn] at hs2
 rw [hm] at hs3
 have hW : Below w.heap.size w ((w.alloc (.cells #[.string s, .slice A n c, .slice A2 m d] 32)).alloc (.cells #[.string s, .slice B n c', .slice B2 m d'] 32)) := ((Below.refl _ _).alloc (Nat.le_refl _) _).alloc (by simp) _
 have G1 := Lib.hid (hI1.below hhi hW); have G2 := Lib.hid (hI2.below hhi hW)
 have G3 := Lib.hid (hJ1.below hhi2 hW); have G4 := Lib.hid (hJ2.below hhi2 hW)
 have HW := Lib.hid hW
 clear hn hm hI1 hI2 hJ1 hJ2 hc1 hc2 hd1 hd2 hss hc1' hc2' hd1' hd2' hss' hW
 go_enter Tryz.func42, Tryz.ntmps42
 go_wp2_with fail
 refine (eqIntS_same _ _ _ _ _ ws _ Hn.out hs2 G1.out.ints G3.out.ints).mono ?_
 rintro e w' ⟨rfl, q, rfl⟩
 go_wp2_with fail
 refine (eqIntS_same _ _ _ _ _ cs _ Hm.out hs3 (G2.out.ints.drewN q) (G4.out.ints.drewN q)).mono ?_
 rintro e w' ⟨rfl, q2, rfl⟩
 go_wp2
 go_ret
 exact ⟨rfl, below_drewN HW.out _⟩

end Go.Proofs.YtimhnkpccbcohaaGreatDoor

namespace Go.Proofs.YtimhnkpccbcohaaGreatDoor
open Go.RowKit
set_option linter.unusedVariables false

/-- a matrix: kind, teeth -/
abbrev Mat := Int × Int
/-- the cells of a list of matrices -/
def mcells (xs : List Mat) : List Value := xs.flatMap fun x => [.int .i64 x.1, .int .i64 x.2]
theorem mcells_len (xs : List Mat) : (mcells xs).length = xs.length * 2 := by
 unfold mcells
 induction xs with
 | nil => rfl
 | cons x xs ih => rw [List.flatMap_cons, List.length_append, ih]; simp; omega
theorem mcells_snoc (xs : List Mat) (x : Mat) : mcells (xs ++ [x]) = mcells xs ++ [.int .i64 x.1, .int .i64 x.2] := by
 unfold mcells; rw [List.flatMap_append]; rfl
theorem mcells_append (xs ys : List Mat) : mcells (xs ++ ys) = mcells xs ++ mcells ys := by
 unfold mcells; rw [List.flatMap_append]
theorem mcells_get {xs : List Mat} : ∀ {k : Nat} {x : Mat}, xs[k]? = some x → (mcells xs)[k * 2]? = some (.int .i64 x.1) ∧ (mcells xs)[k * 2 + 1]? = some (.int .i64 x.2) := by
 induction xs with
 | nil => intro k x h; simp at h
 | cons y ys ih =>
  intro k x h
  have e : mcells (y :: ys) = .int .i64 y.1 :: .int .i64 y.2 :: mcells ys := rfl
  cases k with
  | zero => simp at h; subst h; exact ⟨rfl, rfl⟩
  | succ k =>
   obtain ⟨h1, h2⟩ := ih (k := k) (x := x) (by simpa using h)
   rw [e, show (k + 1) * 2 = (k * 2) + 1 + 1 from by omega]
   exact ⟨by simpa using h1, by simpa using h2⟩

/-- the slice with the address A reads as xs, in blocks from lo up to hi -/
def MatsI (w : World) (lo hi : Nat) (A : Option Addr) (xs : List Mat) : Prop :=
 0 < xs.length → ∃ ad, A = some ad ∧ lo ≤ ad.block ∧ ad.block < hi ∧ ∀ j x, xs[j]? = some x → w.cell? (ad.add (j * 2)) = some (.int .i64 x.1) ∧ w.cell? (ad.add (j * 2 + 1)) = some (.int .i64 x.2)
section
variable {w w' : World} {lo hi : Nat} {A : Option Addr} {xs : List Mat}
theorem addr_next (a : Addr) (j : Nat) : a.add (j + 1) = ⟨(a.add j).block, (a.add j).off + 1, none⟩ := by
 unfold Addr.add
 rw [if_neg (by omega)]
 split
 ·rename_i e; subst e; rfl
 ·simp only [Nat.add_assoc]
theorem MatsI.at_ {k : Nat} (h : MatsI w lo hi A xs) (hk : k < xs.length) : ∃ ad x, A = some ad ∧ Hid (xs[k]? = some x) ∧ w.cell? (ad.add (k * 2)) = some (.int .i64 x.1) ∧ w.cell? ⟨(ad.add (k * 2)).block, (ad.add (k * 2)).off + 1, none⟩ = some (.int .i64 x.2) := by
 obtain ⟨ad, e, _, _, hc⟩ := h (by omega)
 obtain ⟨h1, h2⟩ := hc k xs[k] (List.getElem?_eq_getElem hk)
 exact ⟨ad, xs[k], e, List.getElem?_eq_getElem hk, h1, by rw [← addr_next]; exact h2⟩
theorem MatsI.keep (h : MatsI w lo hi A xs) (hk : ∀ p : Addr, lo ≤ p.block → p.block < hi → w'.cell? p = w.cell? p) : MatsI w' lo hi A xs := fun hn => by
 obtain ⟨ad, e, h1, h2, hc⟩ := h hn
 refine ⟨ad, e, h1, h2, fun j x hx => ?_⟩
 obtain ⟨c1, c2⟩ := hc j x hx
 exact ⟨(hk _ (by rw [block_add]; exact h1) (by rw [block_add]; exact h2)).trans c1, (hk _ (by rw [block_add]; exact h1) (by rw [block_add]; exact h2)).trans c2⟩
theorem MatsI.below {B : Nat} (h : MatsI w lo hi A xs) (hB : hi ≤ B) (hb : Below B w w') : MatsI w' lo hi A xs := h.keep fun p _ h2 => hb.cell (by omega)
theorem MatsI.wide {lo' hi' : Nat} (h : MatsI w lo hi A xs) (h1 : lo' ≤ lo) (h2 : hi ≤ hi') : MatsI w lo' hi' A xs := fun hn => by
 obtain ⟨ad, e, g1, g2, hc⟩ := h hn
 exact ⟨ad, e, by omega, by omega, hc⟩
theorem MatsI.nil (w : World) (lo hi : Nat) (A : Option Addr) : MatsI w lo hi A [] := fun h => absurd h (by simp)
end
/-- a row of the call's own that holds xs -/
def OwnM (w : World) (B : Nat) (v : Value) (xs : List Mat) : Prop := w.ownsRow B 64 2 v xs.length (mcells xs)
theorem OwnM.lt {w : World} {B : Nat} {v : Value} {xs : List Mat} (h : OwnM w B v xs) : ∀ k, v.ownBlock = some k → B ≤ k ∧ k < w.heap.size := World.ownsRow.lt h
theorem OwnM.form {w : World} {B : Nat} {v : Value} {xs : List Mat} (h : OwnM w B v xs) : ∃ A c, v = .slice A xs.length c ∧ xs.length ≤ c ∧ c ≤ maxLen ∧ (∀ a, A = some a → ∃ g, a = ⟨g, 0, none⟩ ∧ B ≤ g ∧ g < w.heap.size) ∧ (0 < xs.length → ∃ a, A = some a) := by
 rcases h.2 with ⟨rfl, hn⟩ | ⟨g, cap, cur, rfl, hg, hh, hcap, hcm, _⟩
 ·exact ⟨none, 0, by rw [hn], by omega, Nat.zero_le _, fun a ha => (by cases ha), fun h => by omega⟩
 ·exact ⟨some ⟨g, 0, none⟩, cap, rfl, hcap, hcm, fun a ha => ⟨g, by injection ha with ha; exact ha.symm, hg, (Array.getElem?_eq_some_iff.1 hh).1⟩, fun _ => ⟨_, rfl⟩⟩
theorem OwnM.reads {w : World} {B n c : Nat} {A : Option Addr} {xs : List Mat} (h : OwnM w B (.slice A n c) xs) : MatsI w B w.heap.size A xs := fun hn => by
 obtain ⟨A', c', hv, _, _, hA, hS⟩ := h.form
 injection hv with e1 e2 e3
 subst e1
 obtain ⟨a, ha⟩ := hS hn
 subst ha
 obtain ⟨g, rfl, h1, h2⟩ := hA a rfl
 refine ⟨_, rfl, h1, h2, fun j x hx => ?_⟩
 obtain ⟨c1, c2⟩ := mcells_get hx
 exact ⟨World.ownsRow.cells h (g := g) rfl _ _ c1, World.ownsRow.cells h (g := g) rfl _ _ c2⟩
theorem OwnM.below {w w' : World} {B : Nat} {v : Value} {xs : List Mat} (h : OwnM w B v xs) (hb : Below w.heap.size w w') : OwnM w' B v xs := by
 refine ⟨h.1, ?_⟩
 rcases h.2 with hn | ⟨g, cap, cur, hv, hg, hh, rest⟩
 ·exact .inl hn
 ·exact .inr ⟨g, cap, cur, hv, hg, (hb.block g (Array.getElem?_eq_some_iff.1 hh).1).trans hh, rest⟩
theorem OwnM.chg {lo hi B : Nat} {w w' : World} {v : Value} {xs : List Mat} (hO : OwnM w B v xs) (h : Chg lo hi w w') (hn : ∀ k, v.ownBlock = some k → ¬ (lo ≤ k ∧ k < hi)) : OwnM w' B v xs := by
 refine ⟨hO.1, ?_⟩
 have hlt := fun k hk => (World.ownsRow.lt hO k hk).2
 rcases hO.2 with hnil | ⟨g, cap, cur, rfl, hg, hh, rest⟩
 ·exact .inl hnil
 ·exact .inr ⟨g, cap, cur, rfl, hg, (h.block g (hlt g rfl) (hn g rfl)).trans hh, rest⟩
theorem OwnM.base {w : World} {B B' : Nat} {v : Value} {xs : List Mat} (h : OwnM w B v xs) (hB : B' ≤ B) : OwnM w B' v xs := by
 refine ⟨h.1, ?_⟩
 rcases h.2 with hn | ⟨g, cap, cur, hv, hg, rest⟩
 ·exact .inl hn
 ·exact .inr ⟨g, cap, cur, hv, by omega, rest⟩
theorem OwnM.grown {w w' : World} {B : Nat} {v : Value} {xs : List Mat} {row : Option Nat} (h : OwnM w B v xs) (hg : w.grownBy w' row) (hne : v.ownBlock = none ∨ v.ownBlock ≠ row) : OwnM w' B v xs := World.ownsRow.kept h hg hne

theorem matInfo : (Tryz.prog.info? 64).map (fun i => (i.zero, i.size, i.bytes)) = some (some (.agg #[.int .i64 0, .int .i64 0]), 2, 16) := by kernel_rfl

set_option maxHeartbeats 400000 in
theorem toMatrix_any (x : Mat) (w : World) :
  Calls Tryz.prog 71 #[.agg #[.int .i64 x.1, .int .i64 x.2]] w fun e w' => e = .returned (.agg #[.int .i64 x.1, .int .i64 x.2]) ∧ Below w.heap.size w w' := by
 obtain ⟨k, t⟩ := x
 simp only
 go_enter Tryz.func71, Tryz.ntmps71
 go_wp2
 refine bodyPost_ret (v := .agg #[.int .i64 k, .int .i64 t]) (by simp [results, Tryz.results71, go_sem]) rfl ⟨rfl, ?_⟩
 exact (((Below.refl _ _).alloc (Nat.le_refl _) _).alloc (by simp) _).alloc (by simp <;> omega) _

/-- what a copy holds after k rounds -/
def halfM (xs : List Mat) (n k : Nat) : List Value := mcells (xs.take k) ++ List.replicate ((n - k) * 2) (.int .i64 0)
theorem halfM_zero (xs : List Mat) (n : Nat) : (madeCells (Value.agg #[.int .i64 0, .int .i64 0]).cells (n * 2)).toList = halfM xs n 0 := by
 rw [show halfM xs n 0 = List.replicate (n * 2) (.int .i64 0) from by simp [halfM, mcells]]
 apply List.ext_getElem
 ·simp [madeCells, Value.cells]
 ·intro i h1 h2
  have : i % 2 = 0 ∨ i % 2 = 1 := by omega
  rcases this with e | e <;> simp [madeCells, Value.cells, e]
theorem mtake_at {xs : List Mat} {k : Nat} {x : Mat} (h : xs[k]? = some x) : xs.take (k + 1) = xs.take k ++ [x] := by
 rw [List.take_add_one, h]; rfl
theorem mlt_at {xs : List Mat} {k : Nat} {x : Mat} (h : xs[k]? = some x) : k < xs.length := (List.getElem?_eq_some_iff.1 h).1
theorem halfM_set {xs : List Mat} {n k : Nat} {x : Mat} (hn : xs.length = n) (hx : xs[k]? = some x) : ((halfM xs n k).set (k * 2) (.int .i64 x.1)).set (k * 2 + 1) (.int .i64 x.2) = halfM xs n (k + 1) := by
 have hk := mlt_at hx
 have hl : (mcells (xs.take k)).length = k * 2 := by rw [mcells_len, List.length_take]; omega
 unfold halfM
 rw [mtake_at hx, mcells_snoc, List.set_append, if_neg (by omega), hl, Nat.sub_self, List.set_append, if_neg (by omega), hl, show k * 2 + 1 - k * 2 = 1 from by omega]
 have : (n - k) * 2 = (n - (k + 1)) * 2 + 1 + 1 := by omega
 rw [this, List.replicate_succ, List.replicate_succ]
 simp
theorem halfM_full {xs : List Mat} {n : Nat} (hn : xs.length = n) : halfM xs n n = mcells xs := by
 unfold halfM
 rw [List.take_of_length_le (by omega)]; simp
theorem halfM_len {xs : List Mat} {n k : Nat} (hn : xs.length = n) (hk : k ≤ n) : (halfM xs n k).length = n * 2 := by
 unfold halfM
 rw [List.length_append, mcells_len, List.length_take, List.length_replicate]; omega

theorem row_keep {w w' : World} {B size n : Nat} {T : TypeId} {v : Value} {xs : List Value} (h : w.ownsRow B T size v n xs) (hb : Below w.heap.size w w') : w'.ownsRow B T size v n xs := by
 refine ⟨h.1, ?_⟩
 rcases h.2 with hn | ⟨g, cap, cur, hv, hg, hh, rest⟩
 ·exact .inl hn
 ·exact .inr ⟨g, cap, cur, hv, hg, (hb.block g (Array.getElem?_eq_some_iff.1 hh).1).trans hh, rest⟩

set_option maxRecDepth 100000 in
set_option maxHeartbeats 800000 in
theorem toMatrixS_any (lo hi : Nat) (A : Option Addr) (n c : Nat) (xs : List Mat) (w : World) (hn : xs.length = n) (hm : n ≤ 1048576) (hhi : hi ≤ w.heap.size) (h : MatsI w lo hi A xs) :
  Calls Tryz.prog 37 #[.slice A n c] w fun e w' => ∃ v, e = .returned v ∧ OwnM w' w.heap.size v xs ∧ Below w.heap.size w w' := by
 have Hn := Lib.hid hn; clear hn
 obtain ⟨i0, hi0, hz0, hz1, hz2⟩ := info_parts matInfo
 go_enter Tryz.func37, Tryz.ntmps37
 go_wp2_with (at_make; refine wpList_make_full _ rfl (.tmp 6) (.tmp 6) 35 rfl w.heap.size 64 i0 (.agg #[.int .i64 0, .int .i64 0]) 2 Tryz.underlying35 hi0 hz0 hz1 .i64 .i64 (n : Int) (n : Int) n rfl rfl rfl rfl (by rw [hz2]; omega) (by unfold maxLen; omega) (Nat.le_refl _) ?_; intro w1 hown1 hg1; rw [halfM_zero xs] at hown1)
 have hb1 : Below w.heap.size w w1 := (Below.refl _ _).grown hg1 (Nat.le_refl _) (fun k hk => by cases hk)
 clear hg1
 go_loopw [4] (fun i wr => ∃ k : Nat, k ≤ n ∧ i = .int .i64 k ∧ wr.ownsRow w.heap.size 64 2 (.slice (some ⟨w.heap.size, 0, none⟩) n n) n (halfM xs n k) ∧ Below w.heap.size w wr) (fun i _ => n - (intOf i).toNat)
 case atStart => exact ⟨0, Nat.zero_le _, rfl, hown1, hb1⟩
 case round =>
  clear hown1 hb1
  obtain ⟨k, hk, rfl, hown, hb⟩ := hrel
  have HO := Lib.hid hown; have HB := Lib.hid hb
  clear hown hb
  by_cases hlt : k < n
  ·obtain ⟨ad, x, rfl, hx, hc1, hc2⟩ := (h.below hhi HB.out).at_ (k := k) (by rw [Hn.out]; exact hlt)
   have HH := Lib.hid h
   clear h
   go_wp2_with fail
   refine (toMatrix_any x _).mono ?_
   rintro e w2 ⟨rfl, hb2⟩
   have hown2 : w2.ownsRow w.heap.size 64 2 (.slice (some ⟨w.heap.size, 0, none⟩) n n) n (halfM xs n k) := row_keep HO.out hb2
   obtain ⟨v1, hv1⟩ : ∃ v, (halfM xs n k)[k * 2]? = some v := ⟨_, List.getElem?_eq_getElem (by rw [halfM_len Hn.out hk]; omega)⟩
   obtain ⟨v2, hv2⟩ : ∃ v, (halfM xs n k)[k * 2 + 1]? = some v := ⟨_, List.getElem?_eq_getElem (by rw [halfM_len Hn.out hk]; omega)⟩
   have d1 := (hown2.cellAt (k * 2) (by omega)).trans hv1
   have d2 := (hown2.cellAt (k * 2 + 1) (by omega)).trans hv2
   have f1 := hown2.frozenAt (k * 2)
   have f2 := hown2.frozenAt (k * 2 + 1)
   have hst := ((hown2.stored (k * 2) (.int .i64 x.1)).1.stored (k * 2 + 1) (.int .i64 x.2)).1
   rw [halfM_set Hn.out hx.out] at hst
   have HS := Lib.hid hst
   have HB2 := Lib.hid ((((HB.out.trans (hb2.mono HB.out.size)).setCell (p := ⟨w.heap.size, k * 2, none⟩) (Nat.le_refl _) (.int .i64 x.1))).setCell (p := ⟨w.heap.size, k * 2 + 1, none⟩) (Nat.le_refl _) (.int .i64 x.2))
   clear hst hv1 hv2 hown2 hb2
   go_wp2
   go_roundw
   case rel => exact ⟨k + 1, by omega, by go_num, HS.out, HB2.out⟩
   case measure => simp [intOf]; omega
  ·have hkn : k = n := by omega
   subst hkn
   go_wp2
   go_ret
   refine ⟨_, rfl, ?_, HB.out⟩
   unfold OwnM
   rw [Hn.out, ← halfM_full Hn.out]
   exact HO.out
end Go.Proofs.YtimhnkpccbcohaaGreatDoor

namespace Go.Proofs.YtimhnkpccbcohaaGreatDoor
open Go.RowKit
set_option linter.unusedVariables false

set_option maxHeartbeats 400000 in
theorem eqMatrix_any (x y : Mat) (w : World) :
  Calls Tryz.prog 87 #[.agg #[.int .i64 x.1, .int .i64 x.2], .agg #[.int .i64 y.1, .int .i64 y.2]] w fun e w' => e = .returned (.bool (decide (x = y))) ∧ Below w.heap.size w w' := by
 obtain ⟨a, b⟩ := x
 obtain ⟨c, d⟩ := y
 simp only
 have hW := Lib.hid (((Below.refl w.heap.size w).alloc (Nat.le_refl _) (.cells #[.int .i64 a, .int .i64 b] 64)).alloc (by simp) (.cells #[.int .i64 c, .int .i64 d] 64))
 by_cases h1 : a = c
 ·have t1 : (a != c) = false := by rw [bne_eq_false_iff_eq]; exact h1
  by_cases h2 : b = d
  ·have t2 : (b != d) = false := by rw [bne_eq_false_iff_eq]; exact h2
   have hr : Hid (decide ((a, b) = (c, d)) = true) := by show _ = _; rw [decide_eq_true_eq, h1, h2]
   rw [hr.out]
   clear h1 h2 hr
   go_enter Tryz.func87, Tryz.ntmps87
   go_wp2
   go_ret
   exact ⟨rfl, hW.out⟩
  ·have t2 : (b != d) = true := by rw [bne_iff_ne]; exact h2
   have hr : Hid (decide ((a, b) = (c, d)) = false) := by show _ = _; rw [decide_eq_false_iff_not]; intro e; injection e with _ e; exact h2 e
   rw [hr.out]
   clear h1 h2 hr
   go_enter Tryz.func87, Tryz.ntmps87
   go_wp2
   go_ret
   exact ⟨rfl, hW.out⟩
 ·have t1 : (a != c) = true := by rw [bne_iff_ne]; exact h1
  have hr : Hid (decide ((a, b) = (c, d)) = false) := by show _ = _; rw [decide_eq_false_iff_not]; intro e; injection e with e _; exact h1 e
  rw [hr.out]
  clear h1 hr
  go_enter Tryz.func87, Tryz.ntmps87
  go_wp2
  go_ret
  exact ⟨rfl, hW.out⟩

theorem mtake_all {xs : List Mat} {n : Nat} (h : xs.length = n) : xs.take n = xs := List.take_of_length_le (by omega)

set_option maxRecDepth 100000 in
set_option maxHeartbeats 800000 in
theorem eqMatrixS_any (lo hi lo2 hi2 : Nat) (A B : Option Addr) (n m c d : Nat) (xs ys : List Mat) (w : World) (hn : xs.length = n) (hm : ys.length = m) (hl : n ≤ 1048576) (hl2 : m ≤ maxLen) (hhi : hi ≤ w.heap.size) (hhi2 : hi2 ≤ w.heap.size) (h : MatsI w lo hi A xs) (h2 : MatsI w lo2 hi2 B ys) :
  Calls Tryz.prog 45 #[.slice A n c, .slice B m d] w fun e w' => e = .returned (.bool (decide (xs = ys))) ∧ Below w.heap.size w w' := by
 unfold maxLen at hl2
 have Hn := Lib.hid hn; have Hm := Lib.hid hm; clear hn hm
 by_cases hnm : n = m
 ·subst hnm
  have H1 := Lib.hid h; have H2 := Lib.hid h2
  clear h h2
  go_enter Tryz.func45, Tryz.ntmps45
  go_wp2
  go_loopw [5] (fun i wr => ∃ k : Nat, k ≤ n ∧ i = .int .i64 k ∧ Below w.heap.size w wr ∧ xs.take k = ys.take k) (fun i _ => n - (intOf i).toNat)
  case atStart => exact ⟨0, Nat.zero_le _, rfl, Below.refl _ _, rfl⟩
  case round =>
   obtain ⟨k, hk, rfl, hb, ht⟩ := hrel
   have Ht := Lib.hid ht; have HB := Lib.hid hb
   clear ht hb
   by_cases hlt : k < n
   ·obtain ⟨ad, x, rfl, hx, hc1, hc2⟩ := (H1.out.below hhi HB.out).at_ (k := k) (by rw [Hn.out]; exact hlt)
    obtain ⟨bd, y, rfl, hy, hd1, hd2⟩ := (H2.out.below hhi2 HB.out).at_ (k := k) (by rw [Hm.out]; exact hlt)
    go_wp2
    go_still_tail 8, (by kernel_rfl)
    change wpList _ _ _ _ _ wr.drew
    by_cases hxy : x = y
    ·have Hs := Lib.hid (show xs.take (k + 1) = ys.take (k + 1) by rw [mtake_at hx.out, mtake_at hy.out, Ht.out, hxy])
     have hr := Lib.hid (show decide (x = y) = true by rw [decide_eq_true_eq]; exact hxy)
     clear hxy
     go_wp2_with fail
     refine (eqMatrix_any x y _).mono ?_
     rintro e w2 ⟨rfl, hb2⟩
     rw [hr.out]
     have HB2 := Lib.hid (HB.out.drew.trans (hb2.mono HB.out.size))
     clear hb2
     go_wp2
     go_roundw
     case rel => exact ⟨k + 1, by omega, by go_num, HB2.out, Hs.out⟩
     case measure => simp [intOf]; omega
    ·have HN : Hid (decide (xs = ys) = false) := by
      show _ = _
      rw [decide_eq_false_iff_not]
      intro e
      have h1 := hx.out
      rw [e, hy.out] at h1
      injection h1 with h1
      exact hxy h1.symm
     have hr := Lib.hid (show decide (x = y) = false by rw [decide_eq_false_iff_not]; exact hxy)
     clear hxy
     go_wp2_with fail
     refine (eqMatrix_any x y _).mono ?_
     rintro e w2 ⟨rfl, hb2⟩
     rw [hr.out]
     have HB2 := Lib.hid (HB.out.drew.trans (hb2.mono HB.out.size))
     clear hb2
     go_wp2
     go_ret
     exact ⟨ret_bool HN.out.symm, HB2.out⟩
   ·have hkn : k = n := by omega
    subst hkn
    go_wp2
    go_ret
    have := Ht.out
    rw [mtake_all Hn.out, mtake_all Hm.out] at this
    exact ⟨ret_bool (by rw [eq_comm, decide_eq_true_eq]; exact this), HB.out⟩
 ·have HN : Hid (decide (xs = ys) = false) := by
   show _ = _
   rw [decide_eq_false_iff_not]
   intro e
   rw [e, Hm.out] at Hn
   exact hnm Hn.out.symm
  have hb' : ((n : Int) != (m : Int)) = true := by rw [bne_iff_ne]; omega
  go_enter Tryz.func45, Tryz.ntmps45
  go_wp2
  go_ret
  exact ⟨ret_bool HN.out.symm, Below.refl _ _⟩
end Go.Proofs.YtimhnkpccbcohaaGreatDoor

namespace Go.Proofs.YtimhnkpccbcohaaGreatDoor
open Go.RowKit
set_option linter.unusedVariables false

/-- all teeth are in the range of int -/
def wfM (ms : List (List Mat)) : Prop := ∀ xs ∈ ms, ∀ x ∈ xs, (Lit.int .i64 x.2).wf = true
/-- the slice with the address A reads as the magazine ms, in blocks from lo up to hi -/
def MagI (w : World) (lo hi : Nat) (A : Option Addr) (ms : List (List Mat)) : Prop :=
 0 < ms.length → ∃ ad, A = some ad ∧ lo ≤ ad.block ∧ ad.block < hi ∧ ∀ j xs, ms[j]? = some xs → ∃ Aj cj, w.cell? (ad.add j) = some (.slice Aj xs.length cj) ∧ xs.length ≤ cj ∧ cj ≤ maxLen ∧ MatsI w lo hi Aj xs
section
variable {w w' : World} {lo hi : Nat} {A : Option Addr} {ms : List (List Mat)}
theorem MagI.at_ {k : Nat} (h : MagI w lo hi A ms) (hk : k < ms.length) : ∃ ad xs Aj cj, A = some ad ∧ Hid (ms[k]? = some xs) ∧ w.cell? (ad.add k) = some (.slice Aj xs.length cj) ∧ xs.length ≤ cj ∧ cj ≤ maxLen ∧ MatsI w lo hi Aj xs := by
 obtain ⟨ad, e, _, _, hc⟩ := h (by omega)
 obtain ⟨Aj, cj, h1, h2, h3, h4⟩ := hc k ms[k] (List.getElem?_eq_getElem hk)
 exact ⟨ad, ms[k], Aj, cj, e, List.getElem?_eq_getElem hk, h1, h2, h3, h4⟩
theorem MagI.keep (h : MagI w lo hi A ms) (hk : ∀ p : Addr, lo ≤ p.block → p.block < hi → w'.cell? p = w.cell? p) : MagI w' lo hi A ms := fun hn => by
 obtain ⟨ad, e, h1, h2, hc⟩ := h hn
 refine ⟨ad, e, h1, h2, fun j xs hx => ?_⟩
 obtain ⟨Aj, cj, c1, c2, c3, c4⟩ := hc j xs hx
 exact ⟨Aj, cj, (hk _ (by rw [block_add]; exact h1) (by rw [block_add]; exact h2)).trans c1, c2, c3, c4.keep hk⟩
theorem MagI.below {B : Nat} (h : MagI w lo hi A ms) (hB : hi ≤ B) (hb : Below B w w') : MagI w' lo hi A ms := h.keep fun p _ h2 => hb.cell (by omega)
theorem MagI.chg {lo' hi' : Nat} (h : MagI w lo hi A ms) (hc : Chg lo' hi' w w') (hs : hi ≤ w.heap.size) (hn : hi ≤ lo' ∨ hi' ≤ lo) : MagI w' lo hi A ms :=
 h.keep fun p h1 h2 => hc.cell (by omega) (by omega)
theorem MagI.wide {lo' hi' : Nat} (h : MagI w lo hi A ms) (h1 : lo' ≤ lo) (h2 : hi ≤ hi') : MagI w lo' hi' A ms := fun hn => by
 obtain ⟨ad, e, g1, g2, hc⟩ := h hn
 refine ⟨ad, e, by omega, by omega, fun j xs hx => ?_⟩
 obtain ⟨Aj, cj, c1, c2, c3, c4⟩ := hc j xs hx
 exact ⟨Aj, cj, c1, c2, c3, c4.wide h1 h2⟩
theorem MagI.nil (w : World) (lo hi : Nat) (A : Option Addr) : MagI w lo hi A [] := fun h => absurd h (by simp)
end

/-- the value v, with the headers hs, is a magazine of the call's own that holds ms, in blocks from B up to hi, no two rows in one block -/
structure OwnMag (w : World) (B hi : Nat) (v : Value) (hs : List Value) (ms : List (List Mat)) : Prop where
 outer : w.ownsRow B 35 1 v ms.length hs
 rows : ∀ (j : Nat) (xs : List Mat), ms[j]? = some xs → ∃ h : Value, hs[j]? = some h ∧ OwnM w B h xs
 apart : ∀ (i j : Nat) (h h' : Value) (g : Nat), hs[i]? = some h → hs[j]? = some h' → h.ownBlock = some g → h'.ownBlock = some g → i = j
 other : ∀ (i : Nat) (h : Value) (g : Nat), hs[i]? = some h → h.ownBlock = some g → v.ownBlock ≠ some g ∧ g < hi
 top : ∀ g : Nat, v.ownBlock = some g → g < hi
section
variable {w w' : World} {B hi : Nat} {v : Value} {hs : List Value} {ms : List (List Mat)}
theorem OwnMag.len (h : OwnMag w B hi v hs ms) : hs.length = ms.length := by have := h.outer.1; omega
theorem OwnMag.form (h : OwnMag w B hi v hs ms) : ∃ A c, v = .slice A ms.length c ∧ ms.length ≤ c ∧ c ≤ maxLen ∧ (∀ a, A = some a → ∃ g, a = ⟨g, 0, none⟩ ∧ B ≤ g ∧ g < w.heap.size) ∧ (0 < ms.length → ∃ a, A = some a) := by
 rcases h.outer.2 with ⟨rfl, hn⟩ | ⟨g, cap, cur, rfl, hg, hh, hcap, hcm, _⟩
 ·exact ⟨none, 0, by rw [hn], by omega, Nat.zero_le _, fun a ha => (by cases ha), fun h => by omega⟩
 ·exact ⟨some ⟨g, 0, none⟩, cap, rfl, hcap, hcm, fun a ha => ⟨g, by injection ha with ha; exact ha.symm, hg, (Array.getElem?_eq_some_iff.1 hh).1⟩, fun _ => ⟨_, rfl⟩⟩
theorem OwnMag.reads {A : Option Addr} {n c : Nat} (h : OwnMag w B hi (.slice A n c) hs ms) : MagI w B hi A ms := fun hn => by
 obtain ⟨A', c', hv, _, _, hA, hS⟩ := h.form
 injection hv with e1 e2 e3
 subst e1
 obtain ⟨a, ha⟩ := hS hn
 subst ha
 obtain ⟨g, rfl, h1, h2⟩ := hA a rfl
 refine ⟨_, rfl, h1, h.top g rfl, fun j xs hx => ?_⟩
 obtain ⟨hj, e, ho⟩ := h.rows j xs hx
 obtain ⟨Aj, cj, rfl, k1, k2, hA', _⟩ := ho.form
 have hc := World.ownsRow.cells h.outer (g := g) rfl j _ e
 refine ⟨Aj, cj, hc, k1, k2, ?_⟩
 intro hp
 obtain ⟨ad, e1, g1, g2, hcell⟩ := ho.reads hp
 refine ⟨ad, e1, g1, ?_, hcell⟩
 obtain ⟨g', rfl, q1, q2⟩ := hA' ad e1
 subst e1
 exact (h.other j _ g' e rfl).2
theorem OwnMag.blocks (h : OwnMag w B hi v hs ms) : ∀ (i : Nat) (h' : Value) (g : Nat), hs[i]? = some h' → h'.ownBlock = some g → B ≤ g ∧ g < w.heap.size := fun i h' g hi' hg => by
 have hlt : i < ms.length := by rw [← h.len]; exact (List.getElem?_eq_some_iff.1 hi').1
 obtain ⟨h'', e, ho⟩ := h.rows i ms[i] (List.getElem?_eq_getElem hlt)
 rw [hi'] at e
 injection e with e
 subst e
 exact ho.lt g hg
theorem OwnMag.below (h : OwnMag w B hi v hs ms) (hb : Below w.heap.size w w') : OwnMag w' B hi v hs ms where
 outer := row_keep h.outer hb
 rows := fun j xs hx => by obtain ⟨hj, e, ho⟩ := h.rows j xs hx; exact ⟨hj, e, ho.below hb⟩
 apart := h.apart
 other := h.other
 top := h.top
theorem OwnMag.chg {lo' hi' : Nat} (h : OwnMag w B hi v hs ms) (hc : Chg lo' hi' w w') (hn : hi ≤ lo' ∨ hi' ≤ B) : OwnMag w' B hi v hs ms where
 outer := by
  refine ⟨h.outer.1, ?_⟩
  have hl := World.ownsRow.lt h.outer
  have ht := h.top
  rcases h.outer.2 with hnil | ⟨g, cap, cur, rfl, hg, hh, rest⟩
  ·exact .inl hnil
  ·exact .inr ⟨g, cap, cur, rfl, hg, (hc.block g (hl g rfl).2 (by have := ht g rfl; omega)).trans hh, rest⟩
 rows := fun j xs hx => by
  obtain ⟨hj, e, ho⟩ := h.rows j xs hx
  exact ⟨hj, e, ho.chg hc fun k hk => by have h1 := ho.lt k hk; have h2 := (h.other j hj k e hk).2; omega⟩
 apart := h.apart
 other := h.other
 top := h.top
end
end Go.Proofs.YtimhnkpccbcohaaGreatDoor

namespace Go.Proofs.YtimhnkpccbcohaaGreatDoor
open Go.RowKit
set_option linter.unusedVariables false

/-- all matrices of a magazine -/
def tot (ms : List (List Mat)) : Nat := (ms.map List.length).sum
theorem tot_snoc (ms : List (List Mat)) (xs : List Mat) : tot (ms ++ [xs]) = tot ms + xs.length := by unfold tot; simp
theorem ttake_at {ms : List (List Mat)} {k : Nat} {x : List Mat} (h : ms[k]? = some x) : ms.take (k + 1) = ms.take k ++ [x] := by
 rw [List.take_add_one, h]; rfl
theorem ttake_all {ms : List (List Mat)} {n : Nat} (h : ms.length = n) : ms.take n = ms := List.take_of_length_le (by omega)
theorem tot_le {ms : List (List Mat)} {k : Nat} {x : List Mat} (h : ms[k]? = some x) : tot (ms.take k) + x.length ≤ tot ms := by
 have h1 : tot (ms.take (k + 1)) ≤ tot ms := by
  have e : ms = ms.take (k + 1) ++ ms.drop (k + 1) := (List.take_append_drop _ _).symm
  have : tot ms = tot (ms.take (k + 1)) + tot (ms.drop (k + 1)) := by
   conv => lhs; rw [e]
   unfold tot; rw [List.map_append, List.sum_append]
  omega
 rw [ttake_at h, tot_snoc] at h1
 exact h1
theorem szMatrixS_any (A : Option Addr) (n c : Nat) (left : Int) (w : World) (hm : n ≤ maxLen) (h0 : 0 ≤ left) (h1 : left ≤ 1048576) :
  Calls Tryz.prog 30 #[.slice A n c, .int .i64 left] w fun e w' => e = .returned (.int .i64 (takeOff left n)) ∧ w = w' := by
 unfold maxLen at hm
 by_cases hlt : left < n
 ·have Hk : Hid (takeOff left n = -1) := by show _ = _; unfold takeOff; rw [if_pos hlt]
  go_enter Tryz.func30, Tryz.ntmps30
  go_wp2
  go_ret
  exact ⟨ret_int Hk.out.symm, rfl⟩
 ·have Hk : Hid (takeOff left n = left - n) := by show _ = _; unfold takeOff; rw [if_neg hlt]
  go_enter Tryz.func30, Tryz.ntmps30
  go_wp2
  go_ret
  exact ⟨ret_int Hk.out.symm, rfl⟩

def magBig (ms : List (List Mat)) : Nat := ms.length + tot ms



set_option maxHeartbeats 800000 in
theorem szMatrixSS_any (lo hi : Nat) (A : Option Addr) (n c : Nat) (ms : List (List Mat)) (left : Int) (w : World) (hn : ms.length = n) (hm : n ≤ maxLen) (h : MagI w lo hi A ms) (h0 : 0 ≤ left) (h1 : left ≤ 1048576) :
  Calls Tryz.prog 29 #[.slice A n c, .int .i64 left] w fun e w' => e = .returned (.int .i64 (takeOff left (magBig ms))) ∧ w = w' := by
 have hm0 := hm
 unfold maxLen at hm
 have Hn := Lib.hid hn; clear hn
 by_cases hlt : left < n
 ·have Hk : Hid (takeOff left (magBig ms) = -1) := takeOff_bad (by unfold magBig; rw [Hn.out]; omega)
  go_enter Tryz.func29, Tryz.ntmps29
  go_wp2
  go_ret
  exact ⟨ret_int Hk.out.symm, rfl⟩
 ·have hd : decide (left - (n : Int) < 0) = false := by rw [decide_eq_false_iff_not]; omega
  go_enter Tryz.func29, Tryz.ntmps29
  go_wp2
  go_loop [1, 5] (fun l i => ∃ (k : Nat) (q : Int), k ≤ n ∧ i = .int .i64 k ∧ l = .int .i64 q ∧ 0 ≤ q ∧ q ≤ 1048576 ∧ q = left - n - tot (ms.take k)) (fun _ i => n - (intOf i).toNat)
  case atStart => exact ⟨0, _, Nat.zero_le _, rfl, rfl, by omega, by omega, by simp [tot]⟩
  case round =>
   obtain ⟨k, q, hk, rfl, rfl, hq0, hq1, hq⟩ := hrel
   have Hq := Lib.hid hq; clear hq
   by_cases hkn : k < n
   ·obtain ⟨ad, xs, Aj, cj, rfl, hx, hc, hc1, hc2, -⟩ := h.at_ (k := k) (by rw [Hn.out]; exact hkn)
    have ht := tot_le hx.out
    have hs := tot_snoc (ms.take k) xs
    rw [← ttake_at hx.out] at hs
    have HT := Lib.hid ht; have HS := Lib.hid hs
    have hxl : xs.length ≤ maxLen := by omega
    clear ht hs h
    by_cases hb : q < xs.length
    ·have Hk : Hid (takeOff left (magBig ms) = -1) := takeOff_bad (by unfold magBig; rw [Hn.out]; have := HT.out; have := Hq.out; omega)
     have Hr : Hid (takeOff q xs.length = -1) := takeOff_bad hb
     clear hb
     go_wp2_with fail
     refine (szMatrixS_any _ _ _ _ _ hxl hq0 hq1).mono ?_
     rintro e w' ⟨rfl, rfl⟩
     rw [Hr.out]
     go_wp2
     go_ret
     exact ⟨ret_int Hk.out.symm, rfl⟩
    ·have Hr : Hid (takeOff q xs.length = q - xs.length) := takeOff_good hb
     have HQ : Hid (q - xs.length = left - n - tot (ms.take (k + 1))) := by show _ = _; rw [HS.out]; have := Hq.out; omega
     go_wp2_with fail
     refine (szMatrixS_any _ _ _ _ _ hxl hq0 hq1).mono ?_
     rintro e w' ⟨rfl, rfl⟩
     rw [Hr.out]
     have hq2 : 0 ≤ q - xs.length := by omega
     have hq3 : q - xs.length ≤ 1048576 := by omega
     clear hb
     go_wp2
     go_round
     case rel => exact ⟨k + 1, _, by omega, by go_num, rfl, hq2, hq3, HQ.out⟩
     case measure => simp [intOf]; omega
   ·have hkn' : k = n := by omega
    subst hkn'
    have Hk : Hid (takeOff left (magBig ms) = q) := by
     show _ = _
     have := Hq.out
     rw [ttake_all Hn.out] at this
     rw [takeOff_good (by unfold magBig; rw [Hn.out]; omega)]
     unfold magBig; rw [Hn.out]; omega
    go_wp2
    go_ret
    exact ⟨ret_int Hk.out.symm, rfl⟩

theorem rowInfo : (Tryz.prog.info? 35).map (fun i => (i.zero, i.size, i.bytes)) = some (some (.slice none 0 0), 1, 24) := by kernel_rfl

/-- the headers after k rounds -/
def halfH (hs : List Value) (n k : Nat) : List Value := hs ++ List.replicate (n - k) (.slice none 0 0)
theorem halfH_zero (n : Nat) : (madeCells (Value.slice none 0 0).cells (n * 1)).toList = halfH [] n 0 := by
 apply List.ext_getElem
 ·simp [madeCells, Value.cells, halfH]
 ·intro i h1 h2
  simp [madeCells, Value.cells, Nat.mod_one, halfH]
theorem halfH_set {hs : List Value} {n k : Nat} (h : Value) (hk : k < n) (hl : hs.length = k) : (halfH hs n k).set k h = halfH (hs ++ [h]) n (k + 1) := by
 unfold halfH
 rw [List.set_append, if_neg (by omega), hl, Nat.sub_self]
 have : n - k = (n - (k + 1)) + 1 := by omega
 rw [this, List.replicate_succ]
 simp

/-- the first k rows of a magazine of the call's own -/
structure Rows0 (w : World) (B : Nat) (hs : List Value) (ms : List (List Mat)) (k : Nat) : Prop where
 len : hs.length = k
 rows : ∀ (j : Nat) (xs : List Mat), j < k → ms[j]? = some xs → ∃ h : Value, hs[j]? = some h ∧ OwnM w (B + 1) h xs
 apart : ∀ (i j : Nat) (h h' : Value) (g : Nat), hs[i]? = some h → hs[j]? = some h' → h.ownBlock = some g → h'.ownBlock = some g → i = j
 low : ∀ (i : Nat) (h : Value) (g : Nat), hs[i]? = some h → h.ownBlock = some g → B < g ∧ g < w.heap.size
theorem Rows0.zero (w : World) (B : Nat) (ms : List (List Mat)) : Rows0 w B [] ms 0 :=
 ⟨rfl, fun _ _ h => absurd h (by omega), fun i j h h' g e => by simp at e, fun i h g e => by simp at e⟩
theorem Rows0.step {w w' : World} {B : Nat} {hs : List Value} {ms : List (List Mat)} {k : Nat} {h : Value} {xs : List Mat} (r : Rows0 w B hs ms k) (hb : Below w.heap.size w w') (hB : B < w.heap.size) (hx : ms[k]? = some xs) (ho : OwnM w' w.heap.size h xs) :
  Rows0 w' B (hs ++ [h]) ms (k + 1) where
 len := by rw [List.length_append, r.len]; rfl
 rows := fun j ys hj hy => by
  by_cases e : j = k
  ·subst e
   rw [hx] at hy
   injection hy with hy
   subst hy
   exact ⟨h, by rw [List.getElem?_append_right (by rw [r.len]; exact Nat.le_refl _), r.len]; simp, ho.base (by omega)⟩
  ·obtain ⟨h', e', ho'⟩ := r.rows j ys (by omega) hy
   exact ⟨h', by rw [List.getElem?_append_left (by rw [r.len]; omega)]; exact e', ho'.below hb⟩
 apart := fun i j a b g hi hj hga hgb => by
  have key : ∀ (i : Nat) (a : Value), (hs ++ [h])[i]? = some a → (i < k ∧ hs[i]? = some a) ∨ (i = k ∧ a = h) := fun i a hi => by
   by_cases hlt : i < k
   ·rw [List.getElem?_append_left (by rw [r.len]; exact hlt)] at hi; exact .inl ⟨hlt, hi⟩
   ·rw [List.getElem?_append_right (by rw [r.len]; omega), r.len] at hi
    have : i - k = 0 := by
     rcases Nat.eq_zero_or_pos (i - k) with h0 | h0
     ·exact h0
     ·rw [List.getElem?_eq_none (by simp; omega)] at hi; cases hi
    rw [this] at hi
    simp at hi
    exact .inr ⟨by omega, hi.symm⟩
  rcases key i a hi with ⟨h1, e1⟩ | ⟨h1, e1⟩ <;> rcases key j b hj with ⟨h2, e2⟩ | ⟨h2, e2⟩
  ·exact r.apart i j a b g e1 e2 hga hgb
  ·subst e2
   have := (r.low i a g e1 hga).2
   have := (ho.lt g hgb).1
   omega
  ·subst e1
   have := (r.low j b g e2 hgb).2
   have := (ho.lt g hga).1
   omega
  ·omega
 low := fun i a g hi hg => by
  by_cases hlt : i < k
  ·rw [List.getElem?_append_left (by rw [r.len]; exact hlt)] at hi
   have := r.low i a g hi hg
   have := hb.size
   omega
  ·rw [List.getElem?_append_right (by rw [r.len]; omega), r.len] at hi
   have : i - k = 0 := by
    rcases Nat.eq_zero_or_pos (i - k) with h0 | h0
    ·exact h0
    ·rw [List.getElem?_eq_none (by simp; omega)] at hi; cases hi
   rw [this] at hi
   simp at hi
   subst hi
   have := ho.lt g hg
   omega
theorem OwnM.setB {w : World} {B : Nat} {v : Value} {xs : List Mat} (h : OwnM w B v xs) {a : Addr} (ha : a.block < B) (u : Value) : OwnM (w.setCell a u) B v xs := ownsRow_setCell_below h ha u
theorem Rows0.set {w : World} {B : Nat} {hs : List Value} {ms : List (List Mat)} {k : Nat} (r : Rows0 w B hs ms k) {a : Addr} (ha : a.block ≤ B) (u : Value) : Rows0 (w.setCell a u) B hs ms k where
 len := r.len
 rows := fun j xs hj hx => by
  obtain ⟨h, e, ho⟩ := r.rows j xs hj hx
  exact ⟨h, e, ho.setB (by omega) u⟩
 apart := r.apart
 low := fun i h g hi hg => by have := r.low i h g hi hg; simp only [World.setCell, Array.size_modify]; exact this

set_option maxRecDepth 100000 in
set_option maxHeartbeats 800000 in
theorem toMatrixSS_any (lo hi : Nat) (A : Option Addr) (n c : Nat) (ms : List (List Mat)) (w : World) (hn : ms.length = n) (hm : n ≤ 1048576) (hlim : ∀ xs ∈ ms, xs.length ≤ 1048576) (hhi : hi ≤ w.heap.size) (h : MagI w lo hi A ms) :
  Calls Tryz.prog 35 #[.slice A n c] w fun e w' => ∃ v hs, e = .returned v ∧ OwnMag w' w.heap.size w'.heap.size v hs ms ∧ Below w.heap.size w w' := by
 have Hn := Lib.hid hn; have Hlim := Lib.hid hlim
 clear hn hlim
 obtain ⟨i0, hi0, hz0, hz1, hz2⟩ := info_parts rowInfo
 go_enter Tryz.func35, Tryz.ntmps35
 go_wp2_with (at_make; refine wpList_make_full _ rfl (.tmp 6) (.tmp 6) 33 rfl w.heap.size 35 i0 (.slice none 0 0) 1 Tryz.underlying33 hi0 hz0 hz1 .i64 .i64 (n : Int) (n : Int) n rfl rfl rfl rfl (by rw [hz2]; omega) (by unfold maxLen; omega) (Nat.le_refl _) ?_; intro w1 hown1 hg1; rw [halfH_zero] at hown1)
 have hb1 : Below w.heap.size w w1 := (Below.refl _ _).grown hg1 (Nat.le_refl _) (fun k hk => by cases hk)
 have hz : w.heap.size < w1.heap.size := (World.ownsRow.lt hown1 w.heap.size rfl).2
 clear hg1
 go_loopw [4] (fun i wr => ∃ (k : Nat) (hs : List Value), k ≤ n ∧ i = .int .i64 k ∧ wr.ownsRow w.heap.size 35 1 (.slice (some ⟨w.heap.size, 0, none⟩) n n) n (halfH hs n k) ∧ Below w.heap.size w wr ∧ w.heap.size < wr.heap.size ∧ Rows0 wr w.heap.size hs ms k) (fun i _ => n - (intOf i).toNat)
 case atStart => exact ⟨0, [], Nat.zero_le _, rfl, hown1, hb1, hz, Rows0.zero _ _ _⟩
 case round =>
  clear hown1 hb1 hz
  obtain ⟨k, hs, hk, rfl, hown, hb, hzr, hr⟩ := hrel
  have HO := Lib.hid hown; have HB := Lib.hid hb; have HR := Lib.hid hr
  clear hown hb hr
  by_cases hlt : k < n
  ·obtain ⟨ad, xs, Aj, cj, rfl, hx, hc, hcap, hcm, hI⟩ := (h.below hhi HB.out).at_ (k := k) (by rw [Hn.out]; exact hlt)
   have HH := Lib.hid h; have HI := Lib.hid hI
   have hxl := Hlim.out xs (List.mem_of_getElem? hx.out)
   clear h hI
   go_wp2_with fail
   refine (toMatrixS_any lo hi _ _ _ xs _ rfl hxl (Nat.le_trans hhi HB.out.size) HI.out).mono ?_
   rintro e w2 ⟨v, rfl, hO2, hb2⟩
   have hown2 : w2.ownsRow w.heap.size 35 1 (.slice (some ⟨w.heap.size, 0, none⟩) n n) n (halfH hs n k) := row_keep HO.out hb2
   obtain ⟨v1, hv1⟩ : ∃ v, (halfH hs n k)[k]? = some v := ⟨.slice none 0 0, by
    unfold halfH
    rw [List.getElem?_append_right (by rw [HR.out.len]; exact Nat.le_refl _), HR.out.len, Nat.sub_self, List.getElem?_replicate, if_pos (by omega)]⟩
   have d1 := (hown2.cellAt k (by omega)).trans hv1
   have f1 := hown2.frozenAt k
   obtain ⟨Av, cv, hvv, _⟩ := hO2.form
   subst hvv
   have hst := (hown2.stored k (.slice Av xs.length cv)).1
   rw [halfH_set _ hlt HR.out.len] at hst
   have HS := Lib.hid hst
   have HR2 := Lib.hid ((HR.out.step hb2 hzr hx.out hO2).set (a := ⟨w.heap.size, k, none⟩) (Nat.le_refl _) (.slice Av xs.length cv))
   have HB2 := Lib.hid ((HB.out.trans (hb2.mono HB.out.size)).setCell (p := ⟨w.heap.size, k, none⟩) (Nat.le_refl _) (.slice Av xs.length cv))
   have hz2 : w.heap.size < (w2.setCell ⟨w.heap.size, k, none⟩ (.slice Av xs.length cv)).heap.size := by
    have := hb2.size
    simp only [World.setCell, Array.size_modify]; omega
   have HZ := Lib.hid hz2
   clear hst hv1 hown2 hb2 hO2 hz2
   go_wp2
   go_roundw
   case rel => exact ⟨k + 1, _, by omega, by go_num, HS.out, HB2.out, HZ.out, HR2.out⟩
   case measure => simp [intOf]; omega
  ·have hkn : k = n := by omega
   subst hkn
   go_wp2
   go_ret
   have hfull : halfH hs k k = hs := by unfold halfH; simp
   have hO := HO.out
   rw [hfull] at hO
   refine ⟨_, hs, rfl, ⟨by rw [Hn.out]; exact hO, fun j xs hx => ?_, HR.out.apart, fun i a g hi hg => ?_, fun g hg => ?_⟩, HB.out⟩
   ·obtain ⟨a, e, ho⟩ := HR.out.rows j xs (by rw [← Hn.out]; exact (List.getElem?_eq_some_iff.1 hx).1) hx
    exact ⟨a, e, ho.base (by omega)⟩
   ·have := HR.out.low i a g hi hg
    refine ⟨?_, this.2⟩
    intro e
    have e2 : w.heap.size = g := Option.some.inj e
    omega
   ·injection hg with e
    subst e
    exact hzr
end Go.Proofs.YtimhnkpccbcohaaGreatDoor

namespace Go.Proofs.YtimhnkpccbcohaaGreatDoor
open Go.RowKit
set_option linter.unusedVariables false

/-- (k, k + 1), (k + 2, k + 3), .. (n of them) -/
def upM (k : Int) (n : Nat) : List Mat := (List.range n).map (fun (i : Nat) => (k + 2 * (i : Int), k + 2 * (i : Int) + 1))
theorem upM_len (k : Int) (n : Nat) : (upM k n).length = n := by simp [upM]
theorem upM_get (k : Int) {n i : Nat} (h : i < n) : (upM k n)[i]? = some (k + 2 * (i : Int), k + 2 * (i : Int) + 1) := by simp [upM, h]
def markedM (xs : List Mat) (k : Int) (j : Nat) : List Mat := upM k j ++ xs.drop j
theorem markedM_len (xs : List Mat) (k : Int) (j : Nat) (h : j ≤ xs.length) : (markedM xs k j).length = xs.length := by
 simp [markedM, upM_len]; omega
theorem markedM_full (xs : List Mat) (k : Int) : markedM xs k xs.length = upM k xs.length := by simp [markedM]
theorem upM_succ (k : Int) (j : Nat) : upM k (j + 1) = upM k j ++ [(k + 2 * (j : Int), k + 2 * (j : Int) + 1)] := by
 unfold upM; rw [List.range_succ, List.map_append]; rfl
theorem markedM_set {xs : List Mat} {k : Int} {j : Nat} (h : j < xs.length) : ((mcells (markedM xs k j)).set (j * 2) (.int .i64 (k + 2 * (j : Int)))).set (j * 2 + 1) (.int .i64 (k + 2 * (j : Int) + 1)) = mcells (markedM xs k (j + 1)) := by
 unfold markedM
 have hl : (mcells (upM k j)).length = j * 2 := by rw [mcells_len, upM_len]
 have hd : xs.drop j = xs[j] :: xs.drop (j + 1) := List.drop_eq_getElem_cons h
 rw [hd, upM_succ, mcells_append, mcells_append, mcells_append, List.set_append, if_neg (by omega), hl, Nat.sub_self, List.set_append, if_neg (by omega), hl, show j * 2 + 1 - j * 2 = 1 from by omega]
 have e1 : mcells (xs[j] :: xs.drop (j + 1)) = .int .i64 xs[j].1 :: .int .i64 xs[j].2 :: mcells (xs.drop (j + 1)) := rfl
 have e2 : mcells [(k + 2 * (j : Int), k + 2 * (j : Int) + 1)] = [.int .i64 (k + 2 * (j : Int)), .int .i64 (k + 2 * (j : Int) + 1)] := rfl
 rw [e1, e2]
 simp

set_option maxRecDepth 100000 in
set_option maxHeartbeats 800000 in
theorem markMatrixS_any (B : Nat) (v : Value) (k : Int) (xs : List Mat) (w : World) (hk0 : 0 ≤ k) (hk1 : k ≤ 4194304) (hl : xs.length ≤ 1048576) (h : OwnM w B v xs) :
  Calls Tryz.prog 48 #[v, .int .i64 k] w fun e w' => e = .returned (.int .i64 (k + 2 * xs.length)) ∧ OwnM w' B v (upM k xs.length) ∧ w.grownBy w' v.ownBlock := by
 rcases h.2 with ⟨rfl, hn⟩ | ⟨g, cap, cur, rfl, hg, hh, hrest⟩
 ·have hz : xs = [] := List.eq_nil_of_length_eq_zero hn
  subst hz
  go_enter Tryz.func48, Tryz.ntmps48
  go_wp2
  refine wp_loop_rounds 1 ?_
  rw [rounds_succ]
  go_wp2
  go_ret
  exact ⟨ret_int (by simp), h, World.grownBy.refl w _⟩
 ·obtain ⟨n, hn⟩ : ∃ n, xs.length = n := ⟨_, rfl⟩
  have hO := h
  unfold OwnM at hO
  rw [hn] at hO hl ⊢
  have Hn := Lib.hid hn
  have HO := Lib.hid hO
  clear hn hO h hh hrest cur hg
  go_enter Tryz.func48, Tryz.ntmps48
  go_wp2
  go_loopw [1, 5] (fun q i wr => ∃ j : Nat, j ≤ n ∧ i = .int .i64 j ∧ q = .int .i64 (k + 2 * j) ∧ wr.ownsRow B 64 2 (.slice (some ⟨g, 0, none⟩) n cap) n (mcells (markedM xs k j)) ∧ w.grownBy wr (some g)) (fun _ i _ => n - (intOf i).toNat)
  case atStart => exact ⟨0, Nat.zero_le _, rfl, by simp, by have := HO.out; simpa [markedM, upM] using this, World.grownBy.refl w _⟩
  case round =>
   obtain ⟨j, hj, rfl, rfl, hown, hgr⟩ := hrel
   by_cases hlt : j < n
   ·have hlz : j < xs.length := by rw [Hn.out]; exact hlt
    have hml : (mcells (markedM xs k j)).length = n * 2 := by rw [mcells_len, markedM_len _ _ _ (by omega), Hn.out]
    obtain ⟨v1, hv1⟩ : ∃ v, (mcells (markedM xs k j))[j * 2]? = some v := ⟨_, List.getElem?_eq_getElem (by omega)⟩
    obtain ⟨v2, hv2⟩ : ∃ v, (mcells (markedM xs k j))[j * 2 + 1]? = some v := ⟨_, List.getElem?_eq_getElem (by omega)⟩
    have d1 := (hown.cellAt (j * 2) (by omega)).trans hv1
    have d2 := (hown.cellAt (j * 2 + 1) (by omega)).trans hv2
    have f1 := hown.frozenAt (j * 2)
    have f2 := hown.frozenAt (j * 2 + 1)
    have hst := ((hown.stored (j * 2) (.int .i64 (k + 2 * (j : Int)))).1.stored (j * 2 + 1) (.int .i64 (k + 2 * (j : Int) + 1))).1
    rw [markedM_set hlz] at hst
    have HS := Lib.hid hst
    have HG := Lib.hid (grown_set (grown_set hgr (j * 2) (.int .i64 (k + 2 * (j : Int)))) (j * 2 + 1) (.int .i64 (k + 2 * (j : Int) + 1)))
    have hkb : 0 ≤ k + 2 * (j : Int) := by omega
    have hkc : k + 2 * (j : Int) ≤ 8388608 := by omega
    clear hst hv1 hv2 hown hgr hlz hml
    go_wp2
    go_roundw
    case rel => exact ⟨j + 1, by omega, by go_num, by (first | go_num | (congr 1; push_cast; omega)), HS.out, HG.out⟩
    case measure => simp [intOf]; omega
   ·have hjn : j = n := by omega
    subst hjn
    go_wp2
    go_ret
    refine ⟨rfl, ?_, hgr⟩
    unfold OwnM
    rw [upM_len, ← Hn.out, ← markedM_full, Hn.out]
    exact hown
end Go.Proofs.YtimhnkpccbcohaaGreatDoor

namespace Go.Proofs.YtimhnkpccbcohaaGreatDoor
open Go.RowKit
set_option linter.unusedVariables false

/-- the magazine with k, k + 1, .. in all its matrices -/
def upMM : Int → List (List Mat) → List (List Mat)
 | _, [] => []
 | k, xs :: ms => upM k xs.length :: upMM (k + 2 * (xs.length : Int)) ms
theorem upMM_len : ∀ (ms : List (List Mat)) (k : Int), (upMM k ms).length = ms.length
 | [], _ => rfl
 | xs :: ms, k => by unfold upMM; rw [List.length_cons, upMM_len, List.length_cons]
theorem tot_cons (xs : List Mat) (ms : List (List Mat)) : tot (xs :: ms) = xs.length + tot ms := by unfold tot; simp
theorem upMM_snoc (xs : List Mat) : ∀ (ms : List (List Mat)) (k : Int), upMM k (ms ++ [xs]) = upMM k ms ++ [upM (k + 2 * (tot ms : Int)) xs.length]
 | [], k => by simp [upMM, tot]
 | ys :: ms, k => by
  rw [List.cons_append]
  unfold upMM
  rw [upMM_snoc xs ms, List.cons_append, tot_cons]
  have : k + 2 * (ys.length : Int) + 2 * (tot ms : Int) = k + 2 * ((ys.length + tot ms : Nat) : Int) := by push_cast; omega
  rw [this]
def markedMM (k : Int) (ms : List (List Mat)) (j : Nat) : List (List Mat) := upMM k (ms.take j) ++ ms.drop j
theorem markedMM_len {k : Int} {ms : List (List Mat)} {j : Nat} (h : j ≤ ms.length) : (markedMM k ms j).length = ms.length := by
 unfold markedMM; rw [List.length_append, upMM_len, List.length_take, List.length_drop]; omega
theorem markedMM_get {k : Int} {ms : List (List Mat)} {j : Nat} {xs : List Mat} (h : ms[j]? = some xs) : (markedMM k ms j)[j]? = some xs := by
 have hj := (List.getElem?_eq_some_iff.1 h).1
 have hl : (upMM k (ms.take j)).length = j := by rw [upMM_len, List.length_take]; omega
 unfold markedMM
 rw [List.getElem?_append_right (by omega), hl, Nat.sub_self, List.getElem?_drop, Nat.add_zero]
 exact h
theorem markedMM_set {k : Int} {ms : List (List Mat)} {j : Nat} {xs : List Mat} (h : ms[j]? = some xs) : (markedMM k ms j).set j (upM (k + 2 * (tot (ms.take j) : Int)) xs.length) = markedMM k ms (j + 1) := by
 have hj := (List.getElem?_eq_some_iff.1 h).1
 have hl : (upMM k (ms.take j)).length = j := by rw [upMM_len, List.length_take]; omega
 unfold markedMM
 rw [List.set_append, if_neg (by omega), hl, Nat.sub_self, ttake_at h, upMM_snoc]
 have hd : ms.drop j = ms[j] :: ms.drop (j + 1) := List.drop_eq_getElem_cons hj
 rw [hd, List.set_cons_zero, List.append_assoc]
 rfl
theorem markedMM_full {k : Int} {ms : List (List Mat)} : markedMM k ms ms.length = upMM k ms := by unfold markedMM; simp

theorem OwnMag.row {w w' : World} {B hi : Nat} {v : Value} {hs : List Value} {ms : List (List Mat)} {i : Nat} {h : Value} {xs ys : List Mat} (hM : OwnMag w B hi v hs ms) (hx : ms[i]? = some xs) (hh : hs[i]? = some h) (hl : ys.length = xs.length) (hg : w.grownBy w' h.ownBlock) (ho : OwnM w' B h ys) : OwnMag w' B hi v hs (ms.set i ys) where
 outer := by
  rw [List.length_set]
  refine World.ownsRow.kept hM.outer hg ?_
  cases hb : h.ownBlock with
  | none => cases hv : v.ownBlock with
   | none => exact .inl rfl
   | some g => exact .inr (by simp)
  | some g => exact .inr (hM.other i h g hh hb).1
 rows := fun j zs hz => by
  have hi := (List.getElem?_eq_some_iff.1 hx).1
  by_cases e : j = i
  ·subst e
   rw [List.getElem?_set_self hi] at hz
   injection hz with hz
   subst hz
   exact ⟨h, hh, ho⟩
  ·rw [List.getElem?_set_ne (by omega)] at hz
   obtain ⟨hj, e1, e2⟩ := hM.rows j zs hz
   refine ⟨hj, e1, e2.grown hg ?_⟩
   cases hb : hj.ownBlock with
   | none => exact .inl rfl
   | some g =>
    refine .inr fun e3 => e ?_
    exact hM.apart j i hj h g e1 hh hb e3.symm
 apart := hM.apart
 other := hM.other
 top := hM.top

set_option maxRecDepth 100000 in
set_option maxHeartbeats 800000 in
theorem markMatrixSS_any (lo hi : Nat) (v : Value) (hs : List Value) (k : Int) (ms : List (List Mat)) (w : World) (hk0 : 0 ≤ k) (hk1 : k ≤ 2097152) (hl : ms.length ≤ 1048576) (ht : tot ms ≤ 1048576) (h : OwnMag w lo hi v hs ms) :
  Calls Tryz.prog 47 #[v, .int .i64 k] w fun e w' => e = .returned (.int .i64 (k + 2 * tot ms)) ∧ OwnMag w' lo hi v hs (upMM k ms) ∧ Chg lo hi w w' := by
 rcases h.outer.2 with ⟨rfl, hn⟩ | ⟨g, cap, cur, rfl, hg, hh, hrest⟩
 ·have hz : ms = [] := List.eq_nil_of_length_eq_zero hn
  subst hz
  go_enter Tryz.func47, Tryz.ntmps47
  go_wp2
  refine wp_loop_rounds 1 ?_
  rw [rounds_succ]
  go_wp2
  go_ret
  exact ⟨ret_int (by simp [tot]), h, Chg.refl _ _ _⟩
 ·obtain ⟨n, hn⟩ : ∃ n, ms.length = n := ⟨_, rfl⟩
  rw [hn] at hl hrest h ⊢
  have Hn := Lib.hid hn
  have HO := Lib.hid h
  have HT := Lib.hid ht
  clear hn h hh hrest cur hg ht
  go_enter Tryz.func47, Tryz.ntmps47
  go_wp2
  go_loopw [1, 5] (fun q i wr => ∃ j : Nat, j ≤ n ∧ i = .int .i64 j ∧ q = .int .i64 (k + 2 * (tot (ms.take j) : Int)) ∧ OwnMag wr lo hi (.slice (some ⟨g, 0, none⟩) n cap) hs (markedMM k ms j) ∧ Chg lo hi w wr) (fun _ i _ => n - (intOf i).toNat)
  case atStart => exact ⟨0, Nat.zero_le _, rfl, by simp [tot], by have := HO.out; simpa [markedMM, upMM] using this, Chg.refl _ _ _⟩
  case round =>
   obtain ⟨j, hj, rfl, rfl, hown, hc⟩ := hrel
   by_cases hlt : j < n
   ·obtain ⟨xs, hx⟩ : ∃ xs, ms[j]? = some xs := ⟨_, List.getElem?_eq_getElem (by rw [Hn.out]; exact hlt)⟩
    have htl := tot_le hx
    have htk := tot_snoc (ms.take j) xs
    rw [← ttake_at hx] at htk
    have hmx := markedMM_get (k := k) hx
    obtain ⟨hj', hhj, hoj⟩ := hown.rows j xs hmx
    have hml : (markedMM k ms j).length = n := by rw [markedMM_len (by rw [Hn.out]; omega), Hn.out]
    have ho := hown.outer
    rw [hml] at ho
    have d1 := (ho.cellAt j (by omega)).trans hhj
    have f1 := ho.frozenAt j
    have hgr := fun g' (hg' : hj'.ownBlock = some g') => And.intro (hown.blocks j hj' g' hhj hg').1 (hown.other j hj' g' hhj hg').2
    obtain ⟨Aj, cj, hvj, _⟩ := hoj.form
    subst hvj
    obtain ⟨q, hq⟩ : ∃ q, k + 2 * (tot (ms.take j) : Int) = q := ⟨_, rfl⟩
    have hTo := HT.out
    have hq0 : 0 ≤ q := by omega
    have hq1 : q ≤ 4194304 := by omega
    have hxl : xs.length ≤ 1048576 := by omega
    have hset := markedMM_set (k := k) hx
    rw [hq] at hset
    have HQ : Hid (q + 2 * (xs.length : Int) = k + 2 * (tot (ms.take (j + 1)) : Int)) := by show _ = _; rw [htk, ← hq]; push_cast; omega
    have HX := Lib.hid hmx; have HH := Lib.hid hhj; have HOJ := Lib.hid hoj; have HM := Lib.hid hown; have HC := Lib.hid hc
    have HS := Lib.hid hset; have HG := Lib.hid hgr
    rw [hq]
    clear hTo hset hgr hq hml ho hoj hown hmx hhj htl htk hc hx
    go_wp2_with fail
    refine (markMatrixS_any lo _ q xs _ hq0 hq1 hxl HOJ.out).mono ?_
    rintro e w2 ⟨rfl, ho2, hg2⟩
    have HM2 := HM.out.row HX.out HH.out (by rw [upM_len]) hg2 ho2
    rw [HS.out] at HM2
    have HM3 := Lib.hid HM2
    have HC2 := Lib.hid (HC.out.trans (Chg.of_grown hg2 HG.out))
    rw [HQ.out]
    clear HM2 ho2 hg2
    go_wp2
    go_roundw
    case rel => exact ⟨j + 1, by omega, by go_num, rfl, HM3.out, HC2.out⟩
    case measure => simp [intOf]; omega
   ·have hjn : j = n := by omega
    subst hjn
    rw [ttake_all Hn.out]
    go_wp2
    go_ret
    refine ⟨rfl, ?_, hc⟩
    rw [← Hn.out, markedMM_full] at hown
    rw [Hn.out] at hown
    exact hown
end Go.Proofs.YtimhnkpccbcohaaGreatDoor

namespace Go.Proofs.YtimhnkpccbcohaaGreatDoor
open Go.RowKit
set_option linter.unusedVariables false

theorem upMM_append (b : List (List Mat)) : ∀ (a : List (List Mat)) (k : Int), upMM k (a ++ b) = upMM k a ++ upMM (k + 2 * (tot a : Int)) b
 | [], k => by simp [upMM, tot]
 | xs :: a, k => by
  show upM k xs.length :: upMM (k + 2 * (xs.length : Int)) (a ++ b) = upM k xs.length :: (upMM (k + 2 * (xs.length : Int)) a ++ upMM (k + 2 * (tot (xs :: a) : Int)) b)
  rw [upMM_append b a, tot_cons]
  have : k + 2 * (xs.length : Int) + 2 * (tot a : Int) = k + 2 * ((xs.length + tot a : Nat) : Int) := by push_cast; omega
  rw [this]
theorem upMM_get {ms : List (List Mat)} {j : Nat} {xs : List Mat} (k : Int) (h : ms[j]? = some xs) : (upMM k ms)[j]? = some (upM (k + 2 * (tot (ms.take j) : Int)) xs.length) := by
 have hj := (List.getElem?_eq_some_iff.1 h).1
 have e : ms = ms.take j ++ (xs :: ms.drop (j + 1)) := by
  have h1 : ms.drop j = ms[j] :: ms.drop (j + 1) := List.drop_eq_getElem_cons hj
  have h2 : ms[j] = xs := by rw [List.getElem?_eq_getElem hj] at h; injection h
  rw [← h2, ← h1, List.take_append_drop]
 have hl : (upMM k (ms.take j)).length = j := by rw [upMM_len, List.length_take]; omega
 have e2 : upMM k ms = upMM k (ms.take j) ++ upMM (k + 2 * (tot (ms.take j) : Int)) (xs :: ms.drop (j + 1)) := by
  conv => lhs; rw [e]
  rw [upMM_append]
 rw [e2, List.getElem?_append_right (by omega), hl, Nat.sub_self]
 rfl

set_option maxRecDepth 100000 in
set_option maxHeartbeats 800000 in
theorem heldMatrixS_any (lo hi : Nat) (A : Option Addr) (n c : Nat) (k : Int) (w : World) (hk0 : 0 ≤ k) (hk1 : k ≤ 4194304) (hl : n ≤ 1048576) (h : MatsI w lo hi A (upM k n)) :
  Calls Tryz.prog 51 #[.slice A n c, .int .i64 k] w fun e w' => e = .returned (.int .i64 (k + 2 * n)) ∧ w = w' := by
 go_enter Tryz.func51, Tryz.ntmps51
 go_wp2
 go_loop [1, 5] (fun q i => ∃ j : Nat, j ≤ n ∧ i = .int .i64 j ∧ q = .int .i64 (k + 2 * j)) (fun _ i => n - (intOf i).toNat)
 case atStart => exact ⟨0, Nat.zero_le _, rfl, by simp⟩
 case round =>
  obtain ⟨j, hj, rfl, rfl⟩ := hrel
  by_cases hlt : j < n
  ·obtain ⟨ad, x, rfl, hx, c1, c2⟩ := h.at_ (k := j) (by rw [upM_len]; exact hlt)
   have hxe : (k + 2 * (j : Int), k + 2 * (j : Int) + 1) = x := by have := hx.out; rw [upM_get _ hlt] at this; injection this
   subst hxe
   simp only at c1 c2
   have hkb : 0 ≤ k + 2 * (j : Int) := by omega
   have hkc : k + 2 * (j : Int) ≤ 8388608 := by omega
   clear h hx
   go_wp2
   go_round
   case rel => exact ⟨j + 1, by omega, by go_num, by (first | go_num | (congr 1; push_cast; omega))⟩
   case measure => simp [intOf]; omega
  ·have hjn : j = n := by omega
   subst hjn
   go_wp2
   go_ret
   exact ⟨rfl, rfl⟩

set_option maxRecDepth 100000 in
set_option maxHeartbeats 800000 in
theorem heldMatrixSS_any (lo hi : Nat) (A : Option Addr) (n c : Nat) (k : Int) (ms : List (List Mat)) (w : World) (hn : ms.length = n) (hk0 : 0 ≤ k) (hk1 : k ≤ 2097152) (hl : n ≤ 1048576) (ht : tot ms ≤ 1048576) (h : MagI w lo hi A (upMM k ms)) :
  Calls Tryz.prog 50 #[.slice A n c, .int .i64 k] w fun e w' => e = .returned (.int .i64 (k + 2 * tot ms)) ∧ w = w' := by
 have Hn := Lib.hid hn; clear hn
 have HT := Lib.hid ht; clear ht
 go_enter Tryz.func50, Tryz.ntmps50
 go_wp2
 go_loop [1, 5] (fun q i => ∃ j : Nat, j ≤ n ∧ i = .int .i64 j ∧ q = .int .i64 (k + 2 * (tot (ms.take j) : Int))) (fun _ i => n - (intOf i).toNat)
 case atStart => exact ⟨0, Nat.zero_le _, rfl, by simp [tot]⟩
 case round =>
  obtain ⟨j, hj, rfl, rfl⟩ := hrel
  by_cases hlt : j < n
  ·obtain ⟨ad, xs', Aj, cj, rfl, hx', hc, hcap, hcm, hI⟩ := h.at_ (k := j) (by rw [upMM_len, Hn.out]; exact hlt)
   obtain ⟨xs, hx⟩ : ∃ xs, ms[j]? = some xs := ⟨_, List.getElem?_eq_getElem (by rw [Hn.out]; exact hlt)⟩
   have hxe : upM (k + 2 * (tot (ms.take j) : Int)) xs.length = xs' := by have := hx'.out; rw [upMM_get k hx] at this; injection this
   subst hxe
   rw [upM_len] at hc hcap
   have htl := tot_le hx
   have htk := tot_snoc (ms.take j) xs
   rw [← ttake_at hx] at htk
   have hTo := HT.out
   obtain ⟨q, hq⟩ : ∃ q, k + 2 * (tot (ms.take j) : Int) = q := ⟨_, rfl⟩
   rw [hq] at hI ⊢
   have hq0 : 0 ≤ q := by omega
   have hq1 : q ≤ 4194304 := by omega
   have hxl : xs.length ≤ 1048576 := by omega
   have HQ : Hid (q + 2 * (xs.length : Int) = k + 2 * (tot (ms.take (j + 1)) : Int)) := by show _ = _; rw [htk, ← hq]; push_cast; omega
   obtain ⟨q2, hq2⟩ : ∃ q2, q + 2 * (xs.length : Int) = q2 := ⟨_, rfl⟩
   have hd : decide (q2 < 0) = false := by rw [decide_eq_false_iff_not]; omega
   have HQ2 := Lib.hid hq2
   have HI := Lib.hid hI
   clear hTo htl htk hq hx hx' hI h hcap hcm hq2
   go_wp2_with fail
   refine (heldMatrixS_any lo hi _ _ _ q _ hq0 hq1 hxl HI.out).mono ?_
   rintro e w' ⟨rfl, rfl⟩
   rw [HQ2.out]
   go_wp2
   go_round
   case rel => exact ⟨j + 1, by omega, by go_num, by rw [← HQ.out, HQ2.out]⟩
   case measure => simp [intOf]; omega
  ·have hjn : j = n := by omega
   subst hjn
   rw [ttake_all Hn.out]
   go_wp2
   go_ret
   exact ⟨rfl, rfl⟩
end Go.Proofs.YtimhnkpccbcohaaGreatDoor

namespace Go.Proofs.YtimhnkpccbcohaaGreatDoor
open Go.RowKit
set_option linter.unusedVariables false

set_option maxRecDepth 100000 in
set_option maxHeartbeats 1600000 in
theorem eqMatrixSS_same (lo hi lo2 hi2 : Nat) (A B : Option Addr) (n c d : Nat) (ms : List (List Mat)) (w : World) (hn : ms.length = n) (hl : n ≤ 1048576) (hlim : ∀ xs ∈ ms, xs.length ≤ 1048576) (hhi : hi ≤ w.heap.size) (hhi2 : hi2 ≤ w.heap.size) (h : MagI w lo hi A ms) (h2 : MagI w lo2 hi2 B ms) :
  Calls Tryz.prog 43 #[.slice A n c, .slice B n d] w fun e w' => e = .returned (.bool true) ∧ Below w.heap.size w w' := by
 have Hn := Lib.hid hn; have Hlim := Lib.hid hlim
 have H1 := Lib.hid h; have H2 := Lib.hid h2
 clear hn h h2 hlim
 go_enter Tryz.func43, Tryz.ntmps43
 go_wp2
 go_loopw [5] (fun i wr => ∃ k : Nat, k ≤ n ∧ i = .int .i64 k ∧ Below w.heap.size w wr) (fun i _ => n - (intOf i).toNat)
 case atStart => exact ⟨0, Nat.zero_le _, rfl, Below.refl _ _⟩
 case round =>
  obtain ⟨k, hk, rfl, hb⟩ := hrel
  have HB := Lib.hid hb
  clear hb
  by_cases hlt : k < n
  ·obtain ⟨ad, xs, Aj, cj, rfl, hx, hc1, hp1, hp2, hI⟩ := (H1.out.below hhi HB.out).at_ (k := k) (by rw [Hn.out]; exact hlt)
   obtain ⟨bd, ys, Bj, dj, rfl, hy, hd1, hq1, hq2, hJ⟩ := (H2.out.below hhi2 HB.out).at_ (k := k) (by rw [Hn.out]; exact hlt)
   have hxy : xs = ys := by have := hx.out; rw [hy.out] at this; injection this with this; exact this.symm
   subst hxy
   have hxl := Hlim.out xs (List.mem_of_getElem? hx.out)
   have HI := Lib.hid hI; have HJ := Lib.hid hJ
   clear hI hJ hp1 hp2 hq1 hq2
   have hsz := HB.out.size
   obtain ⟨l, hl'⟩ : ∃ l, xs.length = l := ⟨_, rfl⟩
   rw [hl'] at hc1 hd1 hxl
   have HL := Lib.hid hl'
   clear hl'
   go_wp2
   go_still_tail 8, (by kernel_rfl)
   change wpList _ _ _ _ _ wr.drew
   have hIl : l ≤ maxLen := by unfold maxLen; omega
   go_wp2_with fail
   refine (eqMatrixS_any lo hi lo2 hi2 _ _ _ _ _ _ xs xs wr.drew HL.out HL.out hxl hIl (by show _ ≤ wr.heap.size; omega) (by show _ ≤ wr.heap.size; omega) (show MatsI wr.drew lo hi Aj xs from HI.out) (show MatsI wr.drew lo2 hi2 Bj xs from HJ.out)).mono ?_
   rintro e w2 ⟨rfl, hb2⟩
   have HB2 := Lib.hid (HB.out.drew.trans (hb2.mono hsz))
   have ht : decide (xs = xs) = true := by simp
   rw [ht]
   clear hb2 ht hsz
   go_wp2
   go_roundw
   case rel => exact ⟨k + 1, by omega, by go_num, HB2.out⟩
   case measure => simp [intOf]; omega
  ·have hkn : k = n := by omega
   subst hkn
   go_wp2
   go_ret
   exact ⟨rfl, HB.out⟩
end Go.Proofs.YtimhnkpccbcohaaGreatDoor
