/-
  Fonts as values: how one reads in memory, and the laws' helpers szFont, toFont, eqFont, markFont by contract. Conditions: lengths of at most 2^20.
-/
import Derived.Test.YthoepelgmplcmaaPkA
import Derived.Test.YthoepelgmplcmaaMem
import Derived.Outline
namespace Go.Proofs.Ythoepelgmplcmaa
open Go.RowKit
set_option linter.unusedVariables false

/-- letters, widths, codes -/
structure Fnt where
  s : ByteArray
  ws : List Int
  cs : List Int

/-- the slice with the address A reads as zs, in blocks from lo up to hi -/
def IntsI (w : World) (lo hi : Nat) (A : Option Addr) (zs : List Int) : Prop :=
  0 < zs.length → ∃ ad, A = some ad ∧ lo ≤ ad.block ∧ ad.block < hi ∧ ∀ j, j < zs.length → w.cell? (ad.add j) = some (.int .i64 (zs.getD j 0))
section
variable {w w' : World} {lo hi : Nat} {A : Option Addr} {zs : List Int}
theorem IntsI.ints (h : IntsI w lo hi A zs) : Ints w A zs := fun hn => by
  obtain ⟨ad, e, _, _, hc⟩ := h hn
  exact ⟨ad, e, hc⟩
theorem IntsI.of (h : Ints w A zs) : IntsI w 0 w.heap.size A zs := fun hn => by
  obtain ⟨ad, e, hc⟩ := h hn
  exact ⟨ad, e, Nat.zero_le _, by have := World.block_lt_of_cell? _ _ (hc 0 hn); rwa [block_add] at this, hc⟩
theorem IntsI.keep (h : IntsI w lo hi A zs) (hk : ∀ p : Addr, lo ≤ p.block → p.block < hi → w'.cell? p = w.cell? p) : IntsI w' lo hi A zs := fun hn => by
  obtain ⟨ad, e, h1, h2, hc⟩ := h hn
  exact ⟨ad, e, h1, h2, fun j hj => (hk _ (by rw [block_add]; exact h1) (by rw [block_add]; exact h2)).trans (hc j hj)⟩
theorem IntsI.below {B : Nat} (h : IntsI w lo hi A zs) (hB : hi ≤ B) (hb : Below B w w') : IntsI w' lo hi A zs := h.keep fun p _ h2 => hb.cell (by omega)
theorem IntsI.wide {lo' hi' : Nat} (h : IntsI w lo hi A zs) (h1 : lo' ≤ lo) (h2 : hi ≤ hi') : IntsI w lo' hi' A zs := fun hn => by
  obtain ⟨ad, e, g1, g2, hc⟩ := h hn
  exact ⟨ad, e, by omega, by omega, hc⟩
theorem IntsI.of_own {B n c : Nat} (h : Own w B (.slice A n c) zs) : IntsI w B w.heap.size A zs := fun hn => by
  obtain ⟨A', c', hv, hI, hA, _, _⟩ := h.form
  injection hv with e1 e2 e3
  subst e1
  obtain ⟨ad, e, hc⟩ := hI hn
  obtain ⟨g, rfl, h1, h2⟩ := hA ad e
  exact ⟨_, e, h1, h2, hc⟩
end

/-- the value v reads as the font f, in blocks from lo up to hi -/
def FontV (w : World) (lo hi : Nat) (v : Value) (f : Fnt) : Prop :=
  ∃ A c B d, v = .agg #[.string f.s, .slice A f.ws.length c, .slice B f.cs.length d] ∧ IntsI w lo hi A f.ws ∧ IntsI w lo hi B f.cs ∧ f.ws.length ≤ c ∧ c ≤ maxLen ∧ f.cs.length ≤ d ∧ d ≤ maxLen ∧ f.s.size ≤ maxLen
def Small (f : Fnt) : Prop := f.s.size ≤ 1048576 ∧ f.ws.length ≤ 1048576 ∧ f.cs.length ≤ 1048576
theorem FontV.below {w w' : World} {lo hi B : Nat} {v : Value} {f : Fnt} (h : FontV w lo hi v f) (hB : hi ≤ B) (hb : Below B w w') : FontV w' lo hi v f := by
  obtain ⟨A, c, A2, d, hv, h1, h2, rest⟩ := h
  exact ⟨A, c, A2, d, hv, h1.below hB hb, h2.below hB hb, rest⟩
theorem FontV.keep {w w' : World} {lo hi : Nat} {v : Value} {f : Fnt} (h : FontV w lo hi v f) (hk : ∀ p : Addr, lo ≤ p.block → p.block < hi → w'.cell? p = w.cell? p) : FontV w' lo hi v f := by
  obtain ⟨A, c, A2, d, hv, h1, h2, rest⟩ := h
  exact ⟨A, c, A2, d, hv, h1.keep hk, h2.keep hk, rest⟩
/-- as FontV, and both slices are rows of the call's own, in different blocks -/
def FontO (w : World) (B hi : Nat) (v : Value) (f : Fnt) : Prop :=
  ∃ A c A2 d mid, v = .agg #[.string f.s, .slice A f.ws.length c, .slice A2 f.cs.length d] ∧ Own w B (.slice A f.ws.length c) f.ws ∧ (∀ k, (Value.slice A f.ws.length c).ownBlock = some k → k < mid) ∧ Own w mid (.slice A2 f.cs.length d) f.cs ∧ (∀ k, (Value.slice A2 f.cs.length d).ownBlock = some k → k < hi) ∧ B ≤ mid ∧ mid ≤ hi ∧ f.s.size ≤ maxLen
/-- from w to w' only blocks from lo up to hi have turned, besides new ones -/
structure Chg (lo hi : Nat) (w w' : World) : Prop where
  os : w'.os = w.os
  tape : w'.tape = w.tape
  output : w'.output = w.output
  size : w.heap.size ≤ w'.heap.size
  block : ∀ b, b < w.heap.size → ¬ (lo ≤ b ∧ b < hi) → w'.heap[b]? = w.heap[b]?
theorem Chg.refl (lo hi : Nat) (w : World) : Chg lo hi w w := ⟨rfl, rfl, rfl, Nat.le_refl _, fun _ _ _ => rfl⟩
theorem Chg.trans {lo hi : Nat} {a b c : World} (h : Chg lo hi a b) (k : Chg lo hi b c) : Chg lo hi a c :=
  ⟨k.os.trans h.os, k.tape.trans h.tape, k.output.trans h.output, Nat.le_trans h.size k.size, fun i hi hn => (k.block i (Nat.lt_of_lt_of_le hi h.size) hn).trans (h.block i hi hn)⟩
theorem Chg.of_below {lo hi : Nat} {w w' : World} (h : Below w.heap.size w w') : Chg lo hi w w' := ⟨h.os, h.tape, h.output, h.size, fun b hb _ => h.block b hb⟩
theorem Chg.of_grown {lo hi : Nat} {w w' : World} {row : Option Nat} (h : w.grownBy w' row) (hr : ∀ g, row = some g → lo ≤ g ∧ g < hi) : Chg lo hi w w' :=
  ⟨h.os, h.tape, h.output, h.size, fun b hb hn => h.block b hb (fun e => hn (hr b e.symm))⟩
theorem Chg.below {lo hi : Nat} {w w' : World} (h : Chg lo hi w w') (hl : lo ≤ w.heap.size) : Below lo w w' := ⟨h.os, h.tape, h.output, h.size, fun b hb => h.block b (by omega) (by omega)⟩
theorem Chg.cell {lo hi : Nat} {w w' : World} (h : Chg lo hi w w') {p : Addr} (hp : p.block < w.heap.size) (hn : ¬ (lo ≤ p.block ∧ p.block < hi)) : w'.cell? p = w.cell? p := World.cell?_of_block (w := w) (h.block p.block hp hn)
theorem Chg.wide {lo hi lo' hi' : Nat} {w w' : World} (h : Chg lo hi w w') (h1 : lo' ≤ lo) (h2 : hi ≤ hi') : Chg lo' hi' w w' :=
  ⟨h.os, h.tape, h.output, h.size, fun b hb hn => h.block b hb (by omega)⟩
theorem Chg.own {lo hi B : Nat} {w w' : World} {v : Value} {zs : List Int} (h : Chg lo hi w w') (hO : Own w B v zs) (hn : ∀ k, v.ownBlock = some k → ¬ (lo ≤ k ∧ k < hi)) : Own w' B v zs := by
  refine ⟨hO.1, ?_⟩
  have hlt := fun k hk => (World.ownsRow.lt hO k hk).2
  rcases hO.2 with hnil | ⟨g, cap, cur, rfl, hg, hh, rest⟩
  · exact .inl hnil
  · exact .inr ⟨g, cap, cur, rfl, hg, (h.block g (hlt g rfl) (hn g rfl)).trans hh, rest⟩
theorem own_caps {w : World} {B n c : Nat} {A : Option Addr} {zs : List Int} (h : Own w B (.slice A n c) zs) : zs.length ≤ c ∧ c ≤ maxLen := by
  obtain ⟨A', c', hv, _, _, h1, h2⟩ := h.form
  injection hv with e1 e2 e3
  subst e3
  exact ⟨h1, h2⟩
theorem IntsI.cut {w : World} {lo hi hi' n c : Nat} {A : Option Addr} {zs : List Int} (h : IntsI w lo hi A zs) (hO : Own w lo (.slice A n c) zs) (hk : ∀ k, (Value.slice A n c).ownBlock = some k → k < hi') : IntsI w lo hi' A zs := fun hn => by
  obtain ⟨ad, e, h1, h2, hc⟩ := h hn
  subst e
  exact ⟨ad, rfl, h1, hk _ rfl, hc⟩
theorem FontO.font {w : World} {B hi : Nat} {v : Value} {f : Fnt} (h : FontO w B hi v f) : FontV w B hi v f := by
  obtain ⟨A, c, A2, d, mid, hv, h1, hk, h2, hk2, h3, h4, hs⟩ := h
  exact ⟨A, c, A2, d, hv, ((IntsI.of_own h1).cut h1 hk).wide (Nat.le_refl _) h4, ((IntsI.of_own h2).cut h2 hk2).wide h3 (Nat.le_refl _), (own_caps h1).1, (own_caps h1).2, (own_caps h2).1, (own_caps h2).2, hs⟩
theorem FontO.below {w w' : World} {B hi : Nat} {v : Value} {f : Fnt} (h : FontO w B hi v f) (hb : Below w.heap.size w w') : FontO w' B hi v f := by
  obtain ⟨A, c, A2, d, mid, hv, h1, hm, h2, hm2, h3, h4, hs⟩ := h
  exact ⟨A, c, A2, d, mid, hv, h1.below hb, hm, h2.below hb, hm2, h3, h4, hs⟩
theorem FontV.chg {w w' : World} {lo hi lo' hi' : Nat} {v : Value} {f : Fnt} (h : FontV w lo hi v f) (hc : Chg lo' hi' w w') (hs : hi ≤ w.heap.size) (hn : hi ≤ lo' ∨ hi' ≤ lo) : FontV w' lo hi v f :=
  h.keep fun p h1 h2 => hc.cell (by omega) (by omega)

theorem bcell {w w1 : World} {B : Nat} (hb : Below B w w1) : ∀ b o, b < B → w1.cell? ⟨b, o, none⟩ = w.cell? ⟨b, o, none⟩ := fun b o h => hb.cell (p := ⟨b, o, none⟩) h
theorem bfroz {w w1 : World} {B : Nat} (hb : Below B w w1) : ∀ b o, b < B → w1.frozen? ⟨b, o, none⟩ = w.frozen? ⟨b, o, none⟩ := fun b o h => hb.frozen (p := ⟨b, o, none⟩) h

/-! ### szFont -/
/-- what is left, or -1 -/
def takeOff (left k : Int) : Int := if left < k then -1 else left - k
theorem szIntS_any (A : Option Addr) (n c : Nat) (left : Int) (w : World) (hm : n ≤ maxLen) (h0 : 0 ≤ left) (h1 : left ≤ 1048576) :
    Calls Try.prog 120 #[.slice A n c, .int .i64 left] w fun e w' => e = .returned (.int .i64 (takeOff left n)) ∧ w = w' := by
  unfold maxLen at hm
  by_cases hlt : left < n
  · have Hk : Hid (takeOff left n = -1) := by show _ = _; unfold takeOff; rw [if_pos hlt]
    go_enter Try.func120, Try.ntmps120
    go_wp2
    go_ret
    exact ⟨ret_int Hk.out.symm, rfl⟩
  · have Hk : Hid (takeOff left n = left - n) := by show _ = _; unfold takeOff; rw [if_neg hlt]
    go_enter Try.func120, Try.ntmps120
    go_wp2
    go_ret
    exact ⟨ret_int Hk.out.symm, rfl⟩

theorem takeOff_bad {left : Int} {k : Nat} (h : left < k) : takeOff left k = -1 := by unfold takeOff; rw [if_pos h]
theorem takeOff_good {left : Int} {k : Nat} (h : ¬ left < k) : takeOff left k = left - k := by unfold takeOff; rw [if_neg h]
/-- how many parts a font has -/
def Fnt.big (f : Fnt) : Nat := f.s.size + f.ws.length + f.cs.length
set_option maxHeartbeats 800000 in
theorem szFont_any (lo hi : Nat) (v : Value) (f : Fnt) (left : Int) (w : World) (h : FontV w lo hi v f) (h0 : 0 ≤ left) (h1 : left ≤ 1048576) :
    Calls Try.prog 37 #[v, .int .i64 left] w fun e w' => e = .returned (.int .i64 (takeOff left f.big)) ∧ Below w.heap.size w w' := by
  obtain ⟨A, c, A2, d, rfl, hI1, hI2, hc1, hc2, hd1, hd2, hss⟩ := h
  obtain ⟨s, ws, cs⟩ := f
  simp only at *
  obtain ⟨n, hn⟩ : ∃ n, ws.length = n := ⟨_, rfl⟩
  obtain ⟨m, hm⟩ : ∃ m, cs.length = m := ⟨_, rfl⟩
  have hbig : (Fnt.mk s ws cs).big = s.size + n + m := by unfold Fnt.big; simp only; rw [hn, hm]
  rw [hbig, hn, hm]
  rw [hn] at hc1
  rw [hm] at hd1
  clear hn hm hbig hI1 hI2
  have hn1 : n ≤ maxLen := by omega
  have hm1 : m ≤ maxLen := by omega
  have hss0 := hss
  unfold maxLen at hss
  by_cases hlt : left < s.size
  · have Hk : Hid (takeOff left ((s.size + n + m : Nat) : Int) = -1) := by show _ = _; unfold takeOff; rw [if_pos (by omega)]
    clear hc1 hc2 hd1 hd2
    go_enter Try.func37, Try.ntmps37
    go_wp2
    go_ret
    exact ⟨ret_int Hk.out.symm, (Below.refl _ _).alloc (Nat.le_refl _) _⟩
  · by_cases hlt2 : left - s.size < n
    · have Hk : Hid (takeOff left ((s.size + n + m : Nat) : Int) = -1) := by show _ = _; unfold takeOff; rw [if_pos (by omega)]
      have Hq : Hid (takeOff (left - s.size) n = -1) := by show _ = _; unfold takeOff; rw [if_pos hlt2]
      clear hc1 hc2 hd1 hd2 hlt2
      go_enter Try.func37, Try.ntmps37
      go_wp2_with fail
      refine (szIntS_any _ _ _ _ _ hn1 (by omega) (by omega)).mono ?_
      rintro e w' ⟨rfl, rfl⟩
      rw [Hq.out]
      go_wp2
      go_ret
      exact ⟨ret_int Hk.out.symm, (Below.refl _ _).alloc (Nat.le_refl _) _⟩
    · have Hq : Hid (takeOff (left - s.size) n = left - s.size - n) := by show _ = _; unfold takeOff; rw [if_neg hlt2]
      by_cases hlt3 : left - s.size - n < m
      · have Hk : Hid (takeOff left ((s.size + n + m : Nat) : Int) = -1) := by show _ = _; unfold takeOff; rw [if_pos (by omega)]
        have Hr : Hid (takeOff (left - s.size - n) m = -1) := by show _ = _; unfold takeOff; rw [if_pos hlt3]
        clear hc1 hc2 hd1 hd2 hlt3
        go_enter Try.func37, Try.ntmps37
        go_wp2_with fail
        refine (szIntS_any _ _ _ _ _ hn1 (by omega) (by omega)).mono ?_
        rintro e w' ⟨rfl, rfl⟩
        rw [Hq.out]
        go_wp2_with fail
        refine (szIntS_any _ _ _ _ _ hm1 (by omega) (by omega)).mono ?_
        rintro e w' ⟨rfl, rfl⟩
        rw [Hr.out]
        go_wp2
        go_ret
        exact ⟨ret_int Hk.out.symm, (Below.refl _ _).alloc (Nat.le_refl _) _⟩
      · have Hk : Hid (takeOff left ((s.size + n + m : Nat) : Int) = left - s.size - n - m) := by show _ = _; unfold takeOff; rw [if_neg (by omega)]; omega
        have Hr : Hid (takeOff (left - s.size - n) m = left - s.size - n - m) := by show _ = _; unfold takeOff; rw [if_neg hlt3]
        clear hc1 hc2 hd1 hd2
        go_enter Try.func37, Try.ntmps37
        go_wp2_with fail
        refine (szIntS_any _ _ _ _ _ hn1 (by omega) (by omega)).mono ?_
        rintro e w' ⟨rfl, rfl⟩
        rw [Hq.out]
        go_wp2_with fail
        refine (szIntS_any _ _ _ _ _ hm1 (by omega) (by omega)).mono ?_
        rintro e w' ⟨rfl, rfl⟩
        rw [Hr.out]
        go_wp2
        go_ret
        exact ⟨ret_int Hk.out.symm, (Below.refl _ _).alloc (Nat.le_refl _) _⟩
end Go.Proofs.Ythoepelgmplcmaa
