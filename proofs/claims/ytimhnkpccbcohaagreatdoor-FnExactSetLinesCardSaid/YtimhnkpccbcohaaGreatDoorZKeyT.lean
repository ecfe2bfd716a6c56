/-
 keyText of the engine by contract: it goes by runes, and stops at the first that cannot be keyed. Conditions: a machine as it should be; the four listed errors read as laid.
-/
import Derived.Test.YtimhnkpccbcohaaGreatDoorZCntMagG
import Derived.Laws.RangeAny
namespace Go.Proofs.YtimhnkpccbcohaaGreatDoor
open Go.RowKit Go.Conc Go.Maps
set_option linter.unusedVariables false
set_option linter.unusedSimpArgs false

/-- one block that is no part of the engine changes -/
theorem EngT.other {w w' : World} {lo E I : Nat} {X : Mch} {A : Option Addr} {c : Nat} {A2 : Option Addr} {d : Nat} {M : Option Addr} {q e0 : Nat} {L : Option Addr} {lc : Nat} {T : Option Addr} {tc : Nat} {Bc : Option Addr} {dc B hi : Nat} {hs : List (Option Nat)} {km f0 f1 l0 l1 t0 t1 p0 p1 : Nat} (h : EngT w lo E X A c A2 d M q e0 L lc T tc Bc dc B hi hs km f0 f1 l0 l1 t0 t1 p0 p1) (hc : Chg I (I + 1) w w') (h1 : f1 ≤ I) (h2 : t1 ≤ I) (h3 : E < I) (h4 : l1 ≤ I ∨ I < l0) (h5 : lo ≤ I) : EngT w' lo E X A c A2 d M q e0 L lc T tc Bc dc B hi hs km f0 f1 l0 l1 t0 t1 p0 p1 := by
 obtain ⟨e1, e2⟩ := h.at_
 have e3 := h.low; have e4 := h.top; have e5 := h.o3; have e6 := h.o4; have e7 := h.o0; have e8 := hc.size; have e9 := h.t0h
 exact ⟨(hc.block E e2 (by omega)).trans h.blk, h.font.chg hc (by unfold Off; omega), h.line.chg hc (fun k hk => by have := h.line.lt k hk; have := h.lineT k hk; omega), h.lineT, h.wait.chg hc (fun k hk => by have := h.wait.lt k hk; have := h.waitT k hk; omega), h.waitT, h.fl, h.ft, h.lt, h.fE, h.lE, h.tE, h.low, ⟨by omega, by omega, by omega⟩, by omega, h.codes.chgE hc (by omega) (by omega), h.o0, h.made, h.chs.chg (by omega) hc (by omega), ownsMapE_chg h.keys hc (by omega), h.o3, h.o4⟩
/-- the machine after j bytes -/
def keyN (X : Mch) (s : ByteArray) : Nat → Mch
 | 0 => X
 | j + 1 => keyX (keyN X s j) (byt s j)
/-- the first j bytes are keyed -/
def KeyAt (X : Mch) (s : ByteArray) (j : Nat) : Prop := j ≤ s.size ∧ ∀ i, i < j → keyYes (keyN X s i) (byt s i) = true
def KeyEnd (X : Mch) (s : ByteArray) (j : Nat) : Prop := KeyAt X s j ∧ (j = s.size ∨ keyYes (keyN X s j) (byt s j) = false)
theorem KeyEnd.unique {X : Mch} {s : ByteArray} {i j : Nat} (hi : KeyEnd X s i) (hj : KeyEnd X s j) : i = j := by
 rcases Nat.lt_trichotomy i j with h | h | h
 ·have h1 := hj.1.2 i h
  rcases hi.2 with h2 | h2
  ·have := hj.1.1; omega
  ·rw [h1] at h2; cases h2
 ·exact h
 ·have h1 := hi.1.2 j h
  rcases hj.2 with h2 | h2
  ·have := hi.1.1; omega
  ·rw [h1] at h2; cases h2
theorem keyN_mach {X : Mch} {s : ByteArray} (h : machB X = true) : ∀ j, KeyAt X s j → machB (keyN X s j) = true
 | 0, _ => h
 | j + 1, hk => keyX_mach (keyN_mach h j ⟨by have := hk.1; omega, fun i hi => hk.2 i (by omega)⟩) (hk.2 j (by omega))
theorem keyYes_high {Y : Mch} {r : Int} (hl : lettersB Y.f.s = true) (hr : 126 < r) : keyYes Y r = false := by
 unfold keyYes
 rw [if_neg (by omega)]
 unfold keyRow
 rw [keyTo_out hl (.inr hr), if_pos (by omega)]
/-- what key asks of the machine -/
theorem mach_key {Y : Mch} (h : machB Y = true) : lettersB Y.f.s = true ∧ Y.f.s.size ≤ Y.ms.length ∧ (∀ xs ∈ Y.ms, xs.length ≤ 20) ∧ (∀ xs ∈ Y.ms, ∀ x ∈ xs, 0 ≤ x.1 ∧ x.1.toNat < Y.f.ws.length) ∧ Y.ln.length ≤ 120 ∧ (∀ x ∈ Y.ln, bandM x = true ∨ (0 ≤ x.1 ∧ x.1.toNat < Y.f.ws.length)) ∧ 0 ≤ Y.sp ∧ Y.sp ≤ 60 := by
 obtain ⟨hm, -, -, -, hln, -, -⟩ := machB_parts h
 obtain ⟨-, h2, -, h4, h5⟩ := mach_facts h
 have hf := magB_font hm
 obtain ⟨e1, e2, -⟩ := fontB_codes hf
 obtain ⟨-, hl, hr⟩ := magB_rows hm
 refine ⟨fontB_letters hf, by omega, fun xs hx => (hr xs hx).1, fun xs hx x hy => ?_, hln, h2, h4, h5⟩
 have h9 := (hr xs hx).2 x hy
 unfold matB at h9
 rw [Bool.and_eq_true] at h9
 obtain ⟨k0, k1⟩ := (inB_iff _ _ _).1 h9.1
 exact ⟨k0, by omega⟩
theorem nextQ {P : Program} (w : World) (g : Nat) (s : ByteArray) (pos : Nat) (ty : TypeId) (hit : w.heap[g]? = some (.stringIter s pos)) (h : pos < s.size) (r n : Nat) (hd : Utf8.decode s pos = (r, n)) :
  (Instr.next (.pointer (some ⟨g, 0, none⟩)) true ty).run P w = .ok (.tuple #[.bool true, .int .i64 pos, .int .i32 r]) (itSet w g s (pos + n)) := by
 simp only [Instr.next, getObj, setObj, Sem.run_bind, Sem.run, hit, Result.andThen, h, if_true, hd]
 simp [goInt, itSet]
theorem i32_wfQ {b : Nat} (h : b ≤ 2147483647) : (Lit.int .i32 (b : Int)).wf = true := WalkArith.wf_i32 (by omega)
theorem chg_itSet (w : World) (g : Nat) (s : ByteArray) (p : Nat) : Chg g (g + 1) w (itSet w g s p) := by
 have h := itSet_grown w g p s
 exact Chg.of_grown h (fun k hk => by injection hk with hk; omega)
/-- what keyText tells -/
def textE (X : Mch) (s : ByteArray) (j : Nat) (v : Value) : Prop := (j = s.size ∧ v = .nilIface) ∨ (j < s.size ∧ ∃ t u, v = .iface 93 (.agg #[.int .i64 j, .iface t u]))
set_option maxRecDepth 100000 in
set_option maxHeartbeats 6400000 in
theorem engText_any (lo E : Nat) (X : Mch) (s : ByteArray) (w : World) {A : Option Addr} {c : Nat} {A2 : Option Addr} {d : Nat} {M : Option Addr} {q e0 : Nat} {L : Option Addr} {lc : Nat} {T : Option Addr} {tc : Nat} {Bc : Option Addr} {dc B hi : Nat} {hs : List (Option Nat)} {km f0 f1 l0 l1 t0 t1 p0 p1 : Nat} (hP : EngT w lo E X A c A2 d M q e0 L lc T tc Bc dc B hi hs km f0 f1 l0 l1 t0 t1 p0 p1) (hss : s.size ≤ maxLen) (hm : machB X = true) (e : Errs) (hE : ErrsAt w lo e) :
  Calls Tryz.prog 59 #[.pointer (some ⟨E, 0, none⟩), .string s] w fun en w' => ∃ (v : Value) (j : Nat), en = .returned v ∧ KeyEnd X s j ∧ textE X s j v ∧ (∃ (L' : Option Addr) (lc' l0' l1' : Nat), EngT w' lo E (keyN X s j) A c A2 d M q e0 L' lc' T tc Bc dc B hi hs km f0 f1 l0' l1' t0 t1 p0 p1 ∧ ((l0' = l0 ∧ l1' = l1) ∨ w.heap.size ≤ l0')) ∧ Below lo w w' ∧ Elder E l0 l1 B hi w w' := by
 obtain ⟨hBh, hEw⟩ := hP.at_
 have hlow := hP.low; have htop := hP.top; have hp3 := hP.o3; have hp4 := hP.o4
 obtain ⟨w1, hw1⟩ : ∃ x, w.iter s 0 = x := ⟨_, rfl⟩
 have hb1 : Below w.heap.size w w1 := by rw [← hw1]; exact (Below.refl _ _).alloc (Nat.le_refl _) (.stringIter s 0)
 have hit1 : Hid (w1.heap[w.heap.size]? = some (.stringIter s 0)) := by show _ = _; rw [← hw1]; exact World.iter_heap w s 0
 obtain ⟨I, hI⟩ : ∃ x, w.heap.size = x := ⟨_, rfl⟩
 have P1 := Lib.hid (hP.below hb1)
 have T1 : Hid (Below lo w w1) := hb1.mono (by omega)
 have K1 : Hid (KeyAt X s 0) := ⟨Nat.zero_le _, fun i hi => by omega⟩
 have R1 : Hid (ErrsAt w1 lo e) := ⟨(hb1.cell (World.block_lt_of_cell? _ _ hE.pf)).trans hE.pf, (hb1.cell (World.block_lt_of_cell? _ _ hE.pb)).trans hE.pb, (hb1.cell (World.block_lt_of_cell? _ _ hE.pe)).trans hE.pe, (hb1.cell (World.block_lt_of_cell? _ _ hE.pk)).trans hE.pk, hE.fl, hE.bl, hE.el, hE.kl⟩
 have hz1 : I < w1.heap.size := by have := (Array.getElem?_eq_some_iff.1 hit1.out).1; omega
 have HM := Lib.hid hm
 have HLI : Hid (l1 ≤ I ∨ I < l0) := .inl (by omega)
 have Z1 : Hid (Elder E l0 l1 B hi w w1) := fun k h1 _ _ _ => hb1.block k h1
 rw [hI] at hit1
 clear hP hb1 hE hm
 go_enter Tryz.func59, Tryz.ntmps59
 go_wp2
 (try rw [hw1])
 go_loopw [5] (fun iv wr => ∃ (j : Nat) (Lz : Option Addr) (lz u0 u1 : Nat), Hid (KeyAt X s j) ∧ Hid (wr.heap[I]? = some (.stringIter s j)) ∧ Hid (EngT wr lo E (keyN X s j) A c A2 d M q e0 Lz lz T tc Bc dc B hi hs km f0 f1 u0 u1 t0 t1 p0 p1) ∧ Hid (u1 ≤ I ∨ I < u0) ∧ Hid (Below lo w wr) ∧ Hid (ErrsAt wr lo e) ∧ I < wr.heap.size ∧ Hid ((u0 = l0 ∧ u1 = l1) ∨ I ≤ u0) ∧ Hid (Elder E l0 l1 B hi w wr)) (fun iv wr => s.size - wr.iterPos I)
 case atStart => exact ⟨0, L, lc, l0, l1, K1, hit1, P1, HLI, T1, R1, hz1, Lib.hid (.inl ⟨rfl, rfl⟩), Z1⟩
 case round =>
  clear K1 hit1 P1 HLI T1 R1 hz1 hw1 Z1
  obtain ⟨j, Lz, lz, u0, u1, K3, H3, P3, LI3, T3, R3, hz3, V3, Z3⟩ := hrel
  obtain ⟨w3, hq⟩ : ∃ x, x = wr := ⟨_, rfl⟩
  subst hq
  have hjs := K3.out.1
  by_cases hlt : j < s.size
  ·have hmj := keyN_mach HM.out j K3.out
   have MK := Lib.hid (mach_key hmj)
   obtain ⟨r, n, hd⟩ : ∃ r n, Utf8.decode s j = (r, n) := ⟨_, _, rfl⟩
   have hr31 : r ≤ 2147483647 := by have := decode_le s j; rw [hd] at this; exact this
   have hsame : keyYes (keyN X s j) (r : Int) = keyYes (keyN X s j) (byt s j) ∧ (keyYes (keyN X s j) (byt s j) = true → (r = byt s j ∧ n = 1)) := by
    have hbe := byt_eq hlt
    by_cases hb : byt s j < 128
    ·have h9 := decode_ascii s j hlt (by omega)
     rw [hd] at h9
     injection h9 with h9 h8
     rw [h9, ← hbe]
     exact ⟨rfl, fun _ => ⟨rfl, h8⟩⟩
    ·have h9 := (decode_high s j hlt (by omega)).1
     rw [hd] at h9
     have h9 : 128 ≤ r := h9
     rw [keyYes_high MK.out.1 (by omega), keyYes_high MK.out.1 (r := (byt s j : Int)) (by omega)]
     exact ⟨rfl, fun h => by cases h⟩
   have HS := Lib.hid hsame
   have hnx := fun ty => nextQ (P := Tryz.prog) w3 I s j ty H3.out hlt r n hd
   obtain ⟨w4, hw4⟩ : ∃ x, itSet w3 I s (j + n) = x := ⟨_, rfl⟩
   have hc4 : Chg I (I + 1) w3 w4 := by rw [← hw4]; exact chg_itSet _ _ _ _
   have H4 : Hid (w4.heap[I]? = some (.stringIter s (j + n))) := by show _ = _; rw [← hw4]; exact itSet_heap H3.out
   simp only [hw4] at hnx
   have P4 := Lib.hid (P3.out.other hc4 (by omega) (by omega) (by omega) LI3.out (by omega))
   have hz4 := hc4.size
   have T4 := Lib.hid (T3.out.trans ((hc4.below (by omega)).mono (by omega)))
   have R4 : Hid (ErrsAt w4 lo e) := ⟨(hc4.cell (World.block_lt_of_cell? _ _ R3.out.pf) (by have := R3.out.fl; simp only; omega)).trans R3.out.pf, (hc4.cell (World.block_lt_of_cell? _ _ R3.out.pb) (by have := R3.out.bl; simp only; omega)).trans R3.out.pb, (hc4.cell (World.block_lt_of_cell? _ _ R3.out.pe) (by have := R3.out.el; simp only; omega)).trans R3.out.pe, (hc4.cell (World.block_lt_of_cell? _ _ R3.out.pk) (by have := R3.out.kl; simp only; omega)).trans R3.out.pk, R3.out.fl, R3.out.bl, R3.out.el, R3.out.kl⟩
   have Z4 : Hid (Elder E l0 l1 B hi w w4) := fun k h1 h2 h3 h4 => (hc4.block k (by omega) (by omega)).trans (Z3.out k h1 h2 h3 h4)
   have hpos3 : Hid (w3.iterPos I = j) := by show _ = _; unfold World.iterPos; rw [H3.out]
   clear hsame hw4 hc4 hmj hd P3 T3 R3 H3 Z3
   go_wp2_with fail
   clear hnx
   refine (engKey_any lo E (keyN X s j) (r : Int) w4 P4.out (by omega) (i32_wfQ hr31) MK.out.1 MK.out.2.1 MK.out.2.2.1 MK.out.2.2.2.1 MK.out.2.2.2.2.1 MK.out.2.2.2.2.2.1 MK.out.2.2.2.2.2.2.1 MK.out.2.2.2.2.2.2.2 e R4.out).mono ?_
   rintro en w5 ⟨rfl, ⟨L5, l5, v0, v1, hX, hrl⟩, hb5, hel⟩
   have hz5 := hb5.size
   have T5 := Lib.hid (T4.out.trans hb5)
   have H5 : Hid (w5.heap[I]? = some (.stringIter s (j + n))) := (hel I (by omega) (by omega) (by have := LI3.out; omega) (by omega)).trans H4.out
   have LI5 : Hid (v1 ≤ I ∨ I < v0) := by
    have h9 := LI3.out
    rcases hrl with ⟨h7, h8⟩ | h7
    ·rw [h7, h8]; exact h9
    ·right; omega
   have V5 : Hid ((v0 = l0 ∧ v1 = l1) ∨ I ≤ v0) := by
    have h9 := V3.out
    rcases hrl with ⟨h7, h8⟩ | h7
    ·rw [h7, h8]; exact h9
    ·right; show I ≤ v0; omega
   have Z5 : Hid (Elder E l0 l1 B hi w w5) := fun k h1 h2 h3 h4 => (hel k (by omega) h2 (by have h9 := V3.out; rcases h9 with ⟨h7, h8⟩ | h7 <;> omega) h4).trans (Z4.out k h1 h2 h3 h4)
   cases hy : keyYes (keyN X s j) (byt s j)
   ·obtain ⟨hk1, t, u, hk2⟩ := keyX_no (e := e) (HS.out.1.trans hy)
    rw [hk1] at hX
    rw [hk2]
    have HX := Lib.hid hX; have HY := Lib.hid hy
    clear hX hk1 hk2 hrl hb5 hel hy
    go_wp2
    go_ret
    exact ⟨_, j, rfl, ⟨K3.out, .inr HY.out⟩, .inr ⟨hlt, t, u, rfl⟩, ⟨_, _, _, _, HX.out, by rw [hI]; exact V5.out⟩, T5.out, Z5.out⟩
   ·obtain ⟨hr1, hn1⟩ := HS.out.2 hy
    rw [keyE_yes (HS.out.1.trans hy)]
    have HX : Hid (EngT w5 lo E (keyN X s (j + 1)) A c A2 d M q e0 L5 l5 T tc Bc dc B hi hs km f0 f1 v0 v1 t0 t1 p0 p1) := by show EngT _ _ _ _ _ _ _ _ _ _ _ _ _ _ _ _ _ _ _ _ _ _ _ _ _ _ _ _ _; rw [hr1] at hX; exact hX
    have K5 : Hid (KeyAt X s (j + 1)) := ⟨hlt, fun i hi => by
     by_cases h9 : i = j
     ·rw [h9]; exact hy
     ·exact K3.out.2 i (by omega)⟩
    rw [hn1] at H5
    have R5 : Hid (ErrsAt w5 lo e) := ⟨(hb5.cell (by have := R4.out.fl; exact this)).trans R4.out.pf, (hb5.cell (by have := R4.out.bl; exact this)).trans R4.out.pb, (hb5.cell (by have := R4.out.el; exact this)).trans R4.out.pe, (hb5.cell (by have := R4.out.kl; exact this)).trans R4.out.pk, R4.out.fl, R4.out.bl, R4.out.el, R4.out.kl⟩
    have hpos5 : Hid (w5.iterPos I = j + 1) := by show _ = _; unfold World.iterPos; rw [H5.out]
    clear hX hrl hb5 hel hy P4 T4 R4 H4
    go_wp2
    go_roundw
    case rel => exact ⟨j + 1, L5, l5, v0, v1, K5, H5, HX, LI5, T5, R5, by omega, V5, Z5⟩
    case measure => rw [hpos5.out, hpos3.out]; omega
  ·have hjn : j = s.size := by omega
   subst hjn
   have hnx := fun ty => next_end (P := Tryz.prog) w3 I s s.size ty H3.out (Nat.lt_irrefl _)
   go_wp2
   go_ret
   exact ⟨_, s.size, rfl, ⟨K3.out, .inl rfl⟩, .inl ⟨rfl, rfl⟩, ⟨_, _, _, _, P3.out, by rw [hI]; exact V3.out⟩, T3.out, Z3.out⟩
end Go.Proofs.YtimhnkpccbcohaaGreatDoor
