/-
 Contracts and plain mathematics (AsK, KeyI, Break, Wear, DropI, TakeI, KeyQ, KeyW, ReadM), each with its conditions in its own statement.
-/
import Derived.Test.YtimhnkpccbcohaaGreatDoorZAsG
import Derived.LaidEql
import Derived.Stop.Asserts
import Derived.RowKitTokens
import Derived.Test.YtimhnkpccbcohaaGreatDoorZKeyT
import Derived.Test.YtimhnkpccbcohaaGreatDoorZCntMagG
import Derived.Test.YtimhnkpccbcohaaGreatDoorZPkB
import Derived.Test.YtimhnkpccbcohaaGreatDoorZPkD
import Derived.Outline
import Derived.Test.YtimhnkpccbcohaaGreatDoorZPkH
import Derived.Deep.RegionHeld3
import Derived.Test.YtimhnkpccbcohaaGreatDoorZTakeM
import Derived.Test.YtimhnkpccbcohaaGreatDoorZMchX2G
namespace Go.Proofs.YtimhnkpccbcohaaGreatDoor
open Go.RowKit Go.Extern.Stop Go.Stop Go.Extern
set_option linter.unusedVariables false

end Go.Proofs.YtimhnkpccbcohaaGreatDoor

namespace Go.Proofs.YtimhnkpccbcohaaGreatDoor
open Go.RowKit Go.Conc
set_option linter.unusedVariables false
set_option linter.unusedSimpArgs false

theorem ErrsAt.below {w w' : World} {lo B : Nat} {e : Errs} (h : ErrsAt w lo e) (hb : Below B w w') (hB : lo ≤ B) : ErrsAt w' lo e :=
 ⟨(hb.cell (by have := h.fl; simp only; omega)).trans h.pf, (hb.cell (by have := h.bl; simp only; omega)).trans h.pb, (hb.cell (by have := h.el; simp only; omega)).trans h.pe, (hb.cell (by have := h.kl; simp only; omega)).trans h.pk, h.fl, h.bl, h.el, h.kl⟩
theorem ErrsAt.wide {w : World} {lo lo' : Nat} {e : Errs} (h : ErrsAt w lo e) (hB : lo ≤ lo') : ErrsAt w lo' e :=
 ⟨h.pf, h.pb, h.pe, h.pk, by have := h.fl; omega, by have := h.bl; omega, by have := h.el; omega, by have := h.kl; omega⟩
/-- the answer of KeyText -/
def KeyRes (X : Mch) (s : ByteArray) (n : Int) (Y : Mch) : Prop := (machB X = false ∧ n = -1 ∧ Y = zeroX) ∨ (machB X = true ∧ ∃ j : Nat, KeyEnd X s j ∧ n = j ∧ Y = keyN X s j)
theorem KeyRes.unique {X : Mch} {s : ByteArray} {n n' : Int} {Y Y' : Mch} (h : KeyRes X s n Y) (h' : KeyRes X s n' Y') : n = n' ∧ Y = Y' := by
 rcases h with ⟨h0, h1, h2⟩ | ⟨h0, j, h1, h2, h3⟩ <;> rcases h' with ⟨g0, g1, g2⟩ | ⟨g0, i, g1, g2, g3⟩
 ·exact ⟨h1.trans g1.symm, h2.trans g2.symm⟩
 ·rw [h0] at g0; cases g0
 ·rw [h0] at g0; cases g0
 ·obtain rfl := h1.unique g1
  exact ⟨h2.trans g2.symm, h3.trans g3.symm⟩
end Go.Proofs.YtimhnkpccbcohaaGreatDoor

namespace Go.Proofs.YtimhnkpccbcohaaGreatDoor
open Go.RowKit
set_option linter.unusedVariables false

/-- the set with the one tooth t -/
def one (t : Int) : Int := 2 ^ t.toNat
end Go.Proofs.YtimhnkpccbcohaaGreatDoor

namespace Go.Proofs.YtimhnkpccbcohaaGreatDoor
open Go.RowKit
set_option linter.unusedVariables false

end Go.Proofs.YtimhnkpccbcohaaGreatDoor

namespace Go.Proofs.YtimhnkpccbcohaaGreatDoor
open Go.RowKit Go.Conc
set_option linter.unusedVariables false
set_option linter.unusedSimpArgs false

theorem fontCodes {w : World} {lo hi n m c d : Nat} {A A2 : Option Addr} {s : ByteArray} {f : Fnt} (h : FontV w lo hi (.agg #[.string s, .slice A n c, .slice A2 m d]) f) : Ints w A2 f.cs := by
 obtain ⟨X, x, Y, y, hv, -, h2, -⟩ := h
 injection hv with hv
 injection hv with hv
 simp only [List.cons.injEq, Value.slice.injEq] at hv
 rw [hv.2.2.1.1]
 exact h2.ints
theorem drop_lt {f : Fnt} {ms : List (List Mat)} {x : Mat} (hmag : magB f ms = true) (hmat : matB f x = true) : fallOf f.cs x.2 < ms.length := by
 obtain ⟨hf, hl, -⟩ := magB_rows hmag
 obtain ⟨h1, -, -⟩ := fontB_codes hf
 unfold matB at hmat
 rw [Bool.and_eq_true, Bool.and_eq_true] at hmat
 obtain ⟨hk, hset, hp⟩ := hmat
 obtain ⟨k0, k1⟩ := (inB_iff _ _ _).1 hk
 have hkl : x.1.toNat < f.cs.length := by omega
 rw [hl, h1]
 unfold fallOf
 refine List.findIdx_lt_length_of_exists ⟨f.cs[x.1.toNat], List.getElem_mem hkl, ?_⟩
 rw [List.getD, List.getElem?_eq_getElem hkl] at hp
 exact hp
end Go.Proofs.YtimhnkpccbcohaaGreatDoor

namespace Go.Proofs.YtimhnkpccbcohaaGreatDoor
open Go.RowKit Go.Conc
set_option linter.unusedVariables false
set_option linter.unusedSimpArgs false

end Go.Proofs.YtimhnkpccbcohaaGreatDoor

namespace Go.Proofs.YtimhnkpccbcohaaGreatDoor
open Go.RowKit Go.Conc Go.Maps
set_option linter.unusedVariables false
set_option linter.unusedSimpArgs false

theorem keyTo_lt {s : ByteArray} {x : Int} {n : Nat} (h : ¬ keyTo s x n < 0) : (keyTo s x n).toNat < n ∧ 0 ≤ keyTo s x n := by
 unfold keyTo at h ⊢
 cases hf : (List.range n).find? (fun i => (byt s i : Int) == x) with
 | none => rw [hf] at h; exact absurd (by show (-1 : Int) < 0; omega) h
 | some i =>
  have := List.mem_range.1 (List.mem_of_find?_eq_some hf)
  simp only
  omega
theorem mach_band {X : Mch} (h : machB X = true) : machB ⟨X.f, X.ms, X.sp - 1, X.w, X.t, X.k, X.ln ++ [(-1, 0)], X.wt⟩ = keyYes X 32 := by
 cases hy : keyYes X 32
 ·cases hb : machB ⟨X.f, X.ms, X.sp - 1, X.w, X.t, X.k, X.ln ++ [(-1, 0)], X.wt⟩
  ·rfl
  ·obtain ⟨-, hsp, -, -, -, -, hg⟩ := machB_parts hb
   obtain ⟨s0, -⟩ := (inB_iff _ _ _).1 hsp
   have s0 : 0 ≤ X.sp - 1 := s0
   have ha : addOk X (-1, 0) = true := hg
   unfold keyYes at hy
   rw [if_pos rfl, ha, decide_eq_true (by omega : X.sp ≠ 0)] at hy
   cases hy
 ·have h1 := keyX_mach h hy
  have hs : X.sp ≠ 0 ∧ addOk X (-1, 0) = true := by
   unfold keyYes at hy
   rw [if_pos rfl, Bool.and_eq_true, decide_eq_true_eq] at hy
   exact hy
  unfold keyX bandX at h1
  rw [if_pos rfl, if_neg hs.1, hs.2, if_pos rfl] at h1
  exact h1
theorem mach_add {X : Mch} {i : Nat} {x : Mat} {xs : List Mat} (h : machB X = true) (hr : X.ms.getD i [] = x :: xs) : machB (addX (tookX X i xs) x) = addOk X x := by
 obtain ⟨hm, hsp, hwl, hwa, hln, hset, -⟩ := machB_parts h
 cases hy : addOk X x
 ·cases hb : machB (addX (tookX X i xs) x)
  ·rfl
  ·obtain ⟨-, -, -, -, -, -, hg⟩ := machB_parts hb
   have ha : addOk X x = true := hg
   rw [ha] at hy; cases hy
 ·obtain ⟨hmt, hx⟩ := magB_tail hm hr
  refine machB_mk hmt ((inB_iff _ _ _).1 hsp) hwl hwa (addOk_len hy) ?_ hy
  show (X.ln ++ [x]).all (setM X.f) = true
  rw [List.all_append, hset]
  simp only [List.all_cons, List.all_nil, Bool.and_true, Bool.true_and]
  unfold setM
  rw [hx]; simp
end Go.Proofs.YtimhnkpccbcohaaGreatDoor

namespace Go.Proofs.YtimhnkpccbcohaaGreatDoor
open Go.RowKit Go.Conc Go.Maps
set_option linter.unusedVariables false
set_option linter.unusedSimpArgs false

theorem mach_smallX {X : Mch} (h : machB X = true) : SmallX X := by
 obtain ⟨b1, b2, b3, b4, b5⟩ := mach_big h
 have ht := tot_lim b3
 unfold Fnt.big at b1
 have hf := magB_font (machB_parts h).1
 have e1 := (fontB_codes hf).1
 exact ⟨⟨by omega, by omega, by omega⟩, by omega, fun xs hx => by have := b3 xs hx; omega, by omega, by omega, by omega⟩
theorem keyX_wf {X : Mch} {r : Int} (h : WfX X) : WfX (keyX X r) := by
 unfold keyX
 by_cases hr : r = 32
 ·rw [if_pos hr]
  unfold bandX
  split
  ·exact h
  ·split
   ·refine ⟨h.ms, fun x hx => ?_, h.wt⟩
    rcases List.mem_append.1 hx with hx | hx
    ·exact h.ln x hx
    ·rw [List.mem_singleton] at hx; subst hx; decide
   ·exact h
 ·rw [if_neg hr]
  split
  ·exact h
  ·unfold keyMX
   cases hrow : X.ms.getD (keyTo X.f.s r X.f.s.size).toNat [] with
   | nil => exact h
   | cons x xs =>
    simp only
    split
    ·have hmem : x :: xs ∈ X.ms := by
      rw [List.getD] at hrow
      cases hq : X.ms[(keyTo X.f.s r X.f.s.size).toNat]? with
      | none => rw [hq] at hrow; simp at hrow
      | some ys => rw [hq] at hrow; simp at hrow; rw [hrow] at hq; exact List.mem_of_getElem? hq
     refine ⟨fun ys hy z hz => ?_, fun z hz => ?_, h.wt⟩
     ·rcases List.mem_or_eq_of_mem_set hy with hy | rfl
      ·exact h.ms ys hy z hz
      ·exact h.ms _ hmem z (by simp [hz])
     ·rcases List.mem_append.1 hz with hz | hz
      ·exact h.ln z hz
      ·rw [List.mem_singleton] at hz; subst hz; exact h.ms _ hmem _ (by simp)
    ·exact h
theorem keyN_wf {X : Mch} {s : ByteArray} (h : WfX X) : ∀ j, WfX (keyN X s j)
 | 0 => h
 | j + 1 => keyX_wf (keyN_wf h j)
end Go.Proofs.YtimhnkpccbcohaaGreatDoor

namespace Go.Proofs.YtimhnkpccbcohaaGreatDoor
open Go.RowKit
set_option linter.unusedVariables false

theorem FontV.wideR {w : World} {lo hi lo' hi' : Nat} {v : Value} {f : Fnt} (h : FontV w lo hi v f) (h1 : lo' ≤ lo) (h2 : hi ≤ hi') : FontV w lo' hi' v f := by
 obtain ⟨A, c, A2, d, hv, i1, i2, rest⟩ := h
 exact ⟨A, c, A2, d, hv, i1.wide h1 h2, i2.wide h1 h2, rest⟩
theorem MchV.mk {w : World} {lo hi : Nat} {X : Mch} {A A2 M L T : Option Addr} {c d e lc tc q l r : Nat} (hF : FontV w lo hi (.agg #[.string X.f.s, .slice A X.f.ws.length c, .slice A2 X.f.cs.length d]) X.f) (hM : MagI w lo hi M X.ms) (hL : MatsI w lo hi L X.ln) (hW : MatsI w lo hi T X.wt)
  (hq : X.ms.length = q) (hl : X.ln.length = l) (hr : X.wt.length = r) (h1 : q ≤ e) (h2 : e ≤ maxLen) (h3 : l ≤ lc) (h4 : lc ≤ maxLen) (h5 : r ≤ tc) (h6 : tc ≤ maxLen) :
  MchV w lo hi (.agg #[.string X.f.s, .slice A X.f.ws.length c, .slice A2 X.f.cs.length d, .slice M q e, .int .i64 X.sp, .int .i64 X.w, .int .i64 X.t, .int .i64 X.k, .slice L l lc, .slice T r tc]) X := by
 subst hq; subst hl; subst hr
 exact ⟨A, c, A2, d, M, e, L, lc, T, tc, rfl, ⟨hF, hM, hL, hW, h1, h2, h3, h4, h5, h6⟩⟩
end Go.Proofs.YtimhnkpccbcohaaGreatDoor
