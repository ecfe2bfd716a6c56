/-
 Contracts and plain mathematics (KeyB, As), each with its conditions in its own statement.
-/
import Derived.Test.YtimhnkpccbcohaaGreatDoorZKeyA
import Derived.Test.YtimhnkpccbcohaaGreatDoorZPkA
import Derived.LaidEql
import Derived.Stop.Asserts
import Derived.RowKitTokens
namespace Go.Proofs.YtimhnkpccbcohaaGreatDoor
open Go.RowKit Go.Conc
set_option linter.unusedVariables false
set_option linter.unusedSimpArgs false

theorem EngT.spare {w : World} {lo E : Nat} {X : Mch} {A : Option Addr} {c : Nat} {A2 : Option Addr} {d : Nat} {M : Option Addr} {q e0 : Nat} {L : Option Addr} {lc : Nat} {T : Option Addr} {tc : Nat} {Bc : Option Addr} {dc B hi : Nat} {hs : List (Option Nat)} {km f0 f1 l0 l1 t0 t1 p0 p1 : Nat} (h : EngT w lo E X A c A2 d M q e0 L lc T tc Bc dc B hi hs km f0 f1 l0 l1 t0 t1 p0 p1) (z : Int) : EngT (w.setCell ⟨E, 4, none⟩ (.int .i64 z)) lo E ⟨X.f, X.ms, z, X.w, X.t, X.k, X.ln, X.wt⟩ A c A2 d M q e0 L lc T tc Bc dc B hi hs km f0 f1 l0 l1 t0 t1 p0 p1 := by
 obtain ⟨e1, e2⟩ := h.at_
 have e3 := h.low; have e4 := h.top; have e5 := h.o3; have e6 := h.o4; have e7 := h.o0
 have fE := h.fE; have lE := h.lE; have tE := h.tE
 unfold Off at fE lE tE
 have hc := chg_one w E 4 (.int .i64 z)
 have hz : (w.setCell ⟨E, 4, none⟩ (.int .i64 z)).heap.size = w.heap.size := by simp [World.setCell]
 exact ⟨heapSet (i := 4) h.blk _, h.font.chg hc (by unfold Off; omega), h.line.chg hc (fun k hk => by have := h.line.lt k hk; have := h.lineT k hk; omega), h.lineT, h.wait.chg hc (fun k hk => by have := h.wait.lt k hk; have := h.waitT k hk; omega), h.waitT, h.fl, h.ft, h.lt, h.fE, h.lE, h.tE, h.low, ⟨by omega, by omega, by omega⟩, by rw [hz]; exact h.t0h, h.codes.chgE hc (by omega) (by omega), h.o0, h.made, h.chs.chg (by omega) hc (.inl (by omega)), ownsMapE_chg h.keys hc (by omega), h.o3, h.o4⟩
def bandX (X : Mch) : Mch := if X.sp = 0 then X else if addOk X (-1, 0) then ⟨X.f, X.ms, X.sp - 1, X.w, X.t, X.k, X.ln ++ [(-1, 0)], X.wt⟩ else X
def bandE (X : Mch) (cb : TypeId) (ub : Value) (ct : TypeId) (cu : Value) : Value := if X.sp = 0 then .iface cb ub else addE X (-1, 0) ct cu
set_option maxRecDepth 100000 in
set_option maxHeartbeats 6400000 in
theorem engBand_any (lo E : Nat) (X : Mch) (w : World) {A : Option Addr} {c : Nat} {A2 : Option Addr} {d : Nat} {M : Option Addr} {q e0 : Nat} {L : Option Addr} {lc : Nat} {T : Option Addr} {tc : Nat} {Bc : Option Addr} {dc B hi : Nat} {hs : List (Option Nat)} {km f0 f1 l0 l1 t0 t1 p0 p1 : Nat} (hP : EngT w lo E X A c A2 d M q e0 L lc T tc Bc dc B hi hs km f0 f1 l0 l1 t0 t1 p0 p1) (hln : X.ln.length ≤ 120) (hset : ∀ x ∈ X.ln, bandM x = true ∨ (0 ≤ x.1 ∧ x.1.toNat < X.f.ws.length)) (hs0 : 0 ≤ X.sp) (hs1 : X.sp ≤ 60) (ct : TypeId) (cu : Value) (hg : w.cell? ⟨7, 0, none⟩ = some (.iface ct cu)) (hglo : 7 < lo) (cb : TypeId) (ub : Value) (hgb : w.cell? ⟨6, 0, none⟩ = some (.iface cb ub)) (hgblo : 6 < lo) :
  Calls Tryz.prog 126 #[.pointer (some ⟨E, 0, none⟩)] w fun e w' => e = .returned (bandE X cb ub ct cu) ∧ (∃ (L' : Option Addr) (lc' l0' l1' : Nat), EngT w' lo E (bandX X) A c A2 d M q e0 L' lc' T tc Bc dc B hi hs km f0 f1 l0' l1' t0 t1 p0 p1 ∧ ((l0' = l0 ∧ l1' = l1) ∨ w.heap.size ≤ l0')) ∧ Below lo w w' ∧ Elder E l0 l1 B hi w w' := by
 have hEw := hP.at_.2
 have hlow := hP.low
 have HSET : Hid (∀ x ∈ X.ln ++ [((-1 : Int), (0 : Int))], bandM x = true ∨ (0 ≤ x.1 ∧ x.1.toNat < X.f.ws.length)) := fun x hx => by
  rcases List.mem_append.1 hx with hx | hx
  ·exact hset x hx
  ·rw [List.mem_singleton] at hx; subst hx; left; rfl
 have HLN := Lib.hid hln
 clear hset hln
 obtain ⟨w0, hw0⟩ : ∃ x, w = x := ⟨_, rfl⟩
 rw [hw0] at hP hEw hg hgb
 obtain ⟨z, hz⟩ : ∃ z, X.sp = z := ⟨_, rfl⟩
 rw [hz] at hs0 hs1
 have g4 : w0.cell? ⟨E, 4, none⟩ = some (.int .i64 z) := by rw [← hz]; exact cellOfBlk hP.blk 4
 have HZ := Lib.hid hz
 have HP := Lib.hid hP
 clear hz hP
 rw [hw0]
 by_cases hz0 : z = 0
 ·have HB : Hid (bandE X cb ub ct cu = .iface cb ub ∧ bandX X = X) := by unfold bandE bandX; rw [HZ.out, if_pos hz0, if_pos hz0]; exact ⟨rfl, rfl⟩
  have hzd : (z == 0) = true := by simp [hz0]
  clear hz0 hg
  go_enter Tryz.func126, Tryz.ntmps126
  go_wp2
  go_ret
  rw [HB.out.1, HB.out.2]
  exact ⟨rfl, ⟨_, _, _, _, HP.out, .inl ⟨rfl, rfl⟩⟩, Below.refl _ _, fun _ _ _ _ _ => rfl⟩
 ·have hzd : (z == 0) = false := by simp [hz0]
  have HZ0 := Lib.hid hz0
  have HG := Lib.hid hg
  clear hz0 hg hgb
  go_enter Tryz.func126, Tryz.ntmps126
  go_wp2_with fail
  clear g4
  refine (engAdd_any lo E X (-1) 0 w0 HP.out HLN.out HSET.out ct cu HG.out hglo).mono ?_
  rintro e w1 ⟨rfl, ⟨L', lc', l0', l1', hX, hrel⟩, hb1, hel⟩
  cases hadd : addOk X (-1, 0)
  ·have HB : Hid (bandE X cb ub ct cu = .iface ct cu ∧ bandX X = X) := by unfold bandE bandX addE; rw [HZ.out, if_neg HZ0.out, if_neg HZ0.out, hadd]; exact ⟨rfl, rfl⟩
   unfold addM at hX
   simp only [hadd, Bool.false_eq_true, if_false] at hX
   have HX := Lib.hid hX; have HREL := Lib.hid hrel; have HEL := Lib.hid hel
   have hE : addE X (-1, 0) ct cu = .iface ct cu := by unfold addE; rw [hadd]; rfl
   rw [hE]
   have HBl := Lib.hid hb1
   clear hX hb1 hE hadd hrel hel
   go_wp2
   go_ret
   rw [HB.out.1, HB.out.2]
   exact ⟨rfl, ⟨_, _, _, _, HX.out, HREL.out⟩, HBl.out, HEL.out⟩
  ·have HB : Hid (bandE X cb ub ct cu = .nilIface ∧ bandX X = ⟨X.f, X.ms, z - 1, X.w, X.t, X.k, X.ln ++ [(-1, 0)], X.wt⟩) := by unfold bandE bandX addE; rw [HZ.out, if_neg HZ0.out, if_neg HZ0.out, hadd]; exact ⟨rfl, rfl⟩
   unfold addM at hX
   simp only [hadd, if_true] at hX
   have hP := hX
   have HREL := Lib.hid hrel; have HEL := Lib.hid hel
   have hE : addE X (-1, 0) ct cu = .nilIface := by unfold addE; rw [hadd]; rfl
   rw [hE]
   have g4 : w1.cell? ⟨E, 4, none⟩ = some (.int .i64 z) := by rw [← HZ.out]; exact cellOfBlk hP.blk 4
   have f4 := hP.blk.warm 4
   have HP1 := Lib.hid (hP.spare (z - 1))
   have e1 : IntKind.i64.wrap (z - 1) = z - 1 := by rw [IntKind.wrap_i64]; omega
   have hloE : lo ≤ E := by have := hP.low; have := hP.at_.1; have := hP.o3; have := hP.o4; omega
   have HBl := Lib.hid hb1
   clear hX hb1 hE hadd hP hrel hel
   go_wp2
   go_ret
   rw [HB.out.1, HB.out.2]
   exact ⟨rfl, ⟨_, _, _, _, HP1.out, HREL.out⟩, HBl.out.setCell (p := ⟨E, 4, none⟩) (by show lo ≤ E; exact hloE) _, fun k h1 h2 h3 h4 => ((chg_one w1 E 4 _).block k (by have := HBl.out.size; omega) (by omega)).trans (HEL.out k h1 h2 h3 h4)⟩
end Go.Proofs.YtimhnkpccbcohaaGreatDoor

namespace Go.Proofs.YtimhnkpccbcohaaGreatDoor
open Go.RowKit Go.Extern.Stop Go.Stop Go.Extern
set_option linter.unusedVariables false

end Go.Proofs.YtimhnkpccbcohaaGreatDoor
