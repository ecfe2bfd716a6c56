/-
 setLine of the engine by contract: a line is keyed, cast and dropped, or an error tells that it cannot be. Conditions: a machine that is one; the errors read as laid.
-/
import Derived.Test.YtimhnkpccbcohaaGreatDoorZEngTUG
import Derived.Test.YtimhnkpccbcohaaGreatDoorZEngKT
import Derived.Test.YtimhnkpccbcohaaGreatDoorZEngDT
namespace Go.Proofs.YtimhnkpccbcohaaGreatDoor
open Go.RowKit Go.Conc
set_option linter.unusedVariables false
set_option linter.unusedSimpArgs false

/-- what the listed errors are -/
structure SErr where
 es : Errs
 a1 : Addr
 a2 : Addr
 b : Addr
 ca1 : Array Value
 ca2 : Array Value
 ta1 : TypeId
 ta2 : TypeId
 ct : TypeId
 cu : Value
structure SErrAt (w : World) (lo : Nat) (z : SErr) : Prop where
 es : ErrsAt w lo z.es
 ne : z.a1 ≠ z.a2
 b1 : w.heap[z.a1.block]? = some (.cells z.ca1 z.ta1 (0, 0))
 b2 : w.heap[z.a2.block]? = some (.cells z.ca2 z.ta2 (0, 0))
 g1 : w.cell? ⟨3, 0, none⟩ = some (.iface 192 (.pointer (some z.a1)))
 g2 : w.cell? ⟨1, 0, none⟩ = some (.iface 192 (.pointer (some z.a2)))
 g3 : w.cell? ⟨4, 0, none⟩ = some (.iface z.ct z.cu)
 gf : w.cell? ⟨0, 0, none⟩ = some (.iface 192 (.pointer (some z.b)))
 l1 : z.a1.block < lo
 l2 : z.a2.block < lo
 k1 : 3 < lo
 k2 : 1 < lo
 k3 : 4 < lo
 kf : 0 < lo
theorem SErrAt.below {w w' : World} {lo B : Nat} {z : SErr} (h : SErrAt w lo z) (hb : Below B w w') (hB : lo ≤ B) : SErrAt w' lo z := by
 have q1 := h.l1; have q2 := h.l2; have q3 := h.k1; have q4 := h.k2; have q5 := h.k3; have q6 := h.kf
 exact ⟨h.es.below hb hB, h.ne, (hb.block _ (by omega)).trans h.b1, (hb.block _ (by omega)).trans h.b2, (hb.cell (by simp only; omega)).trans h.g1, (hb.cell (by simp only; omega)).trans h.g2, (hb.cell (by simp only; omega)).trans h.g3, (hb.cell (by simp only; omega)).trans h.gf, q1, q2, q3, q4, q5, q6⟩
theorem SErrAt.wide {w : World} {lo lo' : Nat} {z : SErr} (h : SErrAt w lo z) (hB : lo ≤ lo') : SErrAt w lo' z := by
 have q1 := h.l1; have q2 := h.l2; have q3 := h.k1; have q4 := h.k2; have q5 := h.k3; have q6 := h.kf
 exact ⟨h.es.wide hB, h.ne, h.b1, h.b2, h.g1, h.g2, h.g3, h.gf, by omega, by omega, by omega, by omega, by omega, by omega⟩
theorem setOk_castOk {X : Mch} {s : ByteArray} (hm : machB X = true) (hj : keyJ X s = s.size) : setOk X s = (castGo (keyRX X s) true && clearOk (keyRX X s)) := by
 unfold setOk castOk keyRN
 rw [if_pos hm, hj, keyRX_mach s hm]
 simp
theorem setOk_short {X : Mch} {s : ByteArray} (hm : machB X = true) (hj : keyJ X s < s.size) : setOk X s = false := by
 unfold setOk keyRN
 rw [if_pos hm, decide_eq_true (by omega)]; rfl
theorem setT_eq {X : Mch} {s : ByteArray} (h : setOk X s = true) : setT X s = txt (keyRX X s).f (keyRX X s).ln := (cast_on (setOk_key h (setOk_mach h)).2).2.1
set_option maxRecDepth 100000 in
set_option maxHeartbeats 6400000 in
theorem engLine_any (lo E : Nat) (X : Mch) (s : ByteArray) (w : World) (u : Value) {A : Option Addr} {c : Nat} {A2 : Option Addr} {d : Nat} {M : Option Addr} {q e0 : Nat} {L : Option Addr} {lc : Nat} {T : Option Addr} {tc : Nat} {Bc : Option Addr} {dc B hi : Nat} {hs : List (Option Nat)} {km f0 f1 l0 l1 t0 t1 p0 p1 : Nat} (hP : EngT w lo E X A c A2 d M q e0 L lc T tc Bc dc B hi hs km f0 f1 l0 l1 t0 t1 p0 p1) (hu : ∀ g, u.ownBlock = some g → g < w.heap.size ∧ E < g ∧ Off f0 f1 g (g + 1) ∧ Off l0 l1 g (g + 1) ∧ Off t0 t1 g (g + 1)) (hss : s.size ≤ maxLen) (hm : machB X = true) (z : SErr) (hz : SErrAt w lo z) :
  Calls Tryz.prog 60 #[.pointer (some ⟨E, 0, none⟩), .string s] w fun e w' => ∃ er t, e = .returned (.tuple #[.string t, er]) ∧ (setOk X s = true → er = .nilIface ∧ t = setT X s ∧ EngAT w' lo E (setY X s) u) ∧ (setOk X s = false → ∃ ty v, er = .iface ty v) ∧ Below lo w w' ∧ (∀ g, u.ownBlock = some g → w'.heap[g]? = w.heap[g]?) := by
 have HP := Lib.hid hP; have HU := Lib.hid hu; have HZ := Lib.hid hz; have HM := Lib.hid hm; have HSS := Lib.hid hss
 obtain ⟨hBh, hEw⟩ := hP.at_
 have hlow := hP.low; have htop := hP.top; have hp3 := hP.o3; have hp4 := hP.o4
 clear hP hu hz hm hss
 go_enter Tryz.func60, Tryz.ntmps60
 go_wp2_with fail
 refine (engText_any lo E X s w HP.out HSS.out HM.out z.es HZ.out.es).mono ?_
 rintro e w1 ⟨v9, j9, rfl, hKE, hTE, ⟨L9, lc9, l09, l19, hX, hrel⟩, hb1, hel⟩
 have hj9 : keyJ X s = j9 := (keyJ_end X s).unique hKE
 have HZ1 := Lib.hid (HZ.out.below hb1 (Nat.le_refl _))
 have HB1 := Lib.hid hb1
 have hs1 := hb1.size
 have HU1 : Hid (∀ g, u.ownBlock = some g → w1.heap[g]? = w.heap[g]? ∧ g < w.heap.size ∧ E < g ∧ Off f0 f1 g (g + 1) ∧ Off l09 l19 g (g + 1) ∧ Off t0 t1 g (g + 1)) := fun g hg => by
  obtain ⟨q1, q2, q3, q4, q5⟩ := HU.out g hg
  unfold Off at q3 q4 q5 ⊢
  exact ⟨hel g q1 (by omega) (by omega) (by omega), q1, q2, q3, by omega, q5⟩
 have HX := Lib.hid hX
 clear hX hb1 hel hrel
 rcases hTE with ⟨hjs, rfl⟩ | ⟨hjs, t9, u9, rfl⟩
 rotate_left
 ·have HNO := Lib.hid (setOk_short HM.out (by omega : keyJ X s < s.size))
  clear hKE hj9 hjs
  go_wp2
  go_ret2
  exact ⟨_, _, rfl, fun h9 => (by rw [HNO.out] at h9; cases h9), fun _ => ⟨_, _, rfl⟩, HB1.out, fun g hg => (HU1.out g hg).1⟩
 have hjz : keyJ X s = s.size := by omega
 have HSO := Lib.hid (setOk_castOk HM.out hjz)
 have hY : keyN X s j9 = keyRX X s := by unfold keyRX; rw [if_pos HM.out, hj9]
 obtain ⟨Y, hYq⟩ : ∃ Y, keyRX X s = Y := ⟨_, rfl⟩
 have HYM : Hid (machB Y = true) := by show _ = _; rw [← hYq]; exact keyRX_mach s HM.out
 rw [hYq] at hY HSO
 have HY : Hid (EngT w1 lo E Y A c A2 d M q e0 L9 lc9 T tc Bc dc B hi hs km f0 f1 l09 l19 t0 t1 p0 p1) := by rw [← hY]; exact HX
 have HYQ := Lib.hid hYq
 have HF := Lib.hid (mach_facts HYM.out)
 have HW := Lib.hid (machB_parts HYM.out)
 clear hY hYq HX hKE hj9 hjs hjz
 go_wp2_with fail
 cases hgo : castGo Y true
 ·refine (castE_no lo E Y true w1 HY.out.engx HW.out.2.2.2.2.1 HF.out.2.1 z.a1 z.a2 z.ca1 z.ca2 z.ta1 z.ta2 HZ1.out.ne HZ1.out.b1 HZ1.out.b2 HZ1.out.g1 HZ1.out.g2 hgo).mono ?_
  rintro e w2 ⟨⟨a9, rfl⟩, hb2⟩
  have HB2 := Lib.hid hb2
  have HNO : Hid (setOk X s = false) := by show _ = _; rw [HSO.out, hgo]; rfl
  clear hb2 hgo
  go_wp2
  go_ret2
  exact ⟨_, _, rfl, fun h9 => (by rw [HNO.out] at h9; cases h9), fun _ => ⟨_, _, rfl⟩, HB1.out.trans (HB2.out.mono (by omega)), fun g hg => by obtain ⟨k1, k2, -⟩ := HU1.out g hg; exact (HB2.out.block g (by omega)).trans k1⟩
 ·refine (castR_go lo E Y true w1 HY.out HW.out.2.2.2.2.1 HF.out.2.1 z.a1 z.a2 z.ca1 z.ca2 z.ta1 z.ta2 HZ1.out.ne HZ1.out.b1 HZ1.out.b2 HZ1.out.g1 HZ1.out.g2 HW.out.2.2.1 HF.out.2.2.2.1 HF.out.2.2.2.2 HF.out.2.2.1 z.ct z.cu HZ1.out.g3 HZ1.out.k3 hgo).mono ?_
  rintro e w2 ⟨vp, rfl, ⟨T9, tc9, v0, v1, hC, hU9⟩, hb2, hby⟩
  have HB2 := Lib.hid (HB1.out.trans hb2)
  have HZ2 := Lib.hid (HZ1.out.below hb2 (Nat.le_refl _))
  have hs2 := hb2.size
  have HU2 : Hid (∀ g, u.ownBlock = some g → w2.heap[g]? = w.heap[g]? ∧ g < w.heap.size ∧ E < g ∧ Off f0 f1 g (g + 1) ∧ Off l09 l19 g (g + 1) ∧ Off v0 v1 g (g + 1)) := fun g hg => by
   obtain ⟨q0, q1, q2, q3, q4, q5⟩ := HU1.out g hg
   unfold Off at q3 q4 q5 ⊢
   exact ⟨(hby g (by omega) (by omega) (by omega)).trans q0, q1, q2, q3, q4, by rcases hU9 with ⟨rfl, rfl⟩ | h9; exact q5; omega⟩
  have HC := Lib.hid hC
  have HSO2 : Hid (setOk X s = clearOk Y) := by show _ = _; rw [HSO.out, hgo]; rfl
  clear hb2 hby hU9 hC hgo
  cases hcl : clearOk Y
  ·rw [clearE_no hcl]
   have HNO : Hid (setOk X s = false) := by show _ = _; rw [HSO2.out, hcl]
   clear hcl
   go_wp2
   go_ret2
   exact ⟨_, _, rfl, fun h9 => (by rw [HNO.out] at h9; cases h9), fun _ => ⟨_, _, rfl⟩, HB2.out, fun g hg => (HU2.out g hg).1⟩
  ·rw [clearE_yes hcl]
   have HON : Hid (setOk X s = true) := by show _ = _; rw [HSO2.out, hcl]
   have hcm := (setY_eq HON.out).2.2
   rw [HYQ.out] at hcm
   have HCM := Lib.hid (machB_parts hcm)
   clear hcl hcm
   go_wp2_with fail
   refine (engDropR_any lo E (clearX Y) 240 w2 HC.out HCM.out.1 (fun x hx => List.all_eq_true.1 HCM.out.2.2.2.1 x hx) HCM.out.2.2.1 (by omega) (by decide) z.b HZ2.out.gf HZ2.out.kf).mono ?_
   rintro e w3 ⟨rfl, ⟨T8, tc8, hD⟩, hb3, hel3⟩
   have HD := Lib.hid hD; have HB3 := Lib.hid hb3; have HEL := Lib.hid hel3
   clear hD hb3 hel3
   go_wp2
   go_ret2
   refine ⟨_, _, rfl, fun _ => ⟨rfl, by rw [setT_eq HON.out, HYQ.out], ?_⟩, fun h9 => (by rw [HON.out] at h9; cases h9), HB2.out.trans HB3.out, fun g hg => ?_⟩
   ·have h7 := (setY_eq HON.out).2.1
    rw [HYQ.out] at h7
    rw [h7]
    exact ⟨_, _, _, _, _, _, _, _, _, _, _, _, _, _, _, _, _, _, _, _, _, _, _, _, _, HD.out, fun g hg => by obtain ⟨q0, q1, q2, q3, q4, q5⟩ := HU2.out g hg; exact ⟨q2, q3, q4, q5⟩⟩
   ·obtain ⟨q0, q1, q2, q3, q4, q5⟩ := HU2.out g hg
    exact (HEL.out g (by omega) (by omega) (by omega) (by omega)).trans q0
end Go.Proofs.YtimhnkpccbcohaaGreatDoor
