/-
  Contracts and plain mathematics (KeyQ, KeyW, ReadM, L5K, KeyS, LawKey), each with its conditions in its own statement.
-/
import Derived.Test.YtimhnkpccbcohaaGreatDoorKeyM
import Derived.Test.YtimhnkpccbcohaaGreatDoorTakeI
import Derived.Test.YtimhnkpccbcohaaGreatDoorCntMag
import Derived.Test.YtimhnkpccbcohaaGreatDoorKeyT
import Derived.Test.YtimhnkpccbcohaaGreatDoorMchX2
import Derived.Test.YtimhnkpccbcohaaGreatDoorTakeS
import Derived.Test.YtimhnkpccbcohaaGreatDoorPushM
import Derived.Test.YtimhnkpccbcohaaGreatDoorPkH
import Derived.Test.YtimhnkpccbcohaaGreatDoorKeyI
import Derived.Test.YtimhnkpccbcohaaGreatDoorLawsMch
import Derived.Test.YtimhnkpccbcohaaGreatDoorPkA
namespace Go.Proofs.YtimhnkpccbcohaaGreatDoor
open Go.RowKit Go.Conc Go.Maps
set_option linter.unusedVariables false
set_option linter.unusedSimpArgs false

theorem keyTo_lt {s : ByteArray} {x : Int} {n : Nat} (h : ¬ keyTo s x n < 0) : (keyTo s x n).toNat < n ∧ 0 ≤ keyTo s x n := by
  unfold keyTo at h ⊢
  cases hf : (List.range n).find? (fun i => (byt s i : Int) == x) with
  | none => rw [hf] at h; exact absurd (by show (-1 : Int) < 0; omega) h
  | some i =>
    have := List.mem_range.1 (List.mem_of_find?_eq_some hf)
    simp only
    omega
/-- a matrix can be taken where a row is that the rune is taken from -/
theorem take_key {X : Mch} {r : Int} (h : machB X = true) : takeOk X.f X.ms (keyI X.f r) = !(keyRow X r).isEmpty := by
  obtain ⟨hm, -⟩ := machB_parts h
  have hf := magB_font hm
  obtain ⟨-, hl, -⟩ := magB_rows hm
  have hk : keyI X.f r = keyTo X.f.s r X.f.s.size := by unfold keyI; rw [if_pos hf]
  rw [hk]
  unfold takeOk keyRow
  rw [hm, Bool.true_and]
  by_cases hn : keyTo X.f.s r X.f.s.size < 0
  · rw [if_pos hn]
    have : inB (keyTo X.f.s r X.f.s.size) 0 ((X.ms.length : Int) - 1) = false := by unfold inB; exact decide_eq_false (by omega)
    rw [this]; rfl
  · rw [if_neg hn]
    obtain ⟨h1, h2⟩ := keyTo_lt hn
    have : inB (keyTo X.f.s r X.f.s.size) 0 ((X.ms.length : Int) - 1) = true := by unfold inB; exact decide_eq_true (by omega)
    rw [this, Bool.true_and]
    unfold rowAt
    cases X.ms.getD (keyTo X.f.s r X.f.s.size).toNat [] <;> simp
theorem take_yes {X : Mch} {r : Int} {x : Mat} {xs : List Mat} (h : machB X = true) (hr : keyRow X r = x :: xs) : takeX X.f X.ms (keyI X.f r) = x ∧ takeL X.f X.ms (keyI X.f r) = X.ms.set (keyTo X.f.s r X.f.s.size).toNat xs ∧ ¬ keyTo X.f.s r X.f.s.size < 0 ∧ X.ms.getD (keyTo X.f.s r X.f.s.size).toNat [] = x :: xs := by
  have hok := take_key (r := r) h
  rw [hr] at hok
  have hok : takeOk X.f X.ms (keyI X.f r) = true := hok
  have hk : keyI X.f r = keyTo X.f.s r X.f.s.size := by unfold keyI; rw [if_pos (magB_font (machB_parts h).1)]
  unfold keyRow at hr
  by_cases hn : keyTo X.f.s r X.f.s.size < 0
  · rw [if_pos hn] at hr; cases hr
  · rw [if_neg hn] at hr
    have hrow : rowAt X.ms (keyTo X.f.s r X.f.s.size) = x :: xs := hr
    unfold takeX takeL
    rw [hok, if_pos rfl, if_pos rfl, hk, hrow]
    exact ⟨rfl, rfl, hn, hr⟩
theorem mach_band {X : Mch} (h : machB X = true) : machB ⟨X.f, X.ms, X.sp - 1, X.w, X.t, X.k, X.ln ++ [(-1, 0)], X.wt⟩ = keyYes X 32 := by
  cases hy : keyYes X 32
  · cases hb : machB ⟨X.f, X.ms, X.sp - 1, X.w, X.t, X.k, X.ln ++ [(-1, 0)], X.wt⟩
    · rfl
    · obtain ⟨-, hsp, -, -, -, -, hg⟩ := machB_parts hb
      obtain ⟨s0, -⟩ := (inB_iff _ _ _).1 hsp
      have s0 : 0 ≤ X.sp - 1 := s0
      have ha : addOk X (-1, 0) = true := hg
      unfold keyYes at hy
      rw [if_pos rfl, ha, decide_eq_true (by omega : X.sp ≠ 0)] at hy
      cases hy
  · have h1 := keyX_mach h hy
    have hs : X.sp ≠ 0 ∧ addOk X (-1, 0) = true := by
      unfold keyYes at hy
      rw [if_pos rfl, Bool.and_eq_true, decide_eq_true_eq] at hy
      exact hy
    unfold keyX bandX at h1
    rw [if_pos rfl, if_neg hs.1, hs.2, if_pos rfl] at h1
    exact h1
theorem mach_add {X : Mch} {i : Nat} {x : Mat} {xs : List Mat} (h : machB X = true) (hr : X.ms.getD i [] = x :: xs) : machB (addX (tookX X i xs) x) = addOk X x := by
  obtain ⟨hm, hsp, hwl, hwa, hln, hset, -⟩ := machB_parts h
  cases hy : addOk X x
  · cases hb : machB (addX (tookX X i xs) x)
    · rfl
    · obtain ⟨-, -, -, -, -, -, hg⟩ := machB_parts hb
      have ha : addOk X x = true := hg
      rw [ha] at hy; cases hy
  · obtain ⟨hmt, hx⟩ := magB_tail hm hr
    refine machB_mk hmt ((inB_iff _ _ _).1 hsp) hwl hwa (addOk_len hy) ?_ hy
    show (X.ln ++ [x]).all (setM X.f) = true
    rw [List.all_append, hset]
    simp only [List.all_cons, List.all_nil, Bool.and_true, Bool.true_and]
    unfold setM
    rw [hx]; simp
end Go.Proofs.YtimhnkpccbcohaaGreatDoor

namespace Go.Proofs.YtimhnkpccbcohaaGreatDoor
open Go.RowKit Go.Conc Go.Maps
set_option linter.unusedVariables false
set_option linter.unusedSimpArgs false

theorem mach_smallX {X : Mch} (h : machB X = true) : SmallX X := by
  obtain ⟨b1, b2, b3, b4, b5⟩ := mach_big h
  have ht := tot_lim b3
  unfold Fnt.big at b1
  have hf := magB_font (machB_parts h).1
  have e1 := (fontB_codes hf).1
  exact ⟨⟨by omega, by omega, by omega⟩, by omega, fun xs hx => by have := b3 xs hx; omega, by omega, by omega, by omega⟩
theorem keyX_wf {X : Mch} {r : Int} (h : WfX X) : WfX (keyX X r) := by
  unfold keyX
  by_cases hr : r = 32
  · rw [if_pos hr]
    unfold bandX
    split
    · exact h
    · split
      · refine ⟨h.ms, fun x hx => ?_, h.wt⟩
        rcases List.mem_append.1 hx with hx | hx
        · exact h.ln x hx
        · rw [List.mem_singleton] at hx; subst hx; decide
      · exact h
  · rw [if_neg hr]
    split
    · exact h
    · unfold keyMX
      cases hrow : X.ms.getD (keyTo X.f.s r X.f.s.size).toNat [] with
      | nil => exact h
      | cons x xs =>
        simp only
        split
        · have hmem : x :: xs ∈ X.ms := by
            rw [List.getD] at hrow
            cases hq : X.ms[(keyTo X.f.s r X.f.s.size).toNat]? with
            | none => rw [hq] at hrow; simp at hrow
            | some ys => rw [hq] at hrow; simp at hrow; rw [hrow] at hq; exact List.mem_of_getElem? hq
          refine ⟨fun ys hy z hz => ?_, fun z hz => ?_, h.wt⟩
          · rcases List.mem_or_eq_of_mem_set hy with hy | rfl
            · exact h.ms ys hy z hz
            · exact h.ms _ hmem z (by simp [hz])
          · rcases List.mem_append.1 hz with hz | hz
            · exact h.ln z hz
            · rw [List.mem_singleton] at hz; subst hz; exact h.ms _ hmem _ (by simp)
        · exact h
theorem keyN_wf {X : Mch} {s : ByteArray} (h : WfX X) : ∀ j, WfX (keyN X s j)
  | 0 => h
  | j + 1 => keyX_wf (keyN_wf h j)
end Go.Proofs.YtimhnkpccbcohaaGreatDoor

namespace Go.Proofs.YtimhnkpccbcohaaGreatDoor
open Go.RowKit
set_option linter.unusedVariables false

theorem FontV.wideR {w : World} {lo hi lo' hi' : Nat} {v : Value} {f : Fnt} (h : FontV w lo hi v f) (h1 : lo' ≤ lo) (h2 : hi ≤ hi') : FontV w lo' hi' v f := by
  obtain ⟨A, c, A2, d, hv, i1, i2, rest⟩ := h
  exact ⟨A, c, A2, d, hv, i1.wide h1 h2, i2.wide h1 h2, rest⟩
theorem MchV.mk {w : World} {lo hi : Nat} {X : Mch} {A A2 M L T : Option Addr} {c d e lc tc q l r : Nat} (hF : FontV w lo hi (.agg #[.string X.f.s, .slice A X.f.ws.length c, .slice A2 X.f.cs.length d]) X.f) (hM : MagI w lo hi M X.ms) (hL : MatsI w lo hi L X.ln) (hW : MatsI w lo hi T X.wt)
    (hq : X.ms.length = q) (hl : X.ln.length = l) (hr : X.wt.length = r) (h1 : q ≤ e) (h2 : e ≤ maxLen) (h3 : l ≤ lc) (h4 : lc ≤ maxLen) (h5 : r ≤ tc) (h6 : tc ≤ maxLen) :
    MchV w lo hi (.agg #[.string X.f.s, .slice A X.f.ws.length c, .slice A2 X.f.cs.length d, .slice M q e, .int .i64 X.sp, .int .i64 X.w, .int .i64 X.t, .int .i64 X.k, .slice L l lc, .slice T r tc]) X := by
  subst hq; subst hl; subst hr
  exact ⟨A, c, A2, d, M, e, L, lc, T, tc, rfl, ⟨hF, hM, hL, hW, h1, h2, h3, h4, h5, h6⟩⟩
end Go.Proofs.YtimhnkpccbcohaaGreatDoor

namespace Go.Proofs.YtimhnkpccbcohaaGreatDoor
open Go.RowKit Go.Conc
set_option linter.unusedVariables false
set_option linter.unusedSimpArgs false

theorem region_post {P : Program} {ops : Array Oper} {id : Nat} {Q : Exit → Act → World → Prop} {a : Act} {w : World} (R : Act → Act → World → Prop) (h1 : (Code.region id ops true).wp P (fun e a' w' => e = .normal ∧ R a a' w') a w) (h2 : ∀ a' w', R a a' w' → Q .normal a' w') : (Code.region id ops true).wp P Q a w :=
  Code.wp_mono (fun e a' w' h => by obtain ⟨rfl, hr⟩ := h; exact h2 a' w' hr) h1
theorem MchV.wide {w : World} {lo hi lo' hi' : Nat} {v : Value} {X : Mch} (h : MchV w lo hi v X) (h1 : lo' ≤ lo) (h2 : hi ≤ hi') : MchV w lo' hi' v X := by
  obtain ⟨A, c, A2, d, M, e, L, lc, T, tc, hv, hp⟩ := h
  exact ⟨A, c, A2, d, M, e, L, lc, T, tc, hv, ⟨hp.font.wideR h1 h2, hp.mag.wide h1 h2, hp.line.wide h1 h2, hp.wait.wide h1 h2, hp.me, hp.em, hp.ll, hp.lm, hp.tl, hp.tm⟩⟩
/-- the three cases of a byte that is no blank -/
theorem key_part {X : Mch} {b : Int} (h : machB X = true) : (inB (keyI X.f b) 0 ((X.ms.length : Int) - 1) = false ∧ keyRow X b = []) ∨ ∃ i : Nat, keyI X.f b = i ∧ i = (keyTo X.f.s b X.f.s.size).toNat ∧ ¬ keyTo X.f.s b X.f.s.size < 0 ∧ X.ms[i]? = some (keyRow X b) := by
  obtain ⟨hm, -⟩ := machB_parts h
  have hk : keyI X.f b = keyTo X.f.s b X.f.s.size := by unfold keyI; rw [if_pos (magB_font hm)]
  obtain ⟨-, hl, -⟩ := magB_rows hm
  by_cases hn : keyTo X.f.s b X.f.s.size < 0
  · left
    refine ⟨?_, by unfold keyRow; rw [if_pos hn]⟩
    rw [hk]; unfold inB; exact decide_eq_false (by omega)
  · right
    obtain ⟨h1, h2⟩ := keyTo_lt hn
    refine ⟨(keyTo X.f.s b X.f.s.size).toNat, by rw [hk]; omega, rfl, hn, ?_⟩
    unfold keyRow
    rw [if_neg hn, List.getD, List.getElem?_eq_getElem (by omega)]
    rfl
theorem keyYes_nil {X : Mch} {b : Int} (hb : ¬ b = 32) (h : keyRow X b = []) : keyYes X b = false := by unfold keyYes; rw [if_neg hb, h]
theorem keyYes_cons {X : Mch} {b : Int} {x : Mat} {xs : List Mat} (hb : ¬ b = 32) (h : keyRow X b = x :: xs) : keyYes X b = addOk X x := by unfold keyYes; rw [if_neg hb, h]
theorem keyX_cons {X : Mch} {b : Int} {x : Mat} {xs : List Mat} (hb : ¬ b = 32) (hr : X.ms.getD (keyTo X.f.s b X.f.s.size).toNat [] = x :: xs) (hn : ¬ keyTo X.f.s b X.f.s.size < 0) (hy : addOk X x = true) : keyX X b = addX (tookX X (keyTo X.f.s b X.f.s.size).toNat xs) x := by
  unfold keyX keyMX
  rw [if_neg hb, if_neg hn, hr]
  simp only [hy, if_true]
theorem keyX_band {X : Mch} (hy : keyYes X 32 = true) : keyX X 32 = ⟨X.f, X.ms, X.sp - 1, X.w, X.t, X.k, X.ln ++ [(-1, 0)], X.wt⟩ := by
  unfold keyYes at hy
  rw [if_pos rfl, Bool.and_eq_true, decide_eq_true_eq] at hy
  unfold keyX bandX
  rw [if_pos rfl, if_neg hy.1, hy.2, if_pos rfl]
theorem tot_set {i : Nat} {x : Mat} {xs : List Mat} : ∀ {ms : List (List Mat)}, ms[i]? = some (x :: xs) → tot (ms.set i xs) + 1 = tot ms
  | [], h => by simp at h
  | ys :: ms, h => by
    cases i with
    | zero =>
      simp at h; subst h
      simp [tot]; omega
    | succ i =>
      have h := tot_set (i := i) (ms := ms) (by simpa using h)
      unfold tot at h ⊢
      simp only [List.set_cons_succ, List.map_cons, List.sum_cons] at h ⊢
      omega
theorem small_add {X : Mch} {ms : List (List Mat)} {sp : Int} {x : Mat} (h : machB X = true) (hl : ms.length = X.ms.length) (ht : tot ms ≤ tot X.ms) (hr : ∀ xs ∈ ms, xs.length ≤ 20) : SmallX ⟨X.f, ms, sp, X.w, X.t, X.k, X.ln ++ [x], X.wt⟩ := by
  obtain ⟨b1, b2, b3, b4, b5⟩ := mach_big h
  have h1 := mach_smallX h
  exact ⟨h1.f, by show ms.length ≤ _; omega, fun xs hx => by have := hr xs hx; omega, by show tot ms ≤ _; have := h1.tot; omega, by show (X.ln ++ [x]).length ≤ _; rw [List.length_append, List.length_singleton]; omega, h1.wt⟩
set_option maxRecDepth 100000 in
set_option maxHeartbeats 6400000 in
theorem specL5K_band (lo hi0 : Nat) (v : Value) (X : Mch) (b : Nat) (w : World) (h : MchV w lo hi0 v X) (hhi : hi0 ≤ w.heap.size) (hm : machB X = true) (wf : WfX X) (hb : b = 32) :
    Calls Tryz.prog 57 #[v, .int .i64 b] w fun e w' => ∃ v', e = .returned (.tuple #[v', .bool (keyYes X b)]) ∧ (keyYes X b = false → v' = v) ∧ (keyYes X b = true → MchV w' w.heap.size w'.heap.size v' (keyX X b)) ∧ Below w.heap.size w w' := by
  subst hb
  have HS := Lib.hid (mach_smallX hm)
  have HM := Lib.hid hm
  have hparts := h.parts
  obtain ⟨s, A, n, c, A2, m, d, M, q, e0, L, l, lc, T, r, tc, hv, hF0, hq0, hM0, -⟩ := hparts
  rw [hv] at h ⊢
  clear hv
  obtain ⟨w0, hw0⟩ : ∃ x, w = x := ⟨_, rfl⟩
  have hww : w.heap.size = w0.heap.size := by rw [hw0]
  have HWF := Lib.hid wf
  have T0 : Hid (Below w0.heap.size w0 w0) := Below.refl _ _
  have V0 : Hid (MchV w0 lo hi0 (.agg #[.string s, .slice A n c, .slice A2 m d, .slice M q e0, .int .i64 X.sp, .int .i64 X.w, .int .i64 X.t, .int .i64 X.k, .slice L l lc, .slice T r tc]) X) := by rw [← hw0]; exact h
  have Ka0 : Hid (FontV w0 lo hi0 (.agg #[.string s, .slice A n c, .slice A2 m d]) X.f) := by rw [← hw0]; exact hF0
  have Kb0 : Hid (MagI w0 lo hi0 M X.ms) := by rw [← hw0]; exact hM0
  have HQ0 := Lib.hid hq0
  clear h wf hF0 hM0 hq0
  obtain ⟨w1, hw1, hb1, hz1, hX1⟩ := mxWorld w0 #[.string s, .slice A n c, .slice A2 m d, .slice M q e0, .int .i64 X.sp, .int .i64 X.w, .int .i64 X.t, .int .i64 X.k, .slice L l lc, .slice T r tc] 37
  have T1 := Lib.hid (T0.out.trans (hb1.mono (by omega)))
  have V1 := Lib.hid (V0.out.below (by omega) hb1)
  have Ka1 := Lib.hid (Ka0.out.below (by omega) hb1)
  have Kb1 := Lib.hid (Kb0.out.below (by omega) hb1)
  have sz1 : w0.heap.size ≤ w1.heap.size := hb1.size
  clear T0 V0 Ka0 Kb0
  have P1 : Hid (Blk w1 (w0.heap.size) #[.string s, .slice A n c, .slice A2 m d, .slice M q e0, .int .i64 X.sp, .int .i64 X.w, .int .i64 X.t, .int .i64 X.k, .slice L l lc, .slice T r tc] 37) := by show Blk _ _ _ _; exact hX1
  obtain ⟨w2, hw2, hb2, hz2, hX2⟩ := mxWorld w1 #[.string ⟨#[]⟩, .slice none 0 0, .slice none 0 0, .slice none 0 0, .int .i64 0, .int .i64 0, .int .i64 0, .int .i64 0, .slice none 0 0, .slice none 0 0] 37
  have T2 := Lib.hid (T1.out.trans (hb2.mono (by omega)))
  have V2 := Lib.hid (V1.out.below (by omega) hb2)
  have Ka2 := Lib.hid (Ka1.out.below (by omega) hb2)
  have Kb2 := Lib.hid (Kb1.out.below (by omega) hb2)
  have P2 := Lib.hid (P1.out.below hb2 (by omega))
  have sz2 : w1.heap.size ≤ w2.heap.size := hb2.size
  clear T1 V1 Ka1 Kb1 P1
  have R2 : Hid (Blk w2 (w0.heap.size + 1) #[.string ⟨#[]⟩, .slice none 0 0, .slice none 0 0, .slice none 0 0, .int .i64 0, .int .i64 0, .int .i64 0, .int .i64 0, .slice none 0 0, .slice none 0 0] 37) := by show Blk _ _ _ _; rw [← hz1]; exact hX2
  rw [hz1] at hz2
  have p0 := cellOfBlk P2.out 0
  have p1 := cellOfBlk P2.out 1
  have p2 := cellOfBlk P2.out 2
  have p3 := cellOfBlk P2.out 3
  have p4 := cellOfBlk P2.out 4
  have p5 := cellOfBlk P2.out 5
  have p6 := cellOfBlk P2.out 6
  have p7 := cellOfBlk P2.out 7
  have p8 := cellOfBlk P2.out 8
  have p9 := cellOfBlk P2.out 9
  rw [hw0]
  go_enter Tryz.func57, Tryz.ntmps57
  go_wp2_with fail
  clear p0 p1 p2 p3 p4 p5 p6 p7 p8 p9
  refine (l5Copy_any lo hi0 _ X w2 V2.out (by omega) HS.out).mono ?_
  rintro e u1 ⟨vC, rfl, hC, hbC⟩
  obtain ⟨O, hOz⟩ : ∃ x, u1.heap.size = x := ⟨_, rfl⟩
  have hbO := hbC.size
  rw [hOz] at hC hbO
  obtain ⟨Az, cz, A2z, dz, Mz, ez, Lz, lcz, Tz, tcz, hs7, f0, f1, g0, g1, l0, l1, t0, t1, hO⟩ := hC
  have hv7 := hO.v
  unfold mwords at hv7
  subst hv7
  have HO := Lib.hid hO
  clear hO
  obtain ⟨u2, hu2, hbu2, hzu2, hU⟩ := mxWorld u1 #[.string ⟨#[]⟩, .slice none 0 0, .slice none 0 0, .slice none 0 0, .int .i64 0, .int .i64 0, .int .i64 0, .int .i64 0, .slice none 0 0, .slice none 0 0] 37
  rw [hOz] at hU hzu2 hbu2
  have o0 := cellOfBlk hU 0
  have o1 := cellOfBlk hU 1
  have o2 := cellOfBlk hU 2
  have o3 := cellOfBlk hU 3
  have o4 := cellOfBlk hU 4
  have o5 := cellOfBlk hU 5
  have o6 := cellOfBlk hU 6
  have o7 := cellOfBlk hU 7
  have o8 := cellOfBlk hU 8
  have o9 := cellOfBlk hU 9
  have fo := hU.warm
  have HU2 := Lib.hid hU
  have HBU := Lib.hid hbu2
  have HBC := Lib.hid hbC
  clear hU hbC hbu2
  go_upto_region 2 with fail
  have hR := HU2.out.fill (.string X.f.s) (.slice Az X.f.ws.length cz) (.slice A2z X.f.cs.length dz) (.slice Mz X.ms.length ez) (.int .i64 X.sp) (.int .i64 X.w) (.int .i64 X.t) (.int .i64 X.k) (.slice Lz X.ln.length lcz) (.slice Tz X.wt.length tcz)
  have hc9 := chg_ten u2 O (.string X.f.s) (.slice Az X.f.ws.length cz) (.slice A2z X.f.cs.length dz) (.slice Mz X.ms.length ez) (.int .i64 X.sp) (.int .i64 X.w) (.int .i64 X.t) (.int .i64 X.k) (.slice Lz X.ln.length lcz) (.slice Tz X.wt.length tcz)
  obtain ⟨u3, hu3⟩ : ∃ x, ((((((((((u2.setCell ⟨O, 0, none⟩ (.string X.f.s)).setCell ⟨O, 1, none⟩ (.slice Az X.f.ws.length cz)).setCell ⟨O, 2, none⟩ (.slice A2z X.f.cs.length dz)).setCell ⟨O, 3, none⟩ (.slice Mz X.ms.length ez)).setCell ⟨O, 4, none⟩ (.int .i64 X.sp)).setCell ⟨O, 5, none⟩ (.int .i64 X.w)).setCell ⟨O, 6, none⟩ (.int .i64 X.t)).setCell ⟨O, 7, none⟩ (.int .i64 X.k)).setCell ⟨O, 8, none⟩ (.slice Lz X.ln.length lcz)).setCell ⟨O, 9, none⟩ (.slice Tz X.wt.length tcz)) = x := ⟨_, rfl⟩
  rw [hu3] at hR hc9 ⊢
  have hzu3 := hc9.size
  have hbl : Below u1.heap.size u1 u3 := by rw [hOz]; exact HBU.out.trans (hc9.below (by omega))
  have BC3 : Below w2.heap.size w2 u3 := HBC.out.trans (hbl.mono (by omega))
  clear hu3 hc9 fo o0 o1 o2 o3 o4 o5 o6 o7 o8 o9 hu2
  have hfi := HO.out.fi; have hgi := HO.out.gi; have hli := HO.out.li; have hti := HO.out.ti
  have hfl := HO.out.fl; have hgl := HO.out.gl; have hlt := HO.out.lt
  unfold Off at hfl hgl hlt
  have HLT := Lib.hid HO.out.lineT; have HTT := Lib.hid HO.out.waitT
  obtain ⟨w3, hwk⟩ : ∃ x, u3 = x := ⟨_, rfl⟩
  rw [hwk] at BC3 hbl hR ⊢ hzu3
  clear hwk
  have hb3 := BC3
  have T3 := Lib.hid (T2.out.trans (hb3.mono (by omega)))
  have V3 := Lib.hid (V2.out.below (by omega) hb3)
  have Ka3 := Lib.hid (Ka2.out.below (by omega) hb3)
  have Kb3 := Lib.hid (Kb2.out.below (by omega) hb3)
  have P3 := Lib.hid (P2.out.below hb3 (by omega))
  have R3 := Lib.hid (R2.out.below hb3 (by omega))
  have sz3 : w2.heap.size ≤ w3.heap.size := hb3.size
  clear T2 V2 Ka2 Kb2 P2 R2
  have F3 : Hid (FontO w3 f0 f1 (.agg #[.string X.f.s, .slice Az X.f.ws.length cz, .slice A2z X.f.cs.length dz]) X.f) := HO.out.font.below hbl
  have G3 : Hid (MagI w3 g0 g1 Mz X.ms) := HO.out.mag.reads.below (by omega) hbl
  have L3 : Hid (OwnM w3 l0 (.slice Lz X.ln.length lcz) X.ln) := HO.out.line.below hbl
  have W3 : Hid (OwnM w3 t0 (.slice Tz X.wt.length tcz) X.wt) := HO.out.wait.below hbl
  have Q3 : Hid (Blk w3 O #[.string X.f.s, .slice Az X.f.ws.length cz, .slice A2z X.f.cs.length dz, .slice Mz X.ms.length ez, .int .i64 X.sp, .int .i64 X.w, .int .i64 X.t, .int .i64 X.k, .slice Lz X.ln.length lcz, .slice Tz X.wt.length tcz] 37) := hR
  have hsO : w0.heap.size + 1 < O := by omega
  clear hR hbl BC3 HU2 HBU HBC
  obtain ⟨w4, hw4, hb4, hz4, hX4⟩ := mxWorld w3 #[.int .i64 (-1), .int .i64 0] 64
  have T4 := Lib.hid (T3.out.trans (hb4.mono (by omega)))
  have V4 := Lib.hid (V3.out.below (by omega) hb4)
  have Ka4 := Lib.hid (Ka3.out.below (by omega) hb4)
  have Kb4 := Lib.hid (Kb3.out.below (by omega) hb4)
  have P4 := Lib.hid (P3.out.below hb4 (by omega))
  have R4 := Lib.hid (R3.out.below hb4 (by omega))
  have F4 := Lib.hid (F3.out.below hb4)
  have G4 := Lib.hid (G3.out.below (by omega) hb4)
  have L4 := Lib.hid (L3.out.below hb4)
  have W4 := Lib.hid (W3.out.below hb4)
  have Q4 := Lib.hid (Q3.out.below hb4 (by omega))
  have sz4 : w3.heap.size ≤ w4.heap.size := hb4.size
  clear T3 V3 Ka3 Kb3 P3 R3 F3 G3 L3 W3 Q3
  have Y4 : Hid (Blk w4 (w3.heap.size) #[.int .i64 (-1), .int .i64 0] 64) := by show Blk _ _ _ _; exact hX4
  have x0 := cellOfBlk Y4.out 0
  have x1 := cellOfBlk Y4.out 1
  have fx := Y4.out.warm
  go_upto_region 3 with fail
  clear x0 x1 fx
  obtain ⟨yb, hyb⟩ : ∃ x, w3.heap.size = x := ⟨_, rfl⟩
  have hOy : O < yb := by omega
  rw [hyb] at Y4 ⊢
  obtain ⟨w5, hw9⟩ : ∃ x, w4.setCell ⟨yb, 1, none⟩ (.int .i64 0) = x := ⟨_, rfl⟩
  have hc9 : Chg yb (yb + 1) w4 w5 := by rw [← hw9]; exact chg_one _ _ _ _
  have hY9 : Blk w5 yb #[.int .i64 (-1), .int .i64 0] 64 := by rw [← hw9]; exact heapSet (i := 1) Y4.out _
  rw [hw9]
  have T5 := Lib.hid (T4.out.trans ((hc9.below (by omega)).mono (by omega)))
  have V5 := Lib.hid (V4.out.chg hc9 (by omega) (by omega))
  have Ka5 := Lib.hid (Ka4.out.chg hc9 (by omega) (by omega))
  have Kb5 := Lib.hid (Kb4.out.chg hc9 (by omega) (by omega))
  have P5 := Lib.hid (P4.out.chg hc9 (by omega))
  have R5 := Lib.hid (R4.out.chg hc9 (by omega))
  have F5 := Lib.hid (F4.out.chg hc9 (by unfold Off; omega))
  have G5 := Lib.hid (G4.out.chg hc9 (by omega) (by omega))
  have L5 := Lib.hid (L4.out.chg hc9 (fun k hk => by have h7 := HLT.out k hk; have h8 := (L4.out.lt k hk).1; omega))
  have W5 := Lib.hid (W4.out.chg hc9 (fun k hk => by have h7 := HTT.out k hk; have h8 := (W4.out.lt k hk).1; omega))
  have Q5 := Lib.hid (Q4.out.chg hc9 (by omega))
  have sz5 : w4.heap.size ≤ w5.heap.size := hc9.size
  clear T4 V4 Ka4 Kb4 P4 R4 F4 G4 L4 W4 Q4 Y4
  have Y5 := Lib.hid hY9
  clear hc9 hY9 hw9
  have hmf := (mach_facts HM.out).2.2.2
  have e1 : IntKind.i64.wrap (X.sp - 1) = X.sp - 1 := by rw [IntKind.wrap_i64]; omega
  have o0 := cellOfBlk Q5.out 0
  have o1 := cellOfBlk Q5.out 1
  have o2 := cellOfBlk Q5.out 2
  have o3 := cellOfBlk Q5.out 3
  have o4 := cellOfBlk Q5.out 4
  have o5 := cellOfBlk Q5.out 5
  have o6 := cellOfBlk Q5.out 6
  have o7 := cellOfBlk Q5.out 7
  have o8 := cellOfBlk Q5.out 8
  have o9 := cellOfBlk Q5.out 9
  have fo := Q5.out.warm
  go_upto_region 10 with fail
  clear fo hmf e1 o0 o1 o2 o3 o4 o5 o6 o7 o8 o9
  obtain ⟨w6, hw9⟩ : ∃ x, w5.setCell ⟨O, 4, none⟩ (.int .i64 (X.sp - 1)) = x := ⟨_, rfl⟩
  have hc9 : Chg O (O + 1) w5 w6 := by rw [← hw9]; exact chg_one _ _ _ _
  have hQ9 : Blk w6 O #[.string X.f.s, .slice Az X.f.ws.length cz, .slice A2z X.f.cs.length dz, .slice Mz X.ms.length ez, .int .i64 (X.sp - 1), .int .i64 X.w, .int .i64 X.t, .int .i64 X.k, .slice Lz X.ln.length lcz, .slice Tz X.wt.length tcz] 37 := by rw [← hw9]; exact heapSet (i := 4) Q5.out _
  rw [hw9]
  have T6 := Lib.hid (T5.out.trans ((hc9.below (by omega)).mono (by omega)))
  have V6 := Lib.hid (V5.out.chg hc9 (by omega) (by omega))
  have Ka6 := Lib.hid (Ka5.out.chg hc9 (by omega) (by omega))
  have Kb6 := Lib.hid (Kb5.out.chg hc9 (by omega) (by omega))
  have P6 := Lib.hid (P5.out.chg hc9 (by omega))
  have R6 := Lib.hid (R5.out.chg hc9 (by omega))
  have F6 := Lib.hid (F5.out.chg hc9 (by unfold Off; omega))
  have G6 := Lib.hid (G5.out.chg hc9 (by omega) (by omega))
  have L6 := Lib.hid (L5.out.chg hc9 (fun k hk => by have h7 := HLT.out k hk; have h8 := (L5.out.lt k hk).1; omega))
  have W6 := Lib.hid (W5.out.chg hc9 (fun k hk => by have h7 := HTT.out k hk; have h8 := (W5.out.lt k hk).1; omega))
  have Y6 := Lib.hid (Y5.out.chg hc9 (by omega))
  have sz6 : w5.heap.size ≤ w6.heap.size := hc9.size
  clear T5 V5 Ka5 Kb5 P5 R5 F5 G5 L5 W5 Q5 Y5
  have Q6 := Lib.hid hQ9
  clear hQ9 hc9 hw9
  have HTM : Hid (X.wt.length ≤ tcz ∧ tcz ≤ maxLen) := ownM_caps HO.out.wait
  have HEM : Hid (X.ms.length ≤ ez ∧ ez ≤ maxLen) := ownMag_caps HO.out.mag
  have hbg := mach_big HM.out
  have HSX : Hid (SmallX ⟨X.f, X.ms, X.sp - 1, X.w, X.t, X.k, X.ln ++ [(-1, 0)], X.wt⟩) := small_add HM.out rfl (Nat.le_refl _) hbg.2.2.1
  clear hbg
  have HMB : Hid (machB ⟨X.f, X.ms, X.sp - 1, X.w, X.t, X.k, X.ln ++ [(-1, 0)], X.wt⟩ = keyYes X ((32 : Nat) : Int)) := mach_band HM.out
  have HXE : Hid (keyYes X ((32 : Nat) : Int) = true → keyX X ((32 : Nat) : Int) = ⟨X.f, X.ms, X.sp - 1, X.w, X.t, X.k, X.ln ++ [(-1, 0)], X.wt⟩) := fun h9 => keyX_band h9
  have o0 := cellOfBlk Q6.out 0
  have o1 := cellOfBlk Q6.out 1
  have o2 := cellOfBlk Q6.out 2
  have o3 := cellOfBlk Q6.out 3
  have o4 := cellOfBlk Q6.out 4
  have o5 := cellOfBlk Q6.out 5
  have o6 := cellOfBlk Q6.out 6
  have o7 := cellOfBlk Q6.out 7
  have o8 := cellOfBlk Q6.out 8
  have o9 := cellOfBlk Q6.out 9
  have fo := Q6.out.warm
  have x0 := cellOfBlk Y6.out 0
  have x1 := cellOfBlk Y6.out 1
  have hln := HS.out.ln
  have hLlt := L6.out.lt
  go_wp2_with (at_builtin; refine wpl_push_mat w6 rfl (.tmp 40) (.tmp 42) rfl (min l0 O) (.slice Lz X.ln.length lcz) X.ln (-1, 0) rfl rfl (L6.out.base (by omega)) (by omega) hln ?_; intro v9 w7 hO9 hg9 hf9; obtain ⟨A8, c8, rfl, hc81, hc82, -, -⟩ := hO9.form; have hl9 : (X.ln ++ [(-1, 0)]).length = X.ln.length + 1 := (by rw [List.length_append]; rfl); rw [hl9] at hO9 hf9 hc81 ⊢; have hc7 : Chg (min l0 O) l1 w6 w7 := Chg.of_grown hg9 (fun g hq => ⟨by have := (hLlt g hq).1; omega, HLT.out g hq⟩); have hq8 := Q6.out.chg hc7 (by omega); have h90 := cellOfBlk hq8 0; have h91 := cellOfBlk hq8 1; have h92 := cellOfBlk hq8 2; have h93 := cellOfBlk hq8 3; have h94 := cellOfBlk hq8 4; have h95 := cellOfBlk hq8 5; have h96 := cellOfBlk hq8 6; have h97 := cellOfBlk hq8 7; have h98 := cellOfBlk hq8 8; have h99 := cellOfBlk hq8 9; have h9c := hq8.warm 8; have HC7 := Lib.hid hc7; have HO9 := Lib.hid hO9; have HF9 := Lib.hid hf9; have HC8 := Lib.hid (And.intro hc81 hc82); clear hc7 hq8 hO9 hg9 hf9 hc81 hc82 hl9)
  clear h9c x0 x1 fo h90 h91 h92 h93 h94 h95 h96 h97 h98 h99 o0 o1 o2 o3 o4 o5 o6 o7 o8 o9
  have hc7 := HC7.out
  have T7 := Lib.hid (T6.out.trans ((hc7.below (by omega)).mono (by omega)))
  have V7 := Lib.hid (V6.out.chg hc7 (by omega) (by omega))
  have Ka7 := Lib.hid (Ka6.out.chg hc7 (by omega) (by omega))
  have Kb7 := Lib.hid (Kb6.out.chg hc7 (by omega) (by omega))
  have P7 := Lib.hid (P6.out.chg hc7 (by omega))
  have R7 := Lib.hid (R6.out.chg hc7 (by omega))
  have F7 := Lib.hid (F6.out.chg hc7 (by unfold Off; omega))
  have G7 := Lib.hid (G6.out.chg hc7 (by omega) (by omega))
  have W7 := Lib.hid (W6.out.chg hc7 (fun k hk => by have h7 := HTT.out k hk; have h8 := (W6.out.lt k hk).1; omega))
  have Y7 := Lib.hid (Y6.out.chg hc7 (by omega))
  have Q7 := Lib.hid (Q6.out.chg hc7 (by omega))
  have sz7 : w6.heap.size ≤ w7.heap.size := hc7.size
  clear T6 V6 Ka6 Kb6 P6 R6 F6 G6 L6 W6 Y6 Q6
  obtain ⟨w8, hw9⟩ : ∃ x, w7.setCell ⟨O, 8, none⟩ (.slice A8 (X.ln.length + 1) c8) = x := ⟨_, rfl⟩
  have hL9 : OwnM w8 (min l0 O) (.slice A8 (X.ln.length + 1) c8) (X.ln ++ [(-1, 0)]) := by rw [← hw9]; exact HO9.out.setAt (fun e9 => by rcases HF9.out with h9 | h9; (rw [e9] at h9; have h8 := HLT.out O h9.symm; omega); (have := h9 O e9; omega)) _
  have hc9 : Chg O (O + 1) w7 w8 := by rw [← hw9]; exact chg_one _ _ _ _
  have hQ9 : Blk w8 O #[.string X.f.s, .slice Az X.f.ws.length cz, .slice A2z X.f.cs.length dz, .slice Mz X.ms.length ez, .int .i64 (X.sp - 1), .int .i64 X.w, .int .i64 X.t, .int .i64 X.k, .slice A8 (X.ln.length + 1) c8, .slice Tz X.wt.length tcz] 37 := by rw [← hw9]; exact heapSet (i := 8) Q7.out _
  rw [hw9]
  have T8 := Lib.hid (T7.out.trans ((hc9.below (by omega)).mono (by omega)))
  have V8 := Lib.hid (V7.out.chg hc9 (by omega) (by omega))
  have Ka8 := Lib.hid (Ka7.out.chg hc9 (by omega) (by omega))
  have Kb8 := Lib.hid (Kb7.out.chg hc9 (by omega) (by omega))
  have P8 := Lib.hid (P7.out.chg hc9 (by omega))
  have R8 := Lib.hid (R7.out.chg hc9 (by omega))
  have F8 := Lib.hid (F7.out.chg hc9 (by unfold Off; omega))
  have G8 := Lib.hid (G7.out.chg hc9 (by omega) (by omega))
  have W8 := Lib.hid (W7.out.chg hc9 (fun k hk => by have h7 := HTT.out k hk; have h8 := (W7.out.lt k hk).1; omega))
  have Y8 := Lib.hid (Y7.out.chg hc9 (by omega))
  have sz8 : w7.heap.size ≤ w8.heap.size := hc9.size
  clear T7 V7 Ka7 Kb7 P7 R7 F7 G7 W7 Y7 Q7
  have Q8 := Lib.hid hQ9
  have L8 := Lib.hid hL9
  clear hQ9 hL9 hc9 hc7 hw9 HO9
  have hV9 : MchV w8 w2.heap.size w8.heap.size (.agg #[.string X.f.s, .slice Az X.f.ws.length cz, .slice A2z X.f.cs.length dz, .slice Mz X.ms.length ez, .int .i64 (X.sp - 1), .int .i64 X.w, .int .i64 X.t, .int .i64 X.k, .slice A8 (X.ln.length + 1) c8, .slice Tz X.wt.length tcz]) ⟨X.f, X.ms, X.sp - 1, X.w, X.t, X.k, X.ln ++ [(-1, 0)], X.wt⟩ := MchV.mk (X := ⟨X.f, X.ms, X.sp - 1, X.w, X.t, X.k, X.ln ++ [(-1, 0)], X.wt⟩) (F8.out.font.wideR (by omega) (by omega)) (G8.out.wide (by omega) (by omega)) (MatsI.wide L8.out.reads (by omega) (Nat.le_refl _)) ((MatsI.cutM W8.out HTT.out).wide (by omega) (by omega)) rfl (by rw [List.length_append]; rfl) rfl HEM.out.1 HEM.out.2 HC8.out.1 HC8.out.2 HTM.out.1 HTM.out.2
  have HV9 := Lib.hid hV9
  refine (specMachine_any w2.heap.size w8.heap.size _ ⟨X.f, X.ms, X.sp - 1, X.w, X.t, X.k, X.ln ++ [(-1, 0)], X.wt⟩ w8 hV9 (Nat.le_refl _) HSX.out).mono ?_
  rintro e w9 ⟨rfl, hb9⟩
  have HV := Lib.hid (HV9.out.below (Nat.le_refl _) hb9)
  clear hV9 HV9
  have T9 := Lib.hid (T8.out.trans (hb9.mono (by omega)))
  have V9 := Lib.hid (V8.out.below (by omega) hb9)
  have P9 := Lib.hid (P8.out.below hb9 (by omega))
  have R9 := Lib.hid (R8.out.below hb9 (by omega))
  have Q9 := Lib.hid (Q8.out.below hb9 (by omega))
  have sz9 : w8.heap.size ≤ w9.heap.size := hb9.size
  clear T8 V8 P8 R8 Q8
  rw [HMB.out]
  cases hyes : keyYes X ((32 : Nat) : Int)
  · have p0 := cellOfBlk P9.out 0
    have p1 := cellOfBlk P9.out 1
    have p2 := cellOfBlk P9.out 2
    have p3 := cellOfBlk P9.out 3
    have p4 := cellOfBlk P9.out 4
    have p5 := cellOfBlk P9.out 5
    have p6 := cellOfBlk P9.out 6
    have p7 := cellOfBlk P9.out 7
    have p8 := cellOfBlk P9.out 8
    have p9 := cellOfBlk P9.out 9
    have r0 := cellOfBlk R9.out 0
    have r1 := cellOfBlk R9.out 1
    have r2 := cellOfBlk R9.out 2
    have r3 := cellOfBlk R9.out 3
    have r4 := cellOfBlk R9.out 4
    have r5 := cellOfBlk R9.out 5
    have r6 := cellOfBlk R9.out 6
    have r7 := cellOfBlk R9.out 7
    have r8 := cellOfBlk R9.out 8
    have r9 := cellOfBlk R9.out 9
    have ff := R9.out.warm
    go_wp2
    have hR := R9.out.fill (.string s) (.slice A n c) (.slice A2 m d) (.slice M q e0) (.int .i64 X.sp) (.int .i64 X.w) (.int .i64 X.t) (.int .i64 X.k) (.slice L l lc) (.slice T r tc)
    have hc9 := chg_ten w9 (w0.heap.size + 1) (.string s) (.slice A n c) (.slice A2 m d) (.slice M q e0) (.int .i64 X.sp) (.int .i64 X.w) (.int .i64 X.t) (.int .i64 X.k) (.slice L l lc) (.slice T r tc)
    obtain ⟨w9, hw9⟩ : ∃ x, ((((((((((w9.setCell ⟨w0.heap.size + 1, 0, none⟩ (.string s)).setCell ⟨w0.heap.size + 1, 1, none⟩ (.slice A n c)).setCell ⟨w0.heap.size + 1, 2, none⟩ (.slice A2 m d)).setCell ⟨w0.heap.size + 1, 3, none⟩ (.slice M q e0)).setCell ⟨w0.heap.size + 1, 4, none⟩ (.int .i64 X.sp)).setCell ⟨w0.heap.size + 1, 5, none⟩ (.int .i64 X.w)).setCell ⟨w0.heap.size + 1, 6, none⟩ (.int .i64 X.t)).setCell ⟨w0.heap.size + 1, 7, none⟩ (.int .i64 X.k)).setCell ⟨w0.heap.size + 1, 8, none⟩ (.slice L l lc)).setCell ⟨w0.heap.size + 1, 9, none⟩ (.slice T r tc)) = x := ⟨_, rfl⟩
    rw [hw9] at hR hc9
    (try rw [hw9])
    clear hw9 r0 r1 r2 r3 r4 r5 r6 r7 r8 r9
    have r0 := cellOfBlk hR 0
    have r1 := cellOfBlk hR 1
    have r2 := cellOfBlk hR 2
    have r3 := cellOfBlk hR 3
    have r4 := cellOfBlk hR 4
    have r5 := cellOfBlk hR 5
    have r6 := cellOfBlk hR 6
    have r7 := cellOfBlk hR 7
    have r8 := cellOfBlk hR 8
    have r9 := cellOfBlk hR 9
    (try simp only [Exit.inBlock, Exit.then])
    clear p0 p1 p2 p3 p4 p5 p6 p7 p8 p9
    refine bodyPost_ret (v := .tuple #[.agg #[.string s, .slice A n c, .slice A2 m d, .slice M q e0, .int .i64 X.sp, .int .i64 X.w, .int .i64 X.t, .int .i64 X.k, .slice L l lc, .slice T r tc], .bool false]) (by simp [results, Tryz.results57, go_sem, r0, r1, r2, r3, r4, r5, r6, r7, r8, r9]) rfl ?_
    rw [hyes]
    exact ⟨_, rfl, fun _ => rfl, fun h9 => (by cases h9), T9.out.trans ((hc9.below (by omega)).mono (by omega))⟩
  · have o0 := cellOfBlk Q9.out 0
    have o1 := cellOfBlk Q9.out 1
    have o2 := cellOfBlk Q9.out 2
    have o3 := cellOfBlk Q9.out 3
    have o4 := cellOfBlk Q9.out 4
    have o5 := cellOfBlk Q9.out 5
    have o6 := cellOfBlk Q9.out 6
    have o7 := cellOfBlk Q9.out 7
    have o8 := cellOfBlk Q9.out 8
    have o9 := cellOfBlk Q9.out 9
    have r0 := cellOfBlk R9.out 0
    have r1 := cellOfBlk R9.out 1
    have r2 := cellOfBlk R9.out 2
    have r3 := cellOfBlk R9.out 3
    have r4 := cellOfBlk R9.out 4
    have r5 := cellOfBlk R9.out 5
    have r6 := cellOfBlk R9.out 6
    have r7 := cellOfBlk R9.out 7
    have r8 := cellOfBlk R9.out 8
    have r9 := cellOfBlk R9.out 9
    have ff := R9.out.warm
    go_wp2
    have hR := R9.out.fill (.string X.f.s) (.slice Az X.f.ws.length cz) (.slice A2z X.f.cs.length dz) (.slice Mz X.ms.length ez) (.int .i64 (X.sp - 1)) (.int .i64 X.w) (.int .i64 X.t) (.int .i64 X.k) (.slice A8 (X.ln.length + 1) c8) (.slice Tz X.wt.length tcz)
    have hc9 := chg_ten w9 (w0.heap.size + 1) (.string X.f.s) (.slice Az X.f.ws.length cz) (.slice A2z X.f.cs.length dz) (.slice Mz X.ms.length ez) (.int .i64 (X.sp - 1)) (.int .i64 X.w) (.int .i64 X.t) (.int .i64 X.k) (.slice A8 (X.ln.length + 1) c8) (.slice Tz X.wt.length tcz)
    obtain ⟨w9, hw9⟩ : ∃ x, ((((((((((w9.setCell ⟨w0.heap.size + 1, 0, none⟩ (.string X.f.s)).setCell ⟨w0.heap.size + 1, 1, none⟩ (.slice Az X.f.ws.length cz)).setCell ⟨w0.heap.size + 1, 2, none⟩ (.slice A2z X.f.cs.length dz)).setCell ⟨w0.heap.size + 1, 3, none⟩ (.slice Mz X.ms.length ez)).setCell ⟨w0.heap.size + 1, 4, none⟩ (.int .i64 (X.sp - 1))).setCell ⟨w0.heap.size + 1, 5, none⟩ (.int .i64 X.w)).setCell ⟨w0.heap.size + 1, 6, none⟩ (.int .i64 X.t)).setCell ⟨w0.heap.size + 1, 7, none⟩ (.int .i64 X.k)).setCell ⟨w0.heap.size + 1, 8, none⟩ (.slice A8 (X.ln.length + 1) c8)).setCell ⟨w0.heap.size + 1, 9, none⟩ (.slice Tz X.wt.length tcz)) = x := ⟨_, rfl⟩
    rw [hw9] at hR hc9
    (try rw [hw9])
    clear hw9 r0 r1 r2 r3 r4 r5 r6 r7 r8 r9
    have r0 := cellOfBlk hR 0
    have r1 := cellOfBlk hR 1
    have r2 := cellOfBlk hR 2
    have r3 := cellOfBlk hR 3
    have r4 := cellOfBlk hR 4
    have r5 := cellOfBlk hR 5
    have r6 := cellOfBlk hR 6
    have r7 := cellOfBlk hR 7
    have r8 := cellOfBlk hR 8
    have r9 := cellOfBlk hR 9
    (try simp only [Exit.inBlock, Exit.then])
    clear o0 o1 o2 o3 o4 o5 o6 o7 o8 o9
    refine bodyPost_ret (v := .tuple #[.agg #[.string X.f.s, .slice Az X.f.ws.length cz, .slice A2z X.f.cs.length dz, .slice Mz X.ms.length ez, .int .i64 (X.sp - 1), .int .i64 X.w, .int .i64 X.t, .int .i64 X.k, .slice A8 (X.ln.length + 1) c8, .slice Tz X.wt.length tcz], .bool true]) (by simp [results, Tryz.results57, go_sem, r0, r1, r2, r3, r4, r5, r6, r7, r8, r9]) rfl ?_
    rw [hyes, HXE.out hyes]
    exact ⟨_, rfl, fun h9 => (by cases h9), fun _ => (HV.out.chg hc9 (by omega) (by omega)).wide (by omega) (by have := hc9.size; omega), T9.out.trans ((hc9.below (by omega)).mono (by omega))⟩
set_option maxRecDepth 100000 in
set_option maxHeartbeats 6400000 in
theorem specL5K_out (lo hi0 : Nat) (v : Value) (X : Mch) (b : Nat) (w : World) (h : MchV w lo hi0 v X) (hhi : hi0 ≤ w.heap.size) (hm : machB X = true) (wf : WfX X) (hb : ¬ b = 32) (hin : inB (keyI X.f (b : Int)) 0 ((X.ms.length : Int) - 1) = false) (hkr : keyRow X b = []) :
    Calls Tryz.prog 57 #[v, .int .i64 b] w fun e w' => ∃ v', e = .returned (.tuple #[v', .bool (keyYes X b)]) ∧ (keyYes X b = false → v' = v) ∧ (keyYes X b = true → MchV w' w.heap.size w'.heap.size v' (keyX X b)) ∧ Below w.heap.size w w' := by
  have HS := Lib.hid (mach_smallX hm)
  have HM := Lib.hid hm
  have hbe : ((b : Int) == 32) = false := by simp; omega
  have HMG := Lib.hid (machB_parts hm).1
  have hyes : keyYes X b = false := keyYes_nil (by omega) hkr
  have hparts := h.parts
  obtain ⟨s, A, n, c, A2, m, d, M, q, e0, L, l, lc, T, r, tc, hv, hF0, hq0, hM0, -⟩ := hparts
  rw [hv] at h ⊢
  clear hv
  obtain ⟨w0, hw0⟩ : ∃ x, w = x := ⟨_, rfl⟩
  have hww : w.heap.size = w0.heap.size := by rw [hw0]
  have HWF := Lib.hid wf
  have T0 : Hid (Below w0.heap.size w0 w0) := Below.refl _ _
  have V0 : Hid (MchV w0 lo hi0 (.agg #[.string s, .slice A n c, .slice A2 m d, .slice M q e0, .int .i64 X.sp, .int .i64 X.w, .int .i64 X.t, .int .i64 X.k, .slice L l lc, .slice T r tc]) X) := by rw [← hw0]; exact h
  have Ka0 : Hid (FontV w0 lo hi0 (.agg #[.string s, .slice A n c, .slice A2 m d]) X.f) := by rw [← hw0]; exact hF0
  have Kb0 : Hid (MagI w0 lo hi0 M X.ms) := by rw [← hw0]; exact hM0
  have HQ0 := Lib.hid hq0
  clear h wf hF0 hM0 hq0
  obtain ⟨w1, hw1, hb1, hz1, hX1⟩ := mxWorld w0 #[.string s, .slice A n c, .slice A2 m d, .slice M q e0, .int .i64 X.sp, .int .i64 X.w, .int .i64 X.t, .int .i64 X.k, .slice L l lc, .slice T r tc] 37
  have T1 := Lib.hid (T0.out.trans (hb1.mono (by omega)))
  have V1 := Lib.hid (V0.out.below (by omega) hb1)
  have Ka1 := Lib.hid (Ka0.out.below (by omega) hb1)
  have Kb1 := Lib.hid (Kb0.out.below (by omega) hb1)
  have sz1 : w0.heap.size ≤ w1.heap.size := hb1.size
  clear T0 V0 Ka0 Kb0
  have P1 : Hid (Blk w1 (w0.heap.size) #[.string s, .slice A n c, .slice A2 m d, .slice M q e0, .int .i64 X.sp, .int .i64 X.w, .int .i64 X.t, .int .i64 X.k, .slice L l lc, .slice T r tc] 37) := by show Blk _ _ _ _; exact hX1
  obtain ⟨w2, hw2, hb2, hz2, hX2⟩ := mxWorld w1 #[.string ⟨#[]⟩, .slice none 0 0, .slice none 0 0, .slice none 0 0, .int .i64 0, .int .i64 0, .int .i64 0, .int .i64 0, .slice none 0 0, .slice none 0 0] 37
  have T2 := Lib.hid (T1.out.trans (hb2.mono (by omega)))
  have V2 := Lib.hid (V1.out.below (by omega) hb2)
  have Ka2 := Lib.hid (Ka1.out.below (by omega) hb2)
  have Kb2 := Lib.hid (Kb1.out.below (by omega) hb2)
  have P2 := Lib.hid (P1.out.below hb2 (by omega))
  have sz2 : w1.heap.size ≤ w2.heap.size := hb2.size
  clear T1 V1 Ka1 Kb1 P1
  have R2 : Hid (Blk w2 (w0.heap.size + 1) #[.string ⟨#[]⟩, .slice none 0 0, .slice none 0 0, .slice none 0 0, .int .i64 0, .int .i64 0, .int .i64 0, .int .i64 0, .slice none 0 0, .slice none 0 0] 37) := by show Blk _ _ _ _; rw [← hz1]; exact hX2
  rw [hz1] at hz2
  have p0 := cellOfBlk P2.out 0
  have p1 := cellOfBlk P2.out 1
  have p2 := cellOfBlk P2.out 2
  have p3 := cellOfBlk P2.out 3
  have p4 := cellOfBlk P2.out 4
  have p5 := cellOfBlk P2.out 5
  have p6 := cellOfBlk P2.out 6
  have p7 := cellOfBlk P2.out 7
  have p8 := cellOfBlk P2.out 8
  have p9 := cellOfBlk P2.out 9
  rw [hw0]
  go_enter Tryz.func57, Tryz.ntmps57
  go_wp2_with fail
  clear p0 p1 p2 p3 p4 p5 p6 p7 p8 p9
  refine (l5Copy_any lo hi0 _ X w2 V2.out (by omega) HS.out).mono ?_
  rintro e u1 ⟨vC, rfl, hC, hbC⟩
  obtain ⟨O, hOz⟩ : ∃ x, u1.heap.size = x := ⟨_, rfl⟩
  have hbO := hbC.size
  rw [hOz] at hC hbO
  obtain ⟨Az, cz, A2z, dz, Mz, ez, Lz, lcz, Tz, tcz, hs7, f0, f1, g0, g1, l0, l1, t0, t1, hO⟩ := hC
  have hv7 := hO.v
  unfold mwords at hv7
  subst hv7
  have HO := Lib.hid hO
  clear hO
  obtain ⟨u2, hu2, hbu2, hzu2, hU⟩ := mxWorld u1 #[.string ⟨#[]⟩, .slice none 0 0, .slice none 0 0, .slice none 0 0, .int .i64 0, .int .i64 0, .int .i64 0, .int .i64 0, .slice none 0 0, .slice none 0 0] 37
  rw [hOz] at hU hzu2 hbu2
  have o0 := cellOfBlk hU 0
  have o1 := cellOfBlk hU 1
  have o2 := cellOfBlk hU 2
  have o3 := cellOfBlk hU 3
  have o4 := cellOfBlk hU 4
  have o5 := cellOfBlk hU 5
  have o6 := cellOfBlk hU 6
  have o7 := cellOfBlk hU 7
  have o8 := cellOfBlk hU 8
  have o9 := cellOfBlk hU 9
  have fo := hU.warm
  have HU2 := Lib.hid hU
  have HBU := Lib.hid hbu2
  have HBC := Lib.hid hbC
  clear hU hbC hbu2
  go_upto_region 2 with fail
  have hR := HU2.out.fill (.string X.f.s) (.slice Az X.f.ws.length cz) (.slice A2z X.f.cs.length dz) (.slice Mz X.ms.length ez) (.int .i64 X.sp) (.int .i64 X.w) (.int .i64 X.t) (.int .i64 X.k) (.slice Lz X.ln.length lcz) (.slice Tz X.wt.length tcz)
  have hc9 := chg_ten u2 O (.string X.f.s) (.slice Az X.f.ws.length cz) (.slice A2z X.f.cs.length dz) (.slice Mz X.ms.length ez) (.int .i64 X.sp) (.int .i64 X.w) (.int .i64 X.t) (.int .i64 X.k) (.slice Lz X.ln.length lcz) (.slice Tz X.wt.length tcz)
  obtain ⟨u3, hu3⟩ : ∃ x, ((((((((((u2.setCell ⟨O, 0, none⟩ (.string X.f.s)).setCell ⟨O, 1, none⟩ (.slice Az X.f.ws.length cz)).setCell ⟨O, 2, none⟩ (.slice A2z X.f.cs.length dz)).setCell ⟨O, 3, none⟩ (.slice Mz X.ms.length ez)).setCell ⟨O, 4, none⟩ (.int .i64 X.sp)).setCell ⟨O, 5, none⟩ (.int .i64 X.w)).setCell ⟨O, 6, none⟩ (.int .i64 X.t)).setCell ⟨O, 7, none⟩ (.int .i64 X.k)).setCell ⟨O, 8, none⟩ (.slice Lz X.ln.length lcz)).setCell ⟨O, 9, none⟩ (.slice Tz X.wt.length tcz)) = x := ⟨_, rfl⟩
  rw [hu3] at hR hc9 ⊢
  have hzu3 := hc9.size
  have hbl : Below u1.heap.size u1 u3 := by rw [hOz]; exact HBU.out.trans (hc9.below (by omega))
  have BC3 : Below w2.heap.size w2 u3 := HBC.out.trans (hbl.mono (by omega))
  clear hu3 hc9 fo o0 o1 o2 o3 o4 o5 o6 o7 o8 o9 hu2
  have hfi := HO.out.fi; have hgi := HO.out.gi; have hli := HO.out.li; have hti := HO.out.ti
  have hfl := HO.out.fl; have hgl := HO.out.gl; have hlt := HO.out.lt
  unfold Off at hfl hgl hlt
  have HLT := Lib.hid HO.out.lineT; have HTT := Lib.hid HO.out.waitT
  obtain ⟨w3, hwk⟩ : ∃ x, u3 = x := ⟨_, rfl⟩
  rw [hwk] at BC3 hbl hR ⊢ hzu3
  clear hwk
  have hb3 := BC3
  have T3 := Lib.hid (T2.out.trans (hb3.mono (by omega)))
  have V3 := Lib.hid (V2.out.below (by omega) hb3)
  have Ka3 := Lib.hid (Ka2.out.below (by omega) hb3)
  have Kb3 := Lib.hid (Kb2.out.below (by omega) hb3)
  have P3 := Lib.hid (P2.out.below hb3 (by omega))
  have R3 := Lib.hid (R2.out.below hb3 (by omega))
  have sz3 : w2.heap.size ≤ w3.heap.size := hb3.size
  clear T2 V2 Ka2 Kb2 P2 R2
  have F3 : Hid (FontO w3 f0 f1 (.agg #[.string X.f.s, .slice Az X.f.ws.length cz, .slice A2z X.f.cs.length dz]) X.f) := HO.out.font.below hbl
  have G3 : Hid (MagI w3 g0 g1 Mz X.ms) := HO.out.mag.reads.below (by omega) hbl
  have L3 : Hid (OwnM w3 l0 (.slice Lz X.ln.length lcz) X.ln) := HO.out.line.below hbl
  have W3 : Hid (OwnM w3 t0 (.slice Tz X.wt.length tcz) X.wt) := HO.out.wait.below hbl
  have Q3 : Hid (Blk w3 O #[.string X.f.s, .slice Az X.f.ws.length cz, .slice A2z X.f.cs.length dz, .slice Mz X.ms.length ez, .int .i64 X.sp, .int .i64 X.w, .int .i64 X.t, .int .i64 X.k, .slice Lz X.ln.length lcz, .slice Tz X.wt.length tcz] 37) := hR
  have hsO : w0.heap.size + 1 < O := by omega
  clear hR hbl BC3 HU2 HBU HBC
  obtain ⟨w4, hw4, hb4, hz4, hX4⟩ := mxWorld w3 #[.int .i64 (-1), .int .i64 0] 64
  have T4 := Lib.hid (T3.out.trans (hb4.mono (by omega)))
  have V4 := Lib.hid (V3.out.below (by omega) hb4)
  have Ka4 := Lib.hid (Ka3.out.below (by omega) hb4)
  have Kb4 := Lib.hid (Kb3.out.below (by omega) hb4)
  have P4 := Lib.hid (P3.out.below hb4 (by omega))
  have R4 := Lib.hid (R3.out.below hb4 (by omega))
  have F4 := Lib.hid (F3.out.below hb4)
  have G4 := Lib.hid (G3.out.below (by omega) hb4)
  have L4 := Lib.hid (L3.out.below hb4)
  have W4 := Lib.hid (W3.out.below hb4)
  have Q4 := Lib.hid (Q3.out.below hb4 (by omega))
  have sz4 : w3.heap.size ≤ w4.heap.size := hb4.size
  clear T3 V3 Ka3 Kb3 P3 R3 F3 G3 L3 W3 Q3
  have Y4 : Hid (Blk w4 (w3.heap.size) #[.int .i64 (-1), .int .i64 0] 64) := by show Blk _ _ _ _; exact hX4
  have x0 := cellOfBlk Y4.out 0
  have x1 := cellOfBlk Y4.out 1
  have fx := Y4.out.warm
  go_upto_region 3 with fail
  clear x0 x1 fx
  obtain ⟨yb, hyb⟩ : ∃ x, w3.heap.size = x := ⟨_, rfl⟩
  have hOy : O < yb := by omega
  rw [hyb] at Y4 ⊢
  obtain ⟨w5, hw9⟩ : ∃ x, w4.setCell ⟨yb, 1, none⟩ (.int .i64 0) = x := ⟨_, rfl⟩
  have hc9 : Chg yb (yb + 1) w4 w5 := by rw [← hw9]; exact chg_one _ _ _ _
  have hY9 : Blk w5 yb #[.int .i64 (-1), .int .i64 0] 64 := by rw [← hw9]; exact heapSet (i := 1) Y4.out _
  rw [hw9]
  have T5 := Lib.hid (T4.out.trans ((hc9.below (by omega)).mono (by omega)))
  have V5 := Lib.hid (V4.out.chg hc9 (by omega) (by omega))
  have Ka5 := Lib.hid (Ka4.out.chg hc9 (by omega) (by omega))
  have Kb5 := Lib.hid (Kb4.out.chg hc9 (by omega) (by omega))
  have P5 := Lib.hid (P4.out.chg hc9 (by omega))
  have R5 := Lib.hid (R4.out.chg hc9 (by omega))
  have F5 := Lib.hid (F4.out.chg hc9 (by unfold Off; omega))
  have G5 := Lib.hid (G4.out.chg hc9 (by omega) (by omega))
  have L5 := Lib.hid (L4.out.chg hc9 (fun k hk => by have h7 := HLT.out k hk; have h8 := (L4.out.lt k hk).1; omega))
  have W5 := Lib.hid (W4.out.chg hc9 (fun k hk => by have h7 := HTT.out k hk; have h8 := (W4.out.lt k hk).1; omega))
  have Q5 := Lib.hid (Q4.out.chg hc9 (by omega))
  have sz5 : w4.heap.size ≤ w5.heap.size := hc9.size
  clear T4 V4 Ka4 Kb4 P4 R4 F4 G4 L4 W4 Q4 Y4
  have Y5 := Lib.hid hY9
  clear hc9 hY9 hw9
  have HIN : Hid (inB (keyI X.f (b : Int)) 0 ((q : Int) - 1) = false) := by show _ = _; rw [← HQ0.out]; exact hin
  have HYE := Lib.hid hyes
  clear hin hkr hyes
  go_upto_region 5 with fail
  refine region_post (fun a a' w' => ∃ zb : Nat, a' = ((((((((((((((((a.put (some 21) (.pointer (some ⟨w0.heap.size, 0, none⟩))).put (some 22) (.agg #[.string s, .slice A n c, .slice A2 m d])).put (some 23) (.pointer (some ⟨w0.heap.size, 3, none⟩))).put (some 24) (.slice M q e0)).put (some 25) (.pointer (some ⟨w0.heap.size, 0, none⟩))).put (some 26) (.agg #[.string s, .slice A n c, .slice A2 m d])).put (some 27) (.int .i64 b)).put (some 28) (.int .i64 (keyI X.f b))).put (some 29) (.tuple #[.slice none 0 0, .agg #[.int .i64 0, .int .i64 0], .bool false])).put (some 20) (.tuple #[.slice none 0 0, .agg #[.int .i64 0, .int .i64 0], .bool false])).put (some 30) (.slice none 0 0)).put (some 31) (.agg #[.int .i64 0, .int .i64 0])).put (some 32) (.bool false)).put (some 9) (.pointer (some ⟨zb, 0, none⟩))).put (some 8) (.slice none 0 0)).put (some 10) (.bool false)) ∧ w5.heap.size ≤ zb ∧ Below w5.heap.size w5 w') ?_ ?_
  · have D5 : Hid (Below w5.heap.size w5 w5) := Below.refl _ _
    refine wp_region_plan (.take 0 (.take 1 (.take 2 (.take 3 (.take 4 (.take 5 (.take 6 (.two 7 13 (.two 8 13 (.take 9 (.take 10 (.take 11 (.take 12 (.one 13 (.one 14 (.one 15 (.one 16 .done)))))))) (.one 8 (.take 9 (.take 10 (.take 11 (.take 12 (.one 14 (.one 15 (.one 16 .done))))))))) (.one 7 (.one 8 (.take 9 (.take 10 (.take 11 (.take 12 (.one 14 (.one 15 (.one 16 .done))))))))))))))))) (fun w' => w'.cell? ⟨w0.heap.size, 0, none⟩ = some (.string s) ∧ w'.cell? ⟨w0.heap.size, 1, none⟩ = some (.slice A n c) ∧ w'.cell? ⟨w0.heap.size, 2, none⟩ = some (.slice A2 m d) ∧ w'.cell? ⟨w0.heap.size, 3, none⟩ = some (.slice M q e0) ∧ w'.cell? ⟨w0.heap.size, 4, none⟩ = some (.int .i64 X.sp) ∧ w'.cell? ⟨w0.heap.size, 5, none⟩ = some (.int .i64 X.w) ∧ w'.cell? ⟨w0.heap.size, 6, none⟩ = some (.int .i64 X.t) ∧ w'.cell? ⟨w0.heap.size, 7, none⟩ = some (.int .i64 X.k) ∧ w'.cell? ⟨w0.heap.size, 8, none⟩ = some (.slice L l lc) ∧ w'.cell? ⟨w0.heap.size, 9, none⟩ = some (.slice T r tc)) (by kernel_rfl) (by kernel_rfl) (by kernel_rfl) (by intro c a d v w h; exact absurd h.1 (by simp)) ⟨cellOfBlk P5.out 0, cellOfBlk P5.out 1, cellOfBlk P5.out 2, cellOfBlk P5.out 3, cellOfBlk P5.out 4, cellOfBlk P5.out 5, cellOfBlk P5.out 6, cellOfBlk P5.out 7, cellOfBlk P5.out 8, cellOfBlk P5.out 9⟩ ?_
    obtain ⟨w6, hwd⟩ : ∃ x, w5.drew = x := ⟨_, rfl⟩
    have hb6 : Below w5.heap.size w5 w6 := by rw [← hwd]; exact (Below.refl _ _).drew
    have hsz6 : w6.heap.size = w5.heap.size := by rw [← hwd]; rfl
    have Ka6 := Lib.hid (Ka5.out.below (by omega) hb6)
    have Kb6 := Lib.hid (Kb5.out.below (by omega) hb6)
    have P6 := Lib.hid (P5.out.below hb6 (by omega))
    have D6 := Lib.hid (D5.out.trans (hb6.mono (by omega)))
    have sz6 : w5.heap.size ≤ w6.heap.size := hb6.size
    clear Ka5 Kb5 P5 D5
    rw [hwd]
    clear hwd
    clear hsz6
    iterate 7 (refine plan_quiet rfl (by rfl) (v := ?_) ?_ ?_; rotate_left; (intro w1 hSw; obtain ⟨hs0, hs1, hs2, hs3, hs4, hs5, hs6, hs7, hs8, hs9⟩ := hSw; go_simp; try (with_reducible rfl)); (try simp only [Act.put, List.setIfInBounds_toArray, List.set_cons_zero, List.set_cons_succ]))
    refine plan_fork rfl rfl (fun Kc hK => ?_) (fun Kc hK => ?_)
    · rw [if_pos (by rfl)]
      go_simp
      refine (specKeyOf_any lo hi0 _ X.f (b : Int) w6 Ka6.out (by omega) HS.out.f).mono ?_
      rintro e w7 ⟨rfl, hb7⟩
      have Ka7 := Lib.hid (Ka6.out.below (by omega) hb7)
      have Kb7 := Lib.hid (Kb6.out.below (by omega) hb7)
      have P7 := Lib.hid (P6.out.below hb7 (by omega))
      have D7 := Lib.hid (D6.out.trans (hb7.mono (by omega)))
      have sz7 : w6.heap.size ≤ w7.heap.size := hb7.size
      clear Ka6 Kb6 P6 D6
      refine hK.out _ _ ⟨cellOfBlk P7.out 0, cellOfBlk P7.out 1, cellOfBlk P7.out 2, cellOfBlk P7.out 3, cellOfBlk P7.out 4, cellOfBlk P7.out 5, cellOfBlk P7.out 6, cellOfBlk P7.out 7, cellOfBlk P7.out 8, cellOfBlk P7.out 9⟩ ?_
      clear hK Kc
      refine plan_fork rfl rfl (fun Kc hK => ?_) (fun Kc hK => ?_)
      · rw [if_pos (by rfl)]
        go_simp
        refine (specTake_no2 lo hi0 lo hi0 _ X.f M q e0 X.ms (keyI X.f b) w7 Ka7.out (by omega) HS.out.f HQ0.out (by rw [← HQ0.out]; exact HS.out.ms) Kb7.out (by omega) HWF.out.ms HMG.out HIN.out).mono ?_
        rintro e w8 ⟨rfl, hb8⟩
        have Ka8 := Lib.hid (Ka7.out.below (by omega) hb8)
        have Kb8 := Lib.hid (Kb7.out.below (by omega) hb8)
        have P8 := Lib.hid (P7.out.below hb8 (by omega))
        have D8 := Lib.hid (D7.out.trans (hb8.mono (by omega)))
        have sz8 : w7.heap.size ≤ w8.heap.size := hb8.size
        clear Ka7 Kb7 P7 D7
        refine hK.out _ _ ⟨cellOfBlk P8.out 0, cellOfBlk P8.out 1, cellOfBlk P8.out 2, cellOfBlk P8.out 3, cellOfBlk P8.out 4, cellOfBlk P8.out 5, cellOfBlk P8.out 6, cellOfBlk P8.out 7, cellOfBlk P8.out 8, cellOfBlk P8.out 9⟩ ?_
        clear hK Kc
        iterate 4 (refine plan_quiet rfl (by rfl) (v := ?_) ?_ ?_; rotate_left; (intro w1 hSw; obtain ⟨hs0, hs1, hs2, hs3, hs4, hs5, hs6, hs7, hs8, hs9⟩ := hSw; go_simp; try (with_reducible rfl)); (try simp only [Act.put, List.setIfInBounds_toArray, List.set_cons_zero, List.set_cons_succ]))
        refine plan_step rfl (fun Kc hK => ?_)
        rw [if_pos (by rfl)]
        go_simp
        obtain ⟨w9, hw9, hb9, hz9, hX9⟩ := mxWorld w8 #[.int .i64 0, .int .i64 0] 64
        have Ka9 := Lib.hid (Ka8.out.below (by omega) hb9)
        have Kb9 := Lib.hid (Kb8.out.below (by omega) hb9)
        have P9 := Lib.hid (P8.out.below hb9 (by omega))
        have D9 := Lib.hid (D8.out.trans (hb9.mono (by omega)))
        have sz9 : w8.heap.size ≤ w9.heap.size := hb9.size
        clear Ka8 Kb8 P8 D8
        have Z9 : Hid (Blk w9 (w8.heap.size) #[.int .i64 0, .int .i64 0] 64) := by show Blk _ _ _ _; exact hX9
        have hzl : w8.heap.size < w9.heap.size := by omega
        rw [hw9]
        clear hw9 hz9 hX9 hb9
        refine hK.out _ _ ⟨cellOfBlk P9.out 0, cellOfBlk P9.out 1, cellOfBlk P9.out 2, cellOfBlk P9.out 3, cellOfBlk P9.out 4, cellOfBlk P9.out 5, cellOfBlk P9.out 6, cellOfBlk P9.out 7, cellOfBlk P9.out 8, cellOfBlk P9.out 9⟩ ?_
        clear hK Kc
        refine plan_step rfl (fun Kc hK => ?_)
        rw [if_pos (by rfl)]
        go_simp
        refine hK.out _ _ ⟨cellOfBlk P9.out 0, cellOfBlk P9.out 1, cellOfBlk P9.out 2, cellOfBlk P9.out 3, cellOfBlk P9.out 4, cellOfBlk P9.out 5, cellOfBlk P9.out 6, cellOfBlk P9.out 7, cellOfBlk P9.out 8, cellOfBlk P9.out 9⟩ ?_
        clear hK Kc
        have z0 := cellOfBlk Z9.out 0
        have z1 := cellOfBlk Z9.out 1
        have fz := Z9.out.warm
        refine plan_step rfl (fun Kc hK => ?_)
        rw [if_pos (by rfl)]
        go_simp
        clear z0 z1 fz
        obtain ⟨w10, hw9⟩ : ∃ x, (w9.setCell ⟨w8.heap.size, 0, none⟩ (.int .i64 0)).setCell ⟨w8.heap.size, 1, none⟩ (.int .i64 0) = x := ⟨_, rfl⟩
        have hc9 : Chg (w8.heap.size) (w8.heap.size + 1) w9 w10 := by rw [← hw9]; exact chg_two _ _ _ _
        have hZ9 : Blk w10 (w8.heap.size) #[.int .i64 0, .int .i64 0] 64 := by rw [← hw9]; exact Z9.out.fill2 _ _
        rw [hw9]
        clear hw9
        have Ka10 := Lib.hid (Ka9.out.chg hc9 (by omega) (by omega))
        have Kb10 := Lib.hid (Kb9.out.chg hc9 (by omega) (by omega))
        have P10 := Lib.hid (P9.out.chg hc9 (by omega))
        have D10 := Lib.hid (D9.out.trans ((hc9.below (by omega)).mono (by omega)))
        have sz10 : w9.heap.size ≤ w10.heap.size := hc9.size
        clear Ka9 Kb9 P9 D9 Z9
        refine hK.out _ _ ⟨cellOfBlk P10.out 0, cellOfBlk P10.out 1, cellOfBlk P10.out 2, cellOfBlk P10.out 3, cellOfBlk P10.out 4, cellOfBlk P10.out 5, cellOfBlk P10.out 6, cellOfBlk P10.out 7, cellOfBlk P10.out 8, cellOfBlk P10.out 9⟩ ?_
        clear hK Kc
        refine plan_step rfl (fun Kc hK => ?_)
        rw [if_pos (by rfl)]
        go_simp
        refine hK.out _ _ ⟨cellOfBlk P10.out 0, cellOfBlk P10.out 1, cellOfBlk P10.out 2, cellOfBlk P10.out 3, cellOfBlk P10.out 4, cellOfBlk P10.out 5, cellOfBlk P10.out 6, cellOfBlk P10.out 7, cellOfBlk P10.out 8, cellOfBlk P10.out 9⟩ ?_
        clear hK Kc
        refine plan_end ?_
        refine ⟨rfl, w8.heap.size, ?_, by omega, D10.out⟩
        first | rfl | (simp only [Act.put, List.setIfInBounds_toArray, List.set_cons_zero, List.set_cons_succ])
      · rw [if_pos (by rfl)]
        go_simp
        obtain ⟨w8, hw8, hb8, hz8, hX8⟩ := mxWorld w7 #[.int .i64 0, .int .i64 0] 64
        have Ka8 := Lib.hid (Ka7.out.below (by omega) hb8)
        have Kb8 := Lib.hid (Kb7.out.below (by omega) hb8)
        have P8 := Lib.hid (P7.out.below hb8 (by omega))
        have D8 := Lib.hid (D7.out.trans (hb8.mono (by omega)))
        have sz8 : w7.heap.size ≤ w8.heap.size := hb8.size
        clear Ka7 Kb7 P7 D7
        have Z8 : Hid (Blk w8 (w7.heap.size) #[.int .i64 0, .int .i64 0] 64) := by show Blk _ _ _ _; exact hX8
        have hzl : w7.heap.size < w8.heap.size := by omega
        rw [hw8]
        clear hw8 hz8 hX8 hb8
        refine hK.out _ _ ⟨cellOfBlk P8.out 0, cellOfBlk P8.out 1, cellOfBlk P8.out 2, cellOfBlk P8.out 3, cellOfBlk P8.out 4, cellOfBlk P8.out 5, cellOfBlk P8.out 6, cellOfBlk P8.out 7, cellOfBlk P8.out 8, cellOfBlk P8.out 9⟩ ?_
        clear hK Kc
        refine plan_step rfl (fun Kc hK => ?_)
        rw [if_pos (by rfl)]
        go_simp
        refine (specTake_no2 lo hi0 lo hi0 _ X.f M q e0 X.ms (keyI X.f b) w8 Ka8.out (by omega) HS.out.f HQ0.out (by rw [← HQ0.out]; exact HS.out.ms) Kb8.out (by omega) HWF.out.ms HMG.out HIN.out).mono ?_
        rintro e w9 ⟨rfl, hb9⟩
        have Ka9 := Lib.hid (Ka8.out.below (by omega) hb9)
        have Kb9 := Lib.hid (Kb8.out.below (by omega) hb9)
        have P9 := Lib.hid (P8.out.below hb9 (by omega))
        have D9 := Lib.hid (D8.out.trans (hb9.mono (by omega)))
        have Z9 := Lib.hid (Z8.out.below hb9 (by omega))
        have sz9 : w8.heap.size ≤ w9.heap.size := hb9.size
        clear Ka8 Kb8 P8 D8 Z8
        refine hK.out _ _ ⟨cellOfBlk P9.out 0, cellOfBlk P9.out 1, cellOfBlk P9.out 2, cellOfBlk P9.out 3, cellOfBlk P9.out 4, cellOfBlk P9.out 5, cellOfBlk P9.out 6, cellOfBlk P9.out 7, cellOfBlk P9.out 8, cellOfBlk P9.out 9⟩ ?_
        clear hK Kc
        iterate 4 (refine plan_quiet rfl (by rfl) (v := ?_) ?_ ?_; rotate_left; (intro w1 hSw; obtain ⟨hs0, hs1, hs2, hs3, hs4, hs5, hs6, hs7, hs8, hs9⟩ := hSw; go_simp; try (with_reducible rfl)); (try simp only [Act.put, List.setIfInBounds_toArray, List.set_cons_zero, List.set_cons_succ]))
        refine plan_step rfl (fun Kc hK => ?_)
        rw [if_pos (by rfl)]
        go_simp
        refine hK.out _ _ ⟨cellOfBlk P9.out 0, cellOfBlk P9.out 1, cellOfBlk P9.out 2, cellOfBlk P9.out 3, cellOfBlk P9.out 4, cellOfBlk P9.out 5, cellOfBlk P9.out 6, cellOfBlk P9.out 7, cellOfBlk P9.out 8, cellOfBlk P9.out 9⟩ ?_
        clear hK Kc
        have z0 := cellOfBlk Z9.out 0
        have z1 := cellOfBlk Z9.out 1
        have fz := Z9.out.warm
        refine plan_step rfl (fun Kc hK => ?_)
        rw [if_pos (by rfl)]
        go_simp
        clear z0 z1 fz
        obtain ⟨w10, hw9⟩ : ∃ x, (w9.setCell ⟨w7.heap.size, 0, none⟩ (.int .i64 0)).setCell ⟨w7.heap.size, 1, none⟩ (.int .i64 0) = x := ⟨_, rfl⟩
        have hc9 : Chg (w7.heap.size) (w7.heap.size + 1) w9 w10 := by rw [← hw9]; exact chg_two _ _ _ _
        have hZ9 : Blk w10 (w7.heap.size) #[.int .i64 0, .int .i64 0] 64 := by rw [← hw9]; exact Z9.out.fill2 _ _
        rw [hw9]
        clear hw9
        have Ka10 := Lib.hid (Ka9.out.chg hc9 (by omega) (by omega))
        have Kb10 := Lib.hid (Kb9.out.chg hc9 (by omega) (by omega))
        have P10 := Lib.hid (P9.out.chg hc9 (by omega))
        have D10 := Lib.hid (D9.out.trans ((hc9.below (by omega)).mono (by omega)))
        have sz10 : w9.heap.size ≤ w10.heap.size := hc9.size
        clear Ka9 Kb9 P9 D9 Z9
        refine hK.out _ _ ⟨cellOfBlk P10.out 0, cellOfBlk P10.out 1, cellOfBlk P10.out 2, cellOfBlk P10.out 3, cellOfBlk P10.out 4, cellOfBlk P10.out 5, cellOfBlk P10.out 6, cellOfBlk P10.out 7, cellOfBlk P10.out 8, cellOfBlk P10.out 9⟩ ?_
        clear hK Kc
        refine plan_step rfl (fun Kc hK => ?_)
        rw [if_pos (by rfl)]
        go_simp
        refine hK.out _ _ ⟨cellOfBlk P10.out 0, cellOfBlk P10.out 1, cellOfBlk P10.out 2, cellOfBlk P10.out 3, cellOfBlk P10.out 4, cellOfBlk P10.out 5, cellOfBlk P10.out 6, cellOfBlk P10.out 7, cellOfBlk P10.out 8, cellOfBlk P10.out 9⟩ ?_
        clear hK Kc
        refine plan_end ?_
        refine ⟨rfl, w7.heap.size, ?_, by omega, D10.out⟩
        first | rfl | (simp only [Act.put, List.setIfInBounds_toArray, List.set_cons_zero, List.set_cons_succ])
    · rw [if_pos (by rfl)]
      go_simp
      obtain ⟨w7, hw7, hb7, hz7, hX7⟩ := mxWorld w6 #[.int .i64 0, .int .i64 0] 64
      have Ka7 := Lib.hid (Ka6.out.below (by omega) hb7)
      have Kb7 := Lib.hid (Kb6.out.below (by omega) hb7)
      have P7 := Lib.hid (P6.out.below hb7 (by omega))
      have D7 := Lib.hid (D6.out.trans (hb7.mono (by omega)))
      have sz7 : w6.heap.size ≤ w7.heap.size := hb7.size
      clear Ka6 Kb6 P6 D6
      have Z7 : Hid (Blk w7 (w6.heap.size) #[.int .i64 0, .int .i64 0] 64) := by show Blk _ _ _ _; exact hX7
      have hzl : w6.heap.size < w7.heap.size := by omega
      rw [hw7]
      clear hw7 hz7 hX7 hb7
      refine hK.out _ _ ⟨cellOfBlk P7.out 0, cellOfBlk P7.out 1, cellOfBlk P7.out 2, cellOfBlk P7.out 3, cellOfBlk P7.out 4, cellOfBlk P7.out 5, cellOfBlk P7.out 6, cellOfBlk P7.out 7, cellOfBlk P7.out 8, cellOfBlk P7.out 9⟩ ?_
      clear hK Kc
      refine plan_step rfl (fun Kc hK => ?_)
      rw [if_pos (by rfl)]
      go_simp
      refine (specKeyOf_any lo hi0 _ X.f (b : Int) w7 Ka7.out (by omega) HS.out.f).mono ?_
      rintro e w8 ⟨rfl, hb8⟩
      have Ka8 := Lib.hid (Ka7.out.below (by omega) hb8)
      have Kb8 := Lib.hid (Kb7.out.below (by omega) hb8)
      have P8 := Lib.hid (P7.out.below hb8 (by omega))
      have D8 := Lib.hid (D7.out.trans (hb8.mono (by omega)))
      have Z8 := Lib.hid (Z7.out.below hb8 (by omega))
      have sz8 : w7.heap.size ≤ w8.heap.size := hb8.size
      clear Ka7 Kb7 P7 D7 Z7
      refine hK.out _ _ ⟨cellOfBlk P8.out 0, cellOfBlk P8.out 1, cellOfBlk P8.out 2, cellOfBlk P8.out 3, cellOfBlk P8.out 4, cellOfBlk P8.out 5, cellOfBlk P8.out 6, cellOfBlk P8.out 7, cellOfBlk P8.out 8, cellOfBlk P8.out 9⟩ ?_
      clear hK Kc
      refine plan_step rfl (fun Kc hK => ?_)
      rw [if_pos (by rfl)]
      go_simp
      refine (specTake_no2 lo hi0 lo hi0 _ X.f M q e0 X.ms (keyI X.f b) w8 Ka8.out (by omega) HS.out.f HQ0.out (by rw [← HQ0.out]; exact HS.out.ms) Kb8.out (by omega) HWF.out.ms HMG.out HIN.out).mono ?_
      rintro e w9 ⟨rfl, hb9⟩
      have Ka9 := Lib.hid (Ka8.out.below (by omega) hb9)
      have Kb9 := Lib.hid (Kb8.out.below (by omega) hb9)
      have P9 := Lib.hid (P8.out.below hb9 (by omega))
      have D9 := Lib.hid (D8.out.trans (hb9.mono (by omega)))
      have Z9 := Lib.hid (Z8.out.below hb9 (by omega))
      have sz9 : w8.heap.size ≤ w9.heap.size := hb9.size
      clear Ka8 Kb8 P8 D8 Z8
      refine hK.out _ _ ⟨cellOfBlk P9.out 0, cellOfBlk P9.out 1, cellOfBlk P9.out 2, cellOfBlk P9.out 3, cellOfBlk P9.out 4, cellOfBlk P9.out 5, cellOfBlk P9.out 6, cellOfBlk P9.out 7, cellOfBlk P9.out 8, cellOfBlk P9.out 9⟩ ?_
      clear hK Kc
      iterate 4 (refine plan_quiet rfl (by rfl) (v := ?_) ?_ ?_; rotate_left; (intro w1 hSw; obtain ⟨hs0, hs1, hs2, hs3, hs4, hs5, hs6, hs7, hs8, hs9⟩ := hSw; go_simp; try (with_reducible rfl)); (try simp only [Act.put, List.setIfInBounds_toArray, List.set_cons_zero, List.set_cons_succ]))
      refine plan_step rfl (fun Kc hK => ?_)
      rw [if_pos (by rfl)]
      go_simp
      refine hK.out _ _ ⟨cellOfBlk P9.out 0, cellOfBlk P9.out 1, cellOfBlk P9.out 2, cellOfBlk P9.out 3, cellOfBlk P9.out 4, cellOfBlk P9.out 5, cellOfBlk P9.out 6, cellOfBlk P9.out 7, cellOfBlk P9.out 8, cellOfBlk P9.out 9⟩ ?_
      clear hK Kc
      have z0 := cellOfBlk Z9.out 0
      have z1 := cellOfBlk Z9.out 1
      have fz := Z9.out.warm
      refine plan_step rfl (fun Kc hK => ?_)
      rw [if_pos (by rfl)]
      go_simp
      clear z0 z1 fz
      obtain ⟨w10, hw9⟩ : ∃ x, (w9.setCell ⟨w6.heap.size, 0, none⟩ (.int .i64 0)).setCell ⟨w6.heap.size, 1, none⟩ (.int .i64 0) = x := ⟨_, rfl⟩
      have hc9 : Chg (w6.heap.size) (w6.heap.size + 1) w9 w10 := by rw [← hw9]; exact chg_two _ _ _ _
      have hZ9 : Blk w10 (w6.heap.size) #[.int .i64 0, .int .i64 0] 64 := by rw [← hw9]; exact Z9.out.fill2 _ _
      rw [hw9]
      clear hw9
      have Ka10 := Lib.hid (Ka9.out.chg hc9 (by omega) (by omega))
      have Kb10 := Lib.hid (Kb9.out.chg hc9 (by omega) (by omega))
      have P10 := Lib.hid (P9.out.chg hc9 (by omega))
      have D10 := Lib.hid (D9.out.trans ((hc9.below (by omega)).mono (by omega)))
      have sz10 : w9.heap.size ≤ w10.heap.size := hc9.size
      clear Ka9 Kb9 P9 D9 Z9
      refine hK.out _ _ ⟨cellOfBlk P10.out 0, cellOfBlk P10.out 1, cellOfBlk P10.out 2, cellOfBlk P10.out 3, cellOfBlk P10.out 4, cellOfBlk P10.out 5, cellOfBlk P10.out 6, cellOfBlk P10.out 7, cellOfBlk P10.out 8, cellOfBlk P10.out 9⟩ ?_
      clear hK Kc
      refine plan_step rfl (fun Kc hK => ?_)
      rw [if_pos (by rfl)]
      go_simp
      refine hK.out _ _ ⟨cellOfBlk P10.out 0, cellOfBlk P10.out 1, cellOfBlk P10.out 2, cellOfBlk P10.out 3, cellOfBlk P10.out 4, cellOfBlk P10.out 5, cellOfBlk P10.out 6, cellOfBlk P10.out 7, cellOfBlk P10.out 8, cellOfBlk P10.out 9⟩ ?_
      clear hK Kc
      refine plan_end ?_
      refine ⟨rfl, w6.heap.size, ?_, by omega, D10.out⟩
      first | rfl | (simp only [Act.put, List.setIfInBounds_toArray, List.set_cons_zero, List.set_cons_succ])
  rintro a' w6 ⟨zb, rfl, hx5, hb6⟩
  simp only [Act.put, List.setIfInBounds_toArray, List.set_cons_zero, List.set_cons_succ]
  have T6 := Lib.hid (T5.out.trans (hb6.mono (by omega)))
  have V6 := Lib.hid (V5.out.below (by omega) hb6)
  have Ka6 := Lib.hid (Ka5.out.below (by omega) hb6)
  have Kb6 := Lib.hid (Kb5.out.below (by omega) hb6)
  have P6 := Lib.hid (P5.out.below hb6 (by omega))
  have R6 := Lib.hid (R5.out.below hb6 (by omega))
  have F6 := Lib.hid (F5.out.below hb6)
  have G6 := Lib.hid (G5.out.below (by omega) hb6)
  have L6 := Lib.hid (L5.out.below hb6)
  have W6 := Lib.hid (W5.out.below hb6)
  have Q6 := Lib.hid (Q5.out.below hb6 (by omega))
  have Y6 := Lib.hid (Y5.out.below hb6 (by omega))
  have sz6 : w5.heap.size ≤ w6.heap.size := hb6.size
  clear T5 V5 Ka5 Kb5 P5 R5 F5 G5 L5 W5 Q5 Y5
  have hyes := HYE.out
  have p0 := cellOfBlk P6.out 0
  have p1 := cellOfBlk P6.out 1
  have p2 := cellOfBlk P6.out 2
  have p3 := cellOfBlk P6.out 3
  have p4 := cellOfBlk P6.out 4
  have p5 := cellOfBlk P6.out 5
  have p6 := cellOfBlk P6.out 6
  have p7 := cellOfBlk P6.out 7
  have p8 := cellOfBlk P6.out 8
  have p9 := cellOfBlk P6.out 9
  have r0 := cellOfBlk R6.out 0
  have r1 := cellOfBlk R6.out 1
  have r2 := cellOfBlk R6.out 2
  have r3 := cellOfBlk R6.out 3
  have r4 := cellOfBlk R6.out 4
  have r5 := cellOfBlk R6.out 5
  have r6 := cellOfBlk R6.out 6
  have r7 := cellOfBlk R6.out 7
  have r8 := cellOfBlk R6.out 8
  have r9 := cellOfBlk R6.out 9
  have ff := R6.out.warm
  go_wp2
  have hR := R6.out.fill (.string s) (.slice A n c) (.slice A2 m d) (.slice M q e0) (.int .i64 X.sp) (.int .i64 X.w) (.int .i64 X.t) (.int .i64 X.k) (.slice L l lc) (.slice T r tc)
  have hc9 := chg_ten w6 (w0.heap.size + 1) (.string s) (.slice A n c) (.slice A2 m d) (.slice M q e0) (.int .i64 X.sp) (.int .i64 X.w) (.int .i64 X.t) (.int .i64 X.k) (.slice L l lc) (.slice T r tc)
  obtain ⟨w9, hw9⟩ : ∃ x, ((((((((((w6.setCell ⟨w0.heap.size + 1, 0, none⟩ (.string s)).setCell ⟨w0.heap.size + 1, 1, none⟩ (.slice A n c)).setCell ⟨w0.heap.size + 1, 2, none⟩ (.slice A2 m d)).setCell ⟨w0.heap.size + 1, 3, none⟩ (.slice M q e0)).setCell ⟨w0.heap.size + 1, 4, none⟩ (.int .i64 X.sp)).setCell ⟨w0.heap.size + 1, 5, none⟩ (.int .i64 X.w)).setCell ⟨w0.heap.size + 1, 6, none⟩ (.int .i64 X.t)).setCell ⟨w0.heap.size + 1, 7, none⟩ (.int .i64 X.k)).setCell ⟨w0.heap.size + 1, 8, none⟩ (.slice L l lc)).setCell ⟨w0.heap.size + 1, 9, none⟩ (.slice T r tc)) = x := ⟨_, rfl⟩
  rw [hw9] at hR hc9
  (try rw [hw9])
  clear hw9 r0 r1 r2 r3 r4 r5 r6 r7 r8 r9
  have r0 := cellOfBlk hR 0
  have r1 := cellOfBlk hR 1
  have r2 := cellOfBlk hR 2
  have r3 := cellOfBlk hR 3
  have r4 := cellOfBlk hR 4
  have r5 := cellOfBlk hR 5
  have r6 := cellOfBlk hR 6
  have r7 := cellOfBlk hR 7
  have r8 := cellOfBlk hR 8
  have r9 := cellOfBlk hR 9
  (try simp only [Exit.inBlock, Exit.then])
  clear p0 p1 p2 p3 p4 p5 p6 p7 p8 p9
  refine bodyPost_ret (v := .tuple #[.agg #[.string s, .slice A n c, .slice A2 m d, .slice M q e0, .int .i64 X.sp, .int .i64 X.w, .int .i64 X.t, .int .i64 X.k, .slice L l lc, .slice T r tc], .bool false]) (by simp [results, Tryz.results57, go_sem, r0, r1, r2, r3, r4, r5, r6, r7, r8, r9]) rfl ?_
  rw [hyes]
  exact ⟨_, rfl, fun _ => rfl, fun h9 => (by cases h9), T6.out.trans ((hc9.below (by omega)).mono (by omega))⟩
set_option maxRecDepth 100000 in
set_option maxHeartbeats 6400000 in
theorem specL5K_none (lo hi0 : Nat) (v : Value) (X : Mch) (b : Nat) (w : World) (h : MchV w lo hi0 v X) (hhi : hi0 ≤ w.heap.size) (hm : machB X = true) (wf : WfX X) (hb : ¬ b = 32) (i9 : Nat) (hki : keyI X.f (b : Int) = i9) (hx9 : X.ms[i9]? = some []) (hkr : keyRow X b = []) :
    Calls Tryz.prog 57 #[v, .int .i64 b] w fun e w' => ∃ v', e = .returned (.tuple #[v', .bool (keyYes X b)]) ∧ (keyYes X b = false → v' = v) ∧ (keyYes X b = true → MchV w' w.heap.size w'.heap.size v' (keyX X b)) ∧ Below w.heap.size w w' := by
  have HS := Lib.hid (mach_smallX hm)
  have HM := Lib.hid hm
  have hbe : ((b : Int) == 32) = false := by simp; omega
  have HMG := Lib.hid (machB_parts hm).1
  have hyes : keyYes X b = false := keyYes_nil (by omega) hkr
  have HKI := Lib.hid hki; have HX9 := Lib.hid hx9
  have hparts := h.parts
  obtain ⟨s, A, n, c, A2, m, d, M, q, e0, L, l, lc, T, r, tc, hv, hF0, hq0, hM0, -⟩ := hparts
  rw [hv] at h ⊢
  clear hv
  obtain ⟨w0, hw0⟩ : ∃ x, w = x := ⟨_, rfl⟩
  have hww : w.heap.size = w0.heap.size := by rw [hw0]
  have HWF := Lib.hid wf
  have T0 : Hid (Below w0.heap.size w0 w0) := Below.refl _ _
  have V0 : Hid (MchV w0 lo hi0 (.agg #[.string s, .slice A n c, .slice A2 m d, .slice M q e0, .int .i64 X.sp, .int .i64 X.w, .int .i64 X.t, .int .i64 X.k, .slice L l lc, .slice T r tc]) X) := by rw [← hw0]; exact h
  have Ka0 : Hid (FontV w0 lo hi0 (.agg #[.string s, .slice A n c, .slice A2 m d]) X.f) := by rw [← hw0]; exact hF0
  have Kb0 : Hid (MagI w0 lo hi0 M X.ms) := by rw [← hw0]; exact hM0
  have HQ0 := Lib.hid hq0
  clear h wf hF0 hM0 hq0
  obtain ⟨w1, hw1, hb1, hz1, hX1⟩ := mxWorld w0 #[.string s, .slice A n c, .slice A2 m d, .slice M q e0, .int .i64 X.sp, .int .i64 X.w, .int .i64 X.t, .int .i64 X.k, .slice L l lc, .slice T r tc] 37
  have T1 := Lib.hid (T0.out.trans (hb1.mono (by omega)))
  have V1 := Lib.hid (V0.out.below (by omega) hb1)
  have Ka1 := Lib.hid (Ka0.out.below (by omega) hb1)
  have Kb1 := Lib.hid (Kb0.out.below (by omega) hb1)
  have sz1 : w0.heap.size ≤ w1.heap.size := hb1.size
  clear T0 V0 Ka0 Kb0
  have P1 : Hid (Blk w1 (w0.heap.size) #[.string s, .slice A n c, .slice A2 m d, .slice M q e0, .int .i64 X.sp, .int .i64 X.w, .int .i64 X.t, .int .i64 X.k, .slice L l lc, .slice T r tc] 37) := by show Blk _ _ _ _; exact hX1
  obtain ⟨w2, hw2, hb2, hz2, hX2⟩ := mxWorld w1 #[.string ⟨#[]⟩, .slice none 0 0, .slice none 0 0, .slice none 0 0, .int .i64 0, .int .i64 0, .int .i64 0, .int .i64 0, .slice none 0 0, .slice none 0 0] 37
  have T2 := Lib.hid (T1.out.trans (hb2.mono (by omega)))
  have V2 := Lib.hid (V1.out.below (by omega) hb2)
  have Ka2 := Lib.hid (Ka1.out.below (by omega) hb2)
  have Kb2 := Lib.hid (Kb1.out.below (by omega) hb2)
  have P2 := Lib.hid (P1.out.below hb2 (by omega))
  have sz2 : w1.heap.size ≤ w2.heap.size := hb2.size
  clear T1 V1 Ka1 Kb1 P1
  have R2 : Hid (Blk w2 (w0.heap.size + 1) #[.string ⟨#[]⟩, .slice none 0 0, .slice none 0 0, .slice none 0 0, .int .i64 0, .int .i64 0, .int .i64 0, .int .i64 0, .slice none 0 0, .slice none 0 0] 37) := by show Blk _ _ _ _; rw [← hz1]; exact hX2
  rw [hz1] at hz2
  have p0 := cellOfBlk P2.out 0
  have p1 := cellOfBlk P2.out 1
  have p2 := cellOfBlk P2.out 2
  have p3 := cellOfBlk P2.out 3
  have p4 := cellOfBlk P2.out 4
  have p5 := cellOfBlk P2.out 5
  have p6 := cellOfBlk P2.out 6
  have p7 := cellOfBlk P2.out 7
  have p8 := cellOfBlk P2.out 8
  have p9 := cellOfBlk P2.out 9
  rw [hw0]
  go_enter Tryz.func57, Tryz.ntmps57
  go_wp2_with fail
  clear p0 p1 p2 p3 p4 p5 p6 p7 p8 p9
  refine (l5Copy_any lo hi0 _ X w2 V2.out (by omega) HS.out).mono ?_
  rintro e u1 ⟨vC, rfl, hC, hbC⟩
  obtain ⟨O, hOz⟩ : ∃ x, u1.heap.size = x := ⟨_, rfl⟩
  have hbO := hbC.size
  rw [hOz] at hC hbO
  obtain ⟨Az, cz, A2z, dz, Mz, ez, Lz, lcz, Tz, tcz, hs7, f0, f1, g0, g1, l0, l1, t0, t1, hO⟩ := hC
  have hv7 := hO.v
  unfold mwords at hv7
  subst hv7
  have HO := Lib.hid hO
  clear hO
  obtain ⟨u2, hu2, hbu2, hzu2, hU⟩ := mxWorld u1 #[.string ⟨#[]⟩, .slice none 0 0, .slice none 0 0, .slice none 0 0, .int .i64 0, .int .i64 0, .int .i64 0, .int .i64 0, .slice none 0 0, .slice none 0 0] 37
  rw [hOz] at hU hzu2 hbu2
  have o0 := cellOfBlk hU 0
  have o1 := cellOfBlk hU 1
  have o2 := cellOfBlk hU 2
  have o3 := cellOfBlk hU 3
  have o4 := cellOfBlk hU 4
  have o5 := cellOfBlk hU 5
  have o6 := cellOfBlk hU 6
  have o7 := cellOfBlk hU 7
  have o8 := cellOfBlk hU 8
  have o9 := cellOfBlk hU 9
  have fo := hU.warm
  have HU2 := Lib.hid hU
  have HBU := Lib.hid hbu2
  have HBC := Lib.hid hbC
  clear hU hbC hbu2
  go_upto_region 2 with fail
  have hR := HU2.out.fill (.string X.f.s) (.slice Az X.f.ws.length cz) (.slice A2z X.f.cs.length dz) (.slice Mz X.ms.length ez) (.int .i64 X.sp) (.int .i64 X.w) (.int .i64 X.t) (.int .i64 X.k) (.slice Lz X.ln.length lcz) (.slice Tz X.wt.length tcz)
  have hc9 := chg_ten u2 O (.string X.f.s) (.slice Az X.f.ws.length cz) (.slice A2z X.f.cs.length dz) (.slice Mz X.ms.length ez) (.int .i64 X.sp) (.int .i64 X.w) (.int .i64 X.t) (.int .i64 X.k) (.slice Lz X.ln.length lcz) (.slice Tz X.wt.length tcz)
  obtain ⟨u3, hu3⟩ : ∃ x, ((((((((((u2.setCell ⟨O, 0, none⟩ (.string X.f.s)).setCell ⟨O, 1, none⟩ (.slice Az X.f.ws.length cz)).setCell ⟨O, 2, none⟩ (.slice A2z X.f.cs.length dz)).setCell ⟨O, 3, none⟩ (.slice Mz X.ms.length ez)).setCell ⟨O, 4, none⟩ (.int .i64 X.sp)).setCell ⟨O, 5, none⟩ (.int .i64 X.w)).setCell ⟨O, 6, none⟩ (.int .i64 X.t)).setCell ⟨O, 7, none⟩ (.int .i64 X.k)).setCell ⟨O, 8, none⟩ (.slice Lz X.ln.length lcz)).setCell ⟨O, 9, none⟩ (.slice Tz X.wt.length tcz)) = x := ⟨_, rfl⟩
  rw [hu3] at hR hc9 ⊢
  have hzu3 := hc9.size
  have hbl : Below u1.heap.size u1 u3 := by rw [hOz]; exact HBU.out.trans (hc9.below (by omega))
  have BC3 : Below w2.heap.size w2 u3 := HBC.out.trans (hbl.mono (by omega))
  clear hu3 hc9 fo o0 o1 o2 o3 o4 o5 o6 o7 o8 o9 hu2
  have hfi := HO.out.fi; have hgi := HO.out.gi; have hli := HO.out.li; have hti := HO.out.ti
  have hfl := HO.out.fl; have hgl := HO.out.gl; have hlt := HO.out.lt
  unfold Off at hfl hgl hlt
  have HLT := Lib.hid HO.out.lineT; have HTT := Lib.hid HO.out.waitT
  obtain ⟨w3, hwk⟩ : ∃ x, u3 = x := ⟨_, rfl⟩
  rw [hwk] at BC3 hbl hR ⊢ hzu3
  clear hwk
  have hb3 := BC3
  have T3 := Lib.hid (T2.out.trans (hb3.mono (by omega)))
  have V3 := Lib.hid (V2.out.below (by omega) hb3)
  have Ka3 := Lib.hid (Ka2.out.below (by omega) hb3)
  have Kb3 := Lib.hid (Kb2.out.below (by omega) hb3)
  have P3 := Lib.hid (P2.out.below hb3 (by omega))
  have R3 := Lib.hid (R2.out.below hb3 (by omega))
  have sz3 : w2.heap.size ≤ w3.heap.size := hb3.size
  clear T2 V2 Ka2 Kb2 P2 R2
  have F3 : Hid (FontO w3 f0 f1 (.agg #[.string X.f.s, .slice Az X.f.ws.length cz, .slice A2z X.f.cs.length dz]) X.f) := HO.out.font.below hbl
  have G3 : Hid (MagI w3 g0 g1 Mz X.ms) := HO.out.mag.reads.below (by omega) hbl
  have L3 : Hid (OwnM w3 l0 (.slice Lz X.ln.length lcz) X.ln) := HO.out.line.below hbl
  have W3 : Hid (OwnM w3 t0 (.slice Tz X.wt.length tcz) X.wt) := HO.out.wait.below hbl
  have Q3 : Hid (Blk w3 O #[.string X.f.s, .slice Az X.f.ws.length cz, .slice A2z X.f.cs.length dz, .slice Mz X.ms.length ez, .int .i64 X.sp, .int .i64 X.w, .int .i64 X.t, .int .i64 X.k, .slice Lz X.ln.length lcz, .slice Tz X.wt.length tcz] 37) := hR
  have hsO : w0.heap.size + 1 < O := by omega
  clear hR hbl BC3 HU2 HBU HBC
  obtain ⟨w4, hw4, hb4, hz4, hX4⟩ := mxWorld w3 #[.int .i64 (-1), .int .i64 0] 64
  have T4 := Lib.hid (T3.out.trans (hb4.mono (by omega)))
  have V4 := Lib.hid (V3.out.below (by omega) hb4)
  have Ka4 := Lib.hid (Ka3.out.below (by omega) hb4)
  have Kb4 := Lib.hid (Kb3.out.below (by omega) hb4)
  have P4 := Lib.hid (P3.out.below hb4 (by omega))
  have R4 := Lib.hid (R3.out.below hb4 (by omega))
  have F4 := Lib.hid (F3.out.below hb4)
  have G4 := Lib.hid (G3.out.below (by omega) hb4)
  have L4 := Lib.hid (L3.out.below hb4)
  have W4 := Lib.hid (W3.out.below hb4)
  have Q4 := Lib.hid (Q3.out.below hb4 (by omega))
  have sz4 : w3.heap.size ≤ w4.heap.size := hb4.size
  clear T3 V3 Ka3 Kb3 P3 R3 F3 G3 L3 W3 Q3
  have Y4 : Hid (Blk w4 (w3.heap.size) #[.int .i64 (-1), .int .i64 0] 64) := by show Blk _ _ _ _; exact hX4
  have x0 := cellOfBlk Y4.out 0
  have x1 := cellOfBlk Y4.out 1
  have fx := Y4.out.warm
  go_upto_region 3 with fail
  clear x0 x1 fx
  obtain ⟨yb, hyb⟩ : ∃ x, w3.heap.size = x := ⟨_, rfl⟩
  have hOy : O < yb := by omega
  rw [hyb] at Y4 ⊢
  obtain ⟨w5, hw9⟩ : ∃ x, w4.setCell ⟨yb, 1, none⟩ (.int .i64 0) = x := ⟨_, rfl⟩
  have hc9 : Chg yb (yb + 1) w4 w5 := by rw [← hw9]; exact chg_one _ _ _ _
  have hY9 : Blk w5 yb #[.int .i64 (-1), .int .i64 0] 64 := by rw [← hw9]; exact heapSet (i := 1) Y4.out _
  rw [hw9]
  have T5 := Lib.hid (T4.out.trans ((hc9.below (by omega)).mono (by omega)))
  have V5 := Lib.hid (V4.out.chg hc9 (by omega) (by omega))
  have Ka5 := Lib.hid (Ka4.out.chg hc9 (by omega) (by omega))
  have Kb5 := Lib.hid (Kb4.out.chg hc9 (by omega) (by omega))
  have P5 := Lib.hid (P4.out.chg hc9 (by omega))
  have R5 := Lib.hid (R4.out.chg hc9 (by omega))
  have F5 := Lib.hid (F4.out.chg hc9 (by unfold Off; omega))
  have G5 := Lib.hid (G4.out.chg hc9 (by omega) (by omega))
  have L5 := Lib.hid (L4.out.chg hc9 (fun k hk => by have h7 := HLT.out k hk; have h8 := (L4.out.lt k hk).1; omega))
  have W5 := Lib.hid (W4.out.chg hc9 (fun k hk => by have h7 := HTT.out k hk; have h8 := (W4.out.lt k hk).1; omega))
  have Q5 := Lib.hid (Q4.out.chg hc9 (by omega))
  have sz5 : w4.heap.size ≤ w5.heap.size := hc9.size
  clear T4 V4 Ka4 Kb4 P4 R4 F4 G4 L4 W4 Q4 Y4
  have Y5 := Lib.hid hY9
  clear hc9 hY9 hw9
  have HYE := Lib.hid hyes
  clear hki hx9 hkr hyes
  go_upto_region 5 with fail
  refine region_post (fun a a' w' => ∃ zb : Nat, a' = ((((((((((((((((a.put (some 21) (.pointer (some ⟨w0.heap.size, 0, none⟩))).put (some 22) (.agg #[.string s, .slice A n c, .slice A2 m d])).put (some 23) (.pointer (some ⟨w0.heap.size, 3, none⟩))).put (some 24) (.slice M q e0)).put (some 25) (.pointer (some ⟨w0.heap.size, 0, none⟩))).put (some 26) (.agg #[.string s, .slice A n c, .slice A2 m d])).put (some 27) (.int .i64 b)).put (some 28) (.int .i64 (i9 : Nat))).put (some 29) (.tuple #[.slice none 0 0, .agg #[.int .i64 0, .int .i64 0], .bool false])).put (some 20) (.tuple #[.slice none 0 0, .agg #[.int .i64 0, .int .i64 0], .bool false])).put (some 30) (.slice none 0 0)).put (some 31) (.agg #[.int .i64 0, .int .i64 0])).put (some 32) (.bool false)).put (some 9) (.pointer (some ⟨zb, 0, none⟩))).put (some 8) (.slice none 0 0)).put (some 10) (.bool false)) ∧ w5.heap.size ≤ zb ∧ Below w5.heap.size w5 w') ?_ ?_
  · have D5 : Hid (Below w5.heap.size w5 w5) := Below.refl _ _
    refine wp_region_plan (.take 0 (.take 1 (.take 2 (.take 3 (.take 4 (.take 5 (.take 6 (.two 7 13 (.two 8 13 (.take 9 (.take 10 (.take 11 (.take 12 (.one 13 (.one 14 (.one 15 (.one 16 .done)))))))) (.one 8 (.take 9 (.take 10 (.take 11 (.take 12 (.one 14 (.one 15 (.one 16 .done))))))))) (.one 7 (.one 8 (.take 9 (.take 10 (.take 11 (.take 12 (.one 14 (.one 15 (.one 16 .done))))))))))))))))) (fun w' => w'.cell? ⟨w0.heap.size, 0, none⟩ = some (.string s) ∧ w'.cell? ⟨w0.heap.size, 1, none⟩ = some (.slice A n c) ∧ w'.cell? ⟨w0.heap.size, 2, none⟩ = some (.slice A2 m d) ∧ w'.cell? ⟨w0.heap.size, 3, none⟩ = some (.slice M q e0) ∧ w'.cell? ⟨w0.heap.size, 4, none⟩ = some (.int .i64 X.sp) ∧ w'.cell? ⟨w0.heap.size, 5, none⟩ = some (.int .i64 X.w) ∧ w'.cell? ⟨w0.heap.size, 6, none⟩ = some (.int .i64 X.t) ∧ w'.cell? ⟨w0.heap.size, 7, none⟩ = some (.int .i64 X.k) ∧ w'.cell? ⟨w0.heap.size, 8, none⟩ = some (.slice L l lc) ∧ w'.cell? ⟨w0.heap.size, 9, none⟩ = some (.slice T r tc)) (by kernel_rfl) (by kernel_rfl) (by kernel_rfl) (by intro c a d v w h; exact absurd h.1 (by simp)) ⟨cellOfBlk P5.out 0, cellOfBlk P5.out 1, cellOfBlk P5.out 2, cellOfBlk P5.out 3, cellOfBlk P5.out 4, cellOfBlk P5.out 5, cellOfBlk P5.out 6, cellOfBlk P5.out 7, cellOfBlk P5.out 8, cellOfBlk P5.out 9⟩ ?_
    obtain ⟨w6, hwd⟩ : ∃ x, w5.drew = x := ⟨_, rfl⟩
    have hb6 : Below w5.heap.size w5 w6 := by rw [← hwd]; exact (Below.refl _ _).drew
    have hsz6 : w6.heap.size = w5.heap.size := by rw [← hwd]; rfl
    have Ka6 := Lib.hid (Ka5.out.below (by omega) hb6)
    have Kb6 := Lib.hid (Kb5.out.below (by omega) hb6)
    have P6 := Lib.hid (P5.out.below hb6 (by omega))
    have D6 := Lib.hid (D5.out.trans (hb6.mono (by omega)))
    have sz6 : w5.heap.size ≤ w6.heap.size := hb6.size
    clear Ka5 Kb5 P5 D5
    rw [hwd]
    clear hwd
    clear hsz6
    iterate 7 (refine plan_quiet rfl (by rfl) (v := ?_) ?_ ?_; rotate_left; (intro w1 hSw; obtain ⟨hs0, hs1, hs2, hs3, hs4, hs5, hs6, hs7, hs8, hs9⟩ := hSw; go_simp; try (with_reducible rfl)); (try simp only [Act.put, List.setIfInBounds_toArray, List.set_cons_zero, List.set_cons_succ]))
    refine plan_fork rfl rfl (fun Kc hK => ?_) (fun Kc hK => ?_)
    · rw [if_pos (by rfl)]
      go_simp
      refine (specKeyOf_any lo hi0 _ X.f (b : Int) w6 Ka6.out (by omega) HS.out.f).mono ?_
      rintro e w7 ⟨rfl, hb7⟩
      rw [HKI.out]
      have Ka7 := Lib.hid (Ka6.out.below (by omega) hb7)
      have Kb7 := Lib.hid (Kb6.out.below (by omega) hb7)
      have P7 := Lib.hid (P6.out.below hb7 (by omega))
      have D7 := Lib.hid (D6.out.trans (hb7.mono (by omega)))
      have sz7 : w6.heap.size ≤ w7.heap.size := hb7.size
      clear Ka6 Kb6 P6 D6
      refine hK.out _ _ ⟨cellOfBlk P7.out 0, cellOfBlk P7.out 1, cellOfBlk P7.out 2, cellOfBlk P7.out 3, cellOfBlk P7.out 4, cellOfBlk P7.out 5, cellOfBlk P7.out 6, cellOfBlk P7.out 7, cellOfBlk P7.out 8, cellOfBlk P7.out 9⟩ ?_
      clear hK Kc
      refine plan_fork rfl rfl (fun Kc hK => ?_) (fun Kc hK => ?_)
      · rw [if_pos (by rfl)]
        go_simp
        refine (specTake_none lo hi0 lo hi0 _ X.f M q e0 X.ms i9 w7 Ka7.out (by omega) HS.out.f HQ0.out (by rw [← HQ0.out]; exact HS.out.ms) Kb7.out (by omega) HWF.out.ms HMG.out HX9.out).mono ?_
        rintro e w8 ⟨rfl, hb8⟩
        have Ka8 := Lib.hid (Ka7.out.below (by omega) hb8)
        have Kb8 := Lib.hid (Kb7.out.below (by omega) hb8)
        have P8 := Lib.hid (P7.out.below hb8 (by omega))
        have D8 := Lib.hid (D7.out.trans (hb8.mono (by omega)))
        have sz8 : w7.heap.size ≤ w8.heap.size := hb8.size
        clear Ka7 Kb7 P7 D7
        refine hK.out _ _ ⟨cellOfBlk P8.out 0, cellOfBlk P8.out 1, cellOfBlk P8.out 2, cellOfBlk P8.out 3, cellOfBlk P8.out 4, cellOfBlk P8.out 5, cellOfBlk P8.out 6, cellOfBlk P8.out 7, cellOfBlk P8.out 8, cellOfBlk P8.out 9⟩ ?_
        clear hK Kc
        iterate 4 (refine plan_quiet rfl (by rfl) (v := ?_) ?_ ?_; rotate_left; (intro w1 hSw; obtain ⟨hs0, hs1, hs2, hs3, hs4, hs5, hs6, hs7, hs8, hs9⟩ := hSw; go_simp; try (with_reducible rfl)); (try simp only [Act.put, List.setIfInBounds_toArray, List.set_cons_zero, List.set_cons_succ]))
        refine plan_step rfl (fun Kc hK => ?_)
        rw [if_pos (by rfl)]
        go_simp
        obtain ⟨w9, hw9, hb9, hz9, hX9⟩ := mxWorld w8 #[.int .i64 0, .int .i64 0] 64
        have Ka9 := Lib.hid (Ka8.out.below (by omega) hb9)
        have Kb9 := Lib.hid (Kb8.out.below (by omega) hb9)
        have P9 := Lib.hid (P8.out.below hb9 (by omega))
        have D9 := Lib.hid (D8.out.trans (hb9.mono (by omega)))
        have sz9 : w8.heap.size ≤ w9.heap.size := hb9.size
        clear Ka8 Kb8 P8 D8
        have Z9 : Hid (Blk w9 (w8.heap.size) #[.int .i64 0, .int .i64 0] 64) := by show Blk _ _ _ _; exact hX9
        have hzl : w8.heap.size < w9.heap.size := by omega
        rw [hw9]
        clear hw9 hz9 hX9 hb9
        refine hK.out _ _ ⟨cellOfBlk P9.out 0, cellOfBlk P9.out 1, cellOfBlk P9.out 2, cellOfBlk P9.out 3, cellOfBlk P9.out 4, cellOfBlk P9.out 5, cellOfBlk P9.out 6, cellOfBlk P9.out 7, cellOfBlk P9.out 8, cellOfBlk P9.out 9⟩ ?_
        clear hK Kc
        refine plan_step rfl (fun Kc hK => ?_)
        rw [if_pos (by rfl)]
        go_simp
        refine hK.out _ _ ⟨cellOfBlk P9.out 0, cellOfBlk P9.out 1, cellOfBlk P9.out 2, cellOfBlk P9.out 3, cellOfBlk P9.out 4, cellOfBlk P9.out 5, cellOfBlk P9.out 6, cellOfBlk P9.out 7, cellOfBlk P9.out 8, cellOfBlk P9.out 9⟩ ?_
        clear hK Kc
        have z0 := cellOfBlk Z9.out 0
        have z1 := cellOfBlk Z9.out 1
        have fz := Z9.out.warm
        refine plan_step rfl (fun Kc hK => ?_)
        rw [if_pos (by rfl)]
        go_simp
        clear z0 z1 fz
        obtain ⟨w10, hw9⟩ : ∃ x, (w9.setCell ⟨w8.heap.size, 0, none⟩ (.int .i64 0)).setCell ⟨w8.heap.size, 1, none⟩ (.int .i64 0) = x := ⟨_, rfl⟩
        have hc9 : Chg (w8.heap.size) (w8.heap.size + 1) w9 w10 := by rw [← hw9]; exact chg_two _ _ _ _
        have hZ9 : Blk w10 (w8.heap.size) #[.int .i64 0, .int .i64 0] 64 := by rw [← hw9]; exact Z9.out.fill2 _ _
        rw [hw9]
        clear hw9
        have Ka10 := Lib.hid (Ka9.out.chg hc9 (by omega) (by omega))
        have Kb10 := Lib.hid (Kb9.out.chg hc9 (by omega) (by omega))
        have P10 := Lib.hid (P9.out.chg hc9 (by omega))
        have D10 := Lib.hid (D9.out.trans ((hc9.below (by omega)).mono (by omega)))
        have sz10 : w9.heap.size ≤ w10.heap.size := hc9.size
        clear Ka9 Kb9 P9 D9 Z9
        refine hK.out _ _ ⟨cellOfBlk P10.out 0, cellOfBlk P10.out 1, cellOfBlk P10.out 2, cellOfBlk P10.out 3, cellOfBlk P10.out 4, cellOfBlk P10.out 5, cellOfBlk P10.out 6, cellOfBlk P10.out 7, cellOfBlk P10.out 8, cellOfBlk P10.out 9⟩ ?_
        clear hK Kc
        refine plan_step rfl (fun Kc hK => ?_)
        rw [if_pos (by rfl)]
        go_simp
        refine hK.out _ _ ⟨cellOfBlk P10.out 0, cellOfBlk P10.out 1, cellOfBlk P10.out 2, cellOfBlk P10.out 3, cellOfBlk P10.out 4, cellOfBlk P10.out 5, cellOfBlk P10.out 6, cellOfBlk P10.out 7, cellOfBlk P10.out 8, cellOfBlk P10.out 9⟩ ?_
        clear hK Kc
        refine plan_end ?_
        refine ⟨rfl, w8.heap.size, ?_, by omega, D10.out⟩
        first | rfl | (simp only [Act.put, List.setIfInBounds_toArray, List.set_cons_zero, List.set_cons_succ])
      · rw [if_pos (by rfl)]
        go_simp
        obtain ⟨w8, hw8, hb8, hz8, hX8⟩ := mxWorld w7 #[.int .i64 0, .int .i64 0] 64
        have Ka8 := Lib.hid (Ka7.out.below (by omega) hb8)
        have Kb8 := Lib.hid (Kb7.out.below (by omega) hb8)
        have P8 := Lib.hid (P7.out.below hb8 (by omega))
        have D8 := Lib.hid (D7.out.trans (hb8.mono (by omega)))
        have sz8 : w7.heap.size ≤ w8.heap.size := hb8.size
        clear Ka7 Kb7 P7 D7
        have Z8 : Hid (Blk w8 (w7.heap.size) #[.int .i64 0, .int .i64 0] 64) := by show Blk _ _ _ _; exact hX8
        have hzl : w7.heap.size < w8.heap.size := by omega
        rw [hw8]
        clear hw8 hz8 hX8 hb8
        refine hK.out _ _ ⟨cellOfBlk P8.out 0, cellOfBlk P8.out 1, cellOfBlk P8.out 2, cellOfBlk P8.out 3, cellOfBlk P8.out 4, cellOfBlk P8.out 5, cellOfBlk P8.out 6, cellOfBlk P8.out 7, cellOfBlk P8.out 8, cellOfBlk P8.out 9⟩ ?_
        clear hK Kc
        refine plan_step rfl (fun Kc hK => ?_)
        rw [if_pos (by rfl)]
        go_simp
        refine (specTake_none lo hi0 lo hi0 _ X.f M q e0 X.ms i9 w8 Ka8.out (by omega) HS.out.f HQ0.out (by rw [← HQ0.out]; exact HS.out.ms) Kb8.out (by omega) HWF.out.ms HMG.out HX9.out).mono ?_
        rintro e w9 ⟨rfl, hb9⟩
        have Ka9 := Lib.hid (Ka8.out.below (by omega) hb9)
        have Kb9 := Lib.hid (Kb8.out.below (by omega) hb9)
        have P9 := Lib.hid (P8.out.below hb9 (by omega))
        have D9 := Lib.hid (D8.out.trans (hb9.mono (by omega)))
        have Z9 := Lib.hid (Z8.out.below hb9 (by omega))
        have sz9 : w8.heap.size ≤ w9.heap.size := hb9.size
        clear Ka8 Kb8 P8 D8 Z8
        refine hK.out _ _ ⟨cellOfBlk P9.out 0, cellOfBlk P9.out 1, cellOfBlk P9.out 2, cellOfBlk P9.out 3, cellOfBlk P9.out 4, cellOfBlk P9.out 5, cellOfBlk P9.out 6, cellOfBlk P9.out 7, cellOfBlk P9.out 8, cellOfBlk P9.out 9⟩ ?_
        clear hK Kc
        iterate 4 (refine plan_quiet rfl (by rfl) (v := ?_) ?_ ?_; rotate_left; (intro w1 hSw; obtain ⟨hs0, hs1, hs2, hs3, hs4, hs5, hs6, hs7, hs8, hs9⟩ := hSw; go_simp; try (with_reducible rfl)); (try simp only [Act.put, List.setIfInBounds_toArray, List.set_cons_zero, List.set_cons_succ]))
        refine plan_step rfl (fun Kc hK => ?_)
        rw [if_pos (by rfl)]
        go_simp
        refine hK.out _ _ ⟨cellOfBlk P9.out 0, cellOfBlk P9.out 1, cellOfBlk P9.out 2, cellOfBlk P9.out 3, cellOfBlk P9.out 4, cellOfBlk P9.out 5, cellOfBlk P9.out 6, cellOfBlk P9.out 7, cellOfBlk P9.out 8, cellOfBlk P9.out 9⟩ ?_
        clear hK Kc
        have z0 := cellOfBlk Z9.out 0
        have z1 := cellOfBlk Z9.out 1
        have fz := Z9.out.warm
        refine plan_step rfl (fun Kc hK => ?_)
        rw [if_pos (by rfl)]
        go_simp
        clear z0 z1 fz
        obtain ⟨w10, hw9⟩ : ∃ x, (w9.setCell ⟨w7.heap.size, 0, none⟩ (.int .i64 0)).setCell ⟨w7.heap.size, 1, none⟩ (.int .i64 0) = x := ⟨_, rfl⟩
        have hc9 : Chg (w7.heap.size) (w7.heap.size + 1) w9 w10 := by rw [← hw9]; exact chg_two _ _ _ _
        have hZ9 : Blk w10 (w7.heap.size) #[.int .i64 0, .int .i64 0] 64 := by rw [← hw9]; exact Z9.out.fill2 _ _
        rw [hw9]
        clear hw9
        have Ka10 := Lib.hid (Ka9.out.chg hc9 (by omega) (by omega))
        have Kb10 := Lib.hid (Kb9.out.chg hc9 (by omega) (by omega))
        have P10 := Lib.hid (P9.out.chg hc9 (by omega))
        have D10 := Lib.hid (D9.out.trans ((hc9.below (by omega)).mono (by omega)))
        have sz10 : w9.heap.size ≤ w10.heap.size := hc9.size
        clear Ka9 Kb9 P9 D9 Z9
        refine hK.out _ _ ⟨cellOfBlk P10.out 0, cellOfBlk P10.out 1, cellOfBlk P10.out 2, cellOfBlk P10.out 3, cellOfBlk P10.out 4, cellOfBlk P10.out 5, cellOfBlk P10.out 6, cellOfBlk P10.out 7, cellOfBlk P10.out 8, cellOfBlk P10.out 9⟩ ?_
        clear hK Kc
        refine plan_step rfl (fun Kc hK => ?_)
        rw [if_pos (by rfl)]
        go_simp
        refine hK.out _ _ ⟨cellOfBlk P10.out 0, cellOfBlk P10.out 1, cellOfBlk P10.out 2, cellOfBlk P10.out 3, cellOfBlk P10.out 4, cellOfBlk P10.out 5, cellOfBlk P10.out 6, cellOfBlk P10.out 7, cellOfBlk P10.out 8, cellOfBlk P10.out 9⟩ ?_
        clear hK Kc
        refine plan_end ?_
        refine ⟨rfl, w7.heap.size, ?_, by omega, D10.out⟩
        first | rfl | (simp only [Act.put, List.setIfInBounds_toArray, List.set_cons_zero, List.set_cons_succ])
    · rw [if_pos (by rfl)]
      go_simp
      obtain ⟨w7, hw7, hb7, hz7, hX7⟩ := mxWorld w6 #[.int .i64 0, .int .i64 0] 64
      have Ka7 := Lib.hid (Ka6.out.below (by omega) hb7)
      have Kb7 := Lib.hid (Kb6.out.below (by omega) hb7)
      have P7 := Lib.hid (P6.out.below hb7 (by omega))
      have D7 := Lib.hid (D6.out.trans (hb7.mono (by omega)))
      have sz7 : w6.heap.size ≤ w7.heap.size := hb7.size
      clear Ka6 Kb6 P6 D6
      have Z7 : Hid (Blk w7 (w6.heap.size) #[.int .i64 0, .int .i64 0] 64) := by show Blk _ _ _ _; exact hX7
      have hzl : w6.heap.size < w7.heap.size := by omega
      rw [hw7]
      clear hw7 hz7 hX7 hb7
      refine hK.out _ _ ⟨cellOfBlk P7.out 0, cellOfBlk P7.out 1, cellOfBlk P7.out 2, cellOfBlk P7.out 3, cellOfBlk P7.out 4, cellOfBlk P7.out 5, cellOfBlk P7.out 6, cellOfBlk P7.out 7, cellOfBlk P7.out 8, cellOfBlk P7.out 9⟩ ?_
      clear hK Kc
      refine plan_step rfl (fun Kc hK => ?_)
      rw [if_pos (by rfl)]
      go_simp
      refine (specKeyOf_any lo hi0 _ X.f (b : Int) w7 Ka7.out (by omega) HS.out.f).mono ?_
      rintro e w8 ⟨rfl, hb8⟩
      rw [HKI.out]
      have Ka8 := Lib.hid (Ka7.out.below (by omega) hb8)
      have Kb8 := Lib.hid (Kb7.out.below (by omega) hb8)
      have P8 := Lib.hid (P7.out.below hb8 (by omega))
      have D8 := Lib.hid (D7.out.trans (hb8.mono (by omega)))
      have Z8 := Lib.hid (Z7.out.below hb8 (by omega))
      have sz8 : w7.heap.size ≤ w8.heap.size := hb8.size
      clear Ka7 Kb7 P7 D7 Z7
      refine hK.out _ _ ⟨cellOfBlk P8.out 0, cellOfBlk P8.out 1, cellOfBlk P8.out 2, cellOfBlk P8.out 3, cellOfBlk P8.out 4, cellOfBlk P8.out 5, cellOfBlk P8.out 6, cellOfBlk P8.out 7, cellOfBlk P8.out 8, cellOfBlk P8.out 9⟩ ?_
      clear hK Kc
      refine plan_step rfl (fun Kc hK => ?_)
      rw [if_pos (by rfl)]
      go_simp
      refine (specTake_none lo hi0 lo hi0 _ X.f M q e0 X.ms i9 w8 Ka8.out (by omega) HS.out.f HQ0.out (by rw [← HQ0.out]; exact HS.out.ms) Kb8.out (by omega) HWF.out.ms HMG.out HX9.out).mono ?_
      rintro e w9 ⟨rfl, hb9⟩
      have Ka9 := Lib.hid (Ka8.out.below (by omega) hb9)
      have Kb9 := Lib.hid (Kb8.out.below (by omega) hb9)
      have P9 := Lib.hid (P8.out.below hb9 (by omega))
      have D9 := Lib.hid (D8.out.trans (hb9.mono (by omega)))
      have Z9 := Lib.hid (Z8.out.below hb9 (by omega))
      have sz9 : w8.heap.size ≤ w9.heap.size := hb9.size
      clear Ka8 Kb8 P8 D8 Z8
      refine hK.out _ _ ⟨cellOfBlk P9.out 0, cellOfBlk P9.out 1, cellOfBlk P9.out 2, cellOfBlk P9.out 3, cellOfBlk P9.out 4, cellOfBlk P9.out 5, cellOfBlk P9.out 6, cellOfBlk P9.out 7, cellOfBlk P9.out 8, cellOfBlk P9.out 9⟩ ?_
      clear hK Kc
      iterate 4 (refine plan_quiet rfl (by rfl) (v := ?_) ?_ ?_; rotate_left; (intro w1 hSw; obtain ⟨hs0, hs1, hs2, hs3, hs4, hs5, hs6, hs7, hs8, hs9⟩ := hSw; go_simp; try (with_reducible rfl)); (try simp only [Act.put, List.setIfInBounds_toArray, List.set_cons_zero, List.set_cons_succ]))
      refine plan_step rfl (fun Kc hK => ?_)
      rw [if_pos (by rfl)]
      go_simp
      refine hK.out _ _ ⟨cellOfBlk P9.out 0, cellOfBlk P9.out 1, cellOfBlk P9.out 2, cellOfBlk P9.out 3, cellOfBlk P9.out 4, cellOfBlk P9.out 5, cellOfBlk P9.out 6, cellOfBlk P9.out 7, cellOfBlk P9.out 8, cellOfBlk P9.out 9⟩ ?_
      clear hK Kc
      have z0 := cellOfBlk Z9.out 0
      have z1 := cellOfBlk Z9.out 1
      have fz := Z9.out.warm
      refine plan_step rfl (fun Kc hK => ?_)
      rw [if_pos (by rfl)]
      go_simp
      clear z0 z1 fz
      obtain ⟨w10, hw9⟩ : ∃ x, (w9.setCell ⟨w6.heap.size, 0, none⟩ (.int .i64 0)).setCell ⟨w6.heap.size, 1, none⟩ (.int .i64 0) = x := ⟨_, rfl⟩
      have hc9 : Chg (w6.heap.size) (w6.heap.size + 1) w9 w10 := by rw [← hw9]; exact chg_two _ _ _ _
      have hZ9 : Blk w10 (w6.heap.size) #[.int .i64 0, .int .i64 0] 64 := by rw [← hw9]; exact Z9.out.fill2 _ _
      rw [hw9]
      clear hw9
      have Ka10 := Lib.hid (Ka9.out.chg hc9 (by omega) (by omega))
      have Kb10 := Lib.hid (Kb9.out.chg hc9 (by omega) (by omega))
      have P10 := Lib.hid (P9.out.chg hc9 (by omega))
      have D10 := Lib.hid (D9.out.trans ((hc9.below (by omega)).mono (by omega)))
      have sz10 : w9.heap.size ≤ w10.heap.size := hc9.size
      clear Ka9 Kb9 P9 D9 Z9
      refine hK.out _ _ ⟨cellOfBlk P10.out 0, cellOfBlk P10.out 1, cellOfBlk P10.out 2, cellOfBlk P10.out 3, cellOfBlk P10.out 4, cellOfBlk P10.out 5, cellOfBlk P10.out 6, cellOfBlk P10.out 7, cellOfBlk P10.out 8, cellOfBlk P10.out 9⟩ ?_
      clear hK Kc
      refine plan_step rfl (fun Kc hK => ?_)
      rw [if_pos (by rfl)]
      go_simp
      refine hK.out _ _ ⟨cellOfBlk P10.out 0, cellOfBlk P10.out 1, cellOfBlk P10.out 2, cellOfBlk P10.out 3, cellOfBlk P10.out 4, cellOfBlk P10.out 5, cellOfBlk P10.out 6, cellOfBlk P10.out 7, cellOfBlk P10.out 8, cellOfBlk P10.out 9⟩ ?_
      clear hK Kc
      refine plan_end ?_
      refine ⟨rfl, w6.heap.size, ?_, by omega, D10.out⟩
      first | rfl | (simp only [Act.put, List.setIfInBounds_toArray, List.set_cons_zero, List.set_cons_succ])
  rintro a' w6 ⟨zb, rfl, hx5, hb6⟩
  simp only [Act.put, List.setIfInBounds_toArray, List.set_cons_zero, List.set_cons_succ]
  have T6 := Lib.hid (T5.out.trans (hb6.mono (by omega)))
  have V6 := Lib.hid (V5.out.below (by omega) hb6)
  have Ka6 := Lib.hid (Ka5.out.below (by omega) hb6)
  have Kb6 := Lib.hid (Kb5.out.below (by omega) hb6)
  have P6 := Lib.hid (P5.out.below hb6 (by omega))
  have R6 := Lib.hid (R5.out.below hb6 (by omega))
  have F6 := Lib.hid (F5.out.below hb6)
  have G6 := Lib.hid (G5.out.below (by omega) hb6)
  have L6 := Lib.hid (L5.out.below hb6)
  have W6 := Lib.hid (W5.out.below hb6)
  have Q6 := Lib.hid (Q5.out.below hb6 (by omega))
  have Y6 := Lib.hid (Y5.out.below hb6 (by omega))
  have sz6 : w5.heap.size ≤ w6.heap.size := hb6.size
  clear T5 V5 Ka5 Kb5 P5 R5 F5 G5 L5 W5 Q5 Y5
  have hyes := HYE.out
  have p0 := cellOfBlk P6.out 0
  have p1 := cellOfBlk P6.out 1
  have p2 := cellOfBlk P6.out 2
  have p3 := cellOfBlk P6.out 3
  have p4 := cellOfBlk P6.out 4
  have p5 := cellOfBlk P6.out 5
  have p6 := cellOfBlk P6.out 6
  have p7 := cellOfBlk P6.out 7
  have p8 := cellOfBlk P6.out 8
  have p9 := cellOfBlk P6.out 9
  have r0 := cellOfBlk R6.out 0
  have r1 := cellOfBlk R6.out 1
  have r2 := cellOfBlk R6.out 2
  have r3 := cellOfBlk R6.out 3
  have r4 := cellOfBlk R6.out 4
  have r5 := cellOfBlk R6.out 5
  have r6 := cellOfBlk R6.out 6
  have r7 := cellOfBlk R6.out 7
  have r8 := cellOfBlk R6.out 8
  have r9 := cellOfBlk R6.out 9
  have ff := R6.out.warm
  go_wp2
  have hR := R6.out.fill (.string s) (.slice A n c) (.slice A2 m d) (.slice M q e0) (.int .i64 X.sp) (.int .i64 X.w) (.int .i64 X.t) (.int .i64 X.k) (.slice L l lc) (.slice T r tc)
  have hc9 := chg_ten w6 (w0.heap.size + 1) (.string s) (.slice A n c) (.slice A2 m d) (.slice M q e0) (.int .i64 X.sp) (.int .i64 X.w) (.int .i64 X.t) (.int .i64 X.k) (.slice L l lc) (.slice T r tc)
  obtain ⟨w9, hw9⟩ : ∃ x, ((((((((((w6.setCell ⟨w0.heap.size + 1, 0, none⟩ (.string s)).setCell ⟨w0.heap.size + 1, 1, none⟩ (.slice A n c)).setCell ⟨w0.heap.size + 1, 2, none⟩ (.slice A2 m d)).setCell ⟨w0.heap.size + 1, 3, none⟩ (.slice M q e0)).setCell ⟨w0.heap.size + 1, 4, none⟩ (.int .i64 X.sp)).setCell ⟨w0.heap.size + 1, 5, none⟩ (.int .i64 X.w)).setCell ⟨w0.heap.size + 1, 6, none⟩ (.int .i64 X.t)).setCell ⟨w0.heap.size + 1, 7, none⟩ (.int .i64 X.k)).setCell ⟨w0.heap.size + 1, 8, none⟩ (.slice L l lc)).setCell ⟨w0.heap.size + 1, 9, none⟩ (.slice T r tc)) = x := ⟨_, rfl⟩
  rw [hw9] at hR hc9
  (try rw [hw9])
  clear hw9 r0 r1 r2 r3 r4 r5 r6 r7 r8 r9
  have r0 := cellOfBlk hR 0
  have r1 := cellOfBlk hR 1
  have r2 := cellOfBlk hR 2
  have r3 := cellOfBlk hR 3
  have r4 := cellOfBlk hR 4
  have r5 := cellOfBlk hR 5
  have r6 := cellOfBlk hR 6
  have r7 := cellOfBlk hR 7
  have r8 := cellOfBlk hR 8
  have r9 := cellOfBlk hR 9
  (try simp only [Exit.inBlock, Exit.then])
  clear p0 p1 p2 p3 p4 p5 p6 p7 p8 p9
  refine bodyPost_ret (v := .tuple #[.agg #[.string s, .slice A n c, .slice A2 m d, .slice M q e0, .int .i64 X.sp, .int .i64 X.w, .int .i64 X.t, .int .i64 X.k, .slice L l lc, .slice T r tc], .bool false]) (by simp [results, Tryz.results57, go_sem, r0, r1, r2, r3, r4, r5, r6, r7, r8, r9]) rfl ?_
  rw [hyes]
  exact ⟨_, rfl, fun _ => rfl, fun h9 => (by cases h9), T6.out.trans ((hc9.below (by omega)).mono (by omega))⟩
set_option maxRecDepth 100000 in
set_option maxHeartbeats 6400000 in
theorem specL5K_take (lo hi0 : Nat) (v : Value) (X : Mch) (b : Nat) (w : World) (h : MchV w lo hi0 v X) (hhi : hi0 ≤ w.heap.size) (hm : machB X = true) (wf : WfX X) (hb : ¬ b = 32) (i9 : Nat) (hki : keyI X.f (b : Int) = i9) (hi9 : i9 = (keyTo X.f.s b X.f.s.size).toNat) (hn9 : ¬ keyTo X.f.s b X.f.s.size < 0) (x : Mat) (xs : List Mat) (hx9 : X.ms[i9]? = some (x :: xs)) (hkr : keyRow X b = x :: xs) :
    Calls Tryz.prog 57 #[v, .int .i64 b] w fun e w' => ∃ v', e = .returned (.tuple #[v', .bool (keyYes X b)]) ∧ (keyYes X b = false → v' = v) ∧ (keyYes X b = true → MchV w' w.heap.size w'.heap.size v' (keyX X b)) ∧ Below w.heap.size w w' := by
  have HS := Lib.hid (mach_smallX hm)
  have HM := Lib.hid hm
  have hbe : ((b : Int) == 32) = false := by simp; omega
  have HMG := Lib.hid (machB_parts hm).1
  obtain ⟨k1, k2⟩ := x
  have hgd : X.ms.getD (keyTo X.f.s b X.f.s.size).toNat [] = (k1, k2) :: xs := by rw [← hi9, List.getD, hx9]; rfl
  have HYA := Lib.hid (keyYes_cons (X := X) (b := b) (by omega) hkr)
  have HXE : Hid (keyYes X b = true → keyX X b = ⟨X.f, X.ms.set i9 xs, X.sp, X.w, X.t, X.k, X.ln ++ [(k1, k2)], X.wt⟩) := fun h9 => by rw [hi9]; exact keyX_cons (by omega) hgd hn9 (by rw [← keyYes_cons (by omega) hkr]; exact h9)
  have HMB : Hid (machB ⟨X.f, X.ms.set i9 xs, X.sp, X.w, X.t, X.k, X.ln ++ [(k1, k2)], X.wt⟩ = keyYes X b) := by show _ = _; rw [hi9, keyYes_cons (by omega) hkr]; exact mach_add hm hgd
  have hbg := mach_big hm
  have HSX : Hid (SmallX ⟨X.f, X.ms.set i9 xs, X.sp, X.w, X.t, X.k, X.ln ++ [(k1, k2)], X.wt⟩) := small_add hm (by rw [List.length_set]) (by have := tot_set hx9; omega) (fun ys hy => by rcases List.mem_or_eq_of_mem_set hy with h9 | rfl; (exact hbg.2.2.1 ys h9); (have := hbg.2.2.1 _ (List.mem_of_getElem? hx9); simp only [List.length_cons] at this; omega))
  have HKI := Lib.hid hki; have HX9 := Lib.hid hx9
  clear hbg hgd
  have hparts := h.parts
  obtain ⟨s, A, n, c, A2, m, d, M, q, e0, L, l, lc, T, r, tc, hv, hF0, hq0, hM0, -⟩ := hparts
  rw [hv] at h ⊢
  clear hv
  obtain ⟨w0, hw0⟩ : ∃ x, w = x := ⟨_, rfl⟩
  have hww : w.heap.size = w0.heap.size := by rw [hw0]
  have HWF := Lib.hid wf
  have T0 : Hid (Below w0.heap.size w0 w0) := Below.refl _ _
  have V0 : Hid (MchV w0 lo hi0 (.agg #[.string s, .slice A n c, .slice A2 m d, .slice M q e0, .int .i64 X.sp, .int .i64 X.w, .int .i64 X.t, .int .i64 X.k, .slice L l lc, .slice T r tc]) X) := by rw [← hw0]; exact h
  have Ka0 : Hid (FontV w0 lo hi0 (.agg #[.string s, .slice A n c, .slice A2 m d]) X.f) := by rw [← hw0]; exact hF0
  have Kb0 : Hid (MagI w0 lo hi0 M X.ms) := by rw [← hw0]; exact hM0
  have HQ0 := Lib.hid hq0
  clear h wf hF0 hM0 hq0
  obtain ⟨w1, hw1, hb1, hz1, hX1⟩ := mxWorld w0 #[.string s, .slice A n c, .slice A2 m d, .slice M q e0, .int .i64 X.sp, .int .i64 X.w, .int .i64 X.t, .int .i64 X.k, .slice L l lc, .slice T r tc] 37
  have T1 := Lib.hid (T0.out.trans (hb1.mono (by omega)))
  have V1 := Lib.hid (V0.out.below (by omega) hb1)
  have Ka1 := Lib.hid (Ka0.out.below (by omega) hb1)
  have Kb1 := Lib.hid (Kb0.out.below (by omega) hb1)
  have sz1 : w0.heap.size ≤ w1.heap.size := hb1.size
  clear T0 V0 Ka0 Kb0
  have P1 : Hid (Blk w1 (w0.heap.size) #[.string s, .slice A n c, .slice A2 m d, .slice M q e0, .int .i64 X.sp, .int .i64 X.w, .int .i64 X.t, .int .i64 X.k, .slice L l lc, .slice T r tc] 37) := by show Blk _ _ _ _; exact hX1
  obtain ⟨w2, hw2, hb2, hz2, hX2⟩ := mxWorld w1 #[.string ⟨#[]⟩, .slice none 0 0, .slice none 0 0, .slice none 0 0, .int .i64 0, .int .i64 0, .int .i64 0, .int .i64 0, .slice none 0 0, .slice none 0 0] 37
  have T2 := Lib.hid (T1.out.trans (hb2.mono (by omega)))
  have V2 := Lib.hid (V1.out.below (by omega) hb2)
  have Ka2 := Lib.hid (Ka1.out.below (by omega) hb2)
  have Kb2 := Lib.hid (Kb1.out.below (by omega) hb2)
  have P2 := Lib.hid (P1.out.below hb2 (by omega))
  have sz2 : w1.heap.size ≤ w2.heap.size := hb2.size
  clear T1 V1 Ka1 Kb1 P1
  have R2 : Hid (Blk w2 (w0.heap.size + 1) #[.string ⟨#[]⟩, .slice none 0 0, .slice none 0 0, .slice none 0 0, .int .i64 0, .int .i64 0, .int .i64 0, .int .i64 0, .slice none 0 0, .slice none 0 0] 37) := by show Blk _ _ _ _; rw [← hz1]; exact hX2
  rw [hz1] at hz2
  have p0 := cellOfBlk P2.out 0
  have p1 := cellOfBlk P2.out 1
  have p2 := cellOfBlk P2.out 2
  have p3 := cellOfBlk P2.out 3
  have p4 := cellOfBlk P2.out 4
  have p5 := cellOfBlk P2.out 5
  have p6 := cellOfBlk P2.out 6
  have p7 := cellOfBlk P2.out 7
  have p8 := cellOfBlk P2.out 8
  have p9 := cellOfBlk P2.out 9
  rw [hw0]
  go_enter Tryz.func57, Tryz.ntmps57
  go_wp2_with fail
  clear p0 p1 p2 p3 p4 p5 p6 p7 p8 p9
  refine (l5Copy_any lo hi0 _ X w2 V2.out (by omega) HS.out).mono ?_
  rintro e u1 ⟨vC, rfl, hC, hbC⟩
  obtain ⟨O, hOz⟩ : ∃ x, u1.heap.size = x := ⟨_, rfl⟩
  have hbO := hbC.size
  rw [hOz] at hC hbO
  obtain ⟨Az, cz, A2z, dz, Mz, ez, Lz, lcz, Tz, tcz, hs7, f0, f1, g0, g1, l0, l1, t0, t1, hO⟩ := hC
  have hv7 := hO.v
  unfold mwords at hv7
  subst hv7
  have HO := Lib.hid hO
  clear hO
  obtain ⟨u2, hu2, hbu2, hzu2, hU⟩ := mxWorld u1 #[.string ⟨#[]⟩, .slice none 0 0, .slice none 0 0, .slice none 0 0, .int .i64 0, .int .i64 0, .int .i64 0, .int .i64 0, .slice none 0 0, .slice none 0 0] 37
  rw [hOz] at hU hzu2 hbu2
  have o0 := cellOfBlk hU 0
  have o1 := cellOfBlk hU 1
  have o2 := cellOfBlk hU 2
  have o3 := cellOfBlk hU 3
  have o4 := cellOfBlk hU 4
  have o5 := cellOfBlk hU 5
  have o6 := cellOfBlk hU 6
  have o7 := cellOfBlk hU 7
  have o8 := cellOfBlk hU 8
  have o9 := cellOfBlk hU 9
  have fo := hU.warm
  have HU2 := Lib.hid hU
  have HBU := Lib.hid hbu2
  have HBC := Lib.hid hbC
  clear hU hbC hbu2
  go_upto_region 2 with fail
  have hR := HU2.out.fill (.string X.f.s) (.slice Az X.f.ws.length cz) (.slice A2z X.f.cs.length dz) (.slice Mz X.ms.length ez) (.int .i64 X.sp) (.int .i64 X.w) (.int .i64 X.t) (.int .i64 X.k) (.slice Lz X.ln.length lcz) (.slice Tz X.wt.length tcz)
  have hc9 := chg_ten u2 O (.string X.f.s) (.slice Az X.f.ws.length cz) (.slice A2z X.f.cs.length dz) (.slice Mz X.ms.length ez) (.int .i64 X.sp) (.int .i64 X.w) (.int .i64 X.t) (.int .i64 X.k) (.slice Lz X.ln.length lcz) (.slice Tz X.wt.length tcz)
  obtain ⟨u3, hu3⟩ : ∃ x, ((((((((((u2.setCell ⟨O, 0, none⟩ (.string X.f.s)).setCell ⟨O, 1, none⟩ (.slice Az X.f.ws.length cz)).setCell ⟨O, 2, none⟩ (.slice A2z X.f.cs.length dz)).setCell ⟨O, 3, none⟩ (.slice Mz X.ms.length ez)).setCell ⟨O, 4, none⟩ (.int .i64 X.sp)).setCell ⟨O, 5, none⟩ (.int .i64 X.w)).setCell ⟨O, 6, none⟩ (.int .i64 X.t)).setCell ⟨O, 7, none⟩ (.int .i64 X.k)).setCell ⟨O, 8, none⟩ (.slice Lz X.ln.length lcz)).setCell ⟨O, 9, none⟩ (.slice Tz X.wt.length tcz)) = x := ⟨_, rfl⟩
  rw [hu3] at hR hc9 ⊢
  have hzu3 := hc9.size
  have hbl : Below u1.heap.size u1 u3 := by rw [hOz]; exact HBU.out.trans (hc9.below (by omega))
  have BC3 : Below w2.heap.size w2 u3 := HBC.out.trans (hbl.mono (by omega))
  clear hu3 hc9 fo o0 o1 o2 o3 o4 o5 o6 o7 o8 o9 hu2
  have hfi := HO.out.fi; have hgi := HO.out.gi; have hli := HO.out.li; have hti := HO.out.ti
  have hfl := HO.out.fl; have hgl := HO.out.gl; have hlt := HO.out.lt
  unfold Off at hfl hgl hlt
  have HLT := Lib.hid HO.out.lineT; have HTT := Lib.hid HO.out.waitT
  obtain ⟨w3, hwk⟩ : ∃ x, u3 = x := ⟨_, rfl⟩
  rw [hwk] at BC3 hbl hR ⊢ hzu3
  clear hwk
  have hb3 := BC3
  have T3 := Lib.hid (T2.out.trans (hb3.mono (by omega)))
  have V3 := Lib.hid (V2.out.below (by omega) hb3)
  have Ka3 := Lib.hid (Ka2.out.below (by omega) hb3)
  have Kb3 := Lib.hid (Kb2.out.below (by omega) hb3)
  have P3 := Lib.hid (P2.out.below hb3 (by omega))
  have R3 := Lib.hid (R2.out.below hb3 (by omega))
  have sz3 : w2.heap.size ≤ w3.heap.size := hb3.size
  clear T2 V2 Ka2 Kb2 P2 R2
  have F3 : Hid (FontO w3 f0 f1 (.agg #[.string X.f.s, .slice Az X.f.ws.length cz, .slice A2z X.f.cs.length dz]) X.f) := HO.out.font.below hbl
  have G3 : Hid (MagI w3 g0 g1 Mz X.ms) := HO.out.mag.reads.below (by omega) hbl
  have L3 : Hid (OwnM w3 l0 (.slice Lz X.ln.length lcz) X.ln) := HO.out.line.below hbl
  have W3 : Hid (OwnM w3 t0 (.slice Tz X.wt.length tcz) X.wt) := HO.out.wait.below hbl
  have Q3 : Hid (Blk w3 O #[.string X.f.s, .slice Az X.f.ws.length cz, .slice A2z X.f.cs.length dz, .slice Mz X.ms.length ez, .int .i64 X.sp, .int .i64 X.w, .int .i64 X.t, .int .i64 X.k, .slice Lz X.ln.length lcz, .slice Tz X.wt.length tcz] 37) := hR
  have hsO : w0.heap.size + 1 < O := by omega
  clear hR hbl BC3 HU2 HBU HBC
  obtain ⟨w4, hw4, hb4, hz4, hX4⟩ := mxWorld w3 #[.int .i64 (-1), .int .i64 0] 64
  have T4 := Lib.hid (T3.out.trans (hb4.mono (by omega)))
  have V4 := Lib.hid (V3.out.below (by omega) hb4)
  have Ka4 := Lib.hid (Ka3.out.below (by omega) hb4)
  have Kb4 := Lib.hid (Kb3.out.below (by omega) hb4)
  have P4 := Lib.hid (P3.out.below hb4 (by omega))
  have R4 := Lib.hid (R3.out.below hb4 (by omega))
  have F4 := Lib.hid (F3.out.below hb4)
  have G4 := Lib.hid (G3.out.below (by omega) hb4)
  have L4 := Lib.hid (L3.out.below hb4)
  have W4 := Lib.hid (W3.out.below hb4)
  have Q4 := Lib.hid (Q3.out.below hb4 (by omega))
  have sz4 : w3.heap.size ≤ w4.heap.size := hb4.size
  clear T3 V3 Ka3 Kb3 P3 R3 F3 G3 L3 W3 Q3
  have Y4 : Hid (Blk w4 (w3.heap.size) #[.int .i64 (-1), .int .i64 0] 64) := by show Blk _ _ _ _; exact hX4
  have x0 := cellOfBlk Y4.out 0
  have x1 := cellOfBlk Y4.out 1
  have fx := Y4.out.warm
  go_upto_region 3 with fail
  clear x0 x1 fx
  obtain ⟨yb, hyb⟩ : ∃ x, w3.heap.size = x := ⟨_, rfl⟩
  have hOy : O < yb := by omega
  rw [hyb] at Y4 ⊢
  obtain ⟨w5, hw9⟩ : ∃ x, w4.setCell ⟨yb, 1, none⟩ (.int .i64 0) = x := ⟨_, rfl⟩
  have hc9 : Chg yb (yb + 1) w4 w5 := by rw [← hw9]; exact chg_one _ _ _ _
  have hY9 : Blk w5 yb #[.int .i64 (-1), .int .i64 0] 64 := by rw [← hw9]; exact heapSet (i := 1) Y4.out _
  rw [hw9]
  have T5 := Lib.hid (T4.out.trans ((hc9.below (by omega)).mono (by omega)))
  have V5 := Lib.hid (V4.out.chg hc9 (by omega) (by omega))
  have Ka5 := Lib.hid (Ka4.out.chg hc9 (by omega) (by omega))
  have Kb5 := Lib.hid (Kb4.out.chg hc9 (by omega) (by omega))
  have P5 := Lib.hid (P4.out.chg hc9 (by omega))
  have R5 := Lib.hid (R4.out.chg hc9 (by omega))
  have F5 := Lib.hid (F4.out.chg hc9 (by unfold Off; omega))
  have G5 := Lib.hid (G4.out.chg hc9 (by omega) (by omega))
  have L5 := Lib.hid (L4.out.chg hc9 (fun k hk => by have h7 := HLT.out k hk; have h8 := (L4.out.lt k hk).1; omega))
  have W5 := Lib.hid (W4.out.chg hc9 (fun k hk => by have h7 := HTT.out k hk; have h8 := (W4.out.lt k hk).1; omega))
  have Q5 := Lib.hid (Q4.out.chg hc9 (by omega))
  have sz5 : w4.heap.size ≤ w5.heap.size := hc9.size
  clear T4 V4 Ka4 Kb4 P4 R4 F4 G4 L4 W4 Q4 Y4
  have Y5 := Lib.hid hY9
  clear hc9 hY9 hw9
  clear hki hi9 hn9 hx9 hkr
  go_upto_region 5 with fail
  refine region_post (fun a a' w' => ∃ (A9 : Option Addr) (c9 zb x9 z9 : Nat), a' = ((((((((((((((((a.put (some 21) (.pointer (some ⟨w0.heap.size, 0, none⟩))).put (some 22) (.agg #[.string s, .slice A n c, .slice A2 m d])).put (some 23) (.pointer (some ⟨w0.heap.size, 3, none⟩))).put (some 24) (.slice M q e0)).put (some 25) (.pointer (some ⟨w0.heap.size, 0, none⟩))).put (some 26) (.agg #[.string s, .slice A n c, .slice A2 m d])).put (some 27) (.int .i64 b)).put (some 28) (.int .i64 (i9 : Nat))).put (some 29) (.tuple #[.slice A9 q c9, .agg #[.int .i64 k1, .int .i64 k2], .bool true])).put (some 20) (.tuple #[.slice A9 q c9, .agg #[.int .i64 k1, .int .i64 k2], .bool true])).put (some 30) (.slice A9 q c9)).put (some 31) (.agg #[.int .i64 k1, .int .i64 k2])).put (some 32) (.bool true)).put (some 9) (.pointer (some ⟨zb, 0, none⟩))).put (some 8) (.slice A9 q c9)).put (some 10) (.bool true)) ∧ Blk w' zb #[.int .i64 k1, .int .i64 k2] 64 ∧ MagI w' x9 z9 A9 (X.ms.set i9 xs) ∧ w5.heap.size ≤ x9 ∧ z9 ≤ w'.heap.size ∧ q ≤ c9 ∧ c9 ≤ maxLen ∧ w5.heap.size ≤ zb ∧ Below w5.heap.size w5 w') ?_ ?_
  · have D5 : Hid (Below w5.heap.size w5 w5) := Below.refl _ _
    refine wp_region_plan (.take 0 (.take 1 (.take 2 (.take 3 (.take 4 (.take 5 (.take 6 (.two 7 13 (.two 8 13 (.take 9 (.take 10 (.take 11 (.take 12 (.one 13 (.one 14 (.one 15 (.one 16 .done)))))))) (.one 8 (.take 9 (.take 10 (.take 11 (.take 12 (.one 14 (.one 15 (.one 16 .done))))))))) (.one 7 (.one 8 (.take 9 (.take 10 (.take 11 (.take 12 (.one 14 (.one 15 (.one 16 .done))))))))))))))))) (fun w' => w'.cell? ⟨w0.heap.size, 0, none⟩ = some (.string s) ∧ w'.cell? ⟨w0.heap.size, 1, none⟩ = some (.slice A n c) ∧ w'.cell? ⟨w0.heap.size, 2, none⟩ = some (.slice A2 m d) ∧ w'.cell? ⟨w0.heap.size, 3, none⟩ = some (.slice M q e0) ∧ w'.cell? ⟨w0.heap.size, 4, none⟩ = some (.int .i64 X.sp) ∧ w'.cell? ⟨w0.heap.size, 5, none⟩ = some (.int .i64 X.w) ∧ w'.cell? ⟨w0.heap.size, 6, none⟩ = some (.int .i64 X.t) ∧ w'.cell? ⟨w0.heap.size, 7, none⟩ = some (.int .i64 X.k) ∧ w'.cell? ⟨w0.heap.size, 8, none⟩ = some (.slice L l lc) ∧ w'.cell? ⟨w0.heap.size, 9, none⟩ = some (.slice T r tc)) (by kernel_rfl) (by kernel_rfl) (by kernel_rfl) (by intro c a d v w h; exact absurd h.1 (by simp)) ⟨cellOfBlk P5.out 0, cellOfBlk P5.out 1, cellOfBlk P5.out 2, cellOfBlk P5.out 3, cellOfBlk P5.out 4, cellOfBlk P5.out 5, cellOfBlk P5.out 6, cellOfBlk P5.out 7, cellOfBlk P5.out 8, cellOfBlk P5.out 9⟩ ?_
    obtain ⟨w6, hwd⟩ : ∃ x, w5.drew = x := ⟨_, rfl⟩
    have hb6 : Below w5.heap.size w5 w6 := by rw [← hwd]; exact (Below.refl _ _).drew
    have hsz6 : w6.heap.size = w5.heap.size := by rw [← hwd]; rfl
    have Ka6 := Lib.hid (Ka5.out.below (by omega) hb6)
    have Kb6 := Lib.hid (Kb5.out.below (by omega) hb6)
    have P6 := Lib.hid (P5.out.below hb6 (by omega))
    have D6 := Lib.hid (D5.out.trans (hb6.mono (by omega)))
    have sz6 : w5.heap.size ≤ w6.heap.size := hb6.size
    clear Ka5 Kb5 P5 D5
    rw [hwd]
    clear hwd
    clear hsz6
    iterate 7 (refine plan_quiet rfl (by rfl) (v := ?_) ?_ ?_; rotate_left; (intro w1 hSw; obtain ⟨hs0, hs1, hs2, hs3, hs4, hs5, hs6, hs7, hs8, hs9⟩ := hSw; go_simp; try (with_reducible rfl)); (try simp only [Act.put, List.setIfInBounds_toArray, List.set_cons_zero, List.set_cons_succ]))
    refine plan_fork rfl rfl (fun Kc hK => ?_) (fun Kc hK => ?_)
    · rw [if_pos (by rfl)]
      go_simp
      refine (specKeyOf_any lo hi0 _ X.f (b : Int) w6 Ka6.out (by omega) HS.out.f).mono ?_
      rintro e w7 ⟨rfl, hb7⟩
      rw [HKI.out]
      have Ka7 := Lib.hid (Ka6.out.below (by omega) hb7)
      have Kb7 := Lib.hid (Kb6.out.below (by omega) hb7)
      have P7 := Lib.hid (P6.out.below hb7 (by omega))
      have D7 := Lib.hid (D6.out.trans (hb7.mono (by omega)))
      have sz7 : w6.heap.size ≤ w7.heap.size := hb7.size
      clear Ka6 Kb6 P6 D6
      refine hK.out _ _ ⟨cellOfBlk P7.out 0, cellOfBlk P7.out 1, cellOfBlk P7.out 2, cellOfBlk P7.out 3, cellOfBlk P7.out 4, cellOfBlk P7.out 5, cellOfBlk P7.out 6, cellOfBlk P7.out 7, cellOfBlk P7.out 8, cellOfBlk P7.out 9⟩ ?_
      clear hK Kc
      refine plan_fork rfl rfl (fun Kc hK => ?_) (fun Kc hK => ?_)
      · rw [if_pos (by rfl)]
        go_simp
        refine (specTake_yes lo hi0 lo hi0 _ X.f M q e0 X.ms i9 w7 Ka7.out (by omega) HS.out.f HQ0.out (by rw [← HQ0.out]; exact HS.out.ms) Kb7.out (by omega) HWF.out.ms HMG.out (k1, k2) xs HX9.out).mono ?_
        rintro e w8 ⟨A9, c9, rfl, hM9, hc91, hc92, hb8⟩
        rw [show cvM (k1, k2) = .agg #[.int .i64 k1, .int .i64 k2] from rfl]
        have Ka8 := Lib.hid (Ka7.out.below (by omega) hb8)
        have Kb8 := Lib.hid (Kb7.out.below (by omega) hb8)
        have P8 := Lib.hid (P7.out.below hb8 (by omega))
        have D8 := Lib.hid (D7.out.trans (hb8.mono (by omega)))
        have sz8 : w7.heap.size ≤ w8.heap.size := hb8.size
        clear Ka7 Kb7 P7 D7
        have M8 : Hid (MagI w8 w7.heap.size w8.heap.size A9 (X.ms.set i9 xs)) := hM9
        have HC9 := Lib.hid (And.intro hc91 hc92)
        clear hM9 hc91 hc92
        refine hK.out _ _ ⟨cellOfBlk P8.out 0, cellOfBlk P8.out 1, cellOfBlk P8.out 2, cellOfBlk P8.out 3, cellOfBlk P8.out 4, cellOfBlk P8.out 5, cellOfBlk P8.out 6, cellOfBlk P8.out 7, cellOfBlk P8.out 8, cellOfBlk P8.out 9⟩ ?_
        clear hK Kc
        iterate 4 (refine plan_quiet rfl (by rfl) (v := ?_) ?_ ?_; rotate_left; (intro w1 hSw; obtain ⟨hs0, hs1, hs2, hs3, hs4, hs5, hs6, hs7, hs8, hs9⟩ := hSw; go_simp; try (with_reducible rfl)); (try simp only [Act.put, List.setIfInBounds_toArray, List.set_cons_zero, List.set_cons_succ]))
        refine plan_step rfl (fun Kc hK => ?_)
        rw [if_pos (by rfl)]
        go_simp
        obtain ⟨w9, hw9, hb9, hz9, hX9⟩ := mxWorld w8 #[.int .i64 0, .int .i64 0] 64
        have Ka9 := Lib.hid (Ka8.out.below (by omega) hb9)
        have Kb9 := Lib.hid (Kb8.out.below (by omega) hb9)
        have P9 := Lib.hid (P8.out.below hb9 (by omega))
        have D9 := Lib.hid (D8.out.trans (hb9.mono (by omega)))
        have M9 := Lib.hid (M8.out.below (by omega) hb9)
        have sz9 : w8.heap.size ≤ w9.heap.size := hb9.size
        clear Ka8 Kb8 P8 D8 M8
        have Z9 : Hid (Blk w9 (w8.heap.size) #[.int .i64 0, .int .i64 0] 64) := by show Blk _ _ _ _; exact hX9
        have hzl : w8.heap.size < w9.heap.size := by omega
        rw [hw9]
        clear hw9 hz9 hX9 hb9
        refine hK.out _ _ ⟨cellOfBlk P9.out 0, cellOfBlk P9.out 1, cellOfBlk P9.out 2, cellOfBlk P9.out 3, cellOfBlk P9.out 4, cellOfBlk P9.out 5, cellOfBlk P9.out 6, cellOfBlk P9.out 7, cellOfBlk P9.out 8, cellOfBlk P9.out 9⟩ ?_
        clear hK Kc
        refine plan_step rfl (fun Kc hK => ?_)
        rw [if_pos (by rfl)]
        go_simp
        refine hK.out _ _ ⟨cellOfBlk P9.out 0, cellOfBlk P9.out 1, cellOfBlk P9.out 2, cellOfBlk P9.out 3, cellOfBlk P9.out 4, cellOfBlk P9.out 5, cellOfBlk P9.out 6, cellOfBlk P9.out 7, cellOfBlk P9.out 8, cellOfBlk P9.out 9⟩ ?_
        clear hK Kc
        have z0 := cellOfBlk Z9.out 0
        have z1 := cellOfBlk Z9.out 1
        have fz := Z9.out.warm
        refine plan_step rfl (fun Kc hK => ?_)
        rw [if_pos (by rfl)]
        go_simp
        clear z0 z1 fz
        obtain ⟨w10, hw9⟩ : ∃ x, (w9.setCell ⟨w8.heap.size, 0, none⟩ (.int .i64 k1)).setCell ⟨w8.heap.size, 1, none⟩ (.int .i64 k2) = x := ⟨_, rfl⟩
        have hc9 : Chg (w8.heap.size) (w8.heap.size + 1) w9 w10 := by rw [← hw9]; exact chg_two _ _ _ _
        have hZ9 : Blk w10 (w8.heap.size) #[.int .i64 k1, .int .i64 k2] 64 := by rw [← hw9]; exact Z9.out.fill2 _ _
        rw [hw9]
        clear hw9
        have Ka10 := Lib.hid (Ka9.out.chg hc9 (by omega) (by omega))
        have Kb10 := Lib.hid (Kb9.out.chg hc9 (by omega) (by omega))
        have P10 := Lib.hid (P9.out.chg hc9 (by omega))
        have D10 := Lib.hid (D9.out.trans ((hc9.below (by omega)).mono (by omega)))
        have M10 := Lib.hid (M9.out.chg hc9 (by omega) (by omega))
        have sz10 : w9.heap.size ≤ w10.heap.size := hc9.size
        clear Ka9 Kb9 P9 D9 M9 Z9
        refine hK.out _ _ ⟨cellOfBlk P10.out 0, cellOfBlk P10.out 1, cellOfBlk P10.out 2, cellOfBlk P10.out 3, cellOfBlk P10.out 4, cellOfBlk P10.out 5, cellOfBlk P10.out 6, cellOfBlk P10.out 7, cellOfBlk P10.out 8, cellOfBlk P10.out 9⟩ ?_
        clear hK Kc
        refine plan_step rfl (fun Kc hK => ?_)
        rw [if_pos (by rfl)]
        go_simp
        refine hK.out _ _ ⟨cellOfBlk P10.out 0, cellOfBlk P10.out 1, cellOfBlk P10.out 2, cellOfBlk P10.out 3, cellOfBlk P10.out 4, cellOfBlk P10.out 5, cellOfBlk P10.out 6, cellOfBlk P10.out 7, cellOfBlk P10.out 8, cellOfBlk P10.out 9⟩ ?_
        clear hK Kc
        refine plan_end ?_
        refine ⟨rfl, A9, c9, w8.heap.size, w7.heap.size, w8.heap.size, ?_, hZ9, M10.out, by omega, by omega, HC9.out.1, HC9.out.2, by omega, D10.out⟩
        first | rfl | (simp only [Act.put, List.setIfInBounds_toArray, List.set_cons_zero, List.set_cons_succ])
      · rw [if_pos (by rfl)]
        go_simp
        obtain ⟨w8, hw8, hb8, hz8, hX8⟩ := mxWorld w7 #[.int .i64 0, .int .i64 0] 64
        have Ka8 := Lib.hid (Ka7.out.below (by omega) hb8)
        have Kb8 := Lib.hid (Kb7.out.below (by omega) hb8)
        have P8 := Lib.hid (P7.out.below hb8 (by omega))
        have D8 := Lib.hid (D7.out.trans (hb8.mono (by omega)))
        have sz8 : w7.heap.size ≤ w8.heap.size := hb8.size
        clear Ka7 Kb7 P7 D7
        have Z8 : Hid (Blk w8 (w7.heap.size) #[.int .i64 0, .int .i64 0] 64) := by show Blk _ _ _ _; exact hX8
        have hzl : w7.heap.size < w8.heap.size := by omega
        rw [hw8]
        clear hw8 hz8 hX8 hb8
        refine hK.out _ _ ⟨cellOfBlk P8.out 0, cellOfBlk P8.out 1, cellOfBlk P8.out 2, cellOfBlk P8.out 3, cellOfBlk P8.out 4, cellOfBlk P8.out 5, cellOfBlk P8.out 6, cellOfBlk P8.out 7, cellOfBlk P8.out 8, cellOfBlk P8.out 9⟩ ?_
        clear hK Kc
        refine plan_step rfl (fun Kc hK => ?_)
        rw [if_pos (by rfl)]
        go_simp
        refine (specTake_yes lo hi0 lo hi0 _ X.f M q e0 X.ms i9 w8 Ka8.out (by omega) HS.out.f HQ0.out (by rw [← HQ0.out]; exact HS.out.ms) Kb8.out (by omega) HWF.out.ms HMG.out (k1, k2) xs HX9.out).mono ?_
        rintro e w9 ⟨A9, c9, rfl, hM9, hc91, hc92, hb9⟩
        rw [show cvM (k1, k2) = .agg #[.int .i64 k1, .int .i64 k2] from rfl]
        have Ka9 := Lib.hid (Ka8.out.below (by omega) hb9)
        have Kb9 := Lib.hid (Kb8.out.below (by omega) hb9)
        have P9 := Lib.hid (P8.out.below hb9 (by omega))
        have D9 := Lib.hid (D8.out.trans (hb9.mono (by omega)))
        have Z9 := Lib.hid (Z8.out.below hb9 (by omega))
        have sz9 : w8.heap.size ≤ w9.heap.size := hb9.size
        clear Ka8 Kb8 P8 D8 Z8
        have M9 : Hid (MagI w9 w8.heap.size w9.heap.size A9 (X.ms.set i9 xs)) := hM9
        have HC9 := Lib.hid (And.intro hc91 hc92)
        clear hM9 hc91 hc92
        refine hK.out _ _ ⟨cellOfBlk P9.out 0, cellOfBlk P9.out 1, cellOfBlk P9.out 2, cellOfBlk P9.out 3, cellOfBlk P9.out 4, cellOfBlk P9.out 5, cellOfBlk P9.out 6, cellOfBlk P9.out 7, cellOfBlk P9.out 8, cellOfBlk P9.out 9⟩ ?_
        clear hK Kc
        iterate 4 (refine plan_quiet rfl (by rfl) (v := ?_) ?_ ?_; rotate_left; (intro w1 hSw; obtain ⟨hs0, hs1, hs2, hs3, hs4, hs5, hs6, hs7, hs8, hs9⟩ := hSw; go_simp; try (with_reducible rfl)); (try simp only [Act.put, List.setIfInBounds_toArray, List.set_cons_zero, List.set_cons_succ]))
        refine plan_step rfl (fun Kc hK => ?_)
        rw [if_pos (by rfl)]
        go_simp
        refine hK.out _ _ ⟨cellOfBlk P9.out 0, cellOfBlk P9.out 1, cellOfBlk P9.out 2, cellOfBlk P9.out 3, cellOfBlk P9.out 4, cellOfBlk P9.out 5, cellOfBlk P9.out 6, cellOfBlk P9.out 7, cellOfBlk P9.out 8, cellOfBlk P9.out 9⟩ ?_
        clear hK Kc
        have z0 := cellOfBlk Z9.out 0
        have z1 := cellOfBlk Z9.out 1
        have fz := Z9.out.warm
        refine plan_step rfl (fun Kc hK => ?_)
        rw [if_pos (by rfl)]
        go_simp
        clear z0 z1 fz
        obtain ⟨w10, hw9⟩ : ∃ x, (w9.setCell ⟨w7.heap.size, 0, none⟩ (.int .i64 k1)).setCell ⟨w7.heap.size, 1, none⟩ (.int .i64 k2) = x := ⟨_, rfl⟩
        have hc9 : Chg (w7.heap.size) (w7.heap.size + 1) w9 w10 := by rw [← hw9]; exact chg_two _ _ _ _
        have hZ9 : Blk w10 (w7.heap.size) #[.int .i64 k1, .int .i64 k2] 64 := by rw [← hw9]; exact Z9.out.fill2 _ _
        rw [hw9]
        clear hw9
        have Ka10 := Lib.hid (Ka9.out.chg hc9 (by omega) (by omega))
        have Kb10 := Lib.hid (Kb9.out.chg hc9 (by omega) (by omega))
        have P10 := Lib.hid (P9.out.chg hc9 (by omega))
        have D10 := Lib.hid (D9.out.trans ((hc9.below (by omega)).mono (by omega)))
        have M10 := Lib.hid (M9.out.chg hc9 (by omega) (by omega))
        have sz10 : w9.heap.size ≤ w10.heap.size := hc9.size
        clear Ka9 Kb9 P9 D9 Z9 M9
        refine hK.out _ _ ⟨cellOfBlk P10.out 0, cellOfBlk P10.out 1, cellOfBlk P10.out 2, cellOfBlk P10.out 3, cellOfBlk P10.out 4, cellOfBlk P10.out 5, cellOfBlk P10.out 6, cellOfBlk P10.out 7, cellOfBlk P10.out 8, cellOfBlk P10.out 9⟩ ?_
        clear hK Kc
        refine plan_step rfl (fun Kc hK => ?_)
        rw [if_pos (by rfl)]
        go_simp
        refine hK.out _ _ ⟨cellOfBlk P10.out 0, cellOfBlk P10.out 1, cellOfBlk P10.out 2, cellOfBlk P10.out 3, cellOfBlk P10.out 4, cellOfBlk P10.out 5, cellOfBlk P10.out 6, cellOfBlk P10.out 7, cellOfBlk P10.out 8, cellOfBlk P10.out 9⟩ ?_
        clear hK Kc
        refine plan_end ?_
        refine ⟨rfl, A9, c9, w7.heap.size, w8.heap.size, w9.heap.size, ?_, hZ9, M10.out, by omega, by omega, HC9.out.1, HC9.out.2, by omega, D10.out⟩
        first | rfl | (simp only [Act.put, List.setIfInBounds_toArray, List.set_cons_zero, List.set_cons_succ])
    · rw [if_pos (by rfl)]
      go_simp
      obtain ⟨w7, hw7, hb7, hz7, hX7⟩ := mxWorld w6 #[.int .i64 0, .int .i64 0] 64
      have Ka7 := Lib.hid (Ka6.out.below (by omega) hb7)
      have Kb7 := Lib.hid (Kb6.out.below (by omega) hb7)
      have P7 := Lib.hid (P6.out.below hb7 (by omega))
      have D7 := Lib.hid (D6.out.trans (hb7.mono (by omega)))
      have sz7 : w6.heap.size ≤ w7.heap.size := hb7.size
      clear Ka6 Kb6 P6 D6
      have Z7 : Hid (Blk w7 (w6.heap.size) #[.int .i64 0, .int .i64 0] 64) := by show Blk _ _ _ _; exact hX7
      have hzl : w6.heap.size < w7.heap.size := by omega
      rw [hw7]
      clear hw7 hz7 hX7 hb7
      refine hK.out _ _ ⟨cellOfBlk P7.out 0, cellOfBlk P7.out 1, cellOfBlk P7.out 2, cellOfBlk P7.out 3, cellOfBlk P7.out 4, cellOfBlk P7.out 5, cellOfBlk P7.out 6, cellOfBlk P7.out 7, cellOfBlk P7.out 8, cellOfBlk P7.out 9⟩ ?_
      clear hK Kc
      refine plan_step rfl (fun Kc hK => ?_)
      rw [if_pos (by rfl)]
      go_simp
      refine (specKeyOf_any lo hi0 _ X.f (b : Int) w7 Ka7.out (by omega) HS.out.f).mono ?_
      rintro e w8 ⟨rfl, hb8⟩
      rw [HKI.out]
      have Ka8 := Lib.hid (Ka7.out.below (by omega) hb8)
      have Kb8 := Lib.hid (Kb7.out.below (by omega) hb8)
      have P8 := Lib.hid (P7.out.below hb8 (by omega))
      have D8 := Lib.hid (D7.out.trans (hb8.mono (by omega)))
      have Z8 := Lib.hid (Z7.out.below hb8 (by omega))
      have sz8 : w7.heap.size ≤ w8.heap.size := hb8.size
      clear Ka7 Kb7 P7 D7 Z7
      refine hK.out _ _ ⟨cellOfBlk P8.out 0, cellOfBlk P8.out 1, cellOfBlk P8.out 2, cellOfBlk P8.out 3, cellOfBlk P8.out 4, cellOfBlk P8.out 5, cellOfBlk P8.out 6, cellOfBlk P8.out 7, cellOfBlk P8.out 8, cellOfBlk P8.out 9⟩ ?_
      clear hK Kc
      refine plan_step rfl (fun Kc hK => ?_)
      rw [if_pos (by rfl)]
      go_simp
      refine (specTake_yes lo hi0 lo hi0 _ X.f M q e0 X.ms i9 w8 Ka8.out (by omega) HS.out.f HQ0.out (by rw [← HQ0.out]; exact HS.out.ms) Kb8.out (by omega) HWF.out.ms HMG.out (k1, k2) xs HX9.out).mono ?_
      rintro e w9 ⟨A9, c9, rfl, hM9, hc91, hc92, hb9⟩
      rw [show cvM (k1, k2) = .agg #[.int .i64 k1, .int .i64 k2] from rfl]
      have Ka9 := Lib.hid (Ka8.out.below (by omega) hb9)
      have Kb9 := Lib.hid (Kb8.out.below (by omega) hb9)
      have P9 := Lib.hid (P8.out.below hb9 (by omega))
      have D9 := Lib.hid (D8.out.trans (hb9.mono (by omega)))
      have Z9 := Lib.hid (Z8.out.below hb9 (by omega))
      have sz9 : w8.heap.size ≤ w9.heap.size := hb9.size
      clear Ka8 Kb8 P8 D8 Z8
      have M9 : Hid (MagI w9 w8.heap.size w9.heap.size A9 (X.ms.set i9 xs)) := hM9
      have HC9 := Lib.hid (And.intro hc91 hc92)
      clear hM9 hc91 hc92
      refine hK.out _ _ ⟨cellOfBlk P9.out 0, cellOfBlk P9.out 1, cellOfBlk P9.out 2, cellOfBlk P9.out 3, cellOfBlk P9.out 4, cellOfBlk P9.out 5, cellOfBlk P9.out 6, cellOfBlk P9.out 7, cellOfBlk P9.out 8, cellOfBlk P9.out 9⟩ ?_
      clear hK Kc
      iterate 4 (refine plan_quiet rfl (by rfl) (v := ?_) ?_ ?_; rotate_left; (intro w1 hSw; obtain ⟨hs0, hs1, hs2, hs3, hs4, hs5, hs6, hs7, hs8, hs9⟩ := hSw; go_simp; try (with_reducible rfl)); (try simp only [Act.put, List.setIfInBounds_toArray, List.set_cons_zero, List.set_cons_succ]))
      refine plan_step rfl (fun Kc hK => ?_)
      rw [if_pos (by rfl)]
      go_simp
      refine hK.out _ _ ⟨cellOfBlk P9.out 0, cellOfBlk P9.out 1, cellOfBlk P9.out 2, cellOfBlk P9.out 3, cellOfBlk P9.out 4, cellOfBlk P9.out 5, cellOfBlk P9.out 6, cellOfBlk P9.out 7, cellOfBlk P9.out 8, cellOfBlk P9.out 9⟩ ?_
      clear hK Kc
      have z0 := cellOfBlk Z9.out 0
      have z1 := cellOfBlk Z9.out 1
      have fz := Z9.out.warm
      refine plan_step rfl (fun Kc hK => ?_)
      rw [if_pos (by rfl)]
      go_simp
      clear z0 z1 fz
      obtain ⟨w10, hw9⟩ : ∃ x, (w9.setCell ⟨w6.heap.size, 0, none⟩ (.int .i64 k1)).setCell ⟨w6.heap.size, 1, none⟩ (.int .i64 k2) = x := ⟨_, rfl⟩
      have hc9 : Chg (w6.heap.size) (w6.heap.size + 1) w9 w10 := by rw [← hw9]; exact chg_two _ _ _ _
      have hZ9 : Blk w10 (w6.heap.size) #[.int .i64 k1, .int .i64 k2] 64 := by rw [← hw9]; exact Z9.out.fill2 _ _
      rw [hw9]
      clear hw9
      have Ka10 := Lib.hid (Ka9.out.chg hc9 (by omega) (by omega))
      have Kb10 := Lib.hid (Kb9.out.chg hc9 (by omega) (by omega))
      have P10 := Lib.hid (P9.out.chg hc9 (by omega))
      have D10 := Lib.hid (D9.out.trans ((hc9.below (by omega)).mono (by omega)))
      have M10 := Lib.hid (M9.out.chg hc9 (by omega) (by omega))
      have sz10 : w9.heap.size ≤ w10.heap.size := hc9.size
      clear Ka9 Kb9 P9 D9 Z9 M9
      refine hK.out _ _ ⟨cellOfBlk P10.out 0, cellOfBlk P10.out 1, cellOfBlk P10.out 2, cellOfBlk P10.out 3, cellOfBlk P10.out 4, cellOfBlk P10.out 5, cellOfBlk P10.out 6, cellOfBlk P10.out 7, cellOfBlk P10.out 8, cellOfBlk P10.out 9⟩ ?_
      clear hK Kc
      refine plan_step rfl (fun Kc hK => ?_)
      rw [if_pos (by rfl)]
      go_simp
      refine hK.out _ _ ⟨cellOfBlk P10.out 0, cellOfBlk P10.out 1, cellOfBlk P10.out 2, cellOfBlk P10.out 3, cellOfBlk P10.out 4, cellOfBlk P10.out 5, cellOfBlk P10.out 6, cellOfBlk P10.out 7, cellOfBlk P10.out 8, cellOfBlk P10.out 9⟩ ?_
      clear hK Kc
      refine plan_end ?_
      refine ⟨rfl, A9, c9, w6.heap.size, w8.heap.size, w9.heap.size, ?_, hZ9, M10.out, by omega, by omega, HC9.out.1, HC9.out.2, by omega, D10.out⟩
      first | rfl | (simp only [Act.put, List.setIfInBounds_toArray, List.set_cons_zero, List.set_cons_succ])
  rintro a' w6 ⟨A9, c9, zb, x9, z9, rfl, hZ, hM9, hx1, hx2, hx3, hx4, hx5, hb6⟩
  simp only [Act.put, List.setIfInBounds_toArray, List.set_cons_zero, List.set_cons_succ]
  have T6 := Lib.hid (T5.out.trans (hb6.mono (by omega)))
  have V6 := Lib.hid (V5.out.below (by omega) hb6)
  have Ka6 := Lib.hid (Ka5.out.below (by omega) hb6)
  have Kb6 := Lib.hid (Kb5.out.below (by omega) hb6)
  have P6 := Lib.hid (P5.out.below hb6 (by omega))
  have R6 := Lib.hid (R5.out.below hb6 (by omega))
  have F6 := Lib.hid (F5.out.below hb6)
  have G6 := Lib.hid (G5.out.below (by omega) hb6)
  have L6 := Lib.hid (L5.out.below hb6)
  have W6 := Lib.hid (W5.out.below hb6)
  have Q6 := Lib.hid (Q5.out.below hb6 (by omega))
  have Y6 := Lib.hid (Y5.out.below hb6 (by omega))
  have sz6 : w5.heap.size ≤ w6.heap.size := hb6.size
  clear T5 V5 Ka5 Kb5 P5 R5 F5 G5 L5 W5 Q5 Y5
  clear G6
  have G6 := Lib.hid hM9
  have Z6 := Lib.hid hZ
  have HC9 := Lib.hid (And.intro hx3 hx4)
  clear hM9 hZ hx3 hx4
  have o0 := cellOfBlk Q6.out 0
  have o1 := cellOfBlk Q6.out 1
  have o2 := cellOfBlk Q6.out 2
  have o3 := cellOfBlk Q6.out 3
  have o4 := cellOfBlk Q6.out 4
  have o5 := cellOfBlk Q6.out 5
  have o6 := cellOfBlk Q6.out 6
  have o7 := cellOfBlk Q6.out 7
  have o8 := cellOfBlk Q6.out 8
  have o9 := cellOfBlk Q6.out 9
  have fo := Q6.out.warm
  have x0 := cellOfBlk Y6.out 0
  have x1 := cellOfBlk Y6.out 1
  have fx := Y6.out.warm
  have z0 := cellOfBlk Z6.out 0
  have z1 := cellOfBlk Z6.out 1
  go_upto_region 10 with fail
  clear fo x0 x1 fx z0 z1 o0 o1 o2 o3 o4 o5 o6 o7 o8 o9
  obtain ⟨w7, hw9⟩ : ∃ x, ((w6.setCell ⟨O, 3, none⟩ (.slice A9 q c9)).setCell ⟨yb, 0, none⟩ (.int .i64 k1)).setCell ⟨yb, 1, none⟩ (.int .i64 k2) = x := ⟨_, rfl⟩
  have hc9 : Chg O (yb + 1) w6 w7 := by rw [← hw9]; exact ((chg_one _ O 3 _).wide (Nat.le_refl _) (by omega)).trans ((chg_two _ yb _ _).wide (by omega) (Nat.le_refl _))
  have hQ9 : Blk w7 O #[.string X.f.s, .slice Az X.f.ws.length cz, .slice A2z X.f.cs.length dz, .slice A9 q c9, .int .i64 X.sp, .int .i64 X.w, .int .i64 X.t, .int .i64 X.k, .slice Lz X.ln.length lcz, .slice Tz X.wt.length tcz] 37 := by rw [← hw9]; exact Blk.chg (heapSet (i := 3) Q6.out _) (chg_two _ yb _ _) (by omega)
  have hY9 : Blk w7 yb #[.int .i64 k1, .int .i64 k2] 64 := by rw [← hw9]; exact (Y6.out.chg (chg_one _ O 3 _) (by omega)).fill2 _ _
  rw [hw9]
  clear Z6
  have T7 := Lib.hid (T6.out.trans ((hc9.below (by omega)).mono (by omega)))
  have V7 := Lib.hid (V6.out.chg hc9 (by omega) (by omega))
  have Ka7 := Lib.hid (Ka6.out.chg hc9 (by omega) (by omega))
  have Kb7 := Lib.hid (Kb6.out.chg hc9 (by omega) (by omega))
  have P7 := Lib.hid (P6.out.chg hc9 (by omega))
  have R7 := Lib.hid (R6.out.chg hc9 (by omega))
  have F7 := Lib.hid (F6.out.chg hc9 (by unfold Off; omega))
  have G7 := Lib.hid (G6.out.chg hc9 (by omega) (by omega))
  have L7 := Lib.hid (L6.out.chg hc9 (fun k hk => by have h7 := HLT.out k hk; have h8 := (L6.out.lt k hk).1; omega))
  have W7 := Lib.hid (W6.out.chg hc9 (fun k hk => by have h7 := HTT.out k hk; have h8 := (W6.out.lt k hk).1; omega))
  have sz7 : w6.heap.size ≤ w7.heap.size := hc9.size
  clear T6 V6 Ka6 Kb6 P6 R6 F6 G6 L6 W6 Q6 Y6
  have Q7 := Lib.hid hQ9
  have Y7 := Lib.hid hY9
  clear hQ9 hY9 hc9 hw9
  have HTM : Hid (X.wt.length ≤ tcz ∧ tcz ≤ maxLen) := ownM_caps HO.out.wait
  have HEM := HC9
  have HQM : Hid ((X.ms.set i9 xs).length = q) := by show _ = _; rw [List.length_set]; exact HQ0.out
  have o0 := cellOfBlk Q7.out 0
  have o1 := cellOfBlk Q7.out 1
  have o2 := cellOfBlk Q7.out 2
  have o3 := cellOfBlk Q7.out 3
  have o4 := cellOfBlk Q7.out 4
  have o5 := cellOfBlk Q7.out 5
  have o6 := cellOfBlk Q7.out 6
  have o7 := cellOfBlk Q7.out 7
  have o8 := cellOfBlk Q7.out 8
  have o9 := cellOfBlk Q7.out 9
  have fo := Q7.out.warm
  have x0 := cellOfBlk Y7.out 0
  have x1 := cellOfBlk Y7.out 1
  have hln := HS.out.ln
  have hLlt := L7.out.lt
  go_wp2_with (at_builtin; refine wpl_push_mat w7 rfl (.tmp 40) (.tmp 42) rfl (min l0 O) (.slice Lz X.ln.length lcz) X.ln (k1, k2) rfl rfl (L7.out.base (by omega)) (by omega) hln ?_; intro v9 w8 hO9 hg9 hf9; obtain ⟨A8, c8, rfl, hc81, hc82, -, -⟩ := hO9.form; have hl9 : (X.ln ++ [(k1, k2)]).length = X.ln.length + 1 := (by rw [List.length_append]; rfl); rw [hl9] at hO9 hf9 hc81 ⊢; have hc7 : Chg (min l0 O) l1 w7 w8 := Chg.of_grown hg9 (fun g hq => ⟨by have := (hLlt g hq).1; omega, HLT.out g hq⟩); have hq8 := Q7.out.chg hc7 (by omega); have h90 := cellOfBlk hq8 0; have h91 := cellOfBlk hq8 1; have h92 := cellOfBlk hq8 2; have h93 := cellOfBlk hq8 3; have h94 := cellOfBlk hq8 4; have h95 := cellOfBlk hq8 5; have h96 := cellOfBlk hq8 6; have h97 := cellOfBlk hq8 7; have h98 := cellOfBlk hq8 8; have h99 := cellOfBlk hq8 9; have h9c := hq8.warm 8; have HC7 := Lib.hid hc7; have HO9 := Lib.hid hO9; have HF9 := Lib.hid hf9; have HC8 := Lib.hid (And.intro hc81 hc82); clear hc7 hq8 hO9 hg9 hf9 hc81 hc82 hl9)
  clear h9c x0 x1 fo h90 h91 h92 h93 h94 h95 h96 h97 h98 h99 o0 o1 o2 o3 o4 o5 o6 o7 o8 o9
  have hc7 := HC7.out
  have T8 := Lib.hid (T7.out.trans ((hc7.below (by omega)).mono (by omega)))
  have V8 := Lib.hid (V7.out.chg hc7 (by omega) (by omega))
  have Ka8 := Lib.hid (Ka7.out.chg hc7 (by omega) (by omega))
  have Kb8 := Lib.hid (Kb7.out.chg hc7 (by omega) (by omega))
  have P8 := Lib.hid (P7.out.chg hc7 (by omega))
  have R8 := Lib.hid (R7.out.chg hc7 (by omega))
  have F8 := Lib.hid (F7.out.chg hc7 (by unfold Off; omega))
  have G8 := Lib.hid (G7.out.chg hc7 (by omega) (by omega))
  have W8 := Lib.hid (W7.out.chg hc7 (fun k hk => by have h7 := HTT.out k hk; have h8 := (W7.out.lt k hk).1; omega))
  have Q8 := Lib.hid (Q7.out.chg hc7 (by omega))
  have Y8 := Lib.hid (Y7.out.chg hc7 (by omega))
  have sz8 : w7.heap.size ≤ w8.heap.size := hc7.size
  clear T7 V7 Ka7 Kb7 P7 R7 F7 G7 L7 W7 Q7 Y7
  obtain ⟨w9, hw9⟩ : ∃ x, w8.setCell ⟨O, 8, none⟩ (.slice A8 (X.ln.length + 1) c8) = x := ⟨_, rfl⟩
  have hL9 : OwnM w9 (min l0 O) (.slice A8 (X.ln.length + 1) c8) (X.ln ++ [(k1, k2)]) := by rw [← hw9]; exact HO9.out.setAt (fun e9 => by rcases HF9.out with h9 | h9; (rw [e9] at h9; have h8 := HLT.out O h9.symm; omega); (have := h9 O e9; omega)) _
  have hc9 : Chg O (O + 1) w8 w9 := by rw [← hw9]; exact chg_one _ _ _ _
  have hQ9 : Blk w9 O #[.string X.f.s, .slice Az X.f.ws.length cz, .slice A2z X.f.cs.length dz, .slice A9 q c9, .int .i64 X.sp, .int .i64 X.w, .int .i64 X.t, .int .i64 X.k, .slice A8 (X.ln.length + 1) c8, .slice Tz X.wt.length tcz] 37 := by rw [← hw9]; exact heapSet (i := 8) Q8.out _
  rw [hw9]
  have T9 := Lib.hid (T8.out.trans ((hc9.below (by omega)).mono (by omega)))
  have V9 := Lib.hid (V8.out.chg hc9 (by omega) (by omega))
  have Ka9 := Lib.hid (Ka8.out.chg hc9 (by omega) (by omega))
  have Kb9 := Lib.hid (Kb8.out.chg hc9 (by omega) (by omega))
  have P9 := Lib.hid (P8.out.chg hc9 (by omega))
  have R9 := Lib.hid (R8.out.chg hc9 (by omega))
  have F9 := Lib.hid (F8.out.chg hc9 (by unfold Off; omega))
  have G9 := Lib.hid (G8.out.chg hc9 (by omega) (by omega))
  have W9 := Lib.hid (W8.out.chg hc9 (fun k hk => by have h7 := HTT.out k hk; have h8 := (W8.out.lt k hk).1; omega))
  have Y9 := Lib.hid (Y8.out.chg hc9 (by omega))
  have sz9 : w8.heap.size ≤ w9.heap.size := hc9.size
  clear T8 V8 Ka8 Kb8 P8 R8 F8 G8 W8 Q8 Y8
  have Q9 := Lib.hid hQ9
  have L9 := Lib.hid hL9
  clear hQ9 hL9 hc9 hc7 hw9 HO9
  have hV9 : MchV w9 w2.heap.size w9.heap.size (.agg #[.string X.f.s, .slice Az X.f.ws.length cz, .slice A2z X.f.cs.length dz, .slice A9 q c9, .int .i64 X.sp, .int .i64 X.w, .int .i64 X.t, .int .i64 X.k, .slice A8 (X.ln.length + 1) c8, .slice Tz X.wt.length tcz]) ⟨X.f, X.ms.set i9 xs, X.sp, X.w, X.t, X.k, X.ln ++ [(k1, k2)], X.wt⟩ := MchV.mk (X := ⟨X.f, X.ms.set i9 xs, X.sp, X.w, X.t, X.k, X.ln ++ [(k1, k2)], X.wt⟩) (F9.out.font.wideR (by omega) (by omega)) (G9.out.wide (by omega) (by omega)) (MatsI.wide L9.out.reads (by omega) (Nat.le_refl _)) ((MatsI.cutM W9.out HTT.out).wide (by omega) (by omega)) HQM.out (by rw [List.length_append]; rfl) rfl HEM.out.1 HEM.out.2 HC8.out.1 HC8.out.2 HTM.out.1 HTM.out.2
  have HV9 := Lib.hid hV9
  refine (specMachine_any w2.heap.size w9.heap.size _ ⟨X.f, X.ms.set i9 xs, X.sp, X.w, X.t, X.k, X.ln ++ [(k1, k2)], X.wt⟩ w9 hV9 (Nat.le_refl _) HSX.out).mono ?_
  rintro e w10 ⟨rfl, hb10⟩
  have HV := Lib.hid (HV9.out.below (Nat.le_refl _) hb10)
  clear hV9 HV9
  have T10 := Lib.hid (T9.out.trans (hb10.mono (by omega)))
  have V10 := Lib.hid (V9.out.below (by omega) hb10)
  have P10 := Lib.hid (P9.out.below hb10 (by omega))
  have R10 := Lib.hid (R9.out.below hb10 (by omega))
  have Q10 := Lib.hid (Q9.out.below hb10 (by omega))
  have sz10 : w9.heap.size ≤ w10.heap.size := hb10.size
  clear T9 V9 P9 R9 Q9
  rw [HMB.out]
  cases hyes : keyYes X b
  · have p0 := cellOfBlk P10.out 0
    have p1 := cellOfBlk P10.out 1
    have p2 := cellOfBlk P10.out 2
    have p3 := cellOfBlk P10.out 3
    have p4 := cellOfBlk P10.out 4
    have p5 := cellOfBlk P10.out 5
    have p6 := cellOfBlk P10.out 6
    have p7 := cellOfBlk P10.out 7
    have p8 := cellOfBlk P10.out 8
    have p9 := cellOfBlk P10.out 9
    have r0 := cellOfBlk R10.out 0
    have r1 := cellOfBlk R10.out 1
    have r2 := cellOfBlk R10.out 2
    have r3 := cellOfBlk R10.out 3
    have r4 := cellOfBlk R10.out 4
    have r5 := cellOfBlk R10.out 5
    have r6 := cellOfBlk R10.out 6
    have r7 := cellOfBlk R10.out 7
    have r8 := cellOfBlk R10.out 8
    have r9 := cellOfBlk R10.out 9
    have ff := R10.out.warm
    go_wp2
    have hR := R10.out.fill (.string s) (.slice A n c) (.slice A2 m d) (.slice M q e0) (.int .i64 X.sp) (.int .i64 X.w) (.int .i64 X.t) (.int .i64 X.k) (.slice L l lc) (.slice T r tc)
    have hc9 := chg_ten w10 (w0.heap.size + 1) (.string s) (.slice A n c) (.slice A2 m d) (.slice M q e0) (.int .i64 X.sp) (.int .i64 X.w) (.int .i64 X.t) (.int .i64 X.k) (.slice L l lc) (.slice T r tc)
    obtain ⟨w9, hw9⟩ : ∃ x, ((((((((((w10.setCell ⟨w0.heap.size + 1, 0, none⟩ (.string s)).setCell ⟨w0.heap.size + 1, 1, none⟩ (.slice A n c)).setCell ⟨w0.heap.size + 1, 2, none⟩ (.slice A2 m d)).setCell ⟨w0.heap.size + 1, 3, none⟩ (.slice M q e0)).setCell ⟨w0.heap.size + 1, 4, none⟩ (.int .i64 X.sp)).setCell ⟨w0.heap.size + 1, 5, none⟩ (.int .i64 X.w)).setCell ⟨w0.heap.size + 1, 6, none⟩ (.int .i64 X.t)).setCell ⟨w0.heap.size + 1, 7, none⟩ (.int .i64 X.k)).setCell ⟨w0.heap.size + 1, 8, none⟩ (.slice L l lc)).setCell ⟨w0.heap.size + 1, 9, none⟩ (.slice T r tc)) = x := ⟨_, rfl⟩
    rw [hw9] at hR hc9
    (try rw [hw9])
    clear hw9 r0 r1 r2 r3 r4 r5 r6 r7 r8 r9
    have r0 := cellOfBlk hR 0
    have r1 := cellOfBlk hR 1
    have r2 := cellOfBlk hR 2
    have r3 := cellOfBlk hR 3
    have r4 := cellOfBlk hR 4
    have r5 := cellOfBlk hR 5
    have r6 := cellOfBlk hR 6
    have r7 := cellOfBlk hR 7
    have r8 := cellOfBlk hR 8
    have r9 := cellOfBlk hR 9
    (try simp only [Exit.inBlock, Exit.then])
    clear p0 p1 p2 p3 p4 p5 p6 p7 p8 p9
    refine bodyPost_ret (v := .tuple #[.agg #[.string s, .slice A n c, .slice A2 m d, .slice M q e0, .int .i64 X.sp, .int .i64 X.w, .int .i64 X.t, .int .i64 X.k, .slice L l lc, .slice T r tc], .bool false]) (by simp [results, Tryz.results57, go_sem, r0, r1, r2, r3, r4, r5, r6, r7, r8, r9]) rfl ?_
    rw [hyes]
    exact ⟨_, rfl, fun _ => rfl, fun h9 => (by cases h9), T10.out.trans ((hc9.below (by omega)).mono (by omega))⟩
  · have o0 := cellOfBlk Q10.out 0
    have o1 := cellOfBlk Q10.out 1
    have o2 := cellOfBlk Q10.out 2
    have o3 := cellOfBlk Q10.out 3
    have o4 := cellOfBlk Q10.out 4
    have o5 := cellOfBlk Q10.out 5
    have o6 := cellOfBlk Q10.out 6
    have o7 := cellOfBlk Q10.out 7
    have o8 := cellOfBlk Q10.out 8
    have o9 := cellOfBlk Q10.out 9
    have r0 := cellOfBlk R10.out 0
    have r1 := cellOfBlk R10.out 1
    have r2 := cellOfBlk R10.out 2
    have r3 := cellOfBlk R10.out 3
    have r4 := cellOfBlk R10.out 4
    have r5 := cellOfBlk R10.out 5
    have r6 := cellOfBlk R10.out 6
    have r7 := cellOfBlk R10.out 7
    have r8 := cellOfBlk R10.out 8
    have r9 := cellOfBlk R10.out 9
    have ff := R10.out.warm
    go_wp2
    have hR := R10.out.fill (.string X.f.s) (.slice Az X.f.ws.length cz) (.slice A2z X.f.cs.length dz) (.slice A9 q c9) (.int .i64 X.sp) (.int .i64 X.w) (.int .i64 X.t) (.int .i64 X.k) (.slice A8 (X.ln.length + 1) c8) (.slice Tz X.wt.length tcz)
    have hc9 := chg_ten w10 (w0.heap.size + 1) (.string X.f.s) (.slice Az X.f.ws.length cz) (.slice A2z X.f.cs.length dz) (.slice A9 q c9) (.int .i64 X.sp) (.int .i64 X.w) (.int .i64 X.t) (.int .i64 X.k) (.slice A8 (X.ln.length + 1) c8) (.slice Tz X.wt.length tcz)
    obtain ⟨w9, hw9⟩ : ∃ x, ((((((((((w10.setCell ⟨w0.heap.size + 1, 0, none⟩ (.string X.f.s)).setCell ⟨w0.heap.size + 1, 1, none⟩ (.slice Az X.f.ws.length cz)).setCell ⟨w0.heap.size + 1, 2, none⟩ (.slice A2z X.f.cs.length dz)).setCell ⟨w0.heap.size + 1, 3, none⟩ (.slice A9 q c9)).setCell ⟨w0.heap.size + 1, 4, none⟩ (.int .i64 X.sp)).setCell ⟨w0.heap.size + 1, 5, none⟩ (.int .i64 X.w)).setCell ⟨w0.heap.size + 1, 6, none⟩ (.int .i64 X.t)).setCell ⟨w0.heap.size + 1, 7, none⟩ (.int .i64 X.k)).setCell ⟨w0.heap.size + 1, 8, none⟩ (.slice A8 (X.ln.length + 1) c8)).setCell ⟨w0.heap.size + 1, 9, none⟩ (.slice Tz X.wt.length tcz)) = x := ⟨_, rfl⟩
    rw [hw9] at hR hc9
    (try rw [hw9])
    clear hw9 r0 r1 r2 r3 r4 r5 r6 r7 r8 r9
    have r0 := cellOfBlk hR 0
    have r1 := cellOfBlk hR 1
    have r2 := cellOfBlk hR 2
    have r3 := cellOfBlk hR 3
    have r4 := cellOfBlk hR 4
    have r5 := cellOfBlk hR 5
    have r6 := cellOfBlk hR 6
    have r7 := cellOfBlk hR 7
    have r8 := cellOfBlk hR 8
    have r9 := cellOfBlk hR 9
    (try simp only [Exit.inBlock, Exit.then])
    clear o0 o1 o2 o3 o4 o5 o6 o7 o8 o9
    refine bodyPost_ret (v := .tuple #[.agg #[.string X.f.s, .slice Az X.f.ws.length cz, .slice A2z X.f.cs.length dz, .slice A9 q c9, .int .i64 X.sp, .int .i64 X.w, .int .i64 X.t, .int .i64 X.k, .slice A8 (X.ln.length + 1) c8, .slice Tz X.wt.length tcz], .bool true]) (by simp [results, Tryz.results57, go_sem, r0, r1, r2, r3, r4, r5, r6, r7, r8, r9]) rfl ?_
    rw [hyes, HXE.out hyes]
    exact ⟨_, rfl, fun h9 => (by cases h9), fun _ => (HV.out.chg hc9 (by omega) (by omega)).wide (by omega) (by have := hc9.size; omega), T10.out.trans ((hc9.below (by omega)).mono (by omega))⟩
theorem specL5K_any (lo hi0 : Nat) (v : Value) (X : Mch) (b : Nat) (w : World) (h : MchV w lo hi0 v X) (hhi : hi0 ≤ w.heap.size) (hm : machB X = true) (wf : WfX X) :
    Calls Tryz.prog 57 #[v, .int .i64 b] w fun e w' => ∃ v', e = .returned (.tuple #[v', .bool (keyYes X b)]) ∧ (keyYes X b = false → v' = v) ∧ (keyYes X b = true → MchV w' w.heap.size w'.heap.size v' (keyX X b)) ∧ Below w.heap.size w w' := by
  by_cases hb : b = 32
  · exact specL5K_band lo hi0 v X b w h hhi hm wf hb
  · rcases key_part (b := b) hm with ⟨hin, hkr⟩ | ⟨i9, h1, h2, h3, h4⟩
    · exact specL5K_out lo hi0 v X b w h hhi hm wf hb hin hkr
    · cases hr : keyRow X b with
      | nil => rw [hr] at h4; exact specL5K_none lo hi0 v X b w h hhi hm wf hb i9 h1 h4 hr
      | cons x xs => rw [hr] at h4; exact specL5K_take lo hi0 v X b w h hhi hm wf hb i9 h1 h2 h3 x xs h4 hr
end Go.Proofs.YtimhnkpccbcohaaGreatDoor

namespace Go.Proofs.YtimhnkpccbcohaaGreatDoor
open Go.RowKit Go.Conc
set_option linter.unusedVariables false
set_option linter.unusedSimpArgs false

set_option maxRecDepth 100000 in
set_option maxHeartbeats 6400000 in
theorem specKey_no (lo hi0 : Nat) (v : Value) (X : Mch) (sx : ByteArray) (w : World) (h : MchV w lo hi0 v X) (hhi : hi0 ≤ w.heap.size) (hs : SmallX X) (wf : WfX X) (hsx : sx.size ≤ maxLen) (hm : machB X = false) :
    Calls Tryz.prog 19 #[v, .string sx] w fun e w' => ∃ v' n Y, e = .returned (.tuple #[v', .int .i64 n]) ∧ KeyRes X sx n Y ∧ MchV w' w.heap.size w'.heap.size v' Y ∧ Below w.heap.size w w' := by
  have HNO := Lib.hid hm
  obtain ⟨s, A, n, c, A2, m, d, M, q, e0, L, l, lc, T, r, tc, hv, -⟩ := h.parts
  rw [hv] at h ⊢
  clear hv
  obtain ⟨w0, hw0⟩ : ∃ x, w = x := ⟨_, rfl⟩
  have hww : w.heap.size = w0.heap.size := by rw [hw0]
  have HS := Lib.hid hs; have HWF := Lib.hid wf
  have T0 : Hid (Below w0.heap.size w0 w0) := Below.refl _ _
  have V0 : Hid (MchV w0 lo hi0 (.agg #[.string s, .slice A n c, .slice A2 m d, .slice M q e0, .int .i64 X.sp, .int .i64 X.w, .int .i64 X.t, .int .i64 X.k, .slice L l lc, .slice T r tc]) X) := by rw [← hw0]; exact h
  clear h hs wf
  obtain ⟨w1, hw1, hb1, hz1, hX1⟩ := mxWorld w0 #[.string s, .slice A n c, .slice A2 m d, .slice M q e0, .int .i64 X.sp, .int .i64 X.w, .int .i64 X.t, .int .i64 X.k, .slice L l lc, .slice T r tc] 37
  have T1 := Lib.hid (T0.out.trans (hb1.mono (by omega)))
  have V1 := Lib.hid (V0.out.below (by omega) hb1)
  have sz1 : w0.heap.size ≤ w1.heap.size := hb1.size
  clear T0 V0
  have P1 : Hid (Blk w1 (w0.heap.size) #[.string s, .slice A n c, .slice A2 m d, .slice M q e0, .int .i64 X.sp, .int .i64 X.w, .int .i64 X.t, .int .i64 X.k, .slice L l lc, .slice T r tc] 37) := by show Blk _ _ _ _; exact hX1
  obtain ⟨w2, hw2, hb2, hz2, hX2⟩ := mxWorld w1 #[.string ⟨#[]⟩, .slice none 0 0, .slice none 0 0, .slice none 0 0, .int .i64 0, .int .i64 0, .int .i64 0, .int .i64 0, .slice none 0 0, .slice none 0 0] 37
  have T2 := Lib.hid (T1.out.trans (hb2.mono (by omega)))
  have V2 := Lib.hid (V1.out.below (by omega) hb2)
  have P2 := Lib.hid (P1.out.below hb2 (by omega))
  have sz2 : w1.heap.size ≤ w2.heap.size := hb2.size
  clear T1 V1 P1
  have R2 : Hid (Blk w2 (w0.heap.size + 1) #[.string ⟨#[]⟩, .slice none 0 0, .slice none 0 0, .slice none 0 0, .int .i64 0, .int .i64 0, .int .i64 0, .int .i64 0, .slice none 0 0, .slice none 0 0] 37) := by show Blk _ _ _ _; rw [← hz1]; exact hX2
  rw [hz1] at hz2
  have p0 := cellOfBlk P2.out 0
  have p1 := cellOfBlk P2.out 1
  have p2 := cellOfBlk P2.out 2
  have p3 := cellOfBlk P2.out 3
  have p4 := cellOfBlk P2.out 4
  have p5 := cellOfBlk P2.out 5
  have p6 := cellOfBlk P2.out 6
  have p7 := cellOfBlk P2.out 7
  have p8 := cellOfBlk P2.out 8
  have p9 := cellOfBlk P2.out 9
  rw [hw0]
  go_enter Tryz.func19, Tryz.ntmps19
  go_wp2_with fail
  clear p0 p1 p2 p3 p4 p5 p6 p7 p8 p9
  refine (specMachine_any lo hi0 _ X w2 V2.out (by omega) HS.out).mono ?_
  rintro e w3 ⟨rfl, hb3⟩
  have T3 := Lib.hid (T2.out.trans (hb3.mono (by omega)))
  have V3 := Lib.hid (V2.out.below (by omega) hb3)
  have P3 := Lib.hid (P2.out.below hb3 (by omega))
  have R3 := Lib.hid (R2.out.below hb3 (by omega))
  have sz3 : w2.heap.size ≤ w3.heap.size := hb3.size
  clear T2 V2 P2 R2
  rw [hm]
  have r0 := cellOfBlk R3.out 0
  have r1 := cellOfBlk R3.out 1
  have r2 := cellOfBlk R3.out 2
  have r3 := cellOfBlk R3.out 3
  have r4 := cellOfBlk R3.out 4
  have r5 := cellOfBlk R3.out 5
  have r6 := cellOfBlk R3.out 6
  have r7 := cellOfBlk R3.out 7
  have r8 := cellOfBlk R3.out 8
  have r9 := cellOfBlk R3.out 9
  have ff := R3.out.warm
  go_wp2
  have hR := R3.out.fill (.string ⟨#[]⟩) (.slice none 0 0) (.slice none 0 0) (.slice none 0 0) (.int .i64 0) (.int .i64 0) (.int .i64 0) (.int .i64 0) (.slice none 0 0) (.slice none 0 0)
  have hc9 := chg_ten w3 (w0.heap.size + 1) (.string ⟨#[]⟩) (.slice none 0 0) (.slice none 0 0) (.slice none 0 0) (.int .i64 0) (.int .i64 0) (.int .i64 0) (.int .i64 0) (.slice none 0 0) (.slice none 0 0)
  obtain ⟨w9, hw9⟩ : ∃ x, ((((((((((w3.setCell ⟨w0.heap.size + 1, 0, none⟩ (.string ⟨#[]⟩)).setCell ⟨w0.heap.size + 1, 1, none⟩ (.slice none 0 0)).setCell ⟨w0.heap.size + 1, 2, none⟩ (.slice none 0 0)).setCell ⟨w0.heap.size + 1, 3, none⟩ (.slice none 0 0)).setCell ⟨w0.heap.size + 1, 4, none⟩ (.int .i64 0)).setCell ⟨w0.heap.size + 1, 5, none⟩ (.int .i64 0)).setCell ⟨w0.heap.size + 1, 6, none⟩ (.int .i64 0)).setCell ⟨w0.heap.size + 1, 7, none⟩ (.int .i64 0)).setCell ⟨w0.heap.size + 1, 8, none⟩ (.slice none 0 0)).setCell ⟨w0.heap.size + 1, 9, none⟩ (.slice none 0 0)) = x := ⟨_, rfl⟩
  rw [hw9] at hR hc9
  (try rw [hw9])
  clear hw9 r0 r1 r2 r3 r4 r5 r6 r7 r8 r9
  have r0 := cellOfBlk hR 0
  have r1 := cellOfBlk hR 1
  have r2 := cellOfBlk hR 2
  have r3 := cellOfBlk hR 3
  have r4 := cellOfBlk hR 4
  have r5 := cellOfBlk hR 5
  have r6 := cellOfBlk hR 6
  have r7 := cellOfBlk hR 7
  have r8 := cellOfBlk hR 8
  have r9 := cellOfBlk hR 9
  (try simp only [Exit.inBlock, Exit.then])
  refine bodyPost_ret (v := .tuple #[.agg #[.string ⟨#[]⟩, .slice none 0 0, .slice none 0 0, .slice none 0 0, .int .i64 0, .int .i64 0, .int .i64 0, .int .i64 0, .slice none 0 0, .slice none 0 0], .int .i64 (-1)]) (by simp [results, Tryz.results19, go_sem, r0, r1, r2, r3, r4, r5, r6, r7, r8, r9]) rfl ?_
  exact ⟨_, _, _, rfl, .inl ⟨HNO.out, rfl, rfl⟩, ((zeroX_own w9 w0.heap.size).wide (Nat.le_refl _) (by have := hc9.size; omega) : MchX w9 w0.heap.size w9.heap.size _ _).reads, T3.out.trans ((hc9.below (by omega)).mono (by omega))⟩
set_option maxRecDepth 100000 in
set_option maxHeartbeats 12800000 in
theorem specKey_yes (lo hi0 : Nat) (v : Value) (X : Mch) (sx : ByteArray) (w : World) (h : MchV w lo hi0 v X) (hhi : hi0 ≤ w.heap.size) (hs : SmallX X) (wf : WfX X) (hsx : sx.size ≤ maxLen) (hm : machB X = true) :
    Calls Tryz.prog 19 #[v, .string sx] w fun e w' => ∃ v' n Y, e = .returned (.tuple #[v', .int .i64 n]) ∧ KeyRes X sx n Y ∧ MchV w' w.heap.size w'.heap.size v' Y ∧ Below w.heap.size w w' := by
  have HYES := Lib.hid hm
  obtain ⟨s, A, n, c, A2, m, d, M, q, e0, L, l, lc, T, r, tc, hv, -⟩ := h.parts
  rw [hv] at h ⊢
  clear hv
  obtain ⟨w0, hw0⟩ : ∃ x, w = x := ⟨_, rfl⟩
  have hww : w.heap.size = w0.heap.size := by rw [hw0]
  have HS := Lib.hid hs; have HWF := Lib.hid wf
  have T0 : Hid (Below w0.heap.size w0 w0) := Below.refl _ _
  have V0 : Hid (MchV w0 lo hi0 (.agg #[.string s, .slice A n c, .slice A2 m d, .slice M q e0, .int .i64 X.sp, .int .i64 X.w, .int .i64 X.t, .int .i64 X.k, .slice L l lc, .slice T r tc]) X) := by rw [← hw0]; exact h
  clear h hs wf
  obtain ⟨w1, hw1, hb1, hz1, hX1⟩ := mxWorld w0 #[.string s, .slice A n c, .slice A2 m d, .slice M q e0, .int .i64 X.sp, .int .i64 X.w, .int .i64 X.t, .int .i64 X.k, .slice L l lc, .slice T r tc] 37
  have T1 := Lib.hid (T0.out.trans (hb1.mono (by omega)))
  have V1 := Lib.hid (V0.out.below (by omega) hb1)
  have sz1 : w0.heap.size ≤ w1.heap.size := hb1.size
  clear T0 V0
  have P1 : Hid (Blk w1 (w0.heap.size) #[.string s, .slice A n c, .slice A2 m d, .slice M q e0, .int .i64 X.sp, .int .i64 X.w, .int .i64 X.t, .int .i64 X.k, .slice L l lc, .slice T r tc] 37) := by show Blk _ _ _ _; exact hX1
  obtain ⟨w2, hw2, hb2, hz2, hX2⟩ := mxWorld w1 #[.string ⟨#[]⟩, .slice none 0 0, .slice none 0 0, .slice none 0 0, .int .i64 0, .int .i64 0, .int .i64 0, .int .i64 0, .slice none 0 0, .slice none 0 0] 37
  have T2 := Lib.hid (T1.out.trans (hb2.mono (by omega)))
  have V2 := Lib.hid (V1.out.below (by omega) hb2)
  have P2 := Lib.hid (P1.out.below hb2 (by omega))
  have sz2 : w1.heap.size ≤ w2.heap.size := hb2.size
  clear T1 V1 P1
  have R2 : Hid (Blk w2 (w0.heap.size + 1) #[.string ⟨#[]⟩, .slice none 0 0, .slice none 0 0, .slice none 0 0, .int .i64 0, .int .i64 0, .int .i64 0, .int .i64 0, .slice none 0 0, .slice none 0 0] 37) := by show Blk _ _ _ _; rw [← hz1]; exact hX2
  rw [hz1] at hz2
  have p0 := cellOfBlk P2.out 0
  have p1 := cellOfBlk P2.out 1
  have p2 := cellOfBlk P2.out 2
  have p3 := cellOfBlk P2.out 3
  have p4 := cellOfBlk P2.out 4
  have p5 := cellOfBlk P2.out 5
  have p6 := cellOfBlk P2.out 6
  have p7 := cellOfBlk P2.out 7
  have p8 := cellOfBlk P2.out 8
  have p9 := cellOfBlk P2.out 9
  rw [hw0]
  go_enter Tryz.func19, Tryz.ntmps19
  go_wp2_with fail
  clear p0 p1 p2 p3 p4 p5 p6 p7 p8 p9
  refine (specMachine_any lo hi0 _ X w2 V2.out (by omega) HS.out).mono ?_
  rintro e w3 ⟨rfl, hb3⟩
  have T3 := Lib.hid (T2.out.trans (hb3.mono (by omega)))
  have V3 := Lib.hid (V2.out.below (by omega) hb3)
  have P3 := Lib.hid (P2.out.below hb3 (by omega))
  have R3 := Lib.hid (R2.out.below hb3 (by omega))
  have sz3 : w2.heap.size ≤ w3.heap.size := hb3.size
  clear T2 V2 P2 R2
  rw [hm]
  have p0 := cellOfBlk P3.out 0
  have p1 := cellOfBlk P3.out 1
  have p2 := cellOfBlk P3.out 2
  have p3 := cellOfBlk P3.out 3
  have p4 := cellOfBlk P3.out 4
  have p5 := cellOfBlk P3.out 5
  have p6 := cellOfBlk P3.out 6
  have p7 := cellOfBlk P3.out 7
  have p8 := cellOfBlk P3.out 8
  have p9 := cellOfBlk P3.out 9
  have fp := P3.out.warm
  go_wp2_with fail
  refine (l5Copy_any lo hi0 _ X w3 V3.out (by omega) HS.out).mono ?_
  rintro e w4 ⟨vC, rfl, hC, hb4⟩
  obtain ⟨sQ0, AQ0, nQ0, cQ0, BQ0, mQ0, dQ0, MQ0, qQ0, eQ0, spQ0, wQ0, tQ0, kQ0, LQ0, lQ0, lcQ0, TQ0, rQ0, tcQ0, rfl⟩ := hC.reads.form
  clear fp p0 p1 p2 p3 p4 p5 p6 p7 p8 p9
  have HC := Lib.hid hC.reads
  clear hC
  have T4 := Lib.hid (T3.out.trans (hb4.mono (by omega)))
  have P4 := Lib.hid (P3.out.below hb4 (by omega))
  have R4 := Lib.hid (R3.out.below hb4 (by omega))
  have sz4 : w3.heap.size ≤ w4.heap.size := hb4.size
  clear T3 V3 P3 R3
  have p0 := cellOfBlk P4.out 0
  have p1 := cellOfBlk P4.out 1
  have p2 := cellOfBlk P4.out 2
  have p3 := cellOfBlk P4.out 3
  have p4 := cellOfBlk P4.out 4
  have p5 := cellOfBlk P4.out 5
  have p6 := cellOfBlk P4.out 6
  have p7 := cellOfBlk P4.out 7
  have p8 := cellOfBlk P4.out 8
  have p9 := cellOfBlk P4.out 9
  have fp := P4.out.warm
  go_upto_region 4 with fail
  clear fp p0 p1 p2 p3 p4 p5 p6 p7 p8 p9
  have hP := P4.out.fill (.string sQ0) (.slice AQ0 nQ0 cQ0) (.slice BQ0 mQ0 dQ0) (.slice MQ0 qQ0 eQ0) (.int .i64 spQ0) (.int .i64 wQ0) (.int .i64 tQ0) (.int .i64 kQ0) (.slice LQ0 lQ0 lcQ0) (.slice TQ0 rQ0 tcQ0)
  have hc9 := chg_ten w4 w0.heap.size (.string sQ0) (.slice AQ0 nQ0 cQ0) (.slice BQ0 mQ0 dQ0) (.slice MQ0 qQ0 eQ0) (.int .i64 spQ0) (.int .i64 wQ0) (.int .i64 tQ0) (.int .i64 kQ0) (.slice LQ0 lQ0 lcQ0) (.slice TQ0 rQ0 tcQ0)
  obtain ⟨u3, hu3⟩ : ∃ x, ((((((((((w4.setCell ⟨w0.heap.size, 0, none⟩ (.string sQ0)).setCell ⟨w0.heap.size, 1, none⟩ (.slice AQ0 nQ0 cQ0)).setCell ⟨w0.heap.size, 2, none⟩ (.slice BQ0 mQ0 dQ0)).setCell ⟨w0.heap.size, 3, none⟩ (.slice MQ0 qQ0 eQ0)).setCell ⟨w0.heap.size, 4, none⟩ (.int .i64 spQ0)).setCell ⟨w0.heap.size, 5, none⟩ (.int .i64 wQ0)).setCell ⟨w0.heap.size, 6, none⟩ (.int .i64 tQ0)).setCell ⟨w0.heap.size, 7, none⟩ (.int .i64 kQ0)).setCell ⟨w0.heap.size, 8, none⟩ (.slice LQ0 lQ0 lcQ0)).setCell ⟨w0.heap.size, 9, none⟩ (.slice TQ0 rQ0 tcQ0)) = x := ⟨_, rfl⟩
  rw [hu3] at hP hc9
  (try rw [hu3])
  clear hu3
  have hzu3 := hc9.size
  have R3 : Hid (Blk u3 (w0.heap.size + 1) #[.string ⟨#[]⟩, .slice none 0 0, .slice none 0 0, .slice none 0 0, .int .i64 0, .int .i64 0, .int .i64 0, .int .i64 0, .slice none 0 0, .slice none 0 0] 37) := R4.out.chg hc9 (by omega)
  have T3 : Hid (Below w0.heap.size w0 u3) := T4.out.trans ((hc9.below (by omega)).mono (by omega))
  have V3 : Hid (MchV u3 w3.heap.size w4.heap.size (.agg #[.string sQ0, .slice AQ0 nQ0 cQ0, .slice BQ0 mQ0 dQ0, .slice MQ0 qQ0 eQ0, .int .i64 spQ0, .int .i64 wQ0, .int .i64 tQ0, .int .i64 kQ0, .slice LQ0 lQ0 lcQ0, .slice TQ0 rQ0 tcQ0]) (keyN X sx 0)) := HC.out.chg hc9 (by omega) (by omega)
  have P3 := Lib.hid hP
  have K3 : Hid (KeyAt X sx 0) := ⟨Nat.zero_le _, fun i hi => absurd hi (by omega)⟩
  have hz0 : w0.heap.size + 2 ≤ w3.heap.size := by omega
  clear hP hc9 HC R4 T4 P4
  go_wp2
  go_loopw [6] (fun jv wr => ∃ (sQ : ByteArray) (AQ : Option Addr) (nQ cQ : Nat) (BQ : Option Addr) (mQ dQ : Nat) (MQ : Option Addr) (qQ eQ : Nat) (spQ wQ tQ kQ : Int) (LQ : Option Addr) (lQ lcQ : Nat) (TQ : Option Addr) (rQ tcQ : Nat) (g0 g1 : Nat) (j : Nat), j ≤ sx.size ∧ jv = .int .i64 j ∧ Hid (Blk wr w0.heap.size #[.string sQ, .slice AQ nQ cQ, .slice BQ mQ dQ, .slice MQ qQ eQ, .int .i64 spQ, .int .i64 wQ, .int .i64 tQ, .int .i64 kQ, .slice LQ lQ lcQ, .slice TQ rQ tcQ] 37) ∧ Hid (Blk wr (w0.heap.size + 1) #[.string ⟨#[]⟩, .slice none 0 0, .slice none 0 0, .slice none 0 0, .int .i64 0, .int .i64 0, .int .i64 0, .int .i64 0, .slice none 0 0, .slice none 0 0] 37) ∧ Hid (Below w0.heap.size w0 wr) ∧ Hid (MchV wr g0 g1 (.agg #[.string sQ, .slice AQ nQ cQ, .slice BQ mQ dQ, .slice MQ qQ eQ, .int .i64 spQ, .int .i64 wQ, .int .i64 tQ, .int .i64 kQ, .slice LQ lQ lcQ, .slice TQ rQ tcQ]) (keyN X sx j)) ∧ Hid (KeyAt X sx j) ∧ w0.heap.size + 2 ≤ g0 ∧ g1 ≤ wr.heap.size) (fun jv _ => sx.size - (intOf jv).toNat)
  case atStart => exact ⟨sQ0, AQ0, nQ0, cQ0, BQ0, mQ0, dQ0, MQ0, qQ0, eQ0, spQ0, wQ0, tQ0, kQ0, LQ0, lQ0, lcQ0, TQ0, rQ0, tcQ0, w3.heap.size, w4.heap.size, 0, Nat.zero_le _, rfl, P3, R3, T3, V3, K3, hz0, hzu3⟩
  case round =>
    clear P3 R3 T3 V3 K3 hz0 hzu3
    obtain ⟨sQ, AQ, nQ, cQ, BQ, mQ, dQ, MQ, qQ, eQ, spQ, wQ, tQ, kQ, LQ, lQ, lcQ, TQ, rQ, tcQ, g0, g1, j, hjl, rfl, P3, R3, T3, V3, K3, hg0, hg1⟩ := hrel
    obtain ⟨w5, hwq⟩ : ∃ x, x = wr := ⟨_, rfl⟩
    subst hwq
    have P5 : Hid (Blk w5 w0.heap.size #[.string sQ, .slice AQ nQ cQ, .slice BQ mQ dQ, .slice MQ qQ eQ, .int .i64 spQ, .int .i64 wQ, .int .i64 tQ, .int .i64 kQ, .slice LQ lQ lcQ, .slice TQ rQ tcQ] 37) := P3.out
    have R5 : Hid (Blk w5 (w0.heap.size + 1) #[.string ⟨#[]⟩, .slice none 0 0, .slice none 0 0, .slice none 0 0, .int .i64 0, .int .i64 0, .int .i64 0, .int .i64 0, .slice none 0 0, .slice none 0 0] 37) := R3.out
    have T5 : Hid (Below w0.heap.size w0 w5) := T3.out
    have V5 : Hid (MchV w5 g0 g1 (.agg #[.string sQ, .slice AQ nQ cQ, .slice BQ mQ dQ, .slice MQ qQ eQ, .int .i64 spQ, .int .i64 wQ, .int .i64 tQ, .int .i64 kQ, .slice LQ lQ lcQ, .slice TQ rQ tcQ]) (keyN X sx j)) := V3.out
    clear P3 R3 T3 V3
    have hpl : w0.heap.size + 2 ≤ w5.heap.size := R5.out.lt
    have HMJ := Lib.hid (keyN_mach HYES.out j K3.out)
    by_cases hlt : j < sx.size
    · have hsz := hsx
      unfold maxLen at hsz
      have hji : decide ((j : Int) < (sx.size : Int)) = true := by simp; omega
      have HB8 := Lib.hid (byt_eq hlt)
      go_upto_region 7 with fail
      have hwb : wrap64 ((sx[j]'hlt).toNat : Int) = ((byt sx j : Nat) : Int) := by rw [wrap64_byte, HB8.out]
      have hwi : Hid (IntKind.i64.wrap ((sx[j]'hlt).toNat : Int) = ((byt sx j : Nat) : Int)) := by show _ = _; rw [wrap_small _ (by have := UInt8.toNat_lt (sx[j]'hlt); omega) (by have := UInt8.toNat_lt (sx[j]'hlt); omega), HB8.out]
      clear hwb
      refine region_post (fun a a' w' => ∃ (sQn : ByteArray) (AQn : Option Addr) (nQn cQn : Nat) (BQn : Option Addr) (mQn dQn : Nat) (MQn : Option Addr) (qQn eQn : Nat) (spQn wQn tQn kQn : Int) (LQn : Option Addr) (lQn lcQn : Nat) (TQn : Option Addr) (rQn tcQn : Nat) (zb x9 z9 : Nat), a' = (((((((((((a.put (some 22) (.agg #[.string sQ, .slice AQ nQ cQ, .slice BQ mQ dQ, .slice MQ qQ eQ, .int .i64 spQ, .int .i64 wQ, .int .i64 tQ, .int .i64 kQ, .slice LQ lQ lcQ, .slice TQ rQ tcQ])).put (some 23) (.string sx)).put (some 24) (.int .i64 j)).put (some 25) (.int .u8 ((sx[j]'hlt).toNat : Int))).put (some 26) (.int .i64 (byt sx j : Nat))).put (some 27) (.tuple #[.agg #[.string sQn, .slice AQn nQn cQn, .slice BQn mQn dQn, .slice MQn qQn eQn, .int .i64 spQn, .int .i64 wQn, .int .i64 tQn, .int .i64 kQn, .slice LQn lQn lcQn, .slice TQn rQn tcQn], .bool (keyYes (keyN X sx j) (byt sx j))])).put (some 21) (.tuple #[.agg #[.string sQn, .slice AQn nQn cQn, .slice BQn mQn dQn, .slice MQn qQn eQn, .int .i64 spQn, .int .i64 wQn, .int .i64 tQn, .int .i64 kQn, .slice LQn lQn lcQn, .slice TQn rQn tcQn], .bool (keyYes (keyN X sx j) (byt sx j))])).put (some 28) (.agg #[.string sQn, .slice AQn nQn cQn, .slice BQn mQn dQn, .slice MQn qQn eQn, .int .i64 spQn, .int .i64 wQn, .int .i64 tQn, .int .i64 kQn, .slice LQn lQn lcQn, .slice TQn rQn tcQn])).put (some 29) (.bool (keyYes (keyN X sx j) (byt sx j)))).put (some 7) (.pointer (some ⟨zb, 0, none⟩))).put (some 8) (.bool (keyYes (keyN X sx j) (byt sx j)))) ∧ Blk w' zb #[.string sQn, .slice AQn nQn cQn, .slice BQn mQn dQn, .slice MQn qQn eQn, .int .i64 spQn, .int .i64 wQn, .int .i64 tQn, .int .i64 kQn, .slice LQn lQn lcQn, .slice TQn rQn tcQn] 37 ∧ (keyYes (keyN X sx j) (byt sx j) = true → MchV w' x9 z9 (.agg #[.string sQn, .slice AQn nQn cQn, .slice BQn mQn dQn, .slice MQn qQn eQn, .int .i64 spQn, .int .i64 wQn, .int .i64 tQn, .int .i64 kQn, .slice LQn lQn lcQn, .slice TQn rQn tcQn]) (keyX (keyN X sx j) (byt sx j))) ∧ w5.heap.size ≤ x9 ∧ z9 ≤ w'.heap.size ∧ w5.heap.size ≤ zb ∧ Below w5.heap.size w5 w') ?_ ?_
      · have D5 : Hid (Below w5.heap.size w5 w5) := Below.refl _ _
        refine wp_region_plan (.take 0 (.take 1 (.take 2 (.take 3 (.take 4 (.two 5 9 (.take 6 (.take 7 (.take 8 (.one 9 (.one 10 (.one 11 .done)))))) (.one 5 (.take 6 (.take 7 (.take 8 (.one 10 (.one 11 .done)))))))))))) (fun w' => w'.cell? ⟨w0.heap.size, 0, none⟩ = some (.string sQ) ∧ w'.cell? ⟨w0.heap.size, 1, none⟩ = some (.slice AQ nQ cQ) ∧ w'.cell? ⟨w0.heap.size, 2, none⟩ = some (.slice BQ mQ dQ) ∧ w'.cell? ⟨w0.heap.size, 3, none⟩ = some (.slice MQ qQ eQ) ∧ w'.cell? ⟨w0.heap.size, 4, none⟩ = some (.int .i64 spQ) ∧ w'.cell? ⟨w0.heap.size, 5, none⟩ = some (.int .i64 wQ) ∧ w'.cell? ⟨w0.heap.size, 6, none⟩ = some (.int .i64 tQ) ∧ w'.cell? ⟨w0.heap.size, 7, none⟩ = some (.int .i64 kQ) ∧ w'.cell? ⟨w0.heap.size, 8, none⟩ = some (.slice LQ lQ lcQ) ∧ w'.cell? ⟨w0.heap.size, 9, none⟩ = some (.slice TQ rQ tcQ)) (by kernel_rfl) (by kernel_rfl) (by kernel_rfl) (by intro c a d v w h; exact absurd h.1 (by simp)) ⟨cellOfBlk P5.out 0, cellOfBlk P5.out 1, cellOfBlk P5.out 2, cellOfBlk P5.out 3, cellOfBlk P5.out 4, cellOfBlk P5.out 5, cellOfBlk P5.out 6, cellOfBlk P5.out 7, cellOfBlk P5.out 8, cellOfBlk P5.out 9⟩ ?_
        obtain ⟨w6, hwd⟩ : ∃ x, w5.drew = x := ⟨_, rfl⟩
        have hb6 : Below w5.heap.size w5 w6 := by rw [← hwd]; exact (Below.refl _ _).drew
        have hsz6 : w6.heap.size = w5.heap.size := by rw [← hwd]; rfl
        have P6 := Lib.hid (P5.out.below hb6 (by omega))
        have V6 := Lib.hid (V5.out.below (by omega) hb6)
        have D6 := Lib.hid (D5.out.trans (hb6.mono (by omega)))
        have sz6 : w5.heap.size ≤ w6.heap.size := hb6.size
        clear P5 V5 D5
        rw [hwd]
        clear hwd
        clear hsz6
        iterate 5 (refine plan_quiet rfl (by rfl) (v := ?_) ?_ ?_; rotate_left; (intro w1 hSw; obtain ⟨hs0, hs1, hs2, hs3, hs4, hs5, hs6, hs7, hs8, hs9⟩ := hSw; go_simp; try (with_reducible rfl)); (try simp only [Act.put, List.setIfInBounds_toArray, List.set_cons_zero, List.set_cons_succ]))
        refine plan_fork rfl rfl (fun Kc hK => ?_) (fun Kc hK => ?_)
        · rw [if_pos (by rfl)]
          go_simp
          rw [hwi.out]
          refine (specL5K_any g0 g1 _ (keyN X sx j) (byt sx j) w6 V6.out (by omega) HMJ.out (keyN_wf HWF.out j)).mono ?_
          rintro e w7 ⟨v', rfl, hno, hyy, hb7⟩
          obtain ⟨sQn, AQn, nQn, cQn, BQn, mQn, dQn, MQn, qQn, eQn, spQn, wQn, tQn, kQn, LQn, lQn, lcQn, TQn, rQn, tcQn, rfl⟩ : ∃ (sQn : ByteArray) (AQn : Option Addr) (nQn cQn : Nat) (BQn : Option Addr) (mQn dQn : Nat) (MQn : Option Addr) (qQn eQn : Nat) (spQn wQn tQn kQn : Int) (LQn : Option Addr) (lQn lcQn : Nat) (TQn : Option Addr) (rQn tcQn : Nat), v' = .agg #[.string sQn, .slice AQn nQn cQn, .slice BQn mQn dQn, .slice MQn qQn eQn, .int .i64 spQn, .int .i64 wQn, .int .i64 tQn, .int .i64 kQn, .slice LQn lQn lcQn, .slice TQn rQn tcQn] := by
            cases hq : keyYes (keyN X sx j) (byt sx j)
            · exact ⟨sQ, AQ, nQ, cQ, BQ, mQ, dQ, MQ, qQ, eQ, spQ, wQ, tQ, kQ, LQ, lQ, lcQ, TQ, rQ, tcQ, hno hq⟩
            · exact (hyy hq).form
          have P7 := Lib.hid (P6.out.below hb7 (by omega))
          have D7 := Lib.hid (D6.out.trans (hb7.mono (by omega)))
          have sz7 : w6.heap.size ≤ w7.heap.size := hb7.size
          clear P6 V6 D6
          have M7 : Hid ((keyYes (keyN X sx j) (byt sx j) = true → MchV w7 w6.heap.size w7.heap.size (.agg #[.string sQn, .slice AQn nQn cQn, .slice BQn mQn dQn, .slice MQn qQn eQn, .int .i64 spQn, .int .i64 wQn, .int .i64 tQn, .int .i64 kQn, .slice LQn lQn lcQn, .slice TQn rQn tcQn]) (keyX (keyN X sx j) (byt sx j)))) := hyy
          clear hyy hno
          refine hK.out _ _ ⟨cellOfBlk P7.out 0, cellOfBlk P7.out 1, cellOfBlk P7.out 2, cellOfBlk P7.out 3, cellOfBlk P7.out 4, cellOfBlk P7.out 5, cellOfBlk P7.out 6, cellOfBlk P7.out 7, cellOfBlk P7.out 8, cellOfBlk P7.out 9⟩ ?_
          clear hK Kc
          iterate 3 (refine plan_quiet rfl (by rfl) (v := ?_) ?_ ?_; rotate_left; (intro w1 hSw; obtain ⟨hs0, hs1, hs2, hs3, hs4, hs5, hs6, hs7, hs8, hs9⟩ := hSw; go_simp; try (with_reducible rfl)); (try simp only [Act.put, List.setIfInBounds_toArray, List.set_cons_zero, List.set_cons_succ]))
          refine plan_step rfl (fun Kc hK => ?_)
          rw [if_pos (by rfl)]
          go_simp
          obtain ⟨w8, hw8, hb8, hz8, hX8⟩ := mxWorld w7 #[.string ⟨#[]⟩, .slice none 0 0, .slice none 0 0, .slice none 0 0, .int .i64 0, .int .i64 0, .int .i64 0, .int .i64 0, .slice none 0 0, .slice none 0 0] 37
          have P8 := Lib.hid (P7.out.below hb8 (by omega))
          have D8 := Lib.hid (D7.out.trans (hb8.mono (by omega)))
          have M8 := Lib.hid (fun h9 => (M7.out h9).below (by omega) hb8)
          have sz8 : w7.heap.size ≤ w8.heap.size := hb8.size
          clear P7 D7 M7
          have Z8 : Hid (Blk w8 (w7.heap.size) #[.string ⟨#[]⟩, .slice none 0 0, .slice none 0 0, .slice none 0 0, .int .i64 0, .int .i64 0, .int .i64 0, .int .i64 0, .slice none 0 0, .slice none 0 0] 37) := by show Blk _ _ _ _; exact hX8
          have hzl : w7.heap.size < w8.heap.size := by omega
          rw [hw8]
          clear hw8 hz8 hX8 hb8
          refine hK.out _ _ ⟨cellOfBlk P8.out 0, cellOfBlk P8.out 1, cellOfBlk P8.out 2, cellOfBlk P8.out 3, cellOfBlk P8.out 4, cellOfBlk P8.out 5, cellOfBlk P8.out 6, cellOfBlk P8.out 7, cellOfBlk P8.out 8, cellOfBlk P8.out 9⟩ ?_
          clear hK Kc
          have z0 := cellOfBlk Z8.out 0
          have z1 := cellOfBlk Z8.out 1
          have z2 := cellOfBlk Z8.out 2
          have z3 := cellOfBlk Z8.out 3
          have z4 := cellOfBlk Z8.out 4
          have z5 := cellOfBlk Z8.out 5
          have z6 := cellOfBlk Z8.out 6
          have z7 := cellOfBlk Z8.out 7
          have z8 := cellOfBlk Z8.out 8
          have z9 := cellOfBlk Z8.out 9
          have fz := Z8.out.warm
          refine plan_step rfl (fun Kc hK => ?_)
          rw [if_pos (by rfl)]
          go_simp
          clear fz z0 z1 z2 z3 z4 z5 z6 z7 z8 z9
          have hZ9 := Z8.out.fill (.string sQn) (.slice AQn nQn cQn) (.slice BQn mQn dQn) (.slice MQn qQn eQn) (.int .i64 spQn) (.int .i64 wQn) (.int .i64 tQn) (.int .i64 kQn) (.slice LQn lQn lcQn) (.slice TQn rQn tcQn)
          have hc9 := chg_ten w8 (w7.heap.size) (.string sQn) (.slice AQn nQn cQn) (.slice BQn mQn dQn) (.slice MQn qQn eQn) (.int .i64 spQn) (.int .i64 wQn) (.int .i64 tQn) (.int .i64 kQn) (.slice LQn lQn lcQn) (.slice TQn rQn tcQn)
          obtain ⟨w9, hw9⟩ : ∃ x, ((((((((((w8.setCell ⟨w7.heap.size, 0, none⟩ (.string sQn)).setCell ⟨w7.heap.size, 1, none⟩ (.slice AQn nQn cQn)).setCell ⟨w7.heap.size, 2, none⟩ (.slice BQn mQn dQn)).setCell ⟨w7.heap.size, 3, none⟩ (.slice MQn qQn eQn)).setCell ⟨w7.heap.size, 4, none⟩ (.int .i64 spQn)).setCell ⟨w7.heap.size, 5, none⟩ (.int .i64 wQn)).setCell ⟨w7.heap.size, 6, none⟩ (.int .i64 tQn)).setCell ⟨w7.heap.size, 7, none⟩ (.int .i64 kQn)).setCell ⟨w7.heap.size, 8, none⟩ (.slice LQn lQn lcQn)).setCell ⟨w7.heap.size, 9, none⟩ (.slice TQn rQn tcQn)) = x := ⟨_, rfl⟩
          rw [hw9] at hZ9 hc9 ⊢
          clear hw9
          have P9 := Lib.hid (P8.out.chg hc9 (by omega))
          have D9 : Hid (Below w5.heap.size w5 w9) := D8.out.trans ((hc9.below (by omega)).mono (by omega))
          have M9 : Hid (keyYes (keyN X sx j) (byt sx j) = true → MchV w9 w6.heap.size w7.heap.size (.agg #[.string sQn, .slice AQn nQn cQn, .slice BQn mQn dQn, .slice MQn qQn eQn, .int .i64 spQn, .int .i64 wQn, .int .i64 tQn, .int .i64 kQn, .slice LQn lQn lcQn, .slice TQn rQn tcQn]) (keyX (keyN X sx j) (byt sx j))) := fun h9 => (M8.out h9).chg hc9 (by omega) (by omega)
          have sz9 := hc9.size
          refine hK.out _ _ ⟨cellOfBlk P9.out 0, cellOfBlk P9.out 1, cellOfBlk P9.out 2, cellOfBlk P9.out 3, cellOfBlk P9.out 4, cellOfBlk P9.out 5, cellOfBlk P9.out 6, cellOfBlk P9.out 7, cellOfBlk P9.out 8, cellOfBlk P9.out 9⟩ ?_
          clear hK Kc
          refine plan_step rfl (fun Kc hK => ?_)
          rw [if_pos (by rfl)]
          go_simp
          refine hK.out _ _ ⟨cellOfBlk P9.out 0, cellOfBlk P9.out 1, cellOfBlk P9.out 2, cellOfBlk P9.out 3, cellOfBlk P9.out 4, cellOfBlk P9.out 5, cellOfBlk P9.out 6, cellOfBlk P9.out 7, cellOfBlk P9.out 8, cellOfBlk P9.out 9⟩ ?_
          clear hK Kc
          refine plan_end ?_
          refine ⟨rfl, sQn, AQn, nQn, cQn, BQn, mQn, dQn, MQn, qQn, eQn, spQn, wQn, tQn, kQn, LQn, lQn, lcQn, TQn, rQn, tcQn, w7.heap.size, w6.heap.size, w7.heap.size, ?_, hZ9, M9.out, by omega, by omega, by omega, D9.out⟩
          first | rfl | (simp only [Act.put, List.setIfInBounds_toArray, List.set_cons_zero, List.set_cons_succ])
        · rw [if_pos (by rfl)]
          go_simp
          obtain ⟨w7, hw7, hb7, hz7, hX7⟩ := mxWorld w6 #[.string ⟨#[]⟩, .slice none 0 0, .slice none 0 0, .slice none 0 0, .int .i64 0, .int .i64 0, .int .i64 0, .int .i64 0, .slice none 0 0, .slice none 0 0] 37
          have P7 := Lib.hid (P6.out.below hb7 (by omega))
          have V7 := Lib.hid (V6.out.below (by omega) hb7)
          have D7 := Lib.hid (D6.out.trans (hb7.mono (by omega)))
          have sz7 : w6.heap.size ≤ w7.heap.size := hb7.size
          clear P6 V6 D6
          have Z7 : Hid (Blk w7 (w6.heap.size) #[.string ⟨#[]⟩, .slice none 0 0, .slice none 0 0, .slice none 0 0, .int .i64 0, .int .i64 0, .int .i64 0, .int .i64 0, .slice none 0 0, .slice none 0 0] 37) := by show Blk _ _ _ _; exact hX7
          have hzl : w6.heap.size < w7.heap.size := by omega
          rw [hw7]
          clear hw7 hz7 hX7 hb7
          refine hK.out _ _ ⟨cellOfBlk P7.out 0, cellOfBlk P7.out 1, cellOfBlk P7.out 2, cellOfBlk P7.out 3, cellOfBlk P7.out 4, cellOfBlk P7.out 5, cellOfBlk P7.out 6, cellOfBlk P7.out 7, cellOfBlk P7.out 8, cellOfBlk P7.out 9⟩ ?_
          clear hK Kc
          refine plan_step rfl (fun Kc hK => ?_)
          rw [if_pos (by rfl)]
          go_simp
          rw [hwi.out]
          refine (specL5K_any g0 g1 _ (keyN X sx j) (byt sx j) w7 V7.out (by omega) HMJ.out (keyN_wf HWF.out j)).mono ?_
          rintro e w8 ⟨v', rfl, hno, hyy, hb8⟩
          obtain ⟨sQn, AQn, nQn, cQn, BQn, mQn, dQn, MQn, qQn, eQn, spQn, wQn, tQn, kQn, LQn, lQn, lcQn, TQn, rQn, tcQn, rfl⟩ : ∃ (sQn : ByteArray) (AQn : Option Addr) (nQn cQn : Nat) (BQn : Option Addr) (mQn dQn : Nat) (MQn : Option Addr) (qQn eQn : Nat) (spQn wQn tQn kQn : Int) (LQn : Option Addr) (lQn lcQn : Nat) (TQn : Option Addr) (rQn tcQn : Nat), v' = .agg #[.string sQn, .slice AQn nQn cQn, .slice BQn mQn dQn, .slice MQn qQn eQn, .int .i64 spQn, .int .i64 wQn, .int .i64 tQn, .int .i64 kQn, .slice LQn lQn lcQn, .slice TQn rQn tcQn] := by
            cases hq : keyYes (keyN X sx j) (byt sx j)
            · exact ⟨sQ, AQ, nQ, cQ, BQ, mQ, dQ, MQ, qQ, eQ, spQ, wQ, tQ, kQ, LQ, lQ, lcQ, TQ, rQ, tcQ, hno hq⟩
            · exact (hyy hq).form
          have P8 := Lib.hid (P7.out.below hb8 (by omega))
          have D8 := Lib.hid (D7.out.trans (hb8.mono (by omega)))
          have Z8 := Lib.hid (Z7.out.below hb8 (by omega))
          have sz8 : w7.heap.size ≤ w8.heap.size := hb8.size
          clear P7 V7 D7 Z7
          have M8 : Hid ((keyYes (keyN X sx j) (byt sx j) = true → MchV w8 w7.heap.size w8.heap.size (.agg #[.string sQn, .slice AQn nQn cQn, .slice BQn mQn dQn, .slice MQn qQn eQn, .int .i64 spQn, .int .i64 wQn, .int .i64 tQn, .int .i64 kQn, .slice LQn lQn lcQn, .slice TQn rQn tcQn]) (keyX (keyN X sx j) (byt sx j)))) := hyy
          clear hyy hno
          refine hK.out _ _ ⟨cellOfBlk P8.out 0, cellOfBlk P8.out 1, cellOfBlk P8.out 2, cellOfBlk P8.out 3, cellOfBlk P8.out 4, cellOfBlk P8.out 5, cellOfBlk P8.out 6, cellOfBlk P8.out 7, cellOfBlk P8.out 8, cellOfBlk P8.out 9⟩ ?_
          clear hK Kc
          iterate 3 (refine plan_quiet rfl (by rfl) (v := ?_) ?_ ?_; rotate_left; (intro w1 hSw; obtain ⟨hs0, hs1, hs2, hs3, hs4, hs5, hs6, hs7, hs8, hs9⟩ := hSw; go_simp; try (with_reducible rfl)); (try simp only [Act.put, List.setIfInBounds_toArray, List.set_cons_zero, List.set_cons_succ]))
          have z0 := cellOfBlk Z8.out 0
          have z1 := cellOfBlk Z8.out 1
          have z2 := cellOfBlk Z8.out 2
          have z3 := cellOfBlk Z8.out 3
          have z4 := cellOfBlk Z8.out 4
          have z5 := cellOfBlk Z8.out 5
          have z6 := cellOfBlk Z8.out 6
          have z7 := cellOfBlk Z8.out 7
          have z8 := cellOfBlk Z8.out 8
          have z9 := cellOfBlk Z8.out 9
          have fz := Z8.out.warm
          refine plan_step rfl (fun Kc hK => ?_)
          rw [if_pos (by rfl)]
          go_simp
          clear fz z0 z1 z2 z3 z4 z5 z6 z7 z8 z9
          have hZ9 := Z8.out.fill (.string sQn) (.slice AQn nQn cQn) (.slice BQn mQn dQn) (.slice MQn qQn eQn) (.int .i64 spQn) (.int .i64 wQn) (.int .i64 tQn) (.int .i64 kQn) (.slice LQn lQn lcQn) (.slice TQn rQn tcQn)
          have hc9 := chg_ten w8 (w6.heap.size) (.string sQn) (.slice AQn nQn cQn) (.slice BQn mQn dQn) (.slice MQn qQn eQn) (.int .i64 spQn) (.int .i64 wQn) (.int .i64 tQn) (.int .i64 kQn) (.slice LQn lQn lcQn) (.slice TQn rQn tcQn)
          obtain ⟨w9, hw9⟩ : ∃ x, ((((((((((w8.setCell ⟨w6.heap.size, 0, none⟩ (.string sQn)).setCell ⟨w6.heap.size, 1, none⟩ (.slice AQn nQn cQn)).setCell ⟨w6.heap.size, 2, none⟩ (.slice BQn mQn dQn)).setCell ⟨w6.heap.size, 3, none⟩ (.slice MQn qQn eQn)).setCell ⟨w6.heap.size, 4, none⟩ (.int .i64 spQn)).setCell ⟨w6.heap.size, 5, none⟩ (.int .i64 wQn)).setCell ⟨w6.heap.size, 6, none⟩ (.int .i64 tQn)).setCell ⟨w6.heap.size, 7, none⟩ (.int .i64 kQn)).setCell ⟨w6.heap.size, 8, none⟩ (.slice LQn lQn lcQn)).setCell ⟨w6.heap.size, 9, none⟩ (.slice TQn rQn tcQn)) = x := ⟨_, rfl⟩
          rw [hw9] at hZ9 hc9 ⊢
          clear hw9
          have P9 := Lib.hid (P8.out.chg hc9 (by omega))
          have D9 : Hid (Below w5.heap.size w5 w9) := D8.out.trans ((hc9.below (by omega)).mono (by omega))
          have M9 : Hid (keyYes (keyN X sx j) (byt sx j) = true → MchV w9 w7.heap.size w8.heap.size (.agg #[.string sQn, .slice AQn nQn cQn, .slice BQn mQn dQn, .slice MQn qQn eQn, .int .i64 spQn, .int .i64 wQn, .int .i64 tQn, .int .i64 kQn, .slice LQn lQn lcQn, .slice TQn rQn tcQn]) (keyX (keyN X sx j) (byt sx j))) := fun h9 => (M8.out h9).chg hc9 (by omega) (by omega)
          have sz9 := hc9.size
          refine hK.out _ _ ⟨cellOfBlk P9.out 0, cellOfBlk P9.out 1, cellOfBlk P9.out 2, cellOfBlk P9.out 3, cellOfBlk P9.out 4, cellOfBlk P9.out 5, cellOfBlk P9.out 6, cellOfBlk P9.out 7, cellOfBlk P9.out 8, cellOfBlk P9.out 9⟩ ?_
          clear hK Kc
          refine plan_step rfl (fun Kc hK => ?_)
          rw [if_pos (by rfl)]
          go_simp
          refine hK.out _ _ ⟨cellOfBlk P9.out 0, cellOfBlk P9.out 1, cellOfBlk P9.out 2, cellOfBlk P9.out 3, cellOfBlk P9.out 4, cellOfBlk P9.out 5, cellOfBlk P9.out 6, cellOfBlk P9.out 7, cellOfBlk P9.out 8, cellOfBlk P9.out 9⟩ ?_
          clear hK Kc
          refine plan_end ?_
          refine ⟨rfl, sQn, AQn, nQn, cQn, BQn, mQn, dQn, MQn, qQn, eQn, spQn, wQn, tQn, kQn, LQn, lQn, lcQn, TQn, rQn, tcQn, w6.heap.size, w7.heap.size, w8.heap.size, ?_, hZ9, M9.out, by omega, by omega, by omega, D9.out⟩
          first | rfl | (simp only [Act.put, List.setIfInBounds_toArray, List.set_cons_zero, List.set_cons_succ])
      rintro a' w6 ⟨sQn, AQn, nQn, cQn, BQn, mQn, dQn, MQn, qQn, eQn, spQn, wQn, tQn, kQn, LQn, lQn, lcQn, TQn, rQn, tcQn, zb, x9, z9, rfl, hZ, hM9, hx1, hx2, hx3, hb6⟩
      simp only [Act.put, List.setIfInBounds_toArray, List.set_cons_zero, List.set_cons_succ]
      have HZ := Lib.hid hZ; have HM9 := Lib.hid hM9
      clear hZ hM9
      have P6 := Lib.hid (P5.out.below hb6 (by omega))
      have R6 := Lib.hid (R5.out.below hb6 (by omega))
      have T6 := Lib.hid (T5.out.trans (hb6.mono (by omega)))
      have V6 := Lib.hid (V5.out.below (by omega) hb6)
      have sz6 : w5.heap.size ≤ w6.heap.size := hb6.size
      clear P5 R5 T5 V5
      cases hyes : keyYes (keyN X sx j) (byt sx j)
      · have p0 := cellOfBlk P6.out 0
        have p1 := cellOfBlk P6.out 1
        have p2 := cellOfBlk P6.out 2
        have p3 := cellOfBlk P6.out 3
        have p4 := cellOfBlk P6.out 4
        have p5 := cellOfBlk P6.out 5
        have p6 := cellOfBlk P6.out 6
        have p7 := cellOfBlk P6.out 7
        have p8 := cellOfBlk P6.out 8
        have p9 := cellOfBlk P6.out 9
        have r0 := cellOfBlk R6.out 0
        have r1 := cellOfBlk R6.out 1
        have r2 := cellOfBlk R6.out 2
        have r3 := cellOfBlk R6.out 3
        have r4 := cellOfBlk R6.out 4
        have r5 := cellOfBlk R6.out 5
        have r6 := cellOfBlk R6.out 6
        have r7 := cellOfBlk R6.out 7
        have r8 := cellOfBlk R6.out 8
        have r9 := cellOfBlk R6.out 9
        have ff := R6.out.warm
        go_wp2
        have hR := R6.out.fill (.string sQ) (.slice AQ nQ cQ) (.slice BQ mQ dQ) (.slice MQ qQ eQ) (.int .i64 spQ) (.int .i64 wQ) (.int .i64 tQ) (.int .i64 kQ) (.slice LQ lQ lcQ) (.slice TQ rQ tcQ)
        have hc9 := chg_ten w6 (w0.heap.size + 1) (.string sQ) (.slice AQ nQ cQ) (.slice BQ mQ dQ) (.slice MQ qQ eQ) (.int .i64 spQ) (.int .i64 wQ) (.int .i64 tQ) (.int .i64 kQ) (.slice LQ lQ lcQ) (.slice TQ rQ tcQ)
        obtain ⟨w9, hw9⟩ : ∃ x, ((((((((((w6.setCell ⟨w0.heap.size + 1, 0, none⟩ (.string sQ)).setCell ⟨w0.heap.size + 1, 1, none⟩ (.slice AQ nQ cQ)).setCell ⟨w0.heap.size + 1, 2, none⟩ (.slice BQ mQ dQ)).setCell ⟨w0.heap.size + 1, 3, none⟩ (.slice MQ qQ eQ)).setCell ⟨w0.heap.size + 1, 4, none⟩ (.int .i64 spQ)).setCell ⟨w0.heap.size + 1, 5, none⟩ (.int .i64 wQ)).setCell ⟨w0.heap.size + 1, 6, none⟩ (.int .i64 tQ)).setCell ⟨w0.heap.size + 1, 7, none⟩ (.int .i64 kQ)).setCell ⟨w0.heap.size + 1, 8, none⟩ (.slice LQ lQ lcQ)).setCell ⟨w0.heap.size + 1, 9, none⟩ (.slice TQ rQ tcQ)) = x := ⟨_, rfl⟩
        rw [hw9] at hR hc9
        (try rw [hw9])
        clear hw9 r0 r1 r2 r3 r4 r5 r6 r7 r8 r9
        have r0 := cellOfBlk hR 0
        have r1 := cellOfBlk hR 1
        have r2 := cellOfBlk hR 2
        have r3 := cellOfBlk hR 3
        have r4 := cellOfBlk hR 4
        have r5 := cellOfBlk hR 5
        have r6 := cellOfBlk hR 6
        have r7 := cellOfBlk hR 7
        have r8 := cellOfBlk hR 8
        have r9 := cellOfBlk hR 9
        (try simp only [Exit.inBlock, Exit.then])
        clear p0 p1 p2 p3 p4 p5 p6 p7 p8 p9
        refine bodyPost_ret (v := .tuple #[.agg #[.string sQ, .slice AQ nQ cQ, .slice BQ mQ dQ, .slice MQ qQ eQ, .int .i64 spQ, .int .i64 wQ, .int .i64 tQ, .int .i64 kQ, .slice LQ lQ lcQ, .slice TQ rQ tcQ], .int .i64 ((j : Int))]) (by simp [results, Tryz.results19, go_sem, r0, r1, r2, r3, r4, r5, r6, r7, r8, r9]) rfl ?_
        exact ⟨_, _, _, rfl, .inr ⟨HYES.out, j, ⟨K3.out, .inr hyes⟩, rfl, rfl⟩, (V6.out.chg hc9 (by omega) (by omega)).wide (by omega) (by have := hc9.size; omega), T6.out.trans ((hc9.below (by omega)).mono (by omega))⟩
      · have p0 := cellOfBlk P6.out 0
        have p1 := cellOfBlk P6.out 1
        have p2 := cellOfBlk P6.out 2
        have p3 := cellOfBlk P6.out 3
        have p4 := cellOfBlk P6.out 4
        have p5 := cellOfBlk P6.out 5
        have p6 := cellOfBlk P6.out 6
        have p7 := cellOfBlk P6.out 7
        have p8 := cellOfBlk P6.out 8
        have p9 := cellOfBlk P6.out 9
        have fp := P6.out.warm
        have z0 := cellOfBlk HZ.out 0
        have z1 := cellOfBlk HZ.out 1
        have z2 := cellOfBlk HZ.out 2
        have z3 := cellOfBlk HZ.out 3
        have z4 := cellOfBlk HZ.out 4
        have z5 := cellOfBlk HZ.out 5
        have z6 := cellOfBlk HZ.out 6
        have z7 := cellOfBlk HZ.out 7
        have z8 := cellOfBlk HZ.out 8
        have z9 := cellOfBlk HZ.out 9
        go_wp2
        clear fp p0 z0 p1 z1 p2 z2 p3 z3 p4 z4 p5 z5 p6 z6 p7 z7 p8 z8 p9 z9
        have hP := P6.out.fill (.string sQn) (.slice AQn nQn cQn) (.slice BQn mQn dQn) (.slice MQn qQn eQn) (.int .i64 spQn) (.int .i64 wQn) (.int .i64 tQn) (.int .i64 kQn) (.slice LQn lQn lcQn) (.slice TQn rQn tcQn)
        have hc9 := chg_ten w6 w0.heap.size (.string sQn) (.slice AQn nQn cQn) (.slice BQn mQn dQn) (.slice MQn qQn eQn) (.int .i64 spQn) (.int .i64 wQn) (.int .i64 tQn) (.int .i64 kQn) (.slice LQn lQn lcQn) (.slice TQn rQn tcQn)
        obtain ⟨u3, hu3⟩ : ∃ x, ((((((((((w6.setCell ⟨w0.heap.size, 0, none⟩ (.string sQn)).setCell ⟨w0.heap.size, 1, none⟩ (.slice AQn nQn cQn)).setCell ⟨w0.heap.size, 2, none⟩ (.slice BQn mQn dQn)).setCell ⟨w0.heap.size, 3, none⟩ (.slice MQn qQn eQn)).setCell ⟨w0.heap.size, 4, none⟩ (.int .i64 spQn)).setCell ⟨w0.heap.size, 5, none⟩ (.int .i64 wQn)).setCell ⟨w0.heap.size, 6, none⟩ (.int .i64 tQn)).setCell ⟨w0.heap.size, 7, none⟩ (.int .i64 kQn)).setCell ⟨w0.heap.size, 8, none⟩ (.slice LQn lQn lcQn)).setCell ⟨w0.heap.size, 9, none⟩ (.slice TQn rQn tcQn)) = x := ⟨_, rfl⟩
        rw [hu3] at hP hc9
        (try rw [hu3])
        clear hu3
        have hzu3 := hc9.size
        have hK9 : KeyAt X sx (j + 1) := ⟨by omega, fun i hi => by
          by_cases e : i = j
          · subst e; exact hyes
          · exact K3.out.2 i (by omega)⟩
        exact ⟨⟨sQn, AQn, nQn, cQn, BQn, mQn, dQn, MQn, qQn, eQn, spQn, wQn, tQn, kQn, LQn, lQn, lcQn, TQn, rQn, tcQn, x9, z9, j + 1, by omega, by go_num, Lib.hid hP, Lib.hid (R6.out.chg hc9 (by omega)), Lib.hid (T6.out.trans ((hc9.below (by omega)).mono (by omega))), Lib.hid ((HM9.out hyes).chg hc9 (by omega) (by omega)), Lib.hid hK9, by omega, by omega⟩, by simp [intOf]; omega⟩
    · have hji : decide ((j : Int) < (sx.size : Int)) = false := by simp; omega
      have hjn : sx.size = j := by omega
      have p0 := cellOfBlk P5.out 0
      have p1 := cellOfBlk P5.out 1
      have p2 := cellOfBlk P5.out 2
      have p3 := cellOfBlk P5.out 3
      have p4 := cellOfBlk P5.out 4
      have p5 := cellOfBlk P5.out 5
      have p6 := cellOfBlk P5.out 6
      have p7 := cellOfBlk P5.out 7
      have p8 := cellOfBlk P5.out 8
      have p9 := cellOfBlk P5.out 9
      have r0 := cellOfBlk R5.out 0
      have r1 := cellOfBlk R5.out 1
      have r2 := cellOfBlk R5.out 2
      have r3 := cellOfBlk R5.out 3
      have r4 := cellOfBlk R5.out 4
      have r5 := cellOfBlk R5.out 5
      have r6 := cellOfBlk R5.out 6
      have r7 := cellOfBlk R5.out 7
      have r8 := cellOfBlk R5.out 8
      have r9 := cellOfBlk R5.out 9
      have HJN := Lib.hid hjn
      clear hjn
      have ff := R5.out.warm
      go_wp2
      have hR := R5.out.fill (.string sQ) (.slice AQ nQ cQ) (.slice BQ mQ dQ) (.slice MQ qQ eQ) (.int .i64 spQ) (.int .i64 wQ) (.int .i64 tQ) (.int .i64 kQ) (.slice LQ lQ lcQ) (.slice TQ rQ tcQ)
      have hc9 := chg_ten w5 (w0.heap.size + 1) (.string sQ) (.slice AQ nQ cQ) (.slice BQ mQ dQ) (.slice MQ qQ eQ) (.int .i64 spQ) (.int .i64 wQ) (.int .i64 tQ) (.int .i64 kQ) (.slice LQ lQ lcQ) (.slice TQ rQ tcQ)
      obtain ⟨w9, hw9⟩ : ∃ x, ((((((((((w5.setCell ⟨w0.heap.size + 1, 0, none⟩ (.string sQ)).setCell ⟨w0.heap.size + 1, 1, none⟩ (.slice AQ nQ cQ)).setCell ⟨w0.heap.size + 1, 2, none⟩ (.slice BQ mQ dQ)).setCell ⟨w0.heap.size + 1, 3, none⟩ (.slice MQ qQ eQ)).setCell ⟨w0.heap.size + 1, 4, none⟩ (.int .i64 spQ)).setCell ⟨w0.heap.size + 1, 5, none⟩ (.int .i64 wQ)).setCell ⟨w0.heap.size + 1, 6, none⟩ (.int .i64 tQ)).setCell ⟨w0.heap.size + 1, 7, none⟩ (.int .i64 kQ)).setCell ⟨w0.heap.size + 1, 8, none⟩ (.slice LQ lQ lcQ)).setCell ⟨w0.heap.size + 1, 9, none⟩ (.slice TQ rQ tcQ)) = x := ⟨_, rfl⟩
      rw [hw9] at hR hc9
      (try rw [hw9])
      clear hw9 r0 r1 r2 r3 r4 r5 r6 r7 r8 r9
      have r0 := cellOfBlk hR 0
      have r1 := cellOfBlk hR 1
      have r2 := cellOfBlk hR 2
      have r3 := cellOfBlk hR 3
      have r4 := cellOfBlk hR 4
      have r5 := cellOfBlk hR 5
      have r6 := cellOfBlk hR 6
      have r7 := cellOfBlk hR 7
      have r8 := cellOfBlk hR 8
      have r9 := cellOfBlk hR 9
      (try simp only [Exit.inBlock, Exit.then])
      clear p0 p1 p2 p3 p4 p5 p6 p7 p8 p9
      refine bodyPost_ret (v := .tuple #[.agg #[.string sQ, .slice AQ nQ cQ, .slice BQ mQ dQ, .slice MQ qQ eQ, .int .i64 spQ, .int .i64 wQ, .int .i64 tQ, .int .i64 kQ, .slice LQ lQ lcQ, .slice TQ rQ tcQ], .int .i64 (sx.size : Int)]) (by simp [results, Tryz.results19, go_sem, r0, r1, r2, r3, r4, r5, r6, r7, r8, r9]) rfl ?_
      exact ⟨_, _, _, rfl, .inr ⟨HYES.out, j, ⟨K3.out, .inl HJN.out.symm⟩, by rw [HJN.out], rfl⟩, (V5.out.chg hc9 (by omega) (by omega)).wide (by omega) (by have := hc9.size; omega), T5.out.trans ((hc9.below (by omega)).mono (by omega))⟩
theorem specKey_any (lo hi0 : Nat) (v : Value) (X : Mch) (sx : ByteArray) (w : World) (h : MchV w lo hi0 v X) (hhi : hi0 ≤ w.heap.size) (hs : SmallX X) (wf : WfX X) (hsx : sx.size ≤ maxLen) :
    Calls Tryz.prog 19 #[v, .string sx] w fun e w' => ∃ v' n Y, e = .returned (.tuple #[v', .int .i64 n]) ∧ KeyRes X sx n Y ∧ MchV w' w.heap.size w'.heap.size v' Y ∧ Below w.heap.size w w' := by
  cases hm : machB X
  · exact specKey_no lo hi0 v X sx w h hhi hs wf hsx hm
  · exact specKey_yes lo hi0 v X sx w h hhi hs wf hsx hm
end Go.Proofs.YtimhnkpccbcohaaGreatDoor

namespace Go.Proofs.YtimhnkpccbcohaaGreatDoor
open Go.RowKit Go.Conc
set_option linter.unusedVariables false
set_option linter.unusedSimpArgs false

theorem keyRes_lim {X Y : Mch} {s : ByteArray} {n : Int} (h : KeyRes X s n Y) : Y.big ≤ 1048575 := by
  rcases h with ⟨-, -, rfl⟩ | ⟨h1, j, h2, -, rfl⟩
  · exact zeroX_big
  · obtain ⟨b1, b2, b3, b4, b5⟩ := mach_big (keyN_mach h1 j h2.1)
    exact big_lim b1 b2 b3 b4 b5
set_option maxRecDepth 100000 in
set_option maxHeartbeats 6400000 in
theorem fnExactKeyText_walk (lo hi : Nat) (v : Value) (X : Mch) (tt9 : ByteArray) (w : World) (h : MchV w lo hi v X) (hhi : hi ≤ w.heap.size) (wf : WfX X) (htt : tt9.size ≤ maxLen) (er9 : Errs) (hE : ErrsAt w w.heap.size er9) (hH : ErrH w) :
    Calls Tryz.prog 5 #[v, .string tt9] w fun e w' => e = .returned (.bool true) ∧ Below w.heap.size w w' := by
  obtain ⟨s, A, n, c, B, m, d, M, q, e, sp, W, t, k, L, l, f, T, r, g, rfl⟩ := h.form
  have HWf := Lib.hid wf
  obtain ⟨w0, hw0, hb0, hz0, K0⟩ := mxWorld w #[.string s, .slice A n c, .slice B m d, .slice M q e, .int .i64 sp, .int .i64 W, .int .i64 t, .int .i64 k, .slice L l f, .slice T r g] 30
  have P0 := Lib.hid K0; have T0 := Lib.hid hb0; have V0 := Lib.hid (h.below hhi hb0)
  have s0 : w.heap.size < w0.heap.size := K0.lt
  obtain ⟨Pc0, Pc1, Pc2, Pc3, Pc4, Pc5, Pc6, Pc7, Pc8, Pc9⟩ := P0.out.ten
  have hHl : 2 < w.heap.size := World.block_lt_of_cell? _ _ hH
  have E_0 : Hid (ErrsAt w0 w.heap.size er9) := hE.below hb0 (Nat.le_refl _)
  have H_0 : Hid (ErrH w0) := (hb0.cell (p := ⟨2, 0, none⟩) (by show 2 < _; exact hHl)).trans hH
  clear h hb0 hz0 K0 wf hE hH
  have hszm := htt
  unfold maxLen at hszm
  by_cases hbt : 1048576 < tt9.size
  · have hl0 : decide ((1048576 : Int) < (tt9.size : Int)) = true := decide_eq_true (by omega)
    go_enter Tryz.func5, Tryz.ntmps5
    go_wp2
    go_ret
    exact ⟨rfl, T0.out⟩
  have hl0 : decide ((1048576 : Int) < (tt9.size : Int)) = false := decide_eq_false (by omega)
  by_cases hbig : (1048576 : Int) < X.big
  · have Hk := Lib.hid (takeOff_bad hbig)
    go_enter Tryz.func5, Tryz.ntmps5
    go_wp2_with fail
    clear hw0
    refine (szMachine_any lo hi _ X _ w0 V0.out (by omega) (by omega) (by omega)).mono ?_
    rintro e w1 ⟨rfl, hb1⟩
    rw [Hk.out]
    have T1 := Lib.hid (T0.out.trans (hb1.mono (by omega)))
    clear hb1 Pc0 Pc1 Pc2 Pc3 Pc4 Pc5 Pc6 Pc7 Pc8 Pc9
    go_wp2
    go_ret
    exact ⟨rfl, T1.out⟩
  have Hk := Lib.hid (takeOff_good hbig)
  have hb20 : X.big ≤ 1048576 := by omega
  have HS := Lib.hid (big_smallX hb20)
  have hk0 : decide (1048576 - (X.big : Int) < 0) = false := decide_eq_false (by omega)
  go_enter Tryz.func5, Tryz.ntmps5
  go_wp2_with fail
  clear hw0
  refine (szMachine_any lo hi _ X _ w0 V0.out (by omega) (by omega) (by omega)).mono ?_
  rintro e w1 ⟨rfl, hb⟩
  rw [Hk.out]
  clear Pc0 Pc1 Pc2 Pc3 Pc4 Pc5 Pc6 Pc7 Pc8 Pc9
  have s1 : w0.heap.size ≤ w1.heap.size := hb.size
  have P1 := Lib.hid (P0.out.below hb (by omega))
  have T1 := Lib.hid (T0.out.trans (hb.mono (by omega)))
  have V1 := Lib.hid (V0.out.below (by omega) hb)
  have E_1 := Lib.hid (E_0.out.below hb (by omega))
  have H_1 := Lib.hid ((hb.cell (p := ⟨2, 0, none⟩) (by show 2 < _; omega)).trans H_0.out)
  clear P0 T0 V0 E_0 H_0
  clear hb
  have yP_1 : w.heap.size < w1.heap.size := by omega
  obtain ⟨Pc0, Pc1, Pc2, Pc3, Pc4, Pc5, Pc6, Pc7, Pc8, Pc9⟩ := P1.out.ten
  go_wp2_with fail
  refine (toMachine_any lo hi _ X w1 V1.out (by omega) HS.out).mono ?_
  rintro e w2 ⟨vs, rfl, hO, hb⟩
  obtain ⟨ss, As, ns, cs, Bs, ms, ds, Ms, qs, es, sps, Ws, ts, ks, Ls, ls, fs, Ts, rs, gs, rfl⟩ := hO.reads.form
  clear Pc0 Pc1 Pc2 Pc3 Pc4 Pc5 Pc6 Pc7 Pc8 Pc9
  have s2 : w1.heap.size ≤ w2.heap.size := hb.size
  have P2 := Lib.hid (P1.out.below hb (by omega))
  have T2 := Lib.hid (T1.out.trans (hb.mono (by omega)))
  have V2 := Lib.hid (V1.out.below (by omega) hb)
  have E_2 := Lib.hid (E_1.out.below hb (by omega))
  have H_2 := Lib.hid ((hb.cell (p := ⟨2, 0, none⟩) (by show 2 < _; omega)).trans H_1.out)
  clear P1 T1 V1 E_1 H_1
  clear hb
  have yP_2 : w.heap.size < w2.heap.size := by omega
  have S2 := Lib.hid (hO)
  obtain ⟨Pc0, Pc1, Pc2, Pc3, Pc4, Pc5, Pc6, Pc7, Pc8, Pc9⟩ := P2.out.ten
  clear hO
  go_wp2_with fail
  refine (specKey_any _ _ _ X tt9 w2 S2.out.reads (by omega) HS.out HWf.out htt).mono ?_
  rintro e w3 ⟨v', n9, Y, rfl, hKR, hO, hb⟩
  obtain ⟨su, Au, nu, cu, Bu, mu, du, Mu, qu, eu, spu, Wu, tu, ku, Lu, lu, fu, Tu, ru, gu, rfl⟩ := hO.form
  clear Pc0 Pc1 Pc2 Pc3 Pc4 Pc5 Pc6 Pc7 Pc8 Pc9
  have s3 : w2.heap.size ≤ w3.heap.size := hb.size
  have P3 := Lib.hid (P2.out.below hb (by omega))
  have T3 := Lib.hid (T2.out.trans (hb.mono (by omega)))
  have V3 := Lib.hid (V2.out.below (by omega) hb)
  have E_3 := Lib.hid (E_2.out.below hb (by omega))
  have H_3 := Lib.hid ((hb.cell (p := ⟨2, 0, none⟩) (by show 2 < _; omega)).trans H_2.out)
  have S3 := Lib.hid (S2.out.below hb)
  clear P2 T2 V2 E_2 H_2 S2
  clear hb
  have yP_3 : w.heap.size < w3.heap.size := by omega
  have U3 := Lib.hid (hO)
  obtain ⟨Pc0, Pc1, Pc2, Pc3, Pc4, Pc5, Pc6, Pc7, Pc8, Pc9⟩ := P3.out.ten
  have HKR := Lib.hid hKR
  have hYb := keyRes_lim hKR
  have HSY := Lib.hid (big_smallX (X := Y) (by omega))
  have hne : (n9 != n9) = false := by simp
  clear hO hKR
  clear S3
  go_wp2_with fail
  obtain ⟨w4, hw, hb, hz, hK⟩ := mxWorld w3 #[.string su, .slice Au nu cu, .slice Bu mu du, .slice Mu qu eu, .int .i64 spu, .int .i64 Wu, .int .i64 tu, .int .i64 ku, .slice Lu lu fu, .slice Tu ru gu] 37
  rw [hw]
  clear hw hz
  clear Pc0 Pc1 Pc2 Pc3 Pc4 Pc5 Pc6 Pc7 Pc8 Pc9
  have s4 : w3.heap.size ≤ w4.heap.size := hb.size
  have P4 := Lib.hid (P3.out.below hb (by omega))
  have T4 := Lib.hid (T3.out.trans (hb.mono (by omega)))
  have V4 := Lib.hid (V3.out.below (by omega) hb)
  have E_4 := Lib.hid (E_3.out.below hb (by omega))
  have H_4 := Lib.hid ((hb.cell (p := ⟨2, 0, none⟩) (by show 2 < _; omega)).trans H_3.out)
  have U4 := Lib.hid (U3.out.below (by omega) hb)
  clear P3 T3 V3 E_3 H_3 U3
  clear hb
  have yP_4 : w.heap.size < w4.heap.size := by omega
  have BU4 := Lib.hid (hK)
  have yBU : w3.heap.size < w4.heap.size := hK.lt
  clear hK
  obtain ⟨Pc0, Pc1, Pc2, Pc3, Pc4, Pc5, Pc6, Pc7, Pc8, Pc9⟩ := P4.out.ten
  obtain ⟨BUc0, BUc1, BUc2, BUc3, BUc4, BUc5, BUc6, BUc7, BUc8, BUc9⟩ := BU4.out.ten
  refine (toMachine_any lo hi _ X w4 V4.out (by omega) HS.out).mono ?_
  rintro e w5 ⟨vx, rfl, hO, hb⟩
  obtain ⟨sx, Ax, nx, cx, Bx, mx, dx, Mx, qx, ex, spx, Wx, tx, kx, Lx, lx, fx, Tx, rx, gx, rfl⟩ := hO.reads.form
  clear Pc0 Pc1 Pc2 Pc3 Pc4 Pc5 Pc6 Pc7 Pc8 Pc9
  clear BUc0 BUc1 BUc2 BUc3 BUc4 BUc5 BUc6 BUc7 BUc8 BUc9
  have s5 : w4.heap.size ≤ w5.heap.size := hb.size
  have P5 := Lib.hid (P4.out.below hb (by omega))
  have T5 := Lib.hid (T4.out.trans (hb.mono (by omega)))
  have V5 := Lib.hid (V4.out.below (by omega) hb)
  have E_5 := Lib.hid (E_4.out.below hb (by omega))
  have H_5 := Lib.hid ((hb.cell (p := ⟨2, 0, none⟩) (by show 2 < _; omega)).trans H_4.out)
  have U5 := Lib.hid (U4.out.below (by omega) hb)
  have BU5 := Lib.hid (BU4.out.below hb (by omega))
  clear P4 T4 V4 E_4 H_4 U4 BU4
  clear hb
  have yP_5 : w.heap.size < w5.heap.size := by omega
  have yBU_5 : w3.heap.size < w5.heap.size := by omega
  have X5 := Lib.hid (hO)
  obtain ⟨Pc0, Pc1, Pc2, Pc3, Pc4, Pc5, Pc6, Pc7, Pc8, Pc9⟩ := P5.out.ten
  obtain ⟨BUc0, BUc1, BUc2, BUc3, BUc4, BUc5, BUc6, BUc7, BUc8, BUc9⟩ := BU5.out.ten
  clear hO
  go_wp2_with fail
  obtain ⟨w6, hw, hb, hz, hK⟩ := mxWorld w5 #[.string sx, .slice Ax nx cx, .slice Bx mx dx, .slice Mx qx ex, .int .i64 spx, .int .i64 Wx, .int .i64 tx, .int .i64 kx, .slice Lx lx fx, .slice Tx rx gx] 37
  rw [hw]
  clear hw hz
  clear Pc0 Pc1 Pc2 Pc3 Pc4 Pc5 Pc6 Pc7 Pc8 Pc9
  clear BUc0 BUc1 BUc2 BUc3 BUc4 BUc5 BUc6 BUc7 BUc8 BUc9
  have s6 : w5.heap.size ≤ w6.heap.size := hb.size
  have P6 := Lib.hid (P5.out.below hb (by omega))
  have T6 := Lib.hid (T5.out.trans (hb.mono (by omega)))
  have V6 := Lib.hid (V5.out.below (by omega) hb)
  have E_6 := Lib.hid (E_5.out.below hb (by omega))
  have H_6 := Lib.hid ((hb.cell (p := ⟨2, 0, none⟩) (by show 2 < _; omega)).trans H_5.out)
  have U6 := Lib.hid (U5.out.below (by omega) hb)
  have BU6 := Lib.hid (BU5.out.below hb (by omega))
  have X6 := Lib.hid (X5.out.below hb)
  clear P5 T5 V5 E_5 H_5 U5 BU5 X5
  clear hb
  have yP_6 : w.heap.size < w6.heap.size := by omega
  have yBU_6 : w3.heap.size < w6.heap.size := by omega
  have J6 := Lib.hid (hK)
  have yJ : w5.heap.size < w6.heap.size := hK.lt
  clear hK
  obtain ⟨Pc0, Pc1, Pc2, Pc3, Pc4, Pc5, Pc6, Pc7, Pc8, Pc9⟩ := P6.out.ten
  obtain ⟨BUc0, BUc1, BUc2, BUc3, BUc4, BUc5, BUc6, BUc7, BUc8, BUc9⟩ := BU6.out.ten
  obtain ⟨Jc0, Jc1, Jc2, Jc3, Jc4, Jc5, Jc6, Jc7, Jc8, Jc9⟩ := J6.out.ten
  refine (implKey_any _ _ _ X tt9 w6 X6.out.reads (by omega) HS.out HWf.out htt er9 (E_6.out.wide (by omega)) H_6.out).mono ?_
  rintro e w7 ⟨v', n8, Y8, rfl, hKR8, hO, hb⟩
  obtain ⟨hn8, hY8⟩ := HKR.out.unique hKR8
  subst hn8
  subst hY8
  obtain ⟨sg, Ag, ng, cg, Bg, mg, dg, Mg, qg, eg, spg, Wg, tg, kg, Lg, lg, fg, Tg, rg, gg, rfl⟩ := hO.reads.form
  clear Pc0 Pc1 Pc2 Pc3 Pc4 Pc5 Pc6 Pc7 Pc8 Pc9
  clear BUc0 BUc1 BUc2 BUc3 BUc4 BUc5 BUc6 BUc7 BUc8 BUc9
  clear Jc0 Jc1 Jc2 Jc3 Jc4 Jc5 Jc6 Jc7 Jc8 Jc9
  have s7 : w6.heap.size ≤ w7.heap.size := hb.size
  have P7 := Lib.hid (P6.out.below hb (by omega))
  have T7 := Lib.hid (T6.out.trans (hb.mono (by omega)))
  have V7 := Lib.hid (V6.out.below (by omega) hb)
  have E_7 := Lib.hid (E_6.out.below hb (by omega))
  have H_7 := Lib.hid ((hb.cell (p := ⟨2, 0, none⟩) (by show 2 < _; omega)).trans H_6.out)
  have U7 := Lib.hid (U6.out.below (by omega) hb)
  have BU7 := Lib.hid (BU6.out.below hb (by omega))
  have X7 := Lib.hid (X6.out.below hb)
  have J7 := Lib.hid (J6.out.below hb (by omega))
  clear P6 T6 V6 E_6 H_6 U6 BU6 X6 J6
  clear hb
  have yP_7 : w.heap.size < w7.heap.size := by omega
  have yBU_7 : w3.heap.size < w7.heap.size := by omega
  have yJ_7 : w5.heap.size < w7.heap.size := by omega
  have G7 := Lib.hid (hO)
  obtain ⟨Pc0, Pc1, Pc2, Pc3, Pc4, Pc5, Pc6, Pc7, Pc8, Pc9⟩ := P7.out.ten
  obtain ⟨BUc0, BUc1, BUc2, BUc3, BUc4, BUc5, BUc6, BUc7, BUc8, BUc9⟩ := BU7.out.ten
  obtain ⟨Jc0, Jc1, Jc2, Jc3, Jc4, Jc5, Jc6, Jc7, Jc8, Jc9⟩ := J7.out.ten
  clear hO hKR8
  go_wp2_with fail
  obtain ⟨w8, hw, hb, hz, hK⟩ := mxWorld w7 #[.string sg, .slice Ag ng cg, .slice Bg mg dg, .slice Mg qg eg, .int .i64 spg, .int .i64 Wg, .int .i64 tg, .int .i64 kg, .slice Lg lg fg, .slice Tg rg gg] 37
  rw [hw]
  clear hw hz
  clear Pc0 Pc1 Pc2 Pc3 Pc4 Pc5 Pc6 Pc7 Pc8 Pc9
  clear BUc0 BUc1 BUc2 BUc3 BUc4 BUc5 BUc6 BUc7 BUc8 BUc9
  clear Jc0 Jc1 Jc2 Jc3 Jc4 Jc5 Jc6 Jc7 Jc8 Jc9
  have s8 : w7.heap.size ≤ w8.heap.size := hb.size
  have P8 := Lib.hid (P7.out.below hb (by omega))
  have T8 := Lib.hid (T7.out.trans (hb.mono (by omega)))
  have V8 := Lib.hid (V7.out.below (by omega) hb)
  have E_8 := Lib.hid (E_7.out.below hb (by omega))
  have H_8 := Lib.hid ((hb.cell (p := ⟨2, 0, none⟩) (by show 2 < _; omega)).trans H_7.out)
  have U8 := Lib.hid (U7.out.below (by omega) hb)
  have BU8 := Lib.hid (BU7.out.below hb (by omega))
  have X8 := Lib.hid (X7.out.below hb)
  have J8 := Lib.hid (J7.out.below hb (by omega))
  have G8 := Lib.hid (G7.out.below hb)
  clear P7 T7 V7 E_7 H_7 U7 BU7 X7 J7 G7
  clear hb
  have yP_8 : w.heap.size < w8.heap.size := by omega
  have yBU_8 : w3.heap.size < w8.heap.size := by omega
  have yJ_8 : w5.heap.size < w8.heap.size := by omega
  have BG8 := Lib.hid (hK)
  have yBG : w7.heap.size < w8.heap.size := hK.lt
  clear hK
  obtain ⟨Pc0, Pc1, Pc2, Pc3, Pc4, Pc5, Pc6, Pc7, Pc8, Pc9⟩ := P8.out.ten
  obtain ⟨BUc0, BUc1, BUc2, BUc3, BUc4, BUc5, BUc6, BUc7, BUc8, BUc9⟩ := BU8.out.ten
  obtain ⟨Jc0, Jc1, Jc2, Jc3, Jc4, Jc5, Jc6, Jc7, Jc8, Jc9⟩ := J8.out.ten
  obtain ⟨BGc0, BGc1, BGc2, BGc3, BGc4, BGc5, BGc6, BGc7, BGc8, BGc9⟩ := BG8.out.ten
  refine (eqMachine_same _ _ _ _ _ _ Y w8 G8.out.reads U8.out (by omega) (by omega) HSY.out).mono ?_
  rintro e w9 ⟨rfl, hb⟩
  clear Pc0 Pc1 Pc2 Pc3 Pc4 Pc5 Pc6 Pc7 Pc8 Pc9
  clear BUc0 BUc1 BUc2 BUc3 BUc4 BUc5 BUc6 BUc7 BUc8 BUc9
  clear Jc0 Jc1 Jc2 Jc3 Jc4 Jc5 Jc6 Jc7 Jc8 Jc9
  clear BGc0 BGc1 BGc2 BGc3 BGc4 BGc5 BGc6 BGc7 BGc8 BGc9
  have s9 : w8.heap.size ≤ w9.heap.size := hb.size
  have P9 := Lib.hid (P8.out.below hb (by omega))
  have T9 := Lib.hid (T8.out.trans (hb.mono (by omega)))
  have V9 := Lib.hid (V8.out.below (by omega) hb)
  have E_9 := Lib.hid (E_8.out.below hb (by omega))
  have H_9 := Lib.hid ((hb.cell (p := ⟨2, 0, none⟩) (by show 2 < _; omega)).trans H_8.out)
  have U9 := Lib.hid (U8.out.below (by omega) hb)
  have BU9 := Lib.hid (BU8.out.below hb (by omega))
  have X9 := Lib.hid (X8.out.below hb)
  have J9 := Lib.hid (J8.out.below hb (by omega))
  have G9 := Lib.hid (G8.out.below hb)
  have BG9 := Lib.hid (BG8.out.below hb (by omega))
  clear P8 T8 V8 E_8 H_8 U8 BU8 X8 J8 G8 BG8
  clear hb
  have yP_9 : w.heap.size < w9.heap.size := by omega
  have yBU_9 : w3.heap.size < w9.heap.size := by omega
  have yJ_9 : w5.heap.size < w9.heap.size := by omega
  have yBG_9 : w7.heap.size < w9.heap.size := by omega
  obtain ⟨Pc0, Pc1, Pc2, Pc3, Pc4, Pc5, Pc6, Pc7, Pc8, Pc9⟩ := P9.out.ten
  obtain ⟨BUc0, BUc1, BUc2, BUc3, BUc4, BUc5, BUc6, BUc7, BUc8, BUc9⟩ := BU9.out.ten
  obtain ⟨Jc0, Jc1, Jc2, Jc3, Jc4, Jc5, Jc6, Jc7, Jc8, Jc9⟩ := J9.out.ten
  obtain ⟨BGc0, BGc1, BGc2, BGc3, BGc4, BGc5, BGc6, BGc7, BGc8, BGc9⟩ := BG9.out.ten
  go_wp2_with fail
  refine wp_region_plan (.take 0 (.take 1 (.one 2 (.one 3 (.one 4 .done))))) (fun w' => (w'.cell? ⟨w5.heap.size, 0, none⟩ = some (.string sx) ∧ w'.cell? ⟨w5.heap.size, 1, none⟩ = some (.slice Ax nx cx) ∧ w'.cell? ⟨w5.heap.size, 2, none⟩ = some (.slice Bx mx dx) ∧ w'.cell? ⟨w5.heap.size, 3, none⟩ = some (.slice Mx qx ex) ∧ w'.cell? ⟨w5.heap.size, 4, none⟩ = some (.int .i64 spx) ∧ w'.cell? ⟨w5.heap.size, 5, none⟩ = some (.int .i64 Wx) ∧ w'.cell? ⟨w5.heap.size, 6, none⟩ = some (.int .i64 tx) ∧ w'.cell? ⟨w5.heap.size, 7, none⟩ = some (.int .i64 kx) ∧ w'.cell? ⟨w5.heap.size, 8, none⟩ = some (.slice Lx lx fx) ∧ w'.cell? ⟨w5.heap.size, 9, none⟩ = some (.slice Tx rx gx)) ∧ (w'.cell? ⟨w.heap.size, 0, none⟩ = some (.string s) ∧ w'.cell? ⟨w.heap.size, 1, none⟩ = some (.slice A n c) ∧ w'.cell? ⟨w.heap.size, 2, none⟩ = some (.slice B m d) ∧ w'.cell? ⟨w.heap.size, 3, none⟩ = some (.slice M q e) ∧ w'.cell? ⟨w.heap.size, 4, none⟩ = some (.int .i64 sp) ∧ w'.cell? ⟨w.heap.size, 5, none⟩ = some (.int .i64 W) ∧ w'.cell? ⟨w.heap.size, 6, none⟩ = some (.int .i64 t) ∧ w'.cell? ⟨w.heap.size, 7, none⟩ = some (.int .i64 k) ∧ w'.cell? ⟨w.heap.size, 8, none⟩ = some (.slice L l f) ∧ w'.cell? ⟨w.heap.size, 9, none⟩ = some (.slice T r g))) (by kernel_rfl) (by kernel_rfl) (by kernel_rfl) (by intro c a d v w h; cases d <;> exact h) ⟨J9.out.ten, P9.out.ten⟩ ?_
  clear Pc0 Pc1 Pc2 Pc3 Pc4 Pc5 Pc6 Pc7 Pc8 Pc9
  clear BUc0 BUc1 BUc2 BUc3 BUc4 BUc5 BUc6 BUc7 BUc8 BUc9
  clear Jc0 Jc1 Jc2 Jc3 Jc4 Jc5 Jc6 Jc7 Jc8 Jc9
  clear BGc0 BGc1 BGc2 BGc3 BGc4 BGc5 BGc6 BGc7 BGc8 BGc9
  refine plan_quiet rfl (by rfl) (v := ?_) ?_ ?_; rotate_left; (intro w1 hSw; obtain ⟨⟨h0, h1, h2, h3, h4, h5, h6, h7, h8, h9⟩, ⟨h0', h1', h2', h3', h4', h5', h6', h7', h8', h9'⟩⟩ := hSw; go_simp; try (with_reducible rfl)); (try simp only [Act.put, List.setIfInBounds_toArray, List.set_cons_zero, List.set_cons_succ])
  refine plan_quiet rfl (by rfl) (v := ?_) ?_ ?_; rotate_left; (intro w1 hSw; obtain ⟨⟨h0, h1, h2, h3, h4, h5, h6, h7, h8, h9⟩, ⟨h0', h1', h2', h3', h4', h5', h6', h7', h8', h9'⟩⟩ := hSw; go_simp; try (with_reducible rfl)); (try simp only [Act.put, List.setIfInBounds_toArray, List.set_cons_zero, List.set_cons_succ])
  refine plan_step rfl (fun K hK => ?_)
  rw [if_pos (by rfl)]
  go_simp
  refine (toMachine_any lo hi _ X w9.drew (MchV.drew V9.out) (by show hi ≤ w9.heap.size; omega) HS.out).mono ?_
  rintro e w10 ⟨vz, rfl, hO, hb'⟩
  have hb := undrew hb'
  clear hb'
  obtain ⟨sz, Az, nz, cz, Bz, mz, dz, Mz, qz, ez, spz, Wz, tz, kz, Lz, lz, fz, Tz, rz, gz, rfl⟩ := hO.reads.form
  have s10 : w9.heap.size ≤ w10.heap.size := hb.size
  have P10 := Lib.hid (P9.out.below hb (by omega))
  have T10 := Lib.hid (T9.out.trans (hb.mono (by omega)))
  have V10 := Lib.hid (V9.out.below (by omega) hb)
  have E_10 := Lib.hid (E_9.out.below hb (by omega))
  have H_10 := Lib.hid ((hb.cell (p := ⟨2, 0, none⟩) (by show 2 < _; omega)).trans H_9.out)
  have U10 := Lib.hid (U9.out.below (by omega) hb)
  have BU10 := Lib.hid (BU9.out.below hb (by omega))
  have X10 := Lib.hid (X9.out.below hb)
  have J10 := Lib.hid (J9.out.below hb (by omega))
  have G10 := Lib.hid (G9.out.below hb)
  have BG10 := Lib.hid (BG9.out.below hb (by omega))
  clear P9 T9 V9 E_9 H_9 U9 BU9 X9 J9 G9 BG9
  clear hb
  have yP_10 : w.heap.size < w10.heap.size := by omega
  have yBU_10 : w3.heap.size < w10.heap.size := by omega
  have yJ_10 : w5.heap.size < w10.heap.size := by omega
  have yBG_10 : w7.heap.size < w10.heap.size := by omega
  have Z10 := Lib.hid (hO)
  clear hO
  refine hK.out _ _ ⟨J10.out.ten, P10.out.ten⟩ ?_
  clear hK K
  refine plan_step rfl (fun K hK => ?_)
  rw [if_pos (by rfl)]
  go_simp
  refine (eqMachine_same _ _ _ _ _ _ X w10 X10.out.reads Z10.out.reads (by omega) (by omega) HS.out).mono ?_
  rintro e w11 ⟨rfl, hb⟩
  have s11 : w10.heap.size ≤ w11.heap.size := hb.size
  have P11 := Lib.hid (P10.out.below hb (by omega))
  have T11 := Lib.hid (T10.out.trans (hb.mono (by omega)))
  have V11 := Lib.hid (V10.out.below (by omega) hb)
  have E_11 := Lib.hid (E_10.out.below hb (by omega))
  have H_11 := Lib.hid ((hb.cell (p := ⟨2, 0, none⟩) (by show 2 < _; omega)).trans H_10.out)
  have U11 := Lib.hid (U10.out.below (by omega) hb)
  have BU11 := Lib.hid (BU10.out.below hb (by omega))
  have X11 := Lib.hid (X10.out.below hb)
  have J11 := Lib.hid (J10.out.below hb (by omega))
  have G11 := Lib.hid (G10.out.below hb)
  have BG11 := Lib.hid (BG10.out.below hb (by omega))
  have Z11 := Lib.hid (Z10.out.below hb)
  clear P10 T10 V10 E_10 H_10 U10 BU10 X10 J10 G10 BG10 Z10
  clear hb
  have yP_11 : w.heap.size < w11.heap.size := by omega
  have yBU_11 : w3.heap.size < w11.heap.size := by omega
  have yJ_11 : w5.heap.size < w11.heap.size := by omega
  have yBG_11 : w7.heap.size < w11.heap.size := by omega
  refine hK.out _ _ ⟨J11.out.ten, P11.out.ten⟩ ?_
  clear hK K
  refine plan_step rfl (fun K hK => ?_)
  rw [if_pos (by rfl)]
  go_simp
  refine hK.out _ _ ⟨J11.out.ten, P11.out.ten⟩ ?_
  clear hK K
  refine plan_end ?_
  clear Z11
  obtain ⟨Pc0, Pc1, Pc2, Pc3, Pc4, Pc5, Pc6, Pc7, Pc8, Pc9⟩ := P11.out.ten
  obtain ⟨BUc0, BUc1, BUc2, BUc3, BUc4, BUc5, BUc6, BUc7, BUc8, BUc9⟩ := BU11.out.ten
  obtain ⟨Jc0, Jc1, Jc2, Jc3, Jc4, Jc5, Jc6, Jc7, Jc8, Jc9⟩ := J11.out.ten
  obtain ⟨BGc0, BGc1, BGc2, BGc3, BGc4, BGc5, BGc6, BGc7, BGc8, BGc9⟩ := BG11.out.ten
  have hm1 : decide (1 + (X.marks : Int) < 0) = false := decide_eq_false (by omega)
  go_wp2_with fail
  refine (markMachine_any _ _ _ X 1 w11 X11.out (by omega) hb20 (by omega) (by omega)).mono ?_
  rintro e w12 ⟨rfl, hX, hc⟩
  clear X11
  clear Pc0 Pc1 Pc2 Pc3 Pc4 Pc5 Pc6 Pc7 Pc8 Pc9
  clear BUc0 BUc1 BUc2 BUc3 BUc4 BUc5 BUc6 BUc7 BUc8 BUc9
  clear Jc0 Jc1 Jc2 Jc3 Jc4 Jc5 Jc6 Jc7 Jc8 Jc9
  clear BGc0 BGc1 BGc2 BGc3 BGc4 BGc5 BGc6 BGc7 BGc8 BGc9
  have s12 : w11.heap.size ≤ w12.heap.size := hc.size
  have P12 := Lib.hid (P11.out.chg hc (by omega))
  have T12 := Lib.hid (T11.out.trans ((hc.below (by omega)).mono (by omega)))
  have V12 := Lib.hid (V11.out.chg hc (by omega) (by omega))
  have E_12 := Lib.hid (E_11.out.below (hc.below (by omega)) (by omega))
  have H_12 := Lib.hid ((hc.cell (p := ⟨2, 0, none⟩) (by show 2 < _; omega) (by simp only; omega)).trans H_11.out)
  have U12 := Lib.hid (U11.out.chg hc (by omega) (by omega))
  have BU12 := Lib.hid (BU11.out.chg hc (by omega))
  have J12 := Lib.hid (J11.out.chg hc (by omega))
  have G12 := Lib.hid (G11.out.chg hc (by unfold Off; omega))
  have BG12 := Lib.hid (BG11.out.chg hc (by omega))
  clear P11 T11 V11 E_11 H_11 U11 BU11 J11 G11 BG11
  clear hc
  have yP_12 : w.heap.size < w12.heap.size := by omega
  have yBU_12 : w3.heap.size < w12.heap.size := by omega
  have yJ_12 : w5.heap.size < w12.heap.size := by omega
  have yBG_12 : w7.heap.size < w12.heap.size := by omega
  clear hX
  obtain ⟨Pc0, Pc1, Pc2, Pc3, Pc4, Pc5, Pc6, Pc7, Pc8, Pc9⟩ := P12.out.ten
  obtain ⟨BUc0, BUc1, BUc2, BUc3, BUc4, BUc5, BUc6, BUc7, BUc8, BUc9⟩ := BU12.out.ten
  obtain ⟨Jc0, Jc1, Jc2, Jc3, Jc4, Jc5, Jc6, Jc7, Jc8, Jc9⟩ := J12.out.ten
  obtain ⟨BGc0, BGc1, BGc2, BGc3, BGc4, BGc5, BGc6, BGc7, BGc8, BGc9⟩ := BG12.out.ten
  go_wp2_with fail
  refine (eqMachine_same _ _ _ _ _ _ Y w12 G12.out.reads U12.out (by omega) (by omega) HSY.out).mono ?_
  rintro e w13 ⟨rfl, hb⟩
  clear Pc0 Pc1 Pc2 Pc3 Pc4 Pc5 Pc6 Pc7 Pc8 Pc9
  clear BUc0 BUc1 BUc2 BUc3 BUc4 BUc5 BUc6 BUc7 BUc8 BUc9
  clear Jc0 Jc1 Jc2 Jc3 Jc4 Jc5 Jc6 Jc7 Jc8 Jc9
  clear BGc0 BGc1 BGc2 BGc3 BGc4 BGc5 BGc6 BGc7 BGc8 BGc9
  have s13 : w12.heap.size ≤ w13.heap.size := hb.size
  have P13 := Lib.hid (P12.out.below hb (by omega))
  have T13 := Lib.hid (T12.out.trans (hb.mono (by omega)))
  have V13 := Lib.hid (V12.out.below (by omega) hb)
  have E_13 := Lib.hid (E_12.out.below hb (by omega))
  have H_13 := Lib.hid ((hb.cell (p := ⟨2, 0, none⟩) (by show 2 < _; omega)).trans H_12.out)
  have U13 := Lib.hid (U12.out.below (by omega) hb)
  have BU13 := Lib.hid (BU12.out.below hb (by omega))
  have J13 := Lib.hid (J12.out.below hb (by omega))
  have G13 := Lib.hid (G12.out.below hb)
  have BG13 := Lib.hid (BG12.out.below hb (by omega))
  clear P12 T12 V12 E_12 H_12 U12 BU12 J12 G12 BG12
  clear hb
  have yP_13 : w.heap.size < w13.heap.size := by omega
  have yBU_13 : w3.heap.size < w13.heap.size := by omega
  have yJ_13 : w5.heap.size < w13.heap.size := by omega
  have yBG_13 : w7.heap.size < w13.heap.size := by omega
  obtain ⟨Pc0, Pc1, Pc2, Pc3, Pc4, Pc5, Pc6, Pc7, Pc8, Pc9⟩ := P13.out.ten
  obtain ⟨BUc0, BUc1, BUc2, BUc3, BUc4, BUc5, BUc6, BUc7, BUc8, BUc9⟩ := BU13.out.ten
  obtain ⟨Jc0, Jc1, Jc2, Jc3, Jc4, Jc5, Jc6, Jc7, Jc8, Jc9⟩ := J13.out.ten
  obtain ⟨BGc0, BGc1, BGc2, BGc3, BGc4, BGc5, BGc6, BGc7, BGc8, BGc9⟩ := BG13.out.ten
  have hm2 : decide (1 + (Y.marks : Int) < 0) = false := decide_eq_false (by omega)
  have hne2 : ((1 + (Y.marks : Int)) != (1 + (Y.marks : Int))) = false := by simp
  go_wp2_with fail
  refine (markMachineT_any _ _ _ Y 1 w13 G13.out (by omega) (by omega) (by omega) (by omega)).mono ?_
  rintro e w14 ⟨rfl, hX, hc⟩
  clear G13
  clear Pc0 Pc1 Pc2 Pc3 Pc4 Pc5 Pc6 Pc7 Pc8 Pc9
  clear BUc0 BUc1 BUc2 BUc3 BUc4 BUc5 BUc6 BUc7 BUc8 BUc9
  clear Jc0 Jc1 Jc2 Jc3 Jc4 Jc5 Jc6 Jc7 Jc8 Jc9
  clear BGc0 BGc1 BGc2 BGc3 BGc4 BGc5 BGc6 BGc7 BGc8 BGc9
  have s14 : w13.heap.size ≤ w14.heap.size := hc.size
  have P14 := Lib.hid (P13.out.chg hc (by omega))
  have T14 := Lib.hid (T13.out.trans ((hc.below (by omega)).mono (by omega)))
  have V14 := Lib.hid (V13.out.chg hc (by omega) (by omega))
  have E_14 := Lib.hid (E_13.out.below (hc.below (by omega)) (by omega))
  have H_14 := Lib.hid ((hc.cell (p := ⟨2, 0, none⟩) (by show 2 < _; omega) (by simp only; omega)).trans H_13.out)
  have U14 := Lib.hid (U13.out.chg hc (by omega) (by omega))
  have BU14 := Lib.hid (BU13.out.chg hc (by omega))
  have J14 := Lib.hid (J13.out.chg hc (by omega))
  have BG14 := Lib.hid (BG13.out.chg hc (by omega))
  clear P13 T13 V13 E_13 H_13 U13 BU13 J13 BG13
  clear hc
  have yP_14 : w.heap.size < w14.heap.size := by omega
  have yBU_14 : w3.heap.size < w14.heap.size := by omega
  have yJ_14 : w5.heap.size < w14.heap.size := by omega
  have yBG_14 : w7.heap.size < w14.heap.size := by omega
  have H14 := Lib.hid (hX)
  clear hX
  obtain ⟨Pc0, Pc1, Pc2, Pc3, Pc4, Pc5, Pc6, Pc7, Pc8, Pc9⟩ := P14.out.ten
  obtain ⟨BUc0, BUc1, BUc2, BUc3, BUc4, BUc5, BUc6, BUc7, BUc8, BUc9⟩ := BU14.out.ten
  obtain ⟨Jc0, Jc1, Jc2, Jc3, Jc4, Jc5, Jc6, Jc7, Jc8, Jc9⟩ := J14.out.ten
  obtain ⟨BGc0, BGc1, BGc2, BGc3, BGc4, BGc5, BGc6, BGc7, BGc8, BGc9⟩ := BG14.out.ten
  go_wp2_with fail
  refine (heldMachine_any _ _ _ Y 1 w14 H14.out.reads (by omega) hYb (by omega) (by omega)).mono ?_
  rintro e w15 ⟨rfl, hb⟩
  clear Pc0 Pc1 Pc2 Pc3 Pc4 Pc5 Pc6 Pc7 Pc8 Pc9
  clear BUc0 BUc1 BUc2 BUc3 BUc4 BUc5 BUc6 BUc7 BUc8 BUc9
  clear Jc0 Jc1 Jc2 Jc3 Jc4 Jc5 Jc6 Jc7 Jc8 Jc9
  clear BGc0 BGc1 BGc2 BGc3 BGc4 BGc5 BGc6 BGc7 BGc8 BGc9
  have s15 : w14.heap.size ≤ w15.heap.size := hb.size
  have P15 := Lib.hid (P14.out.below hb (by omega))
  have T15 := Lib.hid (T14.out.trans (hb.mono (by omega)))
  have V15 := Lib.hid (V14.out.below (by omega) hb)
  have E_15 := Lib.hid (E_14.out.below hb (by omega))
  have H_15 := Lib.hid ((hb.cell (p := ⟨2, 0, none⟩) (by show 2 < _; omega)).trans H_14.out)
  have U15 := Lib.hid (U14.out.below (by omega) hb)
  have BU15 := Lib.hid (BU14.out.below hb (by omega))
  have J15 := Lib.hid (J14.out.below hb (by omega))
  have BG15 := Lib.hid (BG14.out.below hb (by omega))
  have H15 := Lib.hid (H14.out.below hb)
  clear P14 T14 V14 E_14 H_14 U14 BU14 J14 BG14 H14
  clear hb
  have yP_15 : w.heap.size < w15.heap.size := by omega
  have yBU_15 : w3.heap.size < w15.heap.size := by omega
  have yJ_15 : w5.heap.size < w15.heap.size := by omega
  have yBG_15 : w7.heap.size < w15.heap.size := by omega
  obtain ⟨Pc0, Pc1, Pc2, Pc3, Pc4, Pc5, Pc6, Pc7, Pc8, Pc9⟩ := P15.out.ten
  obtain ⟨BUc0, BUc1, BUc2, BUc3, BUc4, BUc5, BUc6, BUc7, BUc8, BUc9⟩ := BU15.out.ten
  obtain ⟨Jc0, Jc1, Jc2, Jc3, Jc4, Jc5, Jc6, Jc7, Jc8, Jc9⟩ := J15.out.ten
  obtain ⟨BGc0, BGc1, BGc2, BGc3, BGc4, BGc5, BGc6, BGc7, BGc8, BGc9⟩ := BG15.out.ten
  go_wp2_with fail
  refine (toMachine_any lo hi _ X w15 V15.out (by omega) HS.out).mono ?_
  rintro e w16 ⟨vq, rfl, hO, hb⟩
  obtain ⟨sq, Aq, nq, cq, Bq, mq, dq, Mq, qq, eq, spq, Wq, tq, kq, Lq, lq, fq, Tq, rq, gq, rfl⟩ := hO.reads.form
  clear Pc0 Pc1 Pc2 Pc3 Pc4 Pc5 Pc6 Pc7 Pc8 Pc9
  clear BUc0 BUc1 BUc2 BUc3 BUc4 BUc5 BUc6 BUc7 BUc8 BUc9
  clear Jc0 Jc1 Jc2 Jc3 Jc4 Jc5 Jc6 Jc7 Jc8 Jc9
  clear BGc0 BGc1 BGc2 BGc3 BGc4 BGc5 BGc6 BGc7 BGc8 BGc9
  have s16 : w15.heap.size ≤ w16.heap.size := hb.size
  have P16 := Lib.hid (P15.out.below hb (by omega))
  have T16 := Lib.hid (T15.out.trans (hb.mono (by omega)))
  have V16 := Lib.hid (V15.out.below (by omega) hb)
  have E_16 := Lib.hid (E_15.out.below hb (by omega))
  have H_16 := Lib.hid ((hb.cell (p := ⟨2, 0, none⟩) (by show 2 < _; omega)).trans H_15.out)
  have U16 := Lib.hid (U15.out.below (by omega) hb)
  have BU16 := Lib.hid (BU15.out.below hb (by omega))
  have J16 := Lib.hid (J15.out.below hb (by omega))
  have BG16 := Lib.hid (BG15.out.below hb (by omega))
  have H16 := Lib.hid (H15.out.below hb)
  clear P15 T15 V15 E_15 H_15 U15 BU15 J15 BG15 H15
  clear hb
  have yP_16 : w.heap.size < w16.heap.size := by omega
  have yBU_16 : w3.heap.size < w16.heap.size := by omega
  have yJ_16 : w5.heap.size < w16.heap.size := by omega
  have yBG_16 : w7.heap.size < w16.heap.size := by omega
  have S16 := Lib.hid (hO)
  obtain ⟨Pc0, Pc1, Pc2, Pc3, Pc4, Pc5, Pc6, Pc7, Pc8, Pc9⟩ := P16.out.ten
  obtain ⟨BUc0, BUc1, BUc2, BUc3, BUc4, BUc5, BUc6, BUc7, BUc8, BUc9⟩ := BU16.out.ten
  obtain ⟨Jc0, Jc1, Jc2, Jc3, Jc4, Jc5, Jc6, Jc7, Jc8, Jc9⟩ := J16.out.ten
  obtain ⟨BGc0, BGc1, BGc2, BGc3, BGc4, BGc5, BGc6, BGc7, BGc8, BGc9⟩ := BG16.out.ten
  clear hO
  go_wp2_with fail
  refine (implKey_any _ _ _ X tt9 w16 S16.out.reads (by omega) HS.out HWf.out htt er9 (E_16.out.wide (by omega)) H_16.out).mono ?_
  rintro e w17 ⟨v', n8, Y8, rfl, hKR8, hO, hb⟩
  obtain ⟨hn8, hY8⟩ := HKR.out.unique hKR8
  subst hn8
  subst hY8
  obtain ⟨sh, Ah, nh, ch, Bh, mh, dh, Mh, qh, eh, sph, Wh, th, kh, Lh, lh, fh, Th, rh, gh, rfl⟩ := hO.reads.form
  clear Pc0 Pc1 Pc2 Pc3 Pc4 Pc5 Pc6 Pc7 Pc8 Pc9
  clear BUc0 BUc1 BUc2 BUc3 BUc4 BUc5 BUc6 BUc7 BUc8 BUc9
  clear Jc0 Jc1 Jc2 Jc3 Jc4 Jc5 Jc6 Jc7 Jc8 Jc9
  clear BGc0 BGc1 BGc2 BGc3 BGc4 BGc5 BGc6 BGc7 BGc8 BGc9
  have s17 : w16.heap.size ≤ w17.heap.size := hb.size
  have P17 := Lib.hid (P16.out.below hb (by omega))
  have T17 := Lib.hid (T16.out.trans (hb.mono (by omega)))
  have V17 := Lib.hid (V16.out.below (by omega) hb)
  have E_17 := Lib.hid (E_16.out.below hb (by omega))
  have H_17 := Lib.hid ((hb.cell (p := ⟨2, 0, none⟩) (by show 2 < _; omega)).trans H_16.out)
  have U17 := Lib.hid (U16.out.below (by omega) hb)
  have BU17 := Lib.hid (BU16.out.below hb (by omega))
  have J17 := Lib.hid (J16.out.below hb (by omega))
  have BG17 := Lib.hid (BG16.out.below hb (by omega))
  have H17 := Lib.hid (H16.out.below hb)
  have S17 := Lib.hid (S16.out.below hb)
  clear P16 T16 V16 E_16 H_16 U16 BU16 J16 BG16 H16 S16
  clear hb
  have yP_17 : w.heap.size < w17.heap.size := by omega
  have yBU_17 : w3.heap.size < w17.heap.size := by omega
  have yJ_17 : w5.heap.size < w17.heap.size := by omega
  have yBG_17 : w7.heap.size < w17.heap.size := by omega
  have W17 := Lib.hid (hO)
  obtain ⟨Pc0, Pc1, Pc2, Pc3, Pc4, Pc5, Pc6, Pc7, Pc8, Pc9⟩ := P17.out.ten
  obtain ⟨BUc0, BUc1, BUc2, BUc3, BUc4, BUc5, BUc6, BUc7, BUc8, BUc9⟩ := BU17.out.ten
  obtain ⟨Jc0, Jc1, Jc2, Jc3, Jc4, Jc5, Jc6, Jc7, Jc8, Jc9⟩ := J17.out.ten
  obtain ⟨BGc0, BGc1, BGc2, BGc3, BGc4, BGc5, BGc6, BGc7, BGc8, BGc9⟩ := BG17.out.ten
  clear hO hKR8
  clear S17
  go_wp2_with fail
  obtain ⟨w18, hw, hb, hz, hK⟩ := mxWorld w17 #[.string sh, .slice Ah nh ch, .slice Bh mh dh, .slice Mh qh eh, .int .i64 sph, .int .i64 Wh, .int .i64 th, .int .i64 kh, .slice Lh lh fh, .slice Th rh gh] 37
  rw [hw]
  clear hw hz
  clear Pc0 Pc1 Pc2 Pc3 Pc4 Pc5 Pc6 Pc7 Pc8 Pc9
  clear BUc0 BUc1 BUc2 BUc3 BUc4 BUc5 BUc6 BUc7 BUc8 BUc9
  clear Jc0 Jc1 Jc2 Jc3 Jc4 Jc5 Jc6 Jc7 Jc8 Jc9
  clear BGc0 BGc1 BGc2 BGc3 BGc4 BGc5 BGc6 BGc7 BGc8 BGc9
  have s18 : w17.heap.size ≤ w18.heap.size := hb.size
  have P18 := Lib.hid (P17.out.below hb (by omega))
  have T18 := Lib.hid (T17.out.trans (hb.mono (by omega)))
  have V18 := Lib.hid (V17.out.below (by omega) hb)
  have E_18 := Lib.hid (E_17.out.below hb (by omega))
  have H_18 := Lib.hid ((hb.cell (p := ⟨2, 0, none⟩) (by show 2 < _; omega)).trans H_17.out)
  have U18 := Lib.hid (U17.out.below (by omega) hb)
  have BU18 := Lib.hid (BU17.out.below hb (by omega))
  have J18 := Lib.hid (J17.out.below hb (by omega))
  have BG18 := Lib.hid (BG17.out.below hb (by omega))
  have H18 := Lib.hid (H17.out.below hb)
  have W18 := Lib.hid (W17.out.below hb)
  clear P17 T17 V17 E_17 H_17 U17 BU17 J17 BG17 H17 W17
  clear hb
  have yP_18 : w.heap.size < w18.heap.size := by omega
  have yBU_18 : w3.heap.size < w18.heap.size := by omega
  have yJ_18 : w5.heap.size < w18.heap.size := by omega
  have yBG_18 : w7.heap.size < w18.heap.size := by omega
  have BE18 := Lib.hid (hK)
  have yBE : w17.heap.size < w18.heap.size := hK.lt
  clear hK
  obtain ⟨Pc0, Pc1, Pc2, Pc3, Pc4, Pc5, Pc6, Pc7, Pc8, Pc9⟩ := P18.out.ten
  obtain ⟨BUc0, BUc1, BUc2, BUc3, BUc4, BUc5, BUc6, BUc7, BUc8, BUc9⟩ := BU18.out.ten
  obtain ⟨Jc0, Jc1, Jc2, Jc3, Jc4, Jc5, Jc6, Jc7, Jc8, Jc9⟩ := J18.out.ten
  obtain ⟨BGc0, BGc1, BGc2, BGc3, BGc4, BGc5, BGc6, BGc7, BGc8, BGc9⟩ := BG18.out.ten
  obtain ⟨BEc0, BEc1, BEc2, BEc3, BEc4, BEc5, BEc6, BEc7, BEc8, BEc9⟩ := BE18.out.ten
  refine (eqMachine_same _ _ _ _ _ _ Y w18 W18.out.reads U18.out (by omega) (by omega) HSY.out).mono ?_
  rintro e w19 ⟨rfl, hb⟩
  clear Pc0 Pc1 Pc2 Pc3 Pc4 Pc5 Pc6 Pc7 Pc8 Pc9
  clear BUc0 BUc1 BUc2 BUc3 BUc4 BUc5 BUc6 BUc7 BUc8 BUc9
  clear Jc0 Jc1 Jc2 Jc3 Jc4 Jc5 Jc6 Jc7 Jc8 Jc9
  clear BGc0 BGc1 BGc2 BGc3 BGc4 BGc5 BGc6 BGc7 BGc8 BGc9
  clear BEc0 BEc1 BEc2 BEc3 BEc4 BEc5 BEc6 BEc7 BEc8 BEc9
  have s19 : w18.heap.size ≤ w19.heap.size := hb.size
  have P19 := Lib.hid (P18.out.below hb (by omega))
  have T19 := Lib.hid (T18.out.trans (hb.mono (by omega)))
  have V19 := Lib.hid (V18.out.below (by omega) hb)
  have E_19 := Lib.hid (E_18.out.below hb (by omega))
  have H_19 := Lib.hid ((hb.cell (p := ⟨2, 0, none⟩) (by show 2 < _; omega)).trans H_18.out)
  have U19 := Lib.hid (U18.out.below (by omega) hb)
  have BU19 := Lib.hid (BU18.out.below hb (by omega))
  have J19 := Lib.hid (J18.out.below hb (by omega))
  have BG19 := Lib.hid (BG18.out.below hb (by omega))
  have H19 := Lib.hid (H18.out.below hb)
  have W19 := Lib.hid (W18.out.below hb)
  have BE19 := Lib.hid (BE18.out.below hb (by omega))
  clear P18 T18 V18 E_18 H_18 U18 BU18 J18 BG18 H18 W18 BE18
  clear hb
  have yP_19 : w.heap.size < w19.heap.size := by omega
  have yBU_19 : w3.heap.size < w19.heap.size := by omega
  have yJ_19 : w5.heap.size < w19.heap.size := by omega
  have yBG_19 : w7.heap.size < w19.heap.size := by omega
  have yBE_19 : w17.heap.size < w19.heap.size := by omega
  obtain ⟨Pc0, Pc1, Pc2, Pc3, Pc4, Pc5, Pc6, Pc7, Pc8, Pc9⟩ := P19.out.ten
  obtain ⟨BUc0, BUc1, BUc2, BUc3, BUc4, BUc5, BUc6, BUc7, BUc8, BUc9⟩ := BU19.out.ten
  obtain ⟨Jc0, Jc1, Jc2, Jc3, Jc4, Jc5, Jc6, Jc7, Jc8, Jc9⟩ := J19.out.ten
  obtain ⟨BGc0, BGc1, BGc2, BGc3, BGc4, BGc5, BGc6, BGc7, BGc8, BGc9⟩ := BG19.out.ten
  obtain ⟨BEc0, BEc1, BEc2, BEc3, BEc4, BEc5, BEc6, BEc7, BEc8, BEc9⟩ := BE19.out.ten
  go_wp2_with fail
  refine (heldMachine_any _ _ _ Y 1 w19 H19.out.reads (by omega) hYb (by omega) (by omega)).mono ?_
  rintro e w20 ⟨rfl, hb⟩
  clear Pc0 Pc1 Pc2 Pc3 Pc4 Pc5 Pc6 Pc7 Pc8 Pc9
  clear BUc0 BUc1 BUc2 BUc3 BUc4 BUc5 BUc6 BUc7 BUc8 BUc9
  clear Jc0 Jc1 Jc2 Jc3 Jc4 Jc5 Jc6 Jc7 Jc8 Jc9
  clear BGc0 BGc1 BGc2 BGc3 BGc4 BGc5 BGc6 BGc7 BGc8 BGc9
  clear BEc0 BEc1 BEc2 BEc3 BEc4 BEc5 BEc6 BEc7 BEc8 BEc9
  have s20 : w19.heap.size ≤ w20.heap.size := hb.size
  have P20 := Lib.hid (P19.out.below hb (by omega))
  have T20 := Lib.hid (T19.out.trans (hb.mono (by omega)))
  have V20 := Lib.hid (V19.out.below (by omega) hb)
  have E_20 := Lib.hid (E_19.out.below hb (by omega))
  have H_20 := Lib.hid ((hb.cell (p := ⟨2, 0, none⟩) (by show 2 < _; omega)).trans H_19.out)
  have U20 := Lib.hid (U19.out.below (by omega) hb)
  have BU20 := Lib.hid (BU19.out.below hb (by omega))
  have J20 := Lib.hid (J19.out.below hb (by omega))
  have BG20 := Lib.hid (BG19.out.below hb (by omega))
  have H20 := Lib.hid (H19.out.below hb)
  have W20 := Lib.hid (W19.out.below hb)
  have BE20 := Lib.hid (BE19.out.below hb (by omega))
  clear P19 T19 V19 E_19 H_19 U19 BU19 J19 BG19 H19 W19 BE19
  clear hb
  have yP_20 : w.heap.size < w20.heap.size := by omega
  have yBU_20 : w3.heap.size < w20.heap.size := by omega
  have yJ_20 : w5.heap.size < w20.heap.size := by omega
  have yBG_20 : w7.heap.size < w20.heap.size := by omega
  have yBE_20 : w17.heap.size < w20.heap.size := by omega
  obtain ⟨Pc0, Pc1, Pc2, Pc3, Pc4, Pc5, Pc6, Pc7, Pc8, Pc9⟩ := P20.out.ten
  obtain ⟨BUc0, BUc1, BUc2, BUc3, BUc4, BUc5, BUc6, BUc7, BUc8, BUc9⟩ := BU20.out.ten
  obtain ⟨Jc0, Jc1, Jc2, Jc3, Jc4, Jc5, Jc6, Jc7, Jc8, Jc9⟩ := J20.out.ten
  obtain ⟨BGc0, BGc1, BGc2, BGc3, BGc4, BGc5, BGc6, BGc7, BGc8, BGc9⟩ := BG20.out.ten
  obtain ⟨BEc0, BEc1, BEc2, BEc3, BEc4, BEc5, BEc6, BEc7, BEc8, BEc9⟩ := BE20.out.ten
  go_wp2
  go_ret
  exact ⟨rfl, T20.out⟩
end Go.Proofs.YtimhnkpccbcohaaGreatDoor
