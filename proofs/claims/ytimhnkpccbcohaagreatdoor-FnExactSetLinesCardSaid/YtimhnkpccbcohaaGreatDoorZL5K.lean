/-
 l5Key of the reference model by contract: one byte keyed. Conditions: a machine that is one.
-/
import Derived.Test.YtimhnkpccbcohaaGreatDoorZReadMG
import Derived.Test.YtimhnkpccbcohaaGreatDoorZTakeS
import Derived.Test.YtimhnkpccbcohaaGreatDoorZPushM
import Derived.Test.YtimhnkpccbcohaaGreatDoorZPkH
namespace Go.Proofs.YtimhnkpccbcohaaGreatDoor
open Go.RowKit Go.Conc
set_option linter.unusedVariables false
set_option linter.unusedSimpArgs false

theorem region_post {P : Program} {ops : Array Oper} {id : Nat} {Q : Exit → Act → World → Prop} {a : Act} {w : World} (R : Act → Act → World → Prop) (h1 : (Code.region id ops true).wp P (fun e a' w' => e = .normal ∧ R a a' w') a w) (h2 : ∀ a' w', R a a' w' → Q .normal a' w') : (Code.region id ops true).wp P Q a w :=
 Code.wp_mono (fun e a' w' h => by obtain ⟨rfl, hr⟩ := h; exact h2 a' w' hr) h1
theorem MchV.wide {w : World} {lo hi lo' hi' : Nat} {v : Value} {X : Mch} (h : MchV w lo hi v X) (h1 : lo' ≤ lo) (h2 : hi ≤ hi') : MchV w lo' hi' v X := by
 obtain ⟨A, c, A2, d, M, e, L, lc, T, tc, hv, hp⟩ := h
 exact ⟨A, c, A2, d, M, e, L, lc, T, tc, hv, ⟨hp.font.wideR h1 h2, hp.mag.wide h1 h2, hp.line.wide h1 h2, hp.wait.wide h1 h2, hp.me, hp.em, hp.ll, hp.lm, hp.tl, hp.tm⟩⟩
/-- the three cases of a byte that is no blank -/
theorem key_part {X : Mch} {b : Int} (h : machB X = true) : (inB (keyI X.f b) 0 ((X.ms.length : Int) - 1) = false ∧ keyRow X b = []) ∨ ∃ i : Nat, keyI X.f b = i ∧ i = (keyTo X.f.s b X.f.s.size).toNat ∧ ¬ keyTo X.f.s b X.f.s.size < 0 ∧ X.ms[i]? = some (keyRow X b) := by
 obtain ⟨hm, -⟩ := machB_parts h
 have hk : keyI X.f b = keyTo X.f.s b X.f.s.size := by unfold keyI; rw [if_pos (magB_font hm)]
 obtain ⟨-, hl, -⟩ := magB_rows hm
 by_cases hn : keyTo X.f.s b X.f.s.size < 0
 ·left
  refine ⟨?_, by unfold keyRow; rw [if_pos hn]⟩
  rw [hk]; unfold inB; exact decide_eq_false (by omega)
 ·right
  obtain ⟨h1, h2⟩ := keyTo_lt hn
  refine ⟨(keyTo X.f.s b X.f.s.size).toNat, by rw [hk]; omega, rfl, hn, ?_⟩
  unfold keyRow
  rw [if_neg hn, List.getD, List.getElem?_eq_getElem (by omega)]
  rfl
theorem keyYes_nil {X : Mch} {b : Int} (hb : ¬ b = 32) (h : keyRow X b = []) : keyYes X b = false := by unfold keyYes; rw [if_neg hb, h]
theorem keyYes_cons {X : Mch} {b : Int} {x : Mat} {xs : List Mat} (hb : ¬ b = 32) (h : keyRow X b = x :: xs) : keyYes X b = addOk X x := by unfold keyYes; rw [if_neg hb, h]
theorem keyX_cons {X : Mch} {b : Int} {x : Mat} {xs : List Mat} (hb : ¬ b = 32) (hr : X.ms.getD (keyTo X.f.s b X.f.s.size).toNat [] = x :: xs) (hn : ¬ keyTo X.f.s b X.f.s.size < 0) (hy : addOk X x = true) : keyX X b = addX (tookX X (keyTo X.f.s b X.f.s.size).toNat xs) x := by
 unfold keyX keyMX
 rw [if_neg hb, if_neg hn, hr]
 simp only [hy, if_true]
theorem keyX_band {X : Mch} (hy : keyYes X 32 = true) : keyX X 32 = ⟨X.f, X.ms, X.sp - 1, X.w, X.t, X.k, X.ln ++ [(-1, 0)], X.wt⟩ := by
 unfold keyYes at hy
 rw [if_pos rfl, Bool.and_eq_true, decide_eq_true_eq] at hy
 unfold keyX bandX
 rw [if_pos rfl, if_neg hy.1, hy.2, if_pos rfl]
theorem tot_set {i : Nat} {x : Mat} {xs : List Mat} : ∀ {ms : List (List Mat)}, ms[i]? = some (x :: xs) → tot (ms.set i xs) + 1 = tot ms
 | [], h => by simp at h
 | ys :: ms, h => by
  cases i with
  | zero =>
   simp at h; subst h
   simp [tot]; omega
  | succ i =>
   have h := tot_set (i := i) (ms := ms) (by simpa using h)
   unfold tot at h ⊢
   simp only [List.set_cons_succ, List.map_cons, List.sum_cons] at h ⊢
   omega
theorem small_add {X : Mch} {ms : List (List Mat)} {sp : Int} {x : Mat} (h : machB X = true) (hl : ms.length = X.ms.length) (ht : tot ms ≤ tot X.ms) (hr : ∀ xs ∈ ms, xs.length ≤ 20) : SmallX ⟨X.f, ms, sp, X.w, X.t, X.k, X.ln ++ [x], X.wt⟩ := by
 obtain ⟨b1, b2, b3, b4, b5⟩ := mach_big h
 have h1 := mach_smallX h
 exact ⟨h1.f, by show ms.length ≤ _; omega, fun xs hx => by have := hr xs hx; omega, by show tot ms ≤ _; have := h1.tot; omega, by show (X.ln ++ [x]).length ≤ _; rw [List.length_append, List.length_singleton]; omega, h1.wt⟩
set_option maxRecDepth 100000 in
set_option maxHeartbeats 6400000 in
theorem specL5K_band (lo hi0 : Nat) (v : Value) (X : Mch) (b : Nat) (w : World) (h : MchV w lo hi0 v X) (hhi : hi0 ≤ w.heap.size) (hm : machB X = true) (wf : WfX X) (hb : b = 32) :
  Calls Tryz.prog 57 #[v, .int .i64 b] w fun e w' => ∃ v', e = .returned (.tuple #[v', .bool (keyYes X b)]) ∧ (keyYes X b = false → v' = v) ∧ (keyYes X b = true → MchV w' w.heap.size w'.heap.size v' (keyX X b)) ∧ Below w.heap.size w w' := by
 subst hb
 have HS := Lib.hid (mach_smallX hm)
 have HM := Lib.hid hm
 have hparts := h.parts
 obtain ⟨s, A, n, c, A2, m, d, M, q, e0, L, l, lc, T, r, tc, hv, hF0, hq0, hM0, -⟩ := hparts
 rw [hv] at h ⊢
 clear hv
 obtain ⟨w0, hw0⟩ : ∃ x, w = x := ⟨_, rfl⟩
 have hww : w.heap.size = w0.heap.size := by rw [hw0]
 have HWF := Lib.hid wf
 have T0 : Hid (Below w0.heap.size w0 w0) := Below.refl _ _
 have V0 : Hid (MchV w0 lo hi0 (.agg #[.string s, .slice A n c, .slice A2 m d, .slice M q e0, .int .i64 X.sp, .int .i64 X.w, .int .i64 X.t, .int .i64 X.k, .slice L l lc, .slice T r tc]) X) := by rw [← hw0]; exact h
 have Ka0 : Hid (FontV w0 lo hi0 (.agg #[.string s, .slice A n c, .slice A2 m d]) X.f) := by rw [← hw0]; exact hF0
 have Kb0 : Hid (MagI w0 lo hi0 M X.ms) := by rw [← hw0]; exact hM0
 have HQ0 := Lib.hid hq0
 clear h wf hF0 hM0 hq0
 obtain ⟨w1, hw1, hb1, hz1, hX1⟩ := mxWorld w0 #[.string s, .slice A n c, .slice A2 m d, .slice M q e0, .int .i64 X.sp, .int .i64 X.w, .int .i64 X.t, .int .i64 X.k, .slice L l lc, .slice T r tc] 37
 have T1 := Lib.hid (T0.out.trans (hb1.mono (by omega)))
 have V1 := Lib.hid (V0.out.below (by omega) hb1)
 have Ka1 := Lib.hid (Ka0.out.below (by omega) hb1)
 have Kb1 := Lib.hid (Kb0.out.below (by omega) hb1)
 have sz1 : w0.heap.size ≤ w1.heap.size := hb1.size
 clear T0 V0 Ka0 Kb0
 have P1 := Lib.hid hX1
 obtain ⟨w2, hw2, hb2, hz2, hX2⟩ := mxWorld w1 #[.string ⟨#[]⟩, .slice none 0 0, .slice none 0 0, .slice none 0 0, .int .i64 0, .int .i64 0, .int .i64 0, .int .i64 0, .slice none 0 0, .slice none 0 0] 37
 have T2 := Lib.hid (T1.out.trans (hb2.mono (by omega)))
 have V2 := Lib.hid (V1.out.below (by omega) hb2)
 have Ka2 := Lib.hid (Ka1.out.below (by omega) hb2)
 have Kb2 := Lib.hid (Kb1.out.below (by omega) hb2)
 have P2 := Lib.hid (P1.out.below hb2 (by omega))
 have sz2 : w1.heap.size ≤ w2.heap.size := hb2.size
 clear T1 V1 Ka1 Kb1 P1
 rw [hz1] at hX2
 have R2 := Lib.hid hX2
 rw [hz1] at hz2
 obtain ⟨p0, p1, p2, p3, p4, p5, p6, p7, p8, p9⟩ := P2.out.ten
 rw [hw0]
 go_enter Tryz.func57, Tryz.ntmps57
 go_wp2_with fail
 clear p0 p1 p2 p3 p4 p5 p6 p7 p8 p9
 refine (l5Copy_any lo hi0 _ X w2 V2.out (by omega) HS.out).mono ?_
 rintro e u1 ⟨vC, rfl, hC, hbC⟩
 obtain ⟨O, hOz⟩ : ∃ x, u1.heap.size = x := ⟨_, rfl⟩
 have hbO := hbC.size
 rw [hOz] at hC hbO
 obtain ⟨Az, cz, A2z, dz, Mz, ez, Lz, lcz, Tz, tcz, hs7, f0, f1, g0, g1, l0, l1, t0, t1, hO⟩ := hC
 have hv7 := hO.v
 unfold mwords at hv7
 subst hv7
 have HO := Lib.hid hO
 clear hO
 obtain ⟨u2, hu2, hbu2, hzu2, hU⟩ := mxWorld u1 #[.string ⟨#[]⟩, .slice none 0 0, .slice none 0 0, .slice none 0 0, .int .i64 0, .int .i64 0, .int .i64 0, .int .i64 0, .slice none 0 0, .slice none 0 0] 37
 rw [hOz] at hU hzu2 hbu2
 obtain ⟨o0, o1, o2, o3, o4, o5, o6, o7, o8, o9⟩ := hU.ten
 have fo := hU.warm
 have HU2 := Lib.hid hU
 have HBU := Lib.hid hbu2
 have HBC := Lib.hid hbC
 clear hU hbC hbu2
 go_upto_region 2 with fail
 obtain ⟨u3, hu3, hc9, hR⟩ := HU2.out.put10 (.string X.f.s) (.slice Az X.f.ws.length cz) (.slice A2z X.f.cs.length dz) (.slice Mz X.ms.length ez) (.int .i64 X.sp) (.int .i64 X.w) (.int .i64 X.t) (.int .i64 X.k) (.slice Lz X.ln.length lcz) (.slice Tz X.wt.length tcz)
 rw [hu3]
 have hzu3 := hc9.size
 have hbl : Below u1.heap.size u1 u3 := by rw [hOz]; exact HBU.out.trans (hc9.below (by omega))
 have BC3 : Below w2.heap.size w2 u3 := HBC.out.trans (hbl.mono (by omega))
 clear hu3 hc9 fo o0 o1 o2 o3 o4 o5 o6 o7 o8 o9 hu2
 have hfi := HO.out.fi; have hgi := HO.out.gi; have hli := HO.out.li; have hti := HO.out.ti
 have hfl := HO.out.fl; have hgl := HO.out.gl; have hlt := HO.out.lt
 unfold Off at hfl hgl hlt
 have HLT := Lib.hid HO.out.lineT; have HTT := Lib.hid HO.out.waitT
 obtain ⟨w3, hwk⟩ : ∃ x, u3 = x := ⟨_, rfl⟩
 rw [hwk] at BC3 hbl hR ⊢ hzu3
 clear hwk
 have hb3 := BC3
 have T3 := Lib.hid (T2.out.trans (hb3.mono (by omega)))
 have V3 := Lib.hid (V2.out.below (by omega) hb3)
 have Ka3 := Lib.hid (Ka2.out.below (by omega) hb3)
 have Kb3 := Lib.hid (Kb2.out.below (by omega) hb3)
 have P3 := Lib.hid (P2.out.below hb3 (by omega))
 have R3 := Lib.hid (R2.out.below hb3 (by omega))
 have sz3 : w2.heap.size ≤ w3.heap.size := hb3.size
 clear T2 V2 Ka2 Kb2 P2 R2
 have F3 : Hid (FontO w3 f0 f1 (.agg #[.string X.f.s, .slice Az X.f.ws.length cz, .slice A2z X.f.cs.length dz]) X.f) := HO.out.font.below hbl
 have G3 : Hid (MagI w3 g0 g1 Mz X.ms) := HO.out.mag.reads.below (by omega) hbl
 have L3 : Hid (OwnM w3 l0 (.slice Lz X.ln.length lcz) X.ln) := HO.out.line.below hbl
 have W3 : Hid (OwnM w3 t0 (.slice Tz X.wt.length tcz) X.wt) := HO.out.wait.below hbl
 have Q3 : Hid (Blk w3 O #[.string X.f.s, .slice Az X.f.ws.length cz, .slice A2z X.f.cs.length dz, .slice Mz X.ms.length ez, .int .i64 X.sp, .int .i64 X.w, .int .i64 X.t, .int .i64 X.k, .slice Lz X.ln.length lcz, .slice Tz X.wt.length tcz] 37) := hR
 have hsO : w0.heap.size + 1 < O := by omega
 clear hR hbl BC3 HU2 HBU HBC
 obtain ⟨w4, hw4, hb4, hz4, hX4⟩ := mxWorld w3 #[.int .i64 (-1), .int .i64 0] 64
 have T4 := Lib.hid (T3.out.trans (hb4.mono (by omega)))
 have V4 := Lib.hid (V3.out.below (by omega) hb4)
 have Ka4 := Lib.hid (Ka3.out.below (by omega) hb4)
 have Kb4 := Lib.hid (Kb3.out.below (by omega) hb4)
 have P4 := Lib.hid (P3.out.below hb4 (by omega))
 have R4 := Lib.hid (R3.out.below hb4 (by omega))
 have F4 := Lib.hid (F3.out.below hb4)
 have G4 := Lib.hid (G3.out.below (by omega) hb4)
 have L4 := Lib.hid (L3.out.below hb4)
 have W4 := Lib.hid (W3.out.below hb4)
 have Q4 := Lib.hid (Q3.out.below hb4 (by omega))
 have sz4 : w3.heap.size ≤ w4.heap.size := hb4.size
 clear T3 V3 Ka3 Kb3 P3 R3 F3 G3 L3 W3 Q3
 have Y4 := Lib.hid hX4
 have x0 := cellOfBlk Y4.out 0
 have x1 := cellOfBlk Y4.out 1
 have fx := Y4.out.warm
 go_upto_region 3 with fail
 clear x0 x1 fx
 obtain ⟨yb, hyb⟩ : ∃ x, w3.heap.size = x := ⟨_, rfl⟩
 have hOy : O < yb := by omega
 rw [hyb] at Y4 ⊢
 obtain ⟨w5, hw9⟩ : ∃ x, w4.setCell ⟨yb, 1, none⟩ (.int .i64 0) = x := ⟨_, rfl⟩
 have hc9 : Chg yb (yb + 1) w4 w5 := by rw [← hw9]; exact chg_one _ _ _ _
 have hY9 : Blk w5 yb #[.int .i64 (-1), .int .i64 0] 64 := by rw [← hw9]; exact heapSet (i := 1) Y4.out _
 rw [hw9]
 have T5 := Lib.hid (T4.out.trans ((hc9.below (by omega)).mono (by omega)))
 have V5 := Lib.hid (V4.out.chg hc9 (by omega) (by omega))
 have Ka5 := Lib.hid (Ka4.out.chg hc9 (by omega) (by omega))
 have Kb5 := Lib.hid (Kb4.out.chg hc9 (by omega) (by omega))
 have P5 := Lib.hid (P4.out.chg hc9 (by omega))
 have R5 := Lib.hid (R4.out.chg hc9 (by omega))
 have F5 := Lib.hid (F4.out.chg hc9 (by unfold Off; omega))
 have G5 := Lib.hid (G4.out.chg hc9 (by omega) (by omega))
 have L5 := Lib.hid (L4.out.chg hc9 (fun k hk => by have h7 := HLT.out k hk; have h8 := (L4.out.lt k hk).1; omega))
 have W5 := Lib.hid (W4.out.chg hc9 (fun k hk => by have h7 := HTT.out k hk; have h8 := (W4.out.lt k hk).1; omega))
 have Q5 := Lib.hid (Q4.out.chg hc9 (by omega))
 have sz5 : w4.heap.size ≤ w5.heap.size := hc9.size
 clear T4 V4 Ka4 Kb4 P4 R4 F4 G4 L4 W4 Q4 Y4
 have Y5 := Lib.hid hY9
 clear hc9 hY9 hw9
 have hmf := (mach_facts HM.out).2.2.2
 have e1 : IntKind.i64.wrap (X.sp - 1) = X.sp - 1 := by rw [IntKind.wrap_i64]; omega
 obtain ⟨o0, o1, o2, o3, o4, o5, o6, o7, o8, o9⟩ := Q5.out.ten
 have fo := Q5.out.warm
 go_upto_region 10 with fail
 clear fo hmf e1 o0 o1 o2 o3 o4 o5 o6 o7 o8 o9
 obtain ⟨w6, hw9⟩ : ∃ x, w5.setCell ⟨O, 4, none⟩ (.int .i64 (X.sp - 1)) = x := ⟨_, rfl⟩
 have hc9 : Chg O (O + 1) w5 w6 := by rw [← hw9]; exact chg_one _ _ _ _
 have hQ9 : Blk w6 O #[.string X.f.s, .slice Az X.f.ws.length cz, .slice A2z X.f.cs.length dz, .slice Mz X.ms.length ez, .int .i64 (X.sp - 1), .int .i64 X.w, .int .i64 X.t, .int .i64 X.k, .slice Lz X.ln.length lcz, .slice Tz X.wt.length tcz] 37 := by rw [← hw9]; exact heapSet (i := 4) Q5.out _
 rw [hw9]
 have T6 := Lib.hid (T5.out.trans ((hc9.below (by omega)).mono (by omega)))
 have V6 := Lib.hid (V5.out.chg hc9 (by omega) (by omega))
 have Ka6 := Lib.hid (Ka5.out.chg hc9 (by omega) (by omega))
 have Kb6 := Lib.hid (Kb5.out.chg hc9 (by omega) (by omega))
 have P6 := Lib.hid (P5.out.chg hc9 (by omega))
 have R6 := Lib.hid (R5.out.chg hc9 (by omega))
 have F6 := Lib.hid (F5.out.chg hc9 (by unfold Off; omega))
 have G6 := Lib.hid (G5.out.chg hc9 (by omega) (by omega))
 have L6 := Lib.hid (L5.out.chg hc9 (fun k hk => by have h7 := HLT.out k hk; have h8 := (L5.out.lt k hk).1; omega))
 have W6 := Lib.hid (W5.out.chg hc9 (fun k hk => by have h7 := HTT.out k hk; have h8 := (W5.out.lt k hk).1; omega))
 have Y6 := Lib.hid (Y5.out.chg hc9 (by omega))
 have sz6 : w5.heap.size ≤ w6.heap.size := hc9.size
 clear T5 V5 Ka5 Kb5 P5 R5 F5 G5 L5 W5 Q5 Y5
 have Q6 := Lib.hid hQ9
 clear hQ9 hc9 hw9
 have HTM : Hid (X.wt.length ≤ tcz ∧ tcz ≤ maxLen) := ownM_caps HO.out.wait
 have HEM : Hid (X.ms.length ≤ ez ∧ ez ≤ maxLen) := ownMag_caps HO.out.mag
 have hbg := mach_big HM.out
 have HSX : Hid (SmallX ⟨X.f, X.ms, X.sp - 1, X.w, X.t, X.k, X.ln ++ [(-1, 0)], X.wt⟩) := small_add HM.out rfl (Nat.le_refl _) hbg.2.2.1
 clear hbg
 have HMB : Hid (machB ⟨X.f, X.ms, X.sp - 1, X.w, X.t, X.k, X.ln ++ [(-1, 0)], X.wt⟩ = keyYes X ((32 : Nat) : Int)) := mach_band HM.out
 have HXE : Hid (keyYes X ((32 : Nat) : Int) = true → keyX X ((32 : Nat) : Int) = ⟨X.f, X.ms, X.sp - 1, X.w, X.t, X.k, X.ln ++ [(-1, 0)], X.wt⟩) := fun h9 => keyX_band h9
 obtain ⟨o0, o1, o2, o3, o4, o5, o6, o7, o8, o9⟩ := Q6.out.ten
 have fo := Q6.out.warm
 have x0 := cellOfBlk Y6.out 0
 have x1 := cellOfBlk Y6.out 1
 have hln := HS.out.ln
 have hLlt := L6.out.lt
 go_wp2_with (at_builtin; refine wpl_push_mat w6 rfl (.tmp 40) (.tmp 42) rfl (min l0 O) (.slice Lz X.ln.length lcz) X.ln (-1, 0) rfl rfl (L6.out.base (by omega)) (by omega) hln ?_; intro v9 w7 hO9 hg9 hf9; obtain ⟨A8, c8, rfl, hc81, hc82, -, -⟩ := hO9.form; have hl9 : (X.ln ++ [(-1, 0)]).length = X.ln.length + 1 := (by rw [List.length_append]; rfl); rw [hl9] at hO9 hf9 hc81 ⊢; have hc7 : Chg (min l0 O) l1 w6 w7 := Chg.of_grown hg9 (fun g hq => ⟨by have := (hLlt g hq).1; omega, HLT.out g hq⟩); have hq8 := Q6.out.chg hc7 (by omega); have h90 := cellOfBlk hq8 0; have h91 := cellOfBlk hq8 1; have h92 := cellOfBlk hq8 2; have h93 := cellOfBlk hq8 3; have h94 := cellOfBlk hq8 4; have h95 := cellOfBlk hq8 5; have h96 := cellOfBlk hq8 6; have h97 := cellOfBlk hq8 7; have h98 := cellOfBlk hq8 8; have h99 := cellOfBlk hq8 9; have h9c := hq8.warm 8; have HC7 := Lib.hid hc7; have HO9 := Lib.hid hO9; have HF9 := Lib.hid hf9; have HC8 := Lib.hid (And.intro hc81 hc82); clear hc7 hq8 hO9 hg9 hf9 hc81 hc82 hl9)
 clear h9c x0 x1 fo h90 h91 h92 h93 h94 h95 h96 h97 h98 h99 o0 o1 o2 o3 o4 o5 o6 o7 o8 o9
 have hc7 := HC7.out
 have T7 := Lib.hid (T6.out.trans ((hc7.below (by omega)).mono (by omega)))
 have V7 := Lib.hid (V6.out.chg hc7 (by omega) (by omega))
 have Ka7 := Lib.hid (Ka6.out.chg hc7 (by omega) (by omega))
 have Kb7 := Lib.hid (Kb6.out.chg hc7 (by omega) (by omega))
 have P7 := Lib.hid (P6.out.chg hc7 (by omega))
 have R7 := Lib.hid (R6.out.chg hc7 (by omega))
 have F7 := Lib.hid (F6.out.chg hc7 (by unfold Off; omega))
 have G7 := Lib.hid (G6.out.chg hc7 (by omega) (by omega))
 have W7 := Lib.hid (W6.out.chg hc7 (fun k hk => by have h7 := HTT.out k hk; have h8 := (W6.out.lt k hk).1; omega))
 have Y7 := Lib.hid (Y6.out.chg hc7 (by omega))
 have Q7 := Lib.hid (Q6.out.chg hc7 (by omega))
 have sz7 : w6.heap.size ≤ w7.heap.size := hc7.size
 clear T6 V6 Ka6 Kb6 P6 R6 F6 G6 L6 W6 Y6 Q6
 obtain ⟨w8, hw9⟩ : ∃ x, w7.setCell ⟨O, 8, none⟩ (.slice A8 (X.ln.length + 1) c8) = x := ⟨_, rfl⟩
 have hL9 : OwnM w8 (min l0 O) (.slice A8 (X.ln.length + 1) c8) (X.ln ++ [(-1, 0)]) := by rw [← hw9]; exact HO9.out.setAt (fun e9 => by rcases HF9.out with h9 | h9; (rw [e9] at h9; have h8 := HLT.out O h9.symm; omega); (have := h9 O e9; omega)) _
 have hc9 : Chg O (O + 1) w7 w8 := by rw [← hw9]; exact chg_one _ _ _ _
 have hQ9 : Blk w8 O #[.string X.f.s, .slice Az X.f.ws.length cz, .slice A2z X.f.cs.length dz, .slice Mz X.ms.length ez, .int .i64 (X.sp - 1), .int .i64 X.w, .int .i64 X.t, .int .i64 X.k, .slice A8 (X.ln.length + 1) c8, .slice Tz X.wt.length tcz] 37 := by rw [← hw9]; exact heapSet (i := 8) Q7.out _
 rw [hw9]
 have T8 := Lib.hid (T7.out.trans ((hc9.below (by omega)).mono (by omega)))
 have V8 := Lib.hid (V7.out.chg hc9 (by omega) (by omega))
 have Ka8 := Lib.hid (Ka7.out.chg hc9 (by omega) (by omega))
 have Kb8 := Lib.hid (Kb7.out.chg hc9 (by omega) (by omega))
 have P8 := Lib.hid (P7.out.chg hc9 (by omega))
 have R8 := Lib.hid (R7.out.chg hc9 (by omega))
 have F8 := Lib.hid (F7.out.chg hc9 (by unfold Off; omega))
 have G8 := Lib.hid (G7.out.chg hc9 (by omega) (by omega))
 have W8 := Lib.hid (W7.out.chg hc9 (fun k hk => by have h7 := HTT.out k hk; have h8 := (W7.out.lt k hk).1; omega))
 have Y8 := Lib.hid (Y7.out.chg hc9 (by omega))
 have sz8 : w7.heap.size ≤ w8.heap.size := hc9.size
 clear T7 V7 Ka7 Kb7 P7 R7 F7 G7 W7 Y7 Q7
 have Q8 := Lib.hid hQ9
 have L8 := Lib.hid hL9
 clear hQ9 hL9 hc9 hc7 hw9 HO9
 have hV9 : MchV w8 w2.heap.size w8.heap.size (.agg #[.string X.f.s, .slice Az X.f.ws.length cz, .slice A2z X.f.cs.length dz, .slice Mz X.ms.length ez, .int .i64 (X.sp - 1), .int .i64 X.w, .int .i64 X.t, .int .i64 X.k, .slice A8 (X.ln.length + 1) c8, .slice Tz X.wt.length tcz]) ⟨X.f, X.ms, X.sp - 1, X.w, X.t, X.k, X.ln ++ [(-1, 0)], X.wt⟩ := MchV.mk (X := ⟨X.f, X.ms, X.sp - 1, X.w, X.t, X.k, X.ln ++ [(-1, 0)], X.wt⟩) (F8.out.font.wideR (by omega) (by omega)) (G8.out.wide (by omega) (by omega)) (MatsI.wide L8.out.reads (by omega) (Nat.le_refl _)) ((MatsI.cutM W8.out HTT.out).wide (by omega) (by omega)) rfl (by rw [List.length_append]; rfl) rfl HEM.out.1 HEM.out.2 HC8.out.1 HC8.out.2 HTM.out.1 HTM.out.2
 have HV9 := Lib.hid hV9
 refine (specMachine_any w2.heap.size w8.heap.size _ ⟨X.f, X.ms, X.sp - 1, X.w, X.t, X.k, X.ln ++ [(-1, 0)], X.wt⟩ w8 hV9 (Nat.le_refl _) HSX.out).mono ?_
 rintro e w9 ⟨rfl, hb9⟩
 have HV := Lib.hid (HV9.out.below (Nat.le_refl _) hb9)
 clear hV9 HV9
 have T9 := Lib.hid (T8.out.trans (hb9.mono (by omega)))
 have V9 := Lib.hid (V8.out.below (by omega) hb9)
 have P9 := Lib.hid (P8.out.below hb9 (by omega))
 have R9 := Lib.hid (R8.out.below hb9 (by omega))
 have Q9 := Lib.hid (Q8.out.below hb9 (by omega))
 have sz9 : w8.heap.size ≤ w9.heap.size := hb9.size
 clear T8 V8 P8 R8 Q8
 rw [HMB.out]
 cases hyes : keyYes X ((32 : Nat) : Int)
 ·obtain ⟨p0, p1, p2, p3, p4, p5, p6, p7, p8, p9⟩ := P9.out.ten
  obtain ⟨r0, r1, r2, r3, r4, r5, r6, r7, r8, r9⟩ := R9.out.ten
  have ff := R9.out.warm
  go_wp2
  obtain ⟨w9, hw9, hc9, hR⟩ := R9.out.put10 (.string s) (.slice A n c) (.slice A2 m d) (.slice M q e0) (.int .i64 X.sp) (.int .i64 X.w) (.int .i64 X.t) (.int .i64 X.k) (.slice L l lc) (.slice T r tc)
  (try rw [hw9])
  clear hw9 r0 r1 r2 r3 r4 r5 r6 r7 r8 r9
  obtain ⟨r0, r1, r2, r3, r4, r5, r6, r7, r8, r9⟩ := hR.ten
  (try simp only [Exit.inBlock, Exit.then])
  clear p0 p1 p2 p3 p4 p5 p6 p7 p8 p9
  refine bodyPost_ret (v := .tuple #[.agg #[.string s, .slice A n c, .slice A2 m d, .slice M q e0, .int .i64 X.sp, .int .i64 X.w, .int .i64 X.t, .int .i64 X.k, .slice L l lc, .slice T r tc], .bool false]) (by simp [results, Tryz.results57, go_sem, r0, r1, r2, r3, r4, r5, r6, r7, r8, r9]) rfl ?_
  rw [hyes]
  exact ⟨_, rfl, fun _ => rfl, fun h9 => (by cases h9), T9.out.trans ((hc9.below (by omega)).mono (by omega))⟩
 ·obtain ⟨o0, o1, o2, o3, o4, o5, o6, o7, o8, o9⟩ := Q9.out.ten
  obtain ⟨r0, r1, r2, r3, r4, r5, r6, r7, r8, r9⟩ := R9.out.ten
  have ff := R9.out.warm
  go_wp2
  obtain ⟨w9, hw9, hc9, hR⟩ := R9.out.put10 (.string X.f.s) (.slice Az X.f.ws.length cz) (.slice A2z X.f.cs.length dz) (.slice Mz X.ms.length ez) (.int .i64 (X.sp - 1)) (.int .i64 X.w) (.int .i64 X.t) (.int .i64 X.k) (.slice A8 (X.ln.length + 1) c8) (.slice Tz X.wt.length tcz)
  (try rw [hw9])
  clear hw9 r0 r1 r2 r3 r4 r5 r6 r7 r8 r9
  obtain ⟨r0, r1, r2, r3, r4, r5, r6, r7, r8, r9⟩ := hR.ten
  (try simp only [Exit.inBlock, Exit.then])
  clear o0 o1 o2 o3 o4 o5 o6 o7 o8 o9
  refine bodyPost_ret (v := .tuple #[.agg #[.string X.f.s, .slice Az X.f.ws.length cz, .slice A2z X.f.cs.length dz, .slice Mz X.ms.length ez, .int .i64 (X.sp - 1), .int .i64 X.w, .int .i64 X.t, .int .i64 X.k, .slice A8 (X.ln.length + 1) c8, .slice Tz X.wt.length tcz], .bool true]) (by simp [results, Tryz.results57, go_sem, r0, r1, r2, r3, r4, r5, r6, r7, r8, r9]) rfl ?_
  rw [hyes, HXE.out hyes]
  exact ⟨_, rfl, fun h9 => (by cases h9), fun _ => (HV.out.chg hc9 (by omega) (by omega)).wide (by omega) (by have := hc9.size; omega), T9.out.trans ((hc9.below (by omega)).mono (by omega))⟩
set_option maxRecDepth 100000 in
set_option maxHeartbeats 6400000 in
theorem specL5K_out (lo hi0 : Nat) (v : Value) (X : Mch) (b : Nat) (w : World) (h : MchV w lo hi0 v X) (hhi : hi0 ≤ w.heap.size) (hm : machB X = true) (wf : WfX X) (hb : ¬ b = 32) (hin : inB (keyI X.f (b : Int)) 0 ((X.ms.length : Int) - 1) = false) (hkr : keyRow X b = []) :
  Calls Tryz.prog 57 #[v, .int .i64 b] w fun e w' => ∃ v', e = .returned (.tuple #[v', .bool (keyYes X b)]) ∧ (keyYes X b = false → v' = v) ∧ (keyYes X b = true → MchV w' w.heap.size w'.heap.size v' (keyX X b)) ∧ Below w.heap.size w w' := by
 have HS := Lib.hid (mach_smallX hm)
 have HM := Lib.hid hm
 have hbe : ((b : Int) == 32) = false := by simp; omega
 have HMG := Lib.hid (machB_parts hm).1
 have hyes : keyYes X b = false := keyYes_nil (by omega) hkr
 have hparts := h.parts
 obtain ⟨s, A, n, c, A2, m, d, M, q, e0, L, l, lc, T, r, tc, hv, hF0, hq0, hM0, -⟩ := hparts
 rw [hv] at h ⊢
 clear hv
 obtain ⟨w0, hw0⟩ : ∃ x, w = x := ⟨_, rfl⟩
 have hww : w.heap.size = w0.heap.size := by rw [hw0]
 have HWF := Lib.hid wf
 have T0 : Hid (Below w0.heap.size w0 w0) := Below.refl _ _
 have V0 : Hid (MchV w0 lo hi0 (.agg #[.string s, .slice A n c, .slice A2 m d, .slice M q e0, .int .i64 X.sp, .int .i64 X.w, .int .i64 X.t, .int .i64 X.k, .slice L l lc, .slice T r tc]) X) := by rw [← hw0]; exact h
 have Ka0 : Hid (FontV w0 lo hi0 (.agg #[.string s, .slice A n c, .slice A2 m d]) X.f) := by rw [← hw0]; exact hF0
 have Kb0 : Hid (MagI w0 lo hi0 M X.ms) := by rw [← hw0]; exact hM0
 have HQ0 := Lib.hid hq0
 clear h wf hF0 hM0 hq0
 obtain ⟨w1, hw1, hb1, hz1, hX1⟩ := mxWorld w0 #[.string s, .slice A n c, .slice A2 m d, .slice M q e0, .int .i64 X.sp, .int .i64 X.w, .int .i64 X.t, .int .i64 X.k, .slice L l lc, .slice T r tc] 37
 have T1 := Lib.hid (T0.out.trans (hb1.mono (by omega)))
 have V1 := Lib.hid (V0.out.below (by omega) hb1)
 have Ka1 := Lib.hid (Ka0.out.below (by omega) hb1)
 have Kb1 := Lib.hid (Kb0.out.below (by omega) hb1)
 have sz1 : w0.heap.size ≤ w1.heap.size := hb1.size
 clear T0 V0 Ka0 Kb0
 have P1 := Lib.hid hX1
 obtain ⟨w2, hw2, hb2, hz2, hX2⟩ := mxWorld w1 #[.string ⟨#[]⟩, .slice none 0 0, .slice none 0 0, .slice none 0 0, .int .i64 0, .int .i64 0, .int .i64 0, .int .i64 0, .slice none 0 0, .slice none 0 0] 37
 have T2 := Lib.hid (T1.out.trans (hb2.mono (by omega)))
 have V2 := Lib.hid (V1.out.below (by omega) hb2)
 have Ka2 := Lib.hid (Ka1.out.below (by omega) hb2)
 have Kb2 := Lib.hid (Kb1.out.below (by omega) hb2)
 have P2 := Lib.hid (P1.out.below hb2 (by omega))
 have sz2 : w1.heap.size ≤ w2.heap.size := hb2.size
 clear T1 V1 Ka1 Kb1 P1
 rw [hz1] at hX2
 have R2 := Lib.hid hX2
 rw [hz1] at hz2
 obtain ⟨p0, p1, p2, p3, p4, p5, p6, p7, p8, p9⟩ := P2.out.ten
 rw [hw0]
 go_enter Tryz.func57, Tryz.ntmps57
 go_wp2_with fail
 clear p0 p1 p2 p3 p4 p5 p6 p7 p8 p9
 refine (l5Copy_any lo hi0 _ X w2 V2.out (by omega) HS.out).mono ?_
 rintro e u1 ⟨vC, rfl, hC, hbC⟩
 obtain ⟨O, hOz⟩ : ∃ x, u1.heap.size = x := ⟨_, rfl⟩
 have hbO := hbC.size
 rw [hOz] at hC hbO
 obtain ⟨Az, cz, A2z, dz, Mz, ez, Lz, lcz, Tz, tcz, hs7, f0, f1, g0, g1, l0, l1, t0, t1, hO⟩ := hC
 have hv7 := hO.v
 unfold mwords at hv7
 subst hv7
 have HO := Lib.hid hO
 clear hO
 obtain ⟨u2, hu2, hbu2, hzu2, hU⟩ := mxWorld u1 #[.string ⟨#[]⟩, .slice none 0 0, .slice none 0 0, .slice none 0 0, .int .i64 0, .int .i64 0, .int .i64 0, .int .i64 0, .slice none 0 0, .slice none 0 0] 37
 rw [hOz] at hU hzu2 hbu2
 obtain ⟨o0, o1, o2, o3, o4, o5, o6, o7, o8, o9⟩ := hU.ten
 have fo := hU.warm
 have HU2 := Lib.hid hU
 have HBU := Lib.hid hbu2
 have HBC := Lib.hid hbC
 clear hU hbC hbu2
 go_upto_region 2 with fail
 obtain ⟨u3, hu3, hc9, hR⟩ := HU2.out.put10 (.string X.f.s) (.slice Az X.f.ws.length cz) (.slice A2z X.f.cs.length dz) (.slice Mz X.ms.length ez) (.int .i64 X.sp) (.int .i64 X.w) (.int .i64 X.t) (.int .i64 X.k) (.slice Lz X.ln.length lcz) (.slice Tz X.wt.length tcz)
 rw [hu3]
 have hzu3 := hc9.size
 have hbl : Below u1.heap.size u1 u3 := by rw [hOz]; exact HBU.out.trans (hc9.below (by omega))
 have BC3 : Below w2.heap.size w2 u3 := HBC.out.trans (hbl.mono (by omega))
 clear hu3 hc9 fo o0 o1 o2 o3 o4 o5 o6 o7 o8 o9 hu2
 have hfi := HO.out.fi; have hgi := HO.out.gi; have hli := HO.out.li; have hti := HO.out.ti
 have hfl := HO.out.fl; have hgl := HO.out.gl; have hlt := HO.out.lt
 unfold Off at hfl hgl hlt
 have HLT := Lib.hid HO.out.lineT; have HTT := Lib.hid HO.out.waitT
 obtain ⟨w3, hwk⟩ : ∃ x, u3 = x := ⟨_, rfl⟩
 rw [hwk] at BC3 hbl hR ⊢ hzu3
 clear hwk
 have hb3 := BC3
 have T3 := Lib.hid (T2.out.trans (hb3.mono (by omega)))
 have V3 := Lib.hid (V2.out.below (by omega) hb3)
 have Ka3 := Lib.hid (Ka2.out.below (by omega) hb3)
 have Kb3 := Lib.hid (Kb2.out.below (by omega) hb3)
 have P3 := Lib.hid (P2.out.below hb3 (by omega))
 have R3 := Lib.hid (R2.out.below hb3 (by omega))
 have sz3 : w2.heap.size ≤ w3.heap.size := hb3.size
 clear T2 V2 Ka2 Kb2 P2 R2
 have F3 : Hid (FontO w3 f0 f1 (.agg #[.string X.f.s, .slice Az X.f.ws.length cz, .slice A2z X.f.cs.length dz]) X.f) := HO.out.font.below hbl
 have G3 : Hid (MagI w3 g0 g1 Mz X.ms) := HO.out.mag.reads.below (by omega) hbl
 have L3 : Hid (OwnM w3 l0 (.slice Lz X.ln.length lcz) X.ln) := HO.out.line.below hbl
 have W3 : Hid (OwnM w3 t0 (.slice Tz X.wt.length tcz) X.wt) := HO.out.wait.below hbl
 have Q3 : Hid (Blk w3 O #[.string X.f.s, .slice Az X.f.ws.length cz, .slice A2z X.f.cs.length dz, .slice Mz X.ms.length ez, .int .i64 X.sp, .int .i64 X.w, .int .i64 X.t, .int .i64 X.k, .slice Lz X.ln.length lcz, .slice Tz X.wt.length tcz] 37) := hR
 have hsO : w0.heap.size + 1 < O := by omega
 clear hR hbl BC3 HU2 HBU HBC
 obtain ⟨w4, hw4, hb4, hz4, hX4⟩ := mxWorld w3 #[.int .i64 (-1), .int .i64 0] 64
 have T4 := Lib.hid (T3.out.trans (hb4.mono (by omega)))
 have V4 := Lib.hid (V3.out.below (by omega) hb4)
 have Ka4 := Lib.hid (Ka3.out.below (by omega) hb4)
 have Kb4 := Lib.hid (Kb3.out.below (by omega) hb4)
 have P4 := Lib.hid (P3.out.below hb4 (by omega))
 have R4 := Lib.hid (R3.out.below hb4 (by omega))
 have F4 := Lib.hid (F3.out.below hb4)
 have G4 := Lib.hid (G3.out.below (by omega) hb4)
 have L4 := Lib.hid (L3.out.below hb4)
 have W4 := Lib.hid (W3.out.below hb4)
 have Q4 := Lib.hid (Q3.out.below hb4 (by omega))
 have sz4 : w3.heap.size ≤ w4.heap.size := hb4.size
 clear T3 V3 Ka3 Kb3 P3 R3 F3 G3 L3 W3 Q3
 have Y4 := Lib.hid hX4
 have x0 := cellOfBlk Y4.out 0
 have x1 := cellOfBlk Y4.out 1
 have fx := Y4.out.warm
 go_upto_region 3 with fail
 clear x0 x1 fx
 obtain ⟨yb, hyb⟩ : ∃ x, w3.heap.size = x := ⟨_, rfl⟩
 have hOy : O < yb := by omega
 rw [hyb] at Y4 ⊢
 obtain ⟨w5, hw9⟩ : ∃ x, w4.setCell ⟨yb, 1, none⟩ (.int .i64 0) = x := ⟨_, rfl⟩
 have hc9 : Chg yb (yb + 1) w4 w5 := by rw [← hw9]; exact chg_one _ _ _ _
 have hY9 : Blk w5 yb #[.int .i64 (-1), .int .i64 0] 64 := by rw [← hw9]; exact heapSet (i := 1) Y4.out _
 rw [hw9]
 have T5 := Lib.hid (T4.out.trans ((hc9.below (by omega)).mono (by omega)))
 have V5 := Lib.hid (V4.out.chg hc9 (by omega) (by omega))
 have Ka5 := Lib.hid (Ka4.out.chg hc9 (by omega) (by omega))
 have Kb5 := Lib.hid (Kb4.out.chg hc9 (by omega) (by omega))
 have P5 := Lib.hid (P4.out.chg hc9 (by omega))
 have R5 := Lib.hid (R4.out.chg hc9 (by omega))
 have F5 := Lib.hid (F4.out.chg hc9 (by unfold Off; omega))
 have G5 := Lib.hid (G4.out.chg hc9 (by omega) (by omega))
 have L5 := Lib.hid (L4.out.chg hc9 (fun k hk => by have h7 := HLT.out k hk; have h8 := (L4.out.lt k hk).1; omega))
 have W5 := Lib.hid (W4.out.chg hc9 (fun k hk => by have h7 := HTT.out k hk; have h8 := (W4.out.lt k hk).1; omega))
 have Q5 := Lib.hid (Q4.out.chg hc9 (by omega))
 have sz5 : w4.heap.size ≤ w5.heap.size := hc9.size
 clear T4 V4 Ka4 Kb4 P4 R4 F4 G4 L4 W4 Q4 Y4
 have Y5 := Lib.hid hY9
 clear hc9 hY9 hw9
 have HIN : Hid (inB (keyI X.f (b : Int)) 0 ((q : Int) - 1) = false) := by show _ = _; rw [← HQ0.out]; exact hin
 have HYE := Lib.hid hyes
 clear hin hkr hyes
 go_upto_region 5 with fail
 refine region_post (fun a a' w' => ∃ zb : Nat, a' = ((((((((((((((((a.put (some 21) (.pointer (some ⟨w0.heap.size, 0, none⟩))).put (some 22) (.agg #[.string s, .slice A n c, .slice A2 m d])).put (some 23) (.pointer (some ⟨w0.heap.size, 3, none⟩))).put (some 24) (.slice M q e0)).put (some 25) (.pointer (some ⟨w0.heap.size, 0, none⟩))).put (some 26) (.agg #[.string s, .slice A n c, .slice A2 m d])).put (some 27) (.int .i64 b)).put (some 28) (.int .i64 (keyI X.f b))).put (some 29) (.tuple #[.slice none 0 0, .agg #[.int .i64 0, .int .i64 0], .bool false])).put (some 20) (.tuple #[.slice none 0 0, .agg #[.int .i64 0, .int .i64 0], .bool false])).put (some 30) (.slice none 0 0)).put (some 31) (.agg #[.int .i64 0, .int .i64 0])).put (some 32) (.bool false)).put (some 9) (.pointer (some ⟨zb, 0, none⟩))).put (some 8) (.slice none 0 0)).put (some 10) (.bool false)) ∧ w5.heap.size ≤ zb ∧ Below w5.heap.size w5 w') ?_ ?_
 ·have D5 : Hid (Below w5.heap.size w5 w5) := Below.refl _ _
  refine wp_region_plan (.take 0 (.take 1 (.take 2 (.take 3 (.take 4 (.take 5 (.take 6 (.two 7 13 (.two 8 13 (.take 9 (.take 10 (.take 11 (.take 12 (.one 13 (.one 14 (.one 15 (.one 16 .done)))))))) (.one 8 (.take 9 (.take 10 (.take 11 (.take 12 (.one 14 (.one 15 (.one 16 .done))))))))) (.one 7 (.one 8 (.take 9 (.take 10 (.take 11 (.take 12 (.one 14 (.one 15 (.one 16 .done))))))))))))))))) (fun w' => w'.cell? ⟨w0.heap.size, 0, none⟩ = some (.string s) ∧ w'.cell? ⟨w0.heap.size, 1, none⟩ = some (.slice A n c) ∧ w'.cell? ⟨w0.heap.size, 2, none⟩ = some (.slice A2 m d) ∧ w'.cell? ⟨w0.heap.size, 3, none⟩ = some (.slice M q e0) ∧ w'.cell? ⟨w0.heap.size, 4, none⟩ = some (.int .i64 X.sp) ∧ w'.cell? ⟨w0.heap.size, 5, none⟩ = some (.int .i64 X.w) ∧ w'.cell? ⟨w0.heap.size, 6, none⟩ = some (.int .i64 X.t) ∧ w'.cell? ⟨w0.heap.size, 7, none⟩ = some (.int .i64 X.k) ∧ w'.cell? ⟨w0.heap.size, 8, none⟩ = some (.slice L l lc) ∧ w'.cell? ⟨w0.heap.size, 9, none⟩ = some (.slice T r tc)) (by kernel_rfl) (by kernel_rfl) (by kernel_rfl) (by intro c a d v w h; exact absurd h.1 (by simp)) P5.out.ten ?_
  obtain ⟨w6, hwd⟩ : ∃ x, w5.drew = x := ⟨_, rfl⟩
  have hb6 : Below w5.heap.size w5 w6 := by rw [← hwd]; exact (Below.refl _ _).drew
  have hsz6 : w6.heap.size = w5.heap.size := by rw [← hwd]; rfl
  have Ka6 := Lib.hid (Ka5.out.below (by omega) hb6)
  have Kb6 := Lib.hid (Kb5.out.below (by omega) hb6)
  have P6 := Lib.hid (P5.out.below hb6 (by omega))
  have D6 := Lib.hid (D5.out.trans (hb6.mono (by omega)))
  have sz6 : w5.heap.size ≤ w6.heap.size := hb6.size
  clear Ka5 Kb5 P5 D5
  rw [hwd]
  clear hwd
  clear hsz6
  iterate 7 (refine plan_quiet rfl (by rfl) (v := ?_) ?_ ?_; rotate_left; (intro w1 hSw; obtain ⟨hs0, hs1, hs2, hs3, hs4, hs5, hs6, hs7, hs8, hs9⟩ := hSw; go_simp; try (with_reducible rfl)); (try simp only [Act.put, List.setIfInBounds_toArray, List.set_cons_zero, List.set_cons_succ]))
  refine plan_fork rfl rfl (fun Kc hK => ?_) (fun Kc hK => ?_)
  ·rw [if_pos (by rfl)]
   go_simp
   refine (specKeyOf_any lo hi0 _ X.f (b : Int) w6 Ka6.out (by omega) HS.out.f).mono ?_
   rintro e w7 ⟨rfl, hb7⟩
   have Ka7 := Lib.hid (Ka6.out.below (by omega) hb7)
   have Kb7 := Lib.hid (Kb6.out.below (by omega) hb7)
   have P7 := Lib.hid (P6.out.below hb7 (by omega))
   have D7 := Lib.hid (D6.out.trans (hb7.mono (by omega)))
   have sz7 : w6.heap.size ≤ w7.heap.size := hb7.size
   clear Ka6 Kb6 P6 D6
   refine hK.out _ _ P7.out.ten ?_
   clear hK Kc
   refine plan_fork rfl rfl (fun Kc hK => ?_) (fun Kc hK => ?_)
   ·rw [if_pos (by rfl)]
    go_simp
    refine (specTake_no2 lo hi0 lo hi0 _ X.f M q e0 X.ms (keyI X.f b) w7 Ka7.out (by omega) HS.out.f HQ0.out (by rw [← HQ0.out]; exact HS.out.ms) Kb7.out (by omega) HWF.out.ms HMG.out HIN.out).mono ?_
    rintro e w8 ⟨rfl, hb8⟩
    have Ka8 := Lib.hid (Ka7.out.below (by omega) hb8)
    have Kb8 := Lib.hid (Kb7.out.below (by omega) hb8)
    have P8 := Lib.hid (P7.out.below hb8 (by omega))
    have D8 := Lib.hid (D7.out.trans (hb8.mono (by omega)))
    have sz8 : w7.heap.size ≤ w8.heap.size := hb8.size
    clear Ka7 Kb7 P7 D7
    refine hK.out _ _ P8.out.ten ?_
    clear hK Kc
    iterate 4 (refine plan_quiet rfl (by rfl) (v := ?_) ?_ ?_; rotate_left; (intro w1 hSw; obtain ⟨hs0, hs1, hs2, hs3, hs4, hs5, hs6, hs7, hs8, hs9⟩ := hSw; go_simp; try (with_reducible rfl)); (try simp only [Act.put, List.setIfInBounds_toArray, List.set_cons_zero, List.set_cons_succ]))
    refine plan_step rfl (fun Kc hK => ?_)
    rw [if_pos (by rfl)]
    go_simp
    obtain ⟨w9, hw9, hb9, hz9, hX9⟩ := mxWorld w8 #[.int .i64 0, .int .i64 0] 64
    have Ka9 := Lib.hid (Ka8.out.below (by omega) hb9)
    have Kb9 := Lib.hid (Kb8.out.below (by omega) hb9)
    have P9 := Lib.hid (P8.out.below hb9 (by omega))
    have D9 := Lib.hid (D8.out.trans (hb9.mono (by omega)))
    have sz9 : w8.heap.size ≤ w9.heap.size := hb9.size
    clear Ka8 Kb8 P8 D8
    have Z9 := Lib.hid hX9
    have hzl : w8.heap.size < w9.heap.size := by omega
    rw [hw9]
    clear hw9 hz9 hX9 hb9
    refine hK.out _ _ P9.out.ten ?_
    clear hK Kc
    refine plan_step rfl (fun Kc hK => ?_)
    rw [if_pos (by rfl)]
    go_simp
    refine hK.out _ _ P9.out.ten ?_
    clear hK Kc
    have z0 := cellOfBlk Z9.out 0
    have z1 := cellOfBlk Z9.out 1
    have fz := Z9.out.warm
    refine plan_step rfl (fun Kc hK => ?_)
    rw [if_pos (by rfl)]
    go_simp
    clear z0 z1 fz
    obtain ⟨w10, hw9⟩ : ∃ x, (w9.setCell ⟨w8.heap.size, 0, none⟩ (.int .i64 0)).setCell ⟨w8.heap.size, 1, none⟩ (.int .i64 0) = x := ⟨_, rfl⟩
    have hc9 : Chg (w8.heap.size) (w8.heap.size + 1) w9 w10 := by rw [← hw9]; exact chg_two _ _ _ _
    have hZ9 : Blk w10 (w8.heap.size) #[.int .i64 0, .int .i64 0] 64 := by rw [← hw9]; exact Z9.out.fill2 _ _
    rw [hw9]
    clear hw9
    have Ka10 := Lib.hid (Ka9.out.chg hc9 (by omega) (by omega))
    have Kb10 := Lib.hid (Kb9.out.chg hc9 (by omega) (by omega))
    have P10 := Lib.hid (P9.out.chg hc9 (by omega))
    have D10 := Lib.hid (D9.out.trans ((hc9.below (by omega)).mono (by omega)))
    have sz10 : w9.heap.size ≤ w10.heap.size := hc9.size
    clear Ka9 Kb9 P9 D9 Z9
    refine hK.out _ _ P10.out.ten ?_
    clear hK Kc
    refine plan_step rfl (fun Kc hK => ?_)
    rw [if_pos (by rfl)]
    go_simp
    refine hK.out _ _ P10.out.ten ?_
    clear hK Kc
    refine plan_end ?_
    refine ⟨rfl, w8.heap.size, ?_, by omega, D10.out⟩
    first | rfl | (simp only [Act.put, List.setIfInBounds_toArray, List.set_cons_zero, List.set_cons_succ])
   ·rw [if_pos (by rfl)]
    go_simp
    obtain ⟨w8, hw8, hb8, hz8, hX8⟩ := mxWorld w7 #[.int .i64 0, .int .i64 0] 64
    have Ka8 := Lib.hid (Ka7.out.below (by omega) hb8)
    have Kb8 := Lib.hid (Kb7.out.below (by omega) hb8)
    have P8 := Lib.hid (P7.out.below hb8 (by omega))
    have D8 := Lib.hid (D7.out.trans (hb8.mono (by omega)))
    have sz8 : w7.heap.size ≤ w8.heap.size := hb8.size
    clear Ka7 Kb7 P7 D7
    have Z8 := Lib.hid hX8
    have hzl : w7.heap.size < w8.heap.size := by omega
    rw [hw8]
    clear hw8 hz8 hX8 hb8
    refine hK.out _ _ P8.out.ten ?_
    clear hK Kc
    refine plan_step rfl (fun Kc hK => ?_)
    rw [if_pos (by rfl)]
    go_simp
    refine (specTake_no2 lo hi0 lo hi0 _ X.f M q e0 X.ms (keyI X.f b) w8 Ka8.out (by omega) HS.out.f HQ0.out (by rw [← HQ0.out]; exact HS.out.ms) Kb8.out (by omega) HWF.out.ms HMG.out HIN.out).mono ?_
    rintro e w9 ⟨rfl, hb9⟩
    have Ka9 := Lib.hid (Ka8.out.below (by omega) hb9)
    have Kb9 := Lib.hid (Kb8.out.below (by omega) hb9)
    have P9 := Lib.hid (P8.out.below hb9 (by omega))
    have D9 := Lib.hid (D8.out.trans (hb9.mono (by omega)))
    have Z9 := Lib.hid (Z8.out.below hb9 (by omega))
    have sz9 : w8.heap.size ≤ w9.heap.size := hb9.size
    clear Ka8 Kb8 P8 D8 Z8
    refine hK.out _ _ P9.out.ten ?_
    clear hK Kc
    iterate 4 (refine plan_quiet rfl (by rfl) (v := ?_) ?_ ?_; rotate_left; (intro w1 hSw; obtain ⟨hs0, hs1, hs2, hs3, hs4, hs5, hs6, hs7, hs8, hs9⟩ := hSw; go_simp; try (with_reducible rfl)); (try simp only [Act.put, List.setIfInBounds_toArray, List.set_cons_zero, List.set_cons_succ]))
    refine plan_step rfl (fun Kc hK => ?_)
    rw [if_pos (by rfl)]
    go_simp
    refine hK.out _ _ P9.out.ten ?_
    clear hK Kc
    have z0 := cellOfBlk Z9.out 0
    have z1 := cellOfBlk Z9.out 1
    have fz := Z9.out.warm
    refine plan_step rfl (fun Kc hK => ?_)
    rw [if_pos (by rfl)]
    go_simp
    clear z0 z1 fz
    obtain ⟨w10, hw9⟩ : ∃ x, (w9.setCell ⟨w7.heap.size, 0, none⟩ (.int .i64 0)).setCell ⟨w7.heap.size, 1, none⟩ (.int .i64 0) = x := ⟨_, rfl⟩
    have hc9 : Chg (w7.heap.size) (w7.heap.size + 1) w9 w10 := by rw [← hw9]; exact chg_two _ _ _ _
    have hZ9 : Blk w10 (w7.heap.size) #[.int .i64 0, .int .i64 0] 64 := by rw [← hw9]; exact Z9.out.fill2 _ _
    rw [hw9]
    clear hw9
    have Ka10 := Lib.hid (Ka9.out.chg hc9 (by omega) (by omega))
    have Kb10 := Lib.hid (Kb9.out.chg hc9 (by omega) (by omega))
    have P10 := Lib.hid (P9.out.chg hc9 (by omega))
    have D10 := Lib.hid (D9.out.trans ((hc9.below (by omega)).mono (by omega)))
    have sz10 : w9.heap.size ≤ w10.heap.size := hc9.size
    clear Ka9 Kb9 P9 D9 Z9
    refine hK.out _ _ P10.out.ten ?_
    clear hK Kc
    refine plan_step rfl (fun Kc hK => ?_)
    rw [if_pos (by rfl)]
    go_simp
    refine hK.out _ _ P10.out.ten ?_
    clear hK Kc
    refine plan_end ?_
    refine ⟨rfl, w7.heap.size, ?_, by omega, D10.out⟩
    first | rfl | (simp only [Act.put, List.setIfInBounds_toArray, List.set_cons_zero, List.set_cons_succ])
  ·rw [if_pos (by rfl)]
   go_simp
   obtain ⟨w7, hw7, hb7, hz7, hX7⟩ := mxWorld w6 #[.int .i64 0, .int .i64 0] 64
   have Ka7 := Lib.hid (Ka6.out.below (by omega) hb7)
   have Kb7 := Lib.hid (Kb6.out.below (by omega) hb7)
   have P7 := Lib.hid (P6.out.below hb7 (by omega))
   have D7 := Lib.hid (D6.out.trans (hb7.mono (by omega)))
   have sz7 : w6.heap.size ≤ w7.heap.size := hb7.size
   clear Ka6 Kb6 P6 D6
   have Z7 := Lib.hid hX7
   have hzl : w6.heap.size < w7.heap.size := by omega
   rw [hw7]
   clear hw7 hz7 hX7 hb7
   refine hK.out _ _ P7.out.ten ?_
   clear hK Kc
   refine plan_step rfl (fun Kc hK => ?_)
   rw [if_pos (by rfl)]
   go_simp
   refine (specKeyOf_any lo hi0 _ X.f (b : Int) w7 Ka7.out (by omega) HS.out.f).mono ?_
   rintro e w8 ⟨rfl, hb8⟩
   have Ka8 := Lib.hid (Ka7.out.below (by omega) hb8)
   have Kb8 := Lib.hid (Kb7.out.below (by omega) hb8)
   have P8 := Lib.hid (P7.out.below hb8 (by omega))
   have D8 := Lib.hid (D7.out.trans (hb8.mono (by omega)))
   have Z8 := Lib.hid (Z7.out.below hb8 (by omega))
   have sz8 : w7.heap.size ≤ w8.heap.size := hb8.size
   clear Ka7 Kb7 P7 D7 Z7
   refine hK.out _ _ P8.out.ten ?_
   clear hK Kc
   refine plan_step rfl (fun Kc hK => ?_)
   rw [if_pos (by rfl)]
   go_simp
   refine (specTake_no2 lo hi0 lo hi0 _ X.f M q e0 X.ms (keyI X.f b) w8 Ka8.out (by omega) HS.out.f HQ0.out (by rw [← HQ0.out]; exact HS.out.ms) Kb8.out (by omega) HWF.out.ms HMG.out HIN.out).mono ?_
   rintro e w9 ⟨rfl, hb9⟩
   have Ka9 := Lib.hid (Ka8.out.below (by omega) hb9)
   have Kb9 := Lib.hid (Kb8.out.below (by omega) hb9)
   have P9 := Lib.hid (P8.out.below hb9 (by omega))
   have D9 := Lib.hid (D8.out.trans (hb9.mono (by omega)))
   have Z9 := Lib.hid (Z8.out.below hb9 (by omega))
   have sz9 : w8.heap.size ≤ w9.heap.size := hb9.size
   clear Ka8 Kb8 P8 D8 Z8
   refine hK.out _ _ P9.out.ten ?_
   clear hK Kc
   iterate 4 (refine plan_quiet rfl (by rfl) (v := ?_) ?_ ?_; rotate_left; (intro w1 hSw; obtain ⟨hs0, hs1, hs2, hs3, hs4, hs5, hs6, hs7, hs8, hs9⟩ := hSw; go_simp; try (with_reducible rfl)); (try simp only [Act.put, List.setIfInBounds_toArray, List.set_cons_zero, List.set_cons_succ]))
   refine plan_step rfl (fun Kc hK => ?_)
   rw [if_pos (by rfl)]
   go_simp
   refine hK.out _ _ P9.out.ten ?_
   clear hK Kc
   have z0 := cellOfBlk Z9.out 0
   have z1 := cellOfBlk Z9.out 1
   have fz := Z9.out.warm
   refine plan_step rfl (fun Kc hK => ?_)
   rw [if_pos (by rfl)]
   go_simp
   clear z0 z1 fz
   obtain ⟨w10, hw9⟩ : ∃ x, (w9.setCell ⟨w6.heap.size, 0, none⟩ (.int .i64 0)).setCell ⟨w6.heap.size, 1, none⟩ (.int .i64 0) = x := ⟨_, rfl⟩
   have hc9 : Chg (w6.heap.size) (w6.heap.size + 1) w9 w10 := by rw [← hw9]; exact chg_two _ _ _ _
   have hZ9 : Blk w10 (w6.heap.size) #[.int .i64 0, .int .i64 0] 64 := by rw [← hw9]; exact Z9.out.fill2 _ _
   rw [hw9]
   clear hw9
   have Ka10 := Lib.hid (Ka9.out.chg hc9 (by omega) (by omega))
   have Kb10 := Lib.hid (Kb9.out.chg hc9 (by omega) (by omega))
   have P10 := Lib.hid (P9.out.chg hc9 (by omega))
   have D10 := Lib.hid (D9.out.trans ((hc9.below (by omega)).mono (by omega)))
   have sz10 : w9.heap.size ≤ w10.heap.size := hc9.size
   clear Ka9 Kb9 P9 D9 Z9
   refine hK.out _ _ P10.out.ten ?_
   clear hK Kc
   refine plan_step rfl (fun Kc hK => ?_)
   rw [if_pos (by rfl)]
   go_simp
   refine hK.out _ _ P10.out.ten ?_
   clear hK Kc
   refine plan_end ?_
   refine ⟨rfl, w6.heap.size, ?_, by omega, D10.out⟩
   first | rfl | (simp only [Act.put, List.setIfInBounds_toArray, List.set_cons_zero, List.set_cons_succ])
 rintro a' w6 ⟨zb, rfl, hx5, hb6⟩
 simp only [Act.put, List.setIfInBounds_toArray, List.set_cons_zero, List.set_cons_succ]
 have T6 := Lib.hid (T5.out.trans (hb6.mono (by omega)))
 have V6 := Lib.hid (V5.out.below (by omega) hb6)
 have Ka6 := Lib.hid (Ka5.out.below (by omega) hb6)
 have Kb6 := Lib.hid (Kb5.out.below (by omega) hb6)
 have P6 := Lib.hid (P5.out.below hb6 (by omega))
 have R6 := Lib.hid (R5.out.below hb6 (by omega))
 have F6 := Lib.hid (F5.out.below hb6)
 have G6 := Lib.hid (G5.out.below (by omega) hb6)
 have L6 := Lib.hid (L5.out.below hb6)
 have W6 := Lib.hid (W5.out.below hb6)
 have Q6 := Lib.hid (Q5.out.below hb6 (by omega))
 have Y6 := Lib.hid (Y5.out.below hb6 (by omega))
 have sz6 : w5.heap.size ≤ w6.heap.size := hb6.size
 clear T5 V5 Ka5 Kb5 P5 R5 F5 G5 L5 W5 Q5 Y5
 have hyes := HYE.out
 obtain ⟨p0, p1, p2, p3, p4, p5, p6, p7, p8, p9⟩ := P6.out.ten
 obtain ⟨r0, r1, r2, r3, r4, r5, r6, r7, r8, r9⟩ := R6.out.ten
 have ff := R6.out.warm
 go_wp2
 obtain ⟨w9, hw9, hc9, hR⟩ := R6.out.put10 (.string s) (.slice A n c) (.slice A2 m d) (.slice M q e0) (.int .i64 X.sp) (.int .i64 X.w) (.int .i64 X.t) (.int .i64 X.k) (.slice L l lc) (.slice T r tc)
 (try rw [hw9])
 clear hw9 r0 r1 r2 r3 r4 r5 r6 r7 r8 r9
 obtain ⟨r0, r1, r2, r3, r4, r5, r6, r7, r8, r9⟩ := hR.ten
 (try simp only [Exit.inBlock, Exit.then])
 clear p0 p1 p2 p3 p4 p5 p6 p7 p8 p9
 refine bodyPost_ret (v := .tuple #[.agg #[.string s, .slice A n c, .slice A2 m d, .slice M q e0, .int .i64 X.sp, .int .i64 X.w, .int .i64 X.t, .int .i64 X.k, .slice L l lc, .slice T r tc], .bool false]) (by simp [results, Tryz.results57, go_sem, r0, r1, r2, r3, r4, r5, r6, r7, r8, r9]) rfl ?_
 rw [hyes]
 exact ⟨_, rfl, fun _ => rfl, fun h9 => (by cases h9), T6.out.trans ((hc9.below (by omega)).mono (by omega))⟩
set_option maxRecDepth 100000 in
set_option maxHeartbeats 6400000 in
theorem specL5K_none (lo hi0 : Nat) (v : Value) (X : Mch) (b : Nat) (w : World) (h : MchV w lo hi0 v X) (hhi : hi0 ≤ w.heap.size) (hm : machB X = true) (wf : WfX X) (hb : ¬ b = 32) (i9 : Nat) (hki : keyI X.f (b : Int) = i9) (hx9 : X.ms[i9]? = some []) (hkr : keyRow X b = []) :
  Calls Tryz.prog 57 #[v, .int .i64 b] w fun e w' => ∃ v', e = .returned (.tuple #[v', .bool (keyYes X b)]) ∧ (keyYes X b = false → v' = v) ∧ (keyYes X b = true → MchV w' w.heap.size w'.heap.size v' (keyX X b)) ∧ Below w.heap.size w w' := by
 have HS := Lib.hid (mach_smallX hm)
 have HM := Lib.hid hm
 have hbe : ((b : Int) == 32) = false := by simp; omega
 have HMG := Lib.hid (machB_parts hm).1
 have hyes : keyYes X b = false := keyYes_nil (by omega) hkr
 have HKI := Lib.hid hki; have HX9 := Lib.hid hx9
 have hparts := h.parts
 obtain ⟨s, A, n, c, A2, m, d, M, q, e0, L, l, lc, T, r, tc, hv, hF0, hq0, hM0, -⟩ := hparts
 rw [hv] at h ⊢
 clear hv
 obtain ⟨w0, hw0⟩ : ∃ x, w = x := ⟨_, rfl⟩
 have hww : w.heap.size = w0.heap.size := by rw [hw0]
 have HWF := Lib.hid wf
 have T0 : Hid (Below w0.heap.size w0 w0) := Below.refl _ _
 have V0 : Hid (MchV w0 lo hi0 (.agg #[.string s, .slice A n c, .slice A2 m d, .slice M q e0, .int .i64 X.sp, .int .i64 X.w, .int .i64 X.t, .int .i64 X.k, .slice L l lc, .slice T r tc]) X) := by rw [← hw0]; exact h
 have Ka0 : Hid (FontV w0 lo hi0 (.agg #[.string s, .slice A n c, .slice A2 m d]) X.f) := by rw [← hw0]; exact hF0
 have Kb0 : Hid (MagI w0 lo hi0 M X.ms) := by rw [← hw0]; exact hM0
 have HQ0 := Lib.hid hq0
 clear h wf hF0 hM0 hq0
 obtain ⟨w1, hw1, hb1, hz1, hX1⟩ := mxWorld w0 #[.string s, .slice A n c, .slice A2 m d, .slice M q e0, .int .i64 X.sp, .int .i64 X.w, .int .i64 X.t, .int .i64 X.k, .slice L l lc, .slice T r tc] 37
 have T1 := Lib.hid (T0.out.trans (hb1.mono (by omega)))
 have V1 := Lib.hid (V0.out.below (by omega) hb1)
 have Ka1 := Lib.hid (Ka0.out.below (by omega) hb1)
 have Kb1 := Lib.hid (Kb0.out.below (by omega) hb1)
 have sz1 : w0.heap.size ≤ w1.heap.size := hb1.size
 clear T0 V0 Ka0 Kb0
 have P1 := Lib.hid hX1
 obtain ⟨w2, hw2, hb2, hz2, hX2⟩ := mxWorld w1 #[.string ⟨#[]⟩, .slice none 0 0, .slice none 0 0, .slice none 0 0, .int .i64 0, .int .i64 0, .int .i64 0, .int .i64 0, .slice none 0 0, .slice none 0 0] 37
 have T2 := Lib.hid (T1.out.trans (hb2.mono (by omega)))
 have V2 := Lib.hid (V1.out.below (by omega) hb2)
 have Ka2 := Lib.hid (Ka1.out.below (by omega) hb2)
 have Kb2 := Lib.hid (Kb1.out.below (by omega) hb2)
 have P2 := Lib.hid (P1.out.below hb2 (by omega))
 have sz2 : w1.heap.size ≤ w2.heap.size := hb2.size
 clear T1 V1 Ka1 Kb1 P1
 rw [hz1] at hX2
 have R2 := Lib.hid hX2
 rw [hz1] at hz2
 obtain ⟨p0, p1, p2, p3, p4, p5, p6, p7, p8, p9⟩ := P2.out.ten
 rw [hw0]
 go_enter Tryz.func57, Tryz.ntmps57
 go_wp2_with fail
 clear p0 p1 p2 p3 p4 p5 p6 p7 p8 p9
 refine (l5Copy_any lo hi0 _ X w2 V2.out (by omega) HS.out).mono ?_
 rintro e u1 ⟨vC, rfl, hC, hbC⟩
 obtain ⟨O, hOz⟩ : ∃ x, u1.heap.size = x := ⟨_, rfl⟩
 have hbO := hbC.size
 rw [hOz] at hC hbO
 obtain ⟨Az, cz, A2z, dz, Mz, ez, Lz, lcz, Tz, tcz, hs7, f0, f1, g0, g1, l0, l1, t0, t1, hO⟩ := hC
 have hv7 := hO.v
 unfold mwords at hv7
 subst hv7
 have HO := Lib.hid hO
 clear hO
 obtain ⟨u2, hu2, hbu2, hzu2, hU⟩ := mxWorld u1 #[.string ⟨#[]⟩, .slice none 0 0, .slice none 0 0, .slice none 0 0, .int .i64 0, .int .i64 0, .int .i64 0, .int .i64 0, .slice none 0 0, .slice none 0 0] 37
 rw [hOz] at hU hzu2 hbu2
 obtain ⟨o0, o1, o2, o3, o4, o5, o6, o7, o8, o9⟩ := hU.ten
 have fo := hU.warm
 have HU2 := Lib.hid hU
 have HBU := Lib.hid hbu2
 have HBC := Lib.hid hbC
 clear hU hbC hbu2
 go_upto_region 2 with fail
 obtain ⟨u3, hu3, hc9, hR⟩ := HU2.out.put10 (.string X.f.s) (.slice Az X.f.ws.length cz) (.slice A2z X.f.cs.length dz) (.slice Mz X.ms.length ez) (.int .i64 X.sp) (.int .i64 X.w) (.int .i64 X.t) (.int .i64 X.k) (.slice Lz X.ln.length lcz) (.slice Tz X.wt.length tcz)
 rw [hu3]
 have hzu3 := hc9.size
 have hbl : Below u1.heap.size u1 u3 := by rw [hOz]; exact HBU.out.trans (hc9.below (by omega))
 have BC3 : Below w2.heap.size w2 u3 := HBC.out.trans (hbl.mono (by omega))
 clear hu3 hc9 fo o0 o1 o2 o3 o4 o5 o6 o7 o8 o9 hu2
 have hfi := HO.out.fi; have hgi := HO.out.gi; have hli := HO.out.li; have hti := HO.out.ti
 have hfl := HO.out.fl; have hgl := HO.out.gl; have hlt := HO.out.lt
 unfold Off at hfl hgl hlt
 have HLT := Lib.hid HO.out.lineT; have HTT := Lib.hid HO.out.waitT
 obtain ⟨w3, hwk⟩ : ∃ x, u3 = x := ⟨_, rfl⟩
 rw [hwk] at BC3 hbl hR ⊢ hzu3
 clear hwk
 have hb3 := BC3
 have T3 := Lib.hid (T2.out.trans (hb3.mono (by omega)))
 have V3 := Lib.hid (V2.out.below (by omega) hb3)
 have Ka3 := Lib.hid (Ka2.out.below (by omega) hb3)
 have Kb3 := Lib.hid (Kb2.out.below (by omega) hb3)
 have P3 := Lib.hid (P2.out.below hb3 (by omega))
 have R3 := Lib.hid (R2.out.below hb3 (by omega))
 have sz3 : w2.heap.size ≤ w3.heap.size := hb3.size
 clear T2 V2 Ka2 Kb2 P2 R2
 have F3 : Hid (FontO w3 f0 f1 (.agg #[.string X.f.s, .slice Az X.f.ws.length cz, .slice A2z X.f.cs.length dz]) X.f) := HO.out.font.below hbl
 have G3 : Hid (MagI w3 g0 g1 Mz X.ms) := HO.out.mag.reads.below (by omega) hbl
 have L3 : Hid (OwnM w3 l0 (.slice Lz X.ln.length lcz) X.ln) := HO.out.line.below hbl
 have W3 : Hid (OwnM w3 t0 (.slice Tz X.wt.length tcz) X.wt) := HO.out.wait.below hbl
 have Q3 : Hid (Blk w3 O #[.string X.f.s, .slice Az X.f.ws.length cz, .slice A2z X.f.cs.length dz, .slice Mz X.ms.length ez, .int .i64 X.sp, .int .i64 X.w, .int .i64 X.t, .int .i64 X.k, .slice Lz X.ln.length lcz, .slice Tz X.wt.length tcz] 37) := hR
 have hsO : w0.heap.size + 1 < O := by omega
 clear hR hbl BC3 HU2 HBU HBC
 obtain ⟨w4, hw4, hb4, hz4, hX4⟩ := mxWorld w3 #[.int .i64 (-1), .int .i64 0] 64
 have T4 := Lib.hid (T3.out.trans (hb4.mono (by omega)))
 have V4 := Lib.hid (V3.out.below (by omega) hb4)
 have Ka4 := Lib.hid (Ka3.out.below (by omega) hb4)
 have Kb4 := Lib.hid (Kb3.out.below (by omega) hb4)
 have P4 := Lib.hid (P3.out.below hb4 (by omega))
 have R4 := Lib.hid (R3.out.below hb4 (by omega))
 have F4 := Lib.hid (F3.out.below hb4)
 have G4 := Lib.hid (G3.out.below (by omega) hb4)
 have L4 := Lib.hid (L3.out.below hb4)
 have W4 := Lib.hid (W3.out.below hb4)
 have Q4 := Lib.hid (Q3.out.below hb4 (by omega))
 have sz4 : w3.heap.size ≤ w4.heap.size := hb4.size
 clear T3 V3 Ka3 Kb3 P3 R3 F3 G3 L3 W3 Q3
 have Y4 := Lib.hid hX4
 have x0 := cellOfBlk Y4.out 0
 have x1 := cellOfBlk Y4.out 1
 have fx := Y4.out.warm
 go_upto_region 3 with fail
 clear x0 x1 fx
 obtain ⟨yb, hyb⟩ : ∃ x, w3.heap.size = x := ⟨_, rfl⟩
 have hOy : O < yb := by omega
 rw [hyb] at Y4 ⊢
 obtain ⟨w5, hw9⟩ : ∃ x, w4.setCell ⟨yb, 1, none⟩ (.int .i64 0) = x := ⟨_, rfl⟩
 have hc9 : Chg yb (yb + 1) w4 w5 := by rw [← hw9]; exact chg_one _ _ _ _
 have hY9 : Blk w5 yb #[.int .i64 (-1), .int .i64 0] 64 := by rw [← hw9]; exact heapSet (i := 1) Y4.out _
 rw [hw9]
 have T5 := Lib.hid (T4.out.trans ((hc9.below (by omega)).mono (by omega)))
 have V5 := Lib.hid (V4.out.chg hc9 (by omega) (by omega))
 have Ka5 := Lib.hid (Ka4.out.chg hc9 (by omega) (by omega))
 have Kb5 := Lib.hid (Kb4.out.chg hc9 (by omega) (by omega))
 have P5 := Lib.hid (P4.out.chg hc9 (by omega))
 have R5 := Lib.hid (R4.out.chg hc9 (by omega))
 have F5 := Lib.hid (F4.out.chg hc9 (by unfold Off; omega))
 have G5 := Lib.hid (G4.out.chg hc9 (by omega) (by omega))
 have L5 := Lib.hid (L4.out.chg hc9 (fun k hk => by have h7 := HLT.out k hk; have h8 := (L4.out.lt k hk).1; omega))
 have W5 := Lib.hid (W4.out.chg hc9 (fun k hk => by have h7 := HTT.out k hk; have h8 := (W4.out.lt k hk).1; omega))
 have Q5 := Lib.hid (Q4.out.chg hc9 (by omega))
 have sz5 : w4.heap.size ≤ w5.heap.size := hc9.size
 clear T4 V4 Ka4 Kb4 P4 R4 F4 G4 L4 W4 Q4 Y4
 have Y5 := Lib.hid hY9
 clear hc9 hY9 hw9
 have HYE := Lib.hid hyes
 clear hki hx9 hkr hyes
 go_upto_region 5 with fail
 refine region_post (fun a a' w' => ∃ zb : Nat, a' = ((((((((((((((((a.put (some 21) (.pointer (some ⟨w0.heap.size, 0, none⟩))).put (some 22) (.agg #[.string s, .slice A n c, .slice A2 m d])).put (some 23) (.pointer (some ⟨w0.heap.size, 3, none⟩))).put (some 24) (.slice M q e0)).put (some 25) (.pointer (some ⟨w0.heap.size, 0, none⟩))).put (some 26) (.agg #[.string s, .slice A n c, .slice A2 m d])).put (some 27) (.int .i64 b)).put (some 28) (.int .i64 (i9 : Nat))).put (some 29) (.tuple #[.slice none 0 0, .agg #[.int .i64 0, .int .i64 0], .bool false])).put (some 20) (.tuple #[.slice none 0 0, .agg #[.int .i64 0, .int .i64 0], .bool false])).put (some 30) (.slice none 0 0)).put (some 31) (.agg #[.int .i64 0, .int .i64 0])).put (some 32) (.bool false)).put (some 9) (.pointer (some ⟨zb, 0, none⟩))).put (some 8) (.slice none 0 0)).put (some 10) (.bool false)) ∧ w5.heap.size ≤ zb ∧ Below w5.heap.size w5 w') ?_ ?_
 ·have D5 : Hid (Below w5.heap.size w5 w5) := Below.refl _ _
  refine wp_region_plan (.take 0 (.take 1 (.take 2 (.take 3 (.take 4 (.take 5 (.take 6 (.two 7 13 (.two 8 13 (.take 9 (.take 10 (.take 11 (.take 12 (.one 13 (.one 14 (.one 15 (.one 16 .done)))))))) (.one 8 (.take 9 (.take 10 (.take 11 (.take 12 (.one 14 (.one 15 (.one 16 .done))))))))) (.one 7 (.one 8 (.take 9 (.take 10 (.take 11 (.take 12 (.one 14 (.one 15 (.one 16 .done))))))))))))))))) (fun w' => w'.cell? ⟨w0.heap.size, 0, none⟩ = some (.string s) ∧ w'.cell? ⟨w0.heap.size, 1, none⟩ = some (.slice A n c) ∧ w'.cell? ⟨w0.heap.size, 2, none⟩ = some (.slice A2 m d) ∧ w'.cell? ⟨w0.heap.size, 3, none⟩ = some (.slice M q e0) ∧ w'.cell? ⟨w0.heap.size, 4, none⟩ = some (.int .i64 X.sp) ∧ w'.cell? ⟨w0.heap.size, 5, none⟩ = some (.int .i64 X.w) ∧ w'.cell? ⟨w0.heap.size, 6, none⟩ = some (.int .i64 X.t) ∧ w'.cell? ⟨w0.heap.size, 7, none⟩ = some (.int .i64 X.k) ∧ w'.cell? ⟨w0.heap.size, 8, none⟩ = some (.slice L l lc) ∧ w'.cell? ⟨w0.heap.size, 9, none⟩ = some (.slice T r tc)) (by kernel_rfl) (by kernel_rfl) (by kernel_rfl) (by intro c a d v w h; exact absurd h.1 (by simp)) P5.out.ten ?_
  obtain ⟨w6, hwd⟩ : ∃ x, w5.drew = x := ⟨_, rfl⟩
  have hb6 : Below w5.heap.size w5 w6 := by rw [← hwd]; exact (Below.refl _ _).drew
  have hsz6 : w6.heap.size = w5.heap.size := by rw [← hwd]; rfl
  have Ka6 := Lib.hid (Ka5.out.below (by omega) hb6)
  have Kb6 := Lib.hid (Kb5.out.below (by omega) hb6)
  have P6 := Lib.hid (P5.out.below hb6 (by omega))
  have D6 := Lib.hid (D5.out.trans (hb6.mono (by omega)))
  have sz6 : w5.heap.size ≤ w6.heap.size := hb6.size
  clear Ka5 Kb5 P5 D5
  rw [hwd]
  clear hwd
  clear hsz6
  iterate 7 (refine plan_quiet rfl (by rfl) (v := ?_) ?_ ?_; rotate_left; (intro w1 hSw; obtain ⟨hs0, hs1, hs2, hs3, hs4, hs5, hs6, hs7, hs8, hs9⟩ := hSw; go_simp; try (with_reducible rfl)); (try simp only [Act.put, List.setIfInBounds_toArray, List.set_cons_zero, List.set_cons_succ]))
  refine plan_fork rfl rfl (fun Kc hK => ?_) (fun Kc hK => ?_)
  ·rw [if_pos (by rfl)]
   go_simp
   refine (specKeyOf_any lo hi0 _ X.f (b : Int) w6 Ka6.out (by omega) HS.out.f).mono ?_
   rintro e w7 ⟨rfl, hb7⟩
   rw [HKI.out]
   have Ka7 := Lib.hid (Ka6.out.below (by omega) hb7)
   have Kb7 := Lib.hid (Kb6.out.below (by omega) hb7)
   have P7 := Lib.hid (P6.out.below hb7 (by omega))
   have D7 := Lib.hid (D6.out.trans (hb7.mono (by omega)))
   have sz7 : w6.heap.size ≤ w7.heap.size := hb7.size
   clear Ka6 Kb6 P6 D6
   refine hK.out _ _ P7.out.ten ?_
   clear hK Kc
   refine plan_fork rfl rfl (fun Kc hK => ?_) (fun Kc hK => ?_)
   ·rw [if_pos (by rfl)]
    go_simp
    refine (specTake_none lo hi0 lo hi0 _ X.f M q e0 X.ms i9 w7 Ka7.out (by omega) HS.out.f HQ0.out (by rw [← HQ0.out]; exact HS.out.ms) Kb7.out (by omega) HWF.out.ms HMG.out HX9.out).mono ?_
    rintro e w8 ⟨rfl, hb8⟩
    have Ka8 := Lib.hid (Ka7.out.below (by omega) hb8)
    have Kb8 := Lib.hid (Kb7.out.below (by omega) hb8)
    have P8 := Lib.hid (P7.out.below hb8 (by omega))
    have D8 := Lib.hid (D7.out.trans (hb8.mono (by omega)))
    have sz8 : w7.heap.size ≤ w8.heap.size := hb8.size
    clear Ka7 Kb7 P7 D7
    refine hK.out _ _ P8.out.ten ?_
    clear hK Kc
    iterate 4 (refine plan_quiet rfl (by rfl) (v := ?_) ?_ ?_; rotate_left; (intro w1 hSw; obtain ⟨hs0, hs1, hs2, hs3, hs4, hs5, hs6, hs7, hs8, hs9⟩ := hSw; go_simp; try (with_reducible rfl)); (try simp only [Act.put, List.setIfInBounds_toArray, List.set_cons_zero, List.set_cons_succ]))
    refine plan_step rfl (fun Kc hK => ?_)
    rw [if_pos (by rfl)]
    go_simp
    obtain ⟨w9, hw9, hb9, hz9, hX9⟩ := mxWorld w8 #[.int .i64 0, .int .i64 0] 64
    have Ka9 := Lib.hid (Ka8.out.below (by omega) hb9)
    have Kb9 := Lib.hid (Kb8.out.below (by omega) hb9)
    have P9 := Lib.hid (P8.out.below hb9 (by omega))
    have D9 := Lib.hid (D8.out.trans (hb9.mono (by omega)))
    have sz9 : w8.heap.size ≤ w9.heap.size := hb9.size
    clear Ka8 Kb8 P8 D8
    have Z9 := Lib.hid hX9
    have hzl : w8.heap.size < w9.heap.size := by omega
    rw [hw9]
    clear hw9 hz9 hX9 hb9
    refine hK.out _ _ P9.out.ten ?_
    clear hK Kc
    refine plan_step rfl (fun Kc hK => ?_)
    rw [if_pos (by rfl)]
    go_simp
    refine hK.out _ _ P9.out.ten ?_
    clear hK Kc
    have z0 := cellOfBlk Z9.out 0
    have z1 := cellOfBlk Z9.out 1
    have fz := Z9.out.warm
    refine plan_step rfl (fun Kc hK => ?_)
    rw [if_pos (by rfl)]
    go_simp
    clear z0 z1 fz
    obtain ⟨w10, hw9⟩ : ∃ x, (w9.setCell ⟨w8.heap.size, 0, none⟩ (.int .i64 0)).setCell ⟨w8.heap.size, 1, none⟩ (.int .i64 0) = x := ⟨_, rfl⟩
    have hc9 : Chg (w8.heap.size) (w8.heap.size + 1) w9 w10 := by rw [← hw9]; exact chg_two _ _ _ _
    have hZ9 : Blk w10 (w8.heap.size) #[.int .i64 0, .int .i64 0] 64 := by rw [← hw9]; exact Z9.out.fill2 _ _
    rw [hw9]
    clear hw9
    have Ka10 := Lib.hid (Ka9.out.chg hc9 (by omega) (by omega))
    have Kb10 := Lib.hid (Kb9.out.chg hc9 (by omega) (by omega))
    have P10 := Lib.hid (P9.out.chg hc9 (by omega))
    have D10 := Lib.hid (D9.out.trans ((hc9.below (by omega)).mono (by omega)))
    have sz10 : w9.heap.size ≤ w10.heap.size := hc9.size
    clear Ka9 Kb9 P9 D9 Z9
    refine hK.out _ _ P10.out.ten ?_
    clear hK Kc
    refine plan_step rfl (fun Kc hK => ?_)
    rw [if_pos (by rfl)]
    go_simp
    refine hK.out _ _ P10.out.ten ?_
    clear hK Kc
    refine plan_end ?_
    refine ⟨rfl, w8.heap.size, ?_, by omega, D10.out⟩
    first | rfl | (simp only [Act.put, List.setIfInBounds_toArray, List.set_cons_zero, List.set_cons_succ])
   ·rw [if_pos (by rfl)]
    go_simp
    obtain ⟨w8, hw8, hb8, hz8, hX8⟩ := mxWorld w7 #[.int .i64 0, .int .i64 0] 64
    have Ka8 := Lib.hid (Ka7.out.below (by omega) hb8)
    have Kb8 := Lib.hid (Kb7.out.below (by omega) hb8)
    have P8 := Lib.hid (P7.out.below hb8 (by omega))
    have D8 := Lib.hid (D7.out.trans (hb8.mono (by omega)))
    have sz8 : w7.heap.size ≤ w8.heap.size := hb8.size
    clear Ka7 Kb7 P7 D7
    have Z8 := Lib.hid hX8
    have hzl : w7.heap.size < w8.heap.size := by omega
    rw [hw8]
    clear hw8 hz8 hX8 hb8
    refine hK.out _ _ P8.out.ten ?_
    clear hK Kc
    refine plan_step rfl (fun Kc hK => ?_)
    rw [if_pos (by rfl)]
    go_simp
    refine (specTake_none lo hi0 lo hi0 _ X.f M q e0 X.ms i9 w8 Ka8.out (by omega) HS.out.f HQ0.out (by rw [← HQ0.out]; exact HS.out.ms) Kb8.out (by omega) HWF.out.ms HMG.out HX9.out).mono ?_
    rintro e w9 ⟨rfl, hb9⟩
    have Ka9 := Lib.hid (Ka8.out.below (by omega) hb9)
    have Kb9 := Lib.hid (Kb8.out.below (by omega) hb9)
    have P9 := Lib.hid (P8.out.below hb9 (by omega))
    have D9 := Lib.hid (D8.out.trans (hb9.mono (by omega)))
    have Z9 := Lib.hid (Z8.out.below hb9 (by omega))
    have sz9 : w8.heap.size ≤ w9.heap.size := hb9.size
    clear Ka8 Kb8 P8 D8 Z8
    refine hK.out _ _ P9.out.ten ?_
    clear hK Kc
    iterate 4 (refine plan_quiet rfl (by rfl) (v := ?_) ?_ ?_; rotate_left; (intro w1 hSw; obtain ⟨hs0, hs1, hs2, hs3, hs4, hs5, hs6, hs7, hs8, hs9⟩ := hSw; go_simp; try (with_reducible rfl)); (try simp only [Act.put, List.setIfInBounds_toArray, List.set_cons_zero, List.set_cons_succ]))
    refine plan_step rfl (fun Kc hK => ?_)
    rw [if_pos (by rfl)]
    go_simp
    refine hK.out _ _ P9.out.ten ?_
    clear hK Kc
    have z0 := cellOfBlk Z9.out 0
    have z1 := cellOfBlk Z9.out 1
    have fz := Z9.out.warm
    refine plan_step rfl (fun Kc hK => ?_)
    rw [if_pos (by rfl)]
    go_simp
    clear z0 z1 fz
    obtain ⟨w10, hw9⟩ : ∃ x, (w9.setCell ⟨w7.heap.size, 0, none⟩ (.int .i64 0)).setCell ⟨w7.heap.size, 1, none⟩ (.int .i64 0) = x := ⟨_, rfl⟩
    have hc9 : Chg (w7.heap.size) (w7.heap.size + 1) w9 w10 := by rw [← hw9]; exact chg_two _ _ _ _
    have hZ9 : Blk w10 (w7.heap.size) #[.int .i64 0, .int .i64 0] 64 := by rw [← hw9]; exact Z9.out.fill2 _ _
    rw [hw9]
    clear hw9
    have Ka10 := Lib.hid (Ka9.out.chg hc9 (by omega) (by omega))
    have Kb10 := Lib.hid (Kb9.out.chg hc9 (by omega) (by omega))
    have P10 := Lib.hid (P9.out.chg hc9 (by omega))
    have D10 := Lib.hid (D9.out.trans ((hc9.below (by omega)).mono (by omega)))
    have sz10 : w9.heap.size ≤ w10.heap.size := hc9.size
    clear Ka9 Kb9 P9 D9 Z9
    refine hK.out _ _ P10.out.ten ?_
    clear hK Kc
    refine plan_step rfl (fun Kc hK => ?_)
    rw [if_pos (by rfl)]
    go_simp
    refine hK.out _ _ P10.out.ten ?_
    clear hK Kc
    refine plan_end ?_
    refine ⟨rfl, w7.heap.size, ?_, by omega, D10.out⟩
    first | rfl | (simp only [Act.put, List.setIfInBounds_toArray, List.set_cons_zero, List.set_cons_succ])
  ·rw [if_pos (by rfl)]
   go_simp
   obtain ⟨w7, hw7, hb7, hz7, hX7⟩ := mxWorld w6 #[.int .i64 0, .int .i64 0] 64
   have Ka7 := Lib.hid (Ka6.out.below (by omega) hb7)
   have Kb7 := Lib.hid (Kb6.out.below (by omega) hb7)
   have P7 := Lib.hid (P6.out.below hb7 (by omega))
   have D7 := Lib.hid (D6.out.trans (hb7.mono (by omega)))
   have sz7 : w6.heap.size ≤ w7.heap.size := hb7.size
   clear Ka6 Kb6 P6 D6
   have Z7 := Lib.hid hX7
   have hzl : w6.heap.size < w7.heap.size := by omega
   rw [hw7]
   clear hw7 hz7 hX7 hb7
   refine hK.out _ _ P7.out.ten ?_
   clear hK Kc
   refine plan_step rfl (fun Kc hK => ?_)
   rw [if_pos (by rfl)]
   go_simp
   refine (specKeyOf_any lo hi0 _ X.f (b : Int) w7 Ka7.out (by omega) HS.out.f).mono ?_
   rintro e w8 ⟨rfl, hb8⟩
   rw [HKI.out]
   have Ka8 := Lib.hid (Ka7.out.below (by omega) hb8)
   have Kb8 := Lib.hid (Kb7.out.below (by omega) hb8)
   have P8 := Lib.hid (P7.out.below hb8 (by omega))
   have D8 := Lib.hid (D7.out.trans (hb8.mono (by omega)))
   have Z8 := Lib.hid (Z7.out.below hb8 (by omega))
   have sz8 : w7.heap.size ≤ w8.heap.size := hb8.size
   clear Ka7 Kb7 P7 D7 Z7
   refine hK.out _ _ P8.out.ten ?_
   clear hK Kc
   refine plan_step rfl (fun Kc hK => ?_)
   rw [if_pos (by rfl)]
   go_simp
   refine (specTake_none lo hi0 lo hi0 _ X.f M q e0 X.ms i9 w8 Ka8.out (by omega) HS.out.f HQ0.out (by rw [← HQ0.out]; exact HS.out.ms) Kb8.out (by omega) HWF.out.ms HMG.out HX9.out).mono ?_
   rintro e w9 ⟨rfl, hb9⟩
   have Ka9 := Lib.hid (Ka8.out.below (by omega) hb9)
   have Kb9 := Lib.hid (Kb8.out.below (by omega) hb9)
   have P9 := Lib.hid (P8.out.below hb9 (by omega))
   have D9 := Lib.hid (D8.out.trans (hb9.mono (by omega)))
   have Z9 := Lib.hid (Z8.out.below hb9 (by omega))
   have sz9 : w8.heap.size ≤ w9.heap.size := hb9.size
   clear Ka8 Kb8 P8 D8 Z8
   refine hK.out _ _ P9.out.ten ?_
   clear hK Kc
   iterate 4 (refine plan_quiet rfl (by rfl) (v := ?_) ?_ ?_; rotate_left; (intro w1 hSw; obtain ⟨hs0, hs1, hs2, hs3, hs4, hs5, hs6, hs7, hs8, hs9⟩ := hSw; go_simp; try (with_reducible rfl)); (try simp only [Act.put, List.setIfInBounds_toArray, List.set_cons_zero, List.set_cons_succ]))
   refine plan_step rfl (fun Kc hK => ?_)
   rw [if_pos (by rfl)]
   go_simp
   refine hK.out _ _ P9.out.ten ?_
   clear hK Kc
   have z0 := cellOfBlk Z9.out 0
   have z1 := cellOfBlk Z9.out 1
   have fz := Z9.out.warm
   refine plan_step rfl (fun Kc hK => ?_)
   rw [if_pos (by rfl)]
   go_simp
   clear z0 z1 fz
   obtain ⟨w10, hw9⟩ : ∃ x, (w9.setCell ⟨w6.heap.size, 0, none⟩ (.int .i64 0)).setCell ⟨w6.heap.size, 1, none⟩ (.int .i64 0) = x := ⟨_, rfl⟩
   have hc9 : Chg (w6.heap.size) (w6.heap.size + 1) w9 w10 := by rw [← hw9]; exact chg_two _ _ _ _
   have hZ9 : Blk w10 (w6.heap.size) #[.int .i64 0, .int .i64 0] 64 := by rw [← hw9]; exact Z9.out.fill2 _ _
   rw [hw9]
   clear hw9
   have Ka10 := Lib.hid (Ka9.out.chg hc9 (by omega) (by omega))
   have Kb10 := Lib.hid (Kb9.out.chg hc9 (by omega) (by omega))
   have P10 := Lib.hid (P9.out.chg hc9 (by omega))
   have D10 := Lib.hid (D9.out.trans ((hc9.below (by omega)).mono (by omega)))
   have sz10 : w9.heap.size ≤ w10.heap.size := hc9.size
   clear Ka9 Kb9 P9 D9 Z9
   refine hK.out _ _ P10.out.ten ?_
   clear hK Kc
   refine plan_step rfl (fun Kc hK => ?_)
   rw [if_pos (by rfl)]
   go_simp
   refine hK.out _ _ P10.out.ten ?_
   clear hK Kc
   refine plan_end ?_
   refine ⟨rfl, w6.heap.size, ?_, by omega, D10.out⟩
   first | rfl | (simp only [Act.put, List.setIfInBounds_toArray, List.set_cons_zero, List.set_cons_succ])
 rintro a' w6 ⟨zb, rfl, hx5, hb6⟩
 simp only [Act.put, List.setIfInBounds_toArray, List.set_cons_zero, List.set_cons_succ]
 have T6 := Lib.hid (T5.out.trans (hb6.mono (by omega)))
 have V6 := Lib.hid (V5.out.below (by omega) hb6)
 have Ka6 := Lib.hid (Ka5.out.below (by omega) hb6)
 have Kb6 := Lib.hid (Kb5.out.below (by omega) hb6)
 have P6 := Lib.hid (P5.out.below hb6 (by omega))
 have R6 := Lib.hid (R5.out.below hb6 (by omega))
 have F6 := Lib.hid (F5.out.below hb6)
 have G6 := Lib.hid (G5.out.below (by omega) hb6)
 have L6 := Lib.hid (L5.out.below hb6)
 have W6 := Lib.hid (W5.out.below hb6)
 have Q6 := Lib.hid (Q5.out.below hb6 (by omega))
 have Y6 := Lib.hid (Y5.out.below hb6 (by omega))
 have sz6 : w5.heap.size ≤ w6.heap.size := hb6.size
 clear T5 V5 Ka5 Kb5 P5 R5 F5 G5 L5 W5 Q5 Y5
 have hyes := HYE.out
 obtain ⟨p0, p1, p2, p3, p4, p5, p6, p7, p8, p9⟩ := P6.out.ten
 obtain ⟨r0, r1, r2, r3, r4, r5, r6, r7, r8, r9⟩ := R6.out.ten
 have ff := R6.out.warm
 go_wp2
 obtain ⟨w9, hw9, hc9, hR⟩ := R6.out.put10 (.string s) (.slice A n c) (.slice A2 m d) (.slice M q e0) (.int .i64 X.sp) (.int .i64 X.w) (.int .i64 X.t) (.int .i64 X.k) (.slice L l lc) (.slice T r tc)
 (try rw [hw9])
 clear hw9 r0 r1 r2 r3 r4 r5 r6 r7 r8 r9
 obtain ⟨r0, r1, r2, r3, r4, r5, r6, r7, r8, r9⟩ := hR.ten
 (try simp only [Exit.inBlock, Exit.then])
 clear p0 p1 p2 p3 p4 p5 p6 p7 p8 p9
 refine bodyPost_ret (v := .tuple #[.agg #[.string s, .slice A n c, .slice A2 m d, .slice M q e0, .int .i64 X.sp, .int .i64 X.w, .int .i64 X.t, .int .i64 X.k, .slice L l lc, .slice T r tc], .bool false]) (by simp [results, Tryz.results57, go_sem, r0, r1, r2, r3, r4, r5, r6, r7, r8, r9]) rfl ?_
 rw [hyes]
 exact ⟨_, rfl, fun _ => rfl, fun h9 => (by cases h9), T6.out.trans ((hc9.below (by omega)).mono (by omega))⟩
set_option maxRecDepth 100000 in
set_option maxHeartbeats 6400000 in
theorem specL5K_take (lo hi0 : Nat) (v : Value) (X : Mch) (b : Nat) (w : World) (h : MchV w lo hi0 v X) (hhi : hi0 ≤ w.heap.size) (hm : machB X = true) (wf : WfX X) (hb : ¬ b = 32) (i9 : Nat) (hki : keyI X.f (b : Int) = i9) (hi9 : i9 = (keyTo X.f.s b X.f.s.size).toNat) (hn9 : ¬ keyTo X.f.s b X.f.s.size < 0) (x : Mat) (xs : List Mat) (hx9 : X.ms[i9]? = some (x :: xs)) (hkr : keyRow X b = x :: xs) :
  Calls Tryz.prog 57 #[v, .int .i64 b] w fun e w' => ∃ v', e = .returned (.tuple #[v', .bool (keyYes X b)]) ∧ (keyYes X b = false → v' = v) ∧ (keyYes X b = true → MchV w' w.heap.size w'.heap.size v' (keyX X b)) ∧ Below w.heap.size w w' := by
 have HS := Lib.hid (mach_smallX hm)
 have HM := Lib.hid hm
 have hbe : ((b : Int) == 32) = false := by simp; omega
 have HMG := Lib.hid (machB_parts hm).1
 obtain ⟨k1, k2⟩ := x
 have hgd : X.ms.getD (keyTo X.f.s b X.f.s.size).toNat [] = (k1, k2) :: xs := by rw [← hi9, List.getD, hx9]; rfl
 have HYA := Lib.hid (keyYes_cons (X := X) (b := b) (by omega) hkr)
 have HXE : Hid (keyYes X b = true → keyX X b = ⟨X.f, X.ms.set i9 xs, X.sp, X.w, X.t, X.k, X.ln ++ [(k1, k2)], X.wt⟩) := fun h9 => by rw [hi9]; exact keyX_cons (by omega) hgd hn9 (by rw [← keyYes_cons (by omega) hkr]; exact h9)
 have HMB : Hid (machB ⟨X.f, X.ms.set i9 xs, X.sp, X.w, X.t, X.k, X.ln ++ [(k1, k2)], X.wt⟩ = keyYes X b) := by show _ = _; rw [hi9, keyYes_cons (by omega) hkr]; exact mach_add hm hgd
 have hbg := mach_big hm
 have HSX : Hid (SmallX ⟨X.f, X.ms.set i9 xs, X.sp, X.w, X.t, X.k, X.ln ++ [(k1, k2)], X.wt⟩) := small_add hm (by rw [List.length_set]) (by have := tot_set hx9; omega) (fun ys hy => by rcases List.mem_or_eq_of_mem_set hy with h9 | rfl; (exact hbg.2.2.1 ys h9); (have := hbg.2.2.1 _ (List.mem_of_getElem? hx9); simp only [List.length_cons] at this; omega))
 have HKI := Lib.hid hki; have HX9 := Lib.hid hx9
 clear hbg hgd
 have hparts := h.parts
 obtain ⟨s, A, n, c, A2, m, d, M, q, e0, L, l, lc, T, r, tc, hv, hF0, hq0, hM0, -⟩ := hparts
 rw [hv] at h ⊢
 clear hv
 obtain ⟨w0, hw0⟩ : ∃ x, w = x := ⟨_, rfl⟩
 have hww : w.heap.size = w0.heap.size := by rw [hw0]
 have HWF := Lib.hid wf
 have T0 : Hid (Below w0.heap.size w0 w0) := Below.refl _ _
 have V0 : Hid (MchV w0 lo hi0 (.agg #[.string s, .slice A n c, .slice A2 m d, .slice M q e0, .int .i64 X.sp, .int .i64 X.w, .int .i64 X.t, .int .i64 X.k, .slice L l lc, .slice T r tc]) X) := by rw [← hw0]; exact h
 have Ka0 : Hid (FontV w0 lo hi0 (.agg #[.string s, .slice A n c, .slice A2 m d]) X.f) := by rw [← hw0]; exact hF0
 have Kb0 : Hid (MagI w0 lo hi0 M X.ms) := by rw [← hw0]; exact hM0
 have HQ0 := Lib.hid hq0
 clear h wf hF0 hM0 hq0
 obtain ⟨w1, hw1, hb1, hz1, hX1⟩ := mxWorld w0 #[.string s, .slice A n c, .slice A2 m d, .slice M q e0, .int .i64 X.sp, .int .i64 X.w, .int .i64 X.t, .int .i64 X.k, .slice L l lc, .slice T r tc] 37
 have T1 := Lib.hid (T0.out.trans (hb1.mono (by omega)))
 have V1 := Lib.hid (V0.out.below (by omega) hb1)
 have Ka1 := Lib.hid (Ka0.out.below (by omega) hb1)
 have Kb1 := Lib.hid (Kb0.out.below (by omega) hb1)
 have sz1 : w0.heap.size ≤ w1.heap.size := hb1.size
 clear T0 V0 Ka0 Kb0
 have P1 := Lib.hid hX1
 obtain ⟨w2, hw2, hb2, hz2, hX2⟩ := mxWorld w1 #[.string ⟨#[]⟩, .slice none 0 0, .slice none 0 0, .slice none 0 0, .int .i64 0, .int .i64 0, .int .i64 0, .int .i64 0, .slice none 0 0, .slice none 0 0] 37
 have T2 := Lib.hid (T1.out.trans (hb2.mono (by omega)))
 have V2 := Lib.hid (V1.out.below (by omega) hb2)
 have Ka2 := Lib.hid (Ka1.out.below (by omega) hb2)
 have Kb2 := Lib.hid (Kb1.out.below (by omega) hb2)
 have P2 := Lib.hid (P1.out.below hb2 (by omega))
 have sz2 : w1.heap.size ≤ w2.heap.size := hb2.size
 clear T1 V1 Ka1 Kb1 P1
 rw [hz1] at hX2
 have R2 := Lib.hid hX2
 rw [hz1] at hz2
 obtain ⟨p0, p1, p2, p3, p4, p5, p6, p7, p8, p9⟩ := P2.out.ten
 rw [hw0]
 go_enter Tryz.func57, Tryz.ntmps57
 go_wp2_with fail
 clear p0 p1 p2 p3 p4 p5 p6 p7 p8 p9
 refine (l5Copy_any lo hi0 _ X w2 V2.out (by omega) HS.out).mono ?_
 rintro e u1 ⟨vC, rfl, hC, hbC⟩
 obtain ⟨O, hOz⟩ : ∃ x, u1.heap.size = x := ⟨_, rfl⟩
 have hbO := hbC.size
 rw [hOz] at hC hbO
 obtain ⟨Az, cz, A2z, dz, Mz, ez, Lz, lcz, Tz, tcz, hs7, f0, f1, g0, g1, l0, l1, t0, t1, hO⟩ := hC
 have hv7 := hO.v
 unfold mwords at hv7
 subst hv7
 have HO := Lib.hid hO
 clear hO
 obtain ⟨u2, hu2, hbu2, hzu2, hU⟩ := mxWorld u1 #[.string ⟨#[]⟩, .slice none 0 0, .slice none 0 0, .slice none 0 0, .int .i64 0, .int .i64 0, .int .i64 0, .int .i64 0, .slice none 0 0, .slice none 0 0] 37
 rw [hOz] at hU hzu2 hbu2
 obtain ⟨o0, o1, o2, o3, o4, o5, o6, o7, o8, o9⟩ := hU.ten
 have fo := hU.warm
 have HU2 := Lib.hid hU
 have HBU := Lib.hid hbu2
 have HBC := Lib.hid hbC
 clear hU hbC hbu2
 go_upto_region 2 with fail
 obtain ⟨u3, hu3, hc9, hR⟩ := HU2.out.put10 (.string X.f.s) (.slice Az X.f.ws.length cz) (.slice A2z X.f.cs.length dz) (.slice Mz X.ms.length ez) (.int .i64 X.sp) (.int .i64 X.w) (.int .i64 X.t) (.int .i64 X.k) (.slice Lz X.ln.length lcz) (.slice Tz X.wt.length tcz)
 rw [hu3]
 have hzu3 := hc9.size
 have hbl : Below u1.heap.size u1 u3 := by rw [hOz]; exact HBU.out.trans (hc9.below (by omega))
 have BC3 : Below w2.heap.size w2 u3 := HBC.out.trans (hbl.mono (by omega))
 clear hu3 hc9 fo o0 o1 o2 o3 o4 o5 o6 o7 o8 o9 hu2
 have hfi := HO.out.fi; have hgi := HO.out.gi; have hli := HO.out.li; have hti := HO.out.ti
 have hfl := HO.out.fl; have hgl := HO.out.gl; have hlt := HO.out.lt
 unfold Off at hfl hgl hlt
 have HLT := Lib.hid HO.out.lineT; have HTT := Lib.hid HO.out.waitT
 obtain ⟨w3, hwk⟩ : ∃ x, u3 = x := ⟨_, rfl⟩
 rw [hwk] at BC3 hbl hR ⊢ hzu3
 clear hwk
 have hb3 := BC3
 have T3 := Lib.hid (T2.out.trans (hb3.mono (by omega)))
 have V3 := Lib.hid (V2.out.below (by omega) hb3)
 have Ka3 := Lib.hid (Ka2.out.below (by omega) hb3)
 have Kb3 := Lib.hid (Kb2.out.below (by omega) hb3)
 have P3 := Lib.hid (P2.out.below hb3 (by omega))
 have R3 := Lib.hid (R2.out.below hb3 (by omega))
 have sz3 : w2.heap.size ≤ w3.heap.size := hb3.size
 clear T2 V2 Ka2 Kb2 P2 R2
 have F3 : Hid (FontO w3 f0 f1 (.agg #[.string X.f.s, .slice Az X.f.ws.length cz, .slice A2z X.f.cs.length dz]) X.f) := HO.out.font.below hbl
 have G3 : Hid (MagI w3 g0 g1 Mz X.ms) := HO.out.mag.reads.below (by omega) hbl
 have L3 : Hid (OwnM w3 l0 (.slice Lz X.ln.length lcz) X.ln) := HO.out.line.below hbl
 have W3 : Hid (OwnM w3 t0 (.slice Tz X.wt.length tcz) X.wt) := HO.out.wait.below hbl
 have Q3 : Hid (Blk w3 O #[.string X.f.s, .slice Az X.f.ws.length cz, .slice A2z X.f.cs.length dz, .slice Mz X.ms.length ez, .int .i64 X.sp, .int .i64 X.w, .int .i64 X.t, .int .i64 X.k, .slice Lz X.ln.length lcz, .slice Tz X.wt.length tcz] 37) := hR
 have hsO : w0.heap.size + 1 < O := by omega
 clear hR hbl BC3 HU2 HBU HBC
 obtain ⟨w4, hw4, hb4, hz4, hX4⟩ := mxWorld w3 #[.int .i64 (-1), .int .i64 0] 64
 have T4 := Lib.hid (T3.out.trans (hb4.mono (by omega)))
 have V4 := Lib.hid (V3.out.below (by omega) hb4)
 have Ka4 := Lib.hid (Ka3.out.below (by omega) hb4)
 have Kb4 := Lib.hid (Kb3.out.below (by omega) hb4)
 have P4 := Lib.hid (P3.out.below hb4 (by omega))
 have R4 := Lib.hid (R3.out.below hb4 (by omega))
 have F4 := Lib.hid (F3.out.below hb4)
 have G4 := Lib.hid (G3.out.below (by omega) hb4)
 have L4 := Lib.hid (L3.out.below hb4)
 have W4 := Lib.hid (W3.out.below hb4)
 have Q4 := Lib.hid (Q3.out.below hb4 (by omega))
 have sz4 : w3.heap.size ≤ w4.heap.size := hb4.size
 clear T3 V3 Ka3 Kb3 P3 R3 F3 G3 L3 W3 Q3
 have Y4 := Lib.hid hX4
 have x0 := cellOfBlk Y4.out 0
 have x1 := cellOfBlk Y4.out 1
 have fx := Y4.out.warm
 go_upto_region 3 with fail
 clear x0 x1 fx
 obtain ⟨yb, hyb⟩ : ∃ x, w3.heap.size = x := ⟨_, rfl⟩
 have hOy : O < yb := by omega
 rw [hyb] at Y4 ⊢
 obtain ⟨w5, hw9⟩ : ∃ x, w4.setCell ⟨yb, 1, none⟩ (.int .i64 0) = x := ⟨_, rfl⟩
 have hc9 : Chg yb (yb + 1) w4 w5 := by rw [← hw9]; exact chg_one _ _ _ _
 have hY9 : Blk w5 yb #[.int .i64 (-1), .int .i64 0] 64 := by rw [← hw9]; exact heapSet (i := 1) Y4.out _
 rw [hw9]
 have T5 := Lib.hid (T4.out.trans ((hc9.below (by omega)).mono (by omega)))
 have V5 := Lib.hid (V4.out.chg hc9 (by omega) (by omega))
 have Ka5 := Lib.hid (Ka4.out.chg hc9 (by omega) (by omega))
 have Kb5 := Lib.hid (Kb4.out.chg hc9 (by omega) (by omega))
 have P5 := Lib.hid (P4.out.chg hc9 (by omega))
 have R5 := Lib.hid (R4.out.chg hc9 (by omega))
 have F5 := Lib.hid (F4.out.chg hc9 (by unfold Off; omega))
 have G5 := Lib.hid (G4.out.chg hc9 (by omega) (by omega))
 have L5 := Lib.hid (L4.out.chg hc9 (fun k hk => by have h7 := HLT.out k hk; have h8 := (L4.out.lt k hk).1; omega))
 have W5 := Lib.hid (W4.out.chg hc9 (fun k hk => by have h7 := HTT.out k hk; have h8 := (W4.out.lt k hk).1; omega))
 have Q5 := Lib.hid (Q4.out.chg hc9 (by omega))
 have sz5 : w4.heap.size ≤ w5.heap.size := hc9.size
 clear T4 V4 Ka4 Kb4 P4 R4 F4 G4 L4 W4 Q4 Y4
 have Y5 := Lib.hid hY9
 clear hc9 hY9 hw9
 clear hki hi9 hn9 hx9 hkr
 go_upto_region 5 with fail
 refine region_post (fun a a' w' => ∃ (A9 : Option Addr) (c9 zb x9 z9 : Nat), a' = ((((((((((((((((a.put (some 21) (.pointer (some ⟨w0.heap.size, 0, none⟩))).put (some 22) (.agg #[.string s, .slice A n c, .slice A2 m d])).put (some 23) (.pointer (some ⟨w0.heap.size, 3, none⟩))).put (some 24) (.slice M q e0)).put (some 25) (.pointer (some ⟨w0.heap.size, 0, none⟩))).put (some 26) (.agg #[.string s, .slice A n c, .slice A2 m d])).put (some 27) (.int .i64 b)).put (some 28) (.int .i64 (i9 : Nat))).put (some 29) (.tuple #[.slice A9 q c9, .agg #[.int .i64 k1, .int .i64 k2], .bool true])).put (some 20) (.tuple #[.slice A9 q c9, .agg #[.int .i64 k1, .int .i64 k2], .bool true])).put (some 30) (.slice A9 q c9)).put (some 31) (.agg #[.int .i64 k1, .int .i64 k2])).put (some 32) (.bool true)).put (some 9) (.pointer (some ⟨zb, 0, none⟩))).put (some 8) (.slice A9 q c9)).put (some 10) (.bool true)) ∧ Blk w' zb #[.int .i64 k1, .int .i64 k2] 64 ∧ MagI w' x9 z9 A9 (X.ms.set i9 xs) ∧ w5.heap.size ≤ x9 ∧ z9 ≤ w'.heap.size ∧ q ≤ c9 ∧ c9 ≤ maxLen ∧ w5.heap.size ≤ zb ∧ Below w5.heap.size w5 w') ?_ ?_
 ·have D5 : Hid (Below w5.heap.size w5 w5) := Below.refl _ _
  refine wp_region_plan (.take 0 (.take 1 (.take 2 (.take 3 (.take 4 (.take 5 (.take 6 (.two 7 13 (.two 8 13 (.take 9 (.take 10 (.take 11 (.take 12 (.one 13 (.one 14 (.one 15 (.one 16 .done)))))))) (.one 8 (.take 9 (.take 10 (.take 11 (.take 12 (.one 14 (.one 15 (.one 16 .done))))))))) (.one 7 (.one 8 (.take 9 (.take 10 (.take 11 (.take 12 (.one 14 (.one 15 (.one 16 .done))))))))))))))))) (fun w' => w'.cell? ⟨w0.heap.size, 0, none⟩ = some (.string s) ∧ w'.cell? ⟨w0.heap.size, 1, none⟩ = some (.slice A n c) ∧ w'.cell? ⟨w0.heap.size, 2, none⟩ = some (.slice A2 m d) ∧ w'.cell? ⟨w0.heap.size, 3, none⟩ = some (.slice M q e0) ∧ w'.cell? ⟨w0.heap.size, 4, none⟩ = some (.int .i64 X.sp) ∧ w'.cell? ⟨w0.heap.size, 5, none⟩ = some (.int .i64 X.w) ∧ w'.cell? ⟨w0.heap.size, 6, none⟩ = some (.int .i64 X.t) ∧ w'.cell? ⟨w0.heap.size, 7, none⟩ = some (.int .i64 X.k) ∧ w'.cell? ⟨w0.heap.size, 8, none⟩ = some (.slice L l lc) ∧ w'.cell? ⟨w0.heap.size, 9, none⟩ = some (.slice T r tc)) (by kernel_rfl) (by kernel_rfl) (by kernel_rfl) (by intro c a d v w h; exact absurd h.1 (by simp)) P5.out.ten ?_
  obtain ⟨w6, hwd⟩ : ∃ x, w5.drew = x := ⟨_, rfl⟩
  have hb6 : Below w5.heap.size w5 w6 := by rw [← hwd]; exact (Below.refl _ _).drew
  have hsz6 : w6.heap.size = w5.heap.size := by rw [← hwd]; rfl
  have Ka6 := Lib.hid (Ka5.out.below (by omega) hb6)
  have Kb6 := Lib.hid (Kb5.out.below (by omega) hb6)
  have P6 := Lib.hid (P5.out.below hb6 (by omega))
  have D6 := Lib.hid (D5.out.trans (hb6.mono (by omega)))
  have sz6 : w5.heap.size ≤ w6.heap.size := hb6.size
  clear Ka5 Kb5 P5 D5
  rw [hwd]
  clear hwd
  clear hsz6
  iterate 7 (refine plan_quiet rfl (by rfl) (v := ?_) ?_ ?_; rotate_left; (intro w1 hSw; obtain ⟨hs0, hs1, hs2, hs3, hs4, hs5, hs6, hs7, hs8, hs9⟩ := hSw; go_simp; try (with_reducible rfl)); (try simp only [Act.put, List.setIfInBounds_toArray, List.set_cons_zero, List.set_cons_succ]))
  refine plan_fork rfl rfl (fun Kc hK => ?_) (fun Kc hK => ?_)
  ·rw [if_pos (by rfl)]
   go_simp
   refine (specKeyOf_any lo hi0 _ X.f (b : Int) w6 Ka6.out (by omega) HS.out.f).mono ?_
   rintro e w7 ⟨rfl, hb7⟩
   rw [HKI.out]
   have Ka7 := Lib.hid (Ka6.out.below (by omega) hb7)
   have Kb7 := Lib.hid (Kb6.out.below (by omega) hb7)
   have P7 := Lib.hid (P6.out.below hb7 (by omega))
   have D7 := Lib.hid (D6.out.trans (hb7.mono (by omega)))
   have sz7 : w6.heap.size ≤ w7.heap.size := hb7.size
   clear Ka6 Kb6 P6 D6
   refine hK.out _ _ P7.out.ten ?_
   clear hK Kc
   refine plan_fork rfl rfl (fun Kc hK => ?_) (fun Kc hK => ?_)
   ·rw [if_pos (by rfl)]
    go_simp
    refine (specTake_yes lo hi0 lo hi0 _ X.f M q e0 X.ms i9 w7 Ka7.out (by omega) HS.out.f HQ0.out (by rw [← HQ0.out]; exact HS.out.ms) Kb7.out (by omega) HWF.out.ms HMG.out (k1, k2) xs HX9.out).mono ?_
    rintro e w8 ⟨A9, c9, rfl, hM9, hc91, hc92, hb8⟩
    rw [show cvM (k1, k2) = .agg #[.int .i64 k1, .int .i64 k2] from rfl]
    have Ka8 := Lib.hid (Ka7.out.below (by omega) hb8)
    have Kb8 := Lib.hid (Kb7.out.below (by omega) hb8)
    have P8 := Lib.hid (P7.out.below hb8 (by omega))
    have D8 := Lib.hid (D7.out.trans (hb8.mono (by omega)))
    have sz8 : w7.heap.size ≤ w8.heap.size := hb8.size
    clear Ka7 Kb7 P7 D7
    have M8 : Hid (MagI w8 w7.heap.size w8.heap.size A9 (X.ms.set i9 xs)) := hM9
    have HC9 := Lib.hid (And.intro hc91 hc92)
    clear hM9 hc91 hc92
    refine hK.out _ _ P8.out.ten ?_
    clear hK Kc
    iterate 4 (refine plan_quiet rfl (by rfl) (v := ?_) ?_ ?_; rotate_left; (intro w1 hSw; obtain ⟨hs0, hs1, hs2, hs3, hs4, hs5, hs6, hs7, hs8, hs9⟩ := hSw; go_simp; try (with_reducible rfl)); (try simp only [Act.put, List.setIfInBounds_toArray, List.set_cons_zero, List.set_cons_succ]))
    refine plan_step rfl (fun Kc hK => ?_)
    rw [if_pos (by rfl)]
    go_simp
    obtain ⟨w9, hw9, hb9, hz9, hX9⟩ := mxWorld w8 #[.int .i64 0, .int .i64 0] 64
    have Ka9 := Lib.hid (Ka8.out.below (by omega) hb9)
    have Kb9 := Lib.hid (Kb8.out.below (by omega) hb9)
    have P9 := Lib.hid (P8.out.below hb9 (by omega))
    have D9 := Lib.hid (D8.out.trans (hb9.mono (by omega)))
    have M9 := Lib.hid (M8.out.below (by omega) hb9)
    have sz9 : w8.heap.size ≤ w9.heap.size := hb9.size
    clear Ka8 Kb8 P8 D8 M8
    have Z9 := Lib.hid hX9
    have hzl : w8.heap.size < w9.heap.size := by omega
    rw [hw9]
    clear hw9 hz9 hX9 hb9
    refine hK.out _ _ P9.out.ten ?_
    clear hK Kc
    refine plan_step rfl (fun Kc hK => ?_)
    rw [if_pos (by rfl)]
    go_simp
    refine hK.out _ _ P9.out.ten ?_
    clear hK Kc
    have z0 := cellOfBlk Z9.out 0
    have z1 := cellOfBlk Z9.out 1
    have fz := Z9.out.warm
    refine plan_step rfl (fun Kc hK => ?_)
    rw [if_pos (by rfl)]
    go_simp
    clear z0 z1 fz
    obtain ⟨w10, hw9⟩ : ∃ x, (w9.setCell ⟨w8.heap.size, 0, none⟩ (.int .i64 k1)).setCell ⟨w8.heap.size, 1, none⟩ (.int .i64 k2) = x := ⟨_, rfl⟩
    have hc9 : Chg (w8.heap.size) (w8.heap.size + 1) w9 w10 := by rw [← hw9]; exact chg_two _ _ _ _
    have hZ9 : Blk w10 (w8.heap.size) #[.int .i64 k1, .int .i64 k2] 64 := by rw [← hw9]; exact Z9.out.fill2 _ _
    rw [hw9]
    clear hw9
    have Ka10 := Lib.hid (Ka9.out.chg hc9 (by omega) (by omega))
    have Kb10 := Lib.hid (Kb9.out.chg hc9 (by omega) (by omega))
    have P10 := Lib.hid (P9.out.chg hc9 (by omega))
    have D10 := Lib.hid (D9.out.trans ((hc9.below (by omega)).mono (by omega)))
    have M10 := Lib.hid (M9.out.chg hc9 (by omega) (by omega))
    have sz10 : w9.heap.size ≤ w10.heap.size := hc9.size
    clear Ka9 Kb9 P9 D9 M9 Z9
    refine hK.out _ _ P10.out.ten ?_
    clear hK Kc
    refine plan_step rfl (fun Kc hK => ?_)
    rw [if_pos (by rfl)]
    go_simp
    refine hK.out _ _ P10.out.ten ?_
    clear hK Kc
    refine plan_end ?_
    refine ⟨rfl, A9, c9, w8.heap.size, w7.heap.size, w8.heap.size, ?_, hZ9, M10.out, by omega, by omega, HC9.out.1, HC9.out.2, by omega, D10.out⟩
    first | rfl | (simp only [Act.put, List.setIfInBounds_toArray, List.set_cons_zero, List.set_cons_succ])
   ·rw [if_pos (by rfl)]
    go_simp
    obtain ⟨w8, hw8, hb8, hz8, hX8⟩ := mxWorld w7 #[.int .i64 0, .int .i64 0] 64
    have Ka8 := Lib.hid (Ka7.out.below (by omega) hb8)
    have Kb8 := Lib.hid (Kb7.out.below (by omega) hb8)
    have P8 := Lib.hid (P7.out.below hb8 (by omega))
    have D8 := Lib.hid (D7.out.trans (hb8.mono (by omega)))
    have sz8 : w7.heap.size ≤ w8.heap.size := hb8.size
    clear Ka7 Kb7 P7 D7
    have Z8 := Lib.hid hX8
    have hzl : w7.heap.size < w8.heap.size := by omega
    rw [hw8]
    clear hw8 hz8 hX8 hb8
    refine hK.out _ _ P8.out.ten ?_
    clear hK Kc
    refine plan_step rfl (fun Kc hK => ?_)
    rw [if_pos (by rfl)]
    go_simp
    refine (specTake_yes lo hi0 lo hi0 _ X.f M q e0 X.ms i9 w8 Ka8.out (by omega) HS.out.f HQ0.out (by rw [← HQ0.out]; exact HS.out.ms) Kb8.out (by omega) HWF.out.ms HMG.out (k1, k2) xs HX9.out).mono ?_
    rintro e w9 ⟨A9, c9, rfl, hM9, hc91, hc92, hb9⟩
    rw [show cvM (k1, k2) = .agg #[.int .i64 k1, .int .i64 k2] from rfl]
    have Ka9 := Lib.hid (Ka8.out.below (by omega) hb9)
    have Kb9 := Lib.hid (Kb8.out.below (by omega) hb9)
    have P9 := Lib.hid (P8.out.below hb9 (by omega))
    have D9 := Lib.hid (D8.out.trans (hb9.mono (by omega)))
    have Z9 := Lib.hid (Z8.out.below hb9 (by omega))
    have sz9 : w8.heap.size ≤ w9.heap.size := hb9.size
    clear Ka8 Kb8 P8 D8 Z8
    have M9 : Hid (MagI w9 w8.heap.size w9.heap.size A9 (X.ms.set i9 xs)) := hM9
    have HC9 := Lib.hid (And.intro hc91 hc92)
    clear hM9 hc91 hc92
    refine hK.out _ _ P9.out.ten ?_
    clear hK Kc
    iterate 4 (refine plan_quiet rfl (by rfl) (v := ?_) ?_ ?_; rotate_left; (intro w1 hSw; obtain ⟨hs0, hs1, hs2, hs3, hs4, hs5, hs6, hs7, hs8, hs9⟩ := hSw; go_simp; try (with_reducible rfl)); (try simp only [Act.put, List.setIfInBounds_toArray, List.set_cons_zero, List.set_cons_succ]))
    refine plan_step rfl (fun Kc hK => ?_)
    rw [if_pos (by rfl)]
    go_simp
    refine hK.out _ _ P9.out.ten ?_
    clear hK Kc
    have z0 := cellOfBlk Z9.out 0
    have z1 := cellOfBlk Z9.out 1
    have fz := Z9.out.warm
    refine plan_step rfl (fun Kc hK => ?_)
    rw [if_pos (by rfl)]
    go_simp
    clear z0 z1 fz
    obtain ⟨w10, hw9⟩ : ∃ x, (w9.setCell ⟨w7.heap.size, 0, none⟩ (.int .i64 k1)).setCell ⟨w7.heap.size, 1, none⟩ (.int .i64 k2) = x := ⟨_, rfl⟩
    have hc9 : Chg (w7.heap.size) (w7.heap.size + 1) w9 w10 := by rw [← hw9]; exact chg_two _ _ _ _
    have hZ9 : Blk w10 (w7.heap.size) #[.int .i64 k1, .int .i64 k2] 64 := by rw [← hw9]; exact Z9.out.fill2 _ _
    rw [hw9]
    clear hw9
    have Ka10 := Lib.hid (Ka9.out.chg hc9 (by omega) (by omega))
    have Kb10 := Lib.hid (Kb9.out.chg hc9 (by omega) (by omega))
    have P10 := Lib.hid (P9.out.chg hc9 (by omega))
    have D10 := Lib.hid (D9.out.trans ((hc9.below (by omega)).mono (by omega)))
    have M10 := Lib.hid (M9.out.chg hc9 (by omega) (by omega))
    have sz10 : w9.heap.size ≤ w10.heap.size := hc9.size
    clear Ka9 Kb9 P9 D9 Z9 M9
    refine hK.out _ _ P10.out.ten ?_
    clear hK Kc
    refine plan_step rfl (fun Kc hK => ?_)
    rw [if_pos (by rfl)]
    go_simp
    refine hK.out _ _ P10.out.ten ?_
    clear hK Kc
    refine plan_end ?_
    refine ⟨rfl, A9, c9, w7.heap.size, w8.heap.size, w9.heap.size, ?_, hZ9, M10.out, by omega, by omega, HC9.out.1, HC9.out.2, by omega, D10.out⟩
    first | rfl | (simp only [Act.put, List.setIfInBounds_toArray, List.set_cons_zero, List.set_cons_succ])
  ·rw [if_pos (by rfl)]
   go_simp
   obtain ⟨w7, hw7, hb7, hz7, hX7⟩ := mxWorld w6 #[.int .i64 0, .int .i64 0] 64
   have Ka7 := Lib.hid (Ka6.out.below (by omega) hb7)
   have Kb7 := Lib.hid (Kb6.out.below (by omega) hb7)
   have P7 := Lib.hid (P6.out.below hb7 (by omega))
   have D7 := Lib.hid (D6.out.trans (hb7.mono (by omega)))
   have sz7 : w6.heap.size ≤ w7.heap.size := hb7.size
   clear Ka6 Kb6 P6 D6
   have Z7 := Lib.hid hX7
   have hzl : w6.heap.size < w7.heap.size := by omega
   rw [hw7]
   clear hw7 hz7 hX7 hb7
   refine hK.out _ _ P7.out.ten ?_
   clear hK Kc
   refine plan_step rfl (fun Kc hK => ?_)
   rw [if_pos (by rfl)]
   go_simp
   refine (specKeyOf_any lo hi0 _ X.f (b : Int) w7 Ka7.out (by omega) HS.out.f).mono ?_
   rintro e w8 ⟨rfl, hb8⟩
   rw [HKI.out]
   have Ka8 := Lib.hid (Ka7.out.below (by omega) hb8)
   have Kb8 := Lib.hid (Kb7.out.below (by omega) hb8)
   have P8 := Lib.hid (P7.out.below hb8 (by omega))
   have D8 := Lib.hid (D7.out.trans (hb8.mono (by omega)))
   have Z8 := Lib.hid (Z7.out.below hb8 (by omega))
   have sz8 : w7.heap.size ≤ w8.heap.size := hb8.size
   clear Ka7 Kb7 P7 D7 Z7
   refine hK.out _ _ P8.out.ten ?_
   clear hK Kc
   refine plan_step rfl (fun Kc hK => ?_)
   rw [if_pos (by rfl)]
   go_simp
   refine (specTake_yes lo hi0 lo hi0 _ X.f M q e0 X.ms i9 w8 Ka8.out (by omega) HS.out.f HQ0.out (by rw [← HQ0.out]; exact HS.out.ms) Kb8.out (by omega) HWF.out.ms HMG.out (k1, k2) xs HX9.out).mono ?_
   rintro e w9 ⟨A9, c9, rfl, hM9, hc91, hc92, hb9⟩
   rw [show cvM (k1, k2) = .agg #[.int .i64 k1, .int .i64 k2] from rfl]
   have Ka9 := Lib.hid (Ka8.out.below (by omega) hb9)
   have Kb9 := Lib.hid (Kb8.out.below (by omega) hb9)
   have P9 := Lib.hid (P8.out.below hb9 (by omega))
   have D9 := Lib.hid (D8.out.trans (hb9.mono (by omega)))
   have Z9 := Lib.hid (Z8.out.below hb9 (by omega))
   have sz9 : w8.heap.size ≤ w9.heap.size := hb9.size
   clear Ka8 Kb8 P8 D8 Z8
   have M9 : Hid (MagI w9 w8.heap.size w9.heap.size A9 (X.ms.set i9 xs)) := hM9
   have HC9 := Lib.hid (And.intro hc91 hc92)
   clear hM9 hc91 hc92
   refine hK.out _ _ P9.out.ten ?_
   clear hK Kc
   iterate 4 (refine plan_quiet rfl (by rfl) (v := ?_) ?_ ?_; rotate_left; (intro w1 hSw; obtain ⟨hs0, hs1, hs2, hs3, hs4, hs5, hs6, hs7, hs8, hs9⟩ := hSw; go_simp; try (with_reducible rfl)); (try simp only [Act.put, List.setIfInBounds_toArray, List.set_cons_zero, List.set_cons_succ]))
   refine plan_step rfl (fun Kc hK => ?_)
   rw [if_pos (by rfl)]
   go_simp
   refine hK.out _ _ P9.out.ten ?_
   clear hK Kc
   have z0 := cellOfBlk Z9.out 0
   have z1 := cellOfBlk Z9.out 1
   have fz := Z9.out.warm
   refine plan_step rfl (fun Kc hK => ?_)
   rw [if_pos (by rfl)]
   go_simp
   clear z0 z1 fz
   obtain ⟨w10, hw9⟩ : ∃ x, (w9.setCell ⟨w6.heap.size, 0, none⟩ (.int .i64 k1)).setCell ⟨w6.heap.size, 1, none⟩ (.int .i64 k2) = x := ⟨_, rfl⟩
   have hc9 : Chg (w6.heap.size) (w6.heap.size + 1) w9 w10 := by rw [← hw9]; exact chg_two _ _ _ _
   have hZ9 : Blk w10 (w6.heap.size) #[.int .i64 k1, .int .i64 k2] 64 := by rw [← hw9]; exact Z9.out.fill2 _ _
   rw [hw9]
   clear hw9
   have Ka10 := Lib.hid (Ka9.out.chg hc9 (by omega) (by omega))
   have Kb10 := Lib.hid (Kb9.out.chg hc9 (by omega) (by omega))
   have P10 := Lib.hid (P9.out.chg hc9 (by omega))
   have D10 := Lib.hid (D9.out.trans ((hc9.below (by omega)).mono (by omega)))
   have M10 := Lib.hid (M9.out.chg hc9 (by omega) (by omega))
   have sz10 : w9.heap.size ≤ w10.heap.size := hc9.size
   clear Ka9 Kb9 P9 D9 Z9 M9
   refine hK.out _ _ P10.out.ten ?_
   clear hK Kc
   refine plan_step rfl (fun Kc hK => ?_)
   rw [if_pos (by rfl)]
   go_simp
   refine hK.out _ _ P10.out.ten ?_
   clear hK Kc
   refine plan_end ?_
   refine ⟨rfl, A9, c9, w6.heap.size, w8.heap.size, w9.heap.size, ?_, hZ9, M10.out, by omega, by omega, HC9.out.1, HC9.out.2, by omega, D10.out⟩
   first | rfl | (simp only [Act.put, List.setIfInBounds_toArray, List.set_cons_zero, List.set_cons_succ])
 rintro a' w6 ⟨A9, c9, zb, x9, z9, rfl, hZ, hM9, hx1, hx2, hx3, hx4, hx5, hb6⟩
 simp only [Act.put, List.setIfInBounds_toArray, List.set_cons_zero, List.set_cons_succ]
 have T6 := Lib.hid (T5.out.trans (hb6.mono (by omega)))
 have V6 := Lib.hid (V5.out.below (by omega) hb6)
 have Ka6 := Lib.hid (Ka5.out.below (by omega) hb6)
 have Kb6 := Lib.hid (Kb5.out.below (by omega) hb6)
 have P6 := Lib.hid (P5.out.below hb6 (by omega))
 have R6 := Lib.hid (R5.out.below hb6 (by omega))
 have F6 := Lib.hid (F5.out.below hb6)
 have G6 := Lib.hid (G5.out.below (by omega) hb6)
 have L6 := Lib.hid (L5.out.below hb6)
 have W6 := Lib.hid (W5.out.below hb6)
 have Q6 := Lib.hid (Q5.out.below hb6 (by omega))
 have Y6 := Lib.hid (Y5.out.below hb6 (by omega))
 have sz6 : w5.heap.size ≤ w6.heap.size := hb6.size
 clear T5 V5 Ka5 Kb5 P5 R5 F5 G5 L5 W5 Q5 Y5
 clear G6
 have G6 := Lib.hid hM9
 have Z6 := Lib.hid hZ
 have HC9 := Lib.hid (And.intro hx3 hx4)
 clear hM9 hZ hx3 hx4
 obtain ⟨o0, o1, o2, o3, o4, o5, o6, o7, o8, o9⟩ := Q6.out.ten
 have fo := Q6.out.warm
 have x0 := cellOfBlk Y6.out 0
 have x1 := cellOfBlk Y6.out 1
 have fx := Y6.out.warm
 have z0 := cellOfBlk Z6.out 0
 have z1 := cellOfBlk Z6.out 1
 go_upto_region 10 with fail
 clear fo x0 x1 fx z0 z1 o0 o1 o2 o3 o4 o5 o6 o7 o8 o9
 obtain ⟨w7, hw9⟩ : ∃ x, ((w6.setCell ⟨O, 3, none⟩ (.slice A9 q c9)).setCell ⟨yb, 0, none⟩ (.int .i64 k1)).setCell ⟨yb, 1, none⟩ (.int .i64 k2) = x := ⟨_, rfl⟩
 have hc9 : Chg O (yb + 1) w6 w7 := by rw [← hw9]; exact ((chg_one _ O 3 _).wide (Nat.le_refl _) (by omega)).trans ((chg_two _ yb _ _).wide (by omega) (Nat.le_refl _))
 have hQ9 : Blk w7 O #[.string X.f.s, .slice Az X.f.ws.length cz, .slice A2z X.f.cs.length dz, .slice A9 q c9, .int .i64 X.sp, .int .i64 X.w, .int .i64 X.t, .int .i64 X.k, .slice Lz X.ln.length lcz, .slice Tz X.wt.length tcz] 37 := by rw [← hw9]; exact Blk.chg (heapSet (i := 3) Q6.out _) (chg_two _ yb _ _) (by omega)
 have hY9 : Blk w7 yb #[.int .i64 k1, .int .i64 k2] 64 := by rw [← hw9]; exact (Y6.out.chg (chg_one _ O 3 _) (by omega)).fill2 _ _
 rw [hw9]
 clear Z6
 have T7 := Lib.hid (T6.out.trans ((hc9.below (by omega)).mono (by omega)))
 have V7 := Lib.hid (V6.out.chg hc9 (by omega) (by omega))
 have Ka7 := Lib.hid (Ka6.out.chg hc9 (by omega) (by omega))
 have Kb7 := Lib.hid (Kb6.out.chg hc9 (by omega) (by omega))
 have P7 := Lib.hid (P6.out.chg hc9 (by omega))
 have R7 := Lib.hid (R6.out.chg hc9 (by omega))
 have F7 := Lib.hid (F6.out.chg hc9 (by unfold Off; omega))
 have G7 := Lib.hid (G6.out.chg hc9 (by omega) (by omega))
 have L7 := Lib.hid (L6.out.chg hc9 (fun k hk => by have h7 := HLT.out k hk; have h8 := (L6.out.lt k hk).1; omega))
 have W7 := Lib.hid (W6.out.chg hc9 (fun k hk => by have h7 := HTT.out k hk; have h8 := (W6.out.lt k hk).1; omega))
 have sz7 : w6.heap.size ≤ w7.heap.size := hc9.size
 clear T6 V6 Ka6 Kb6 P6 R6 F6 G6 L6 W6 Q6 Y6
 have Q7 := Lib.hid hQ9
 have Y7 := Lib.hid hY9
 clear hQ9 hY9 hc9 hw9
 have HTM : Hid (X.wt.length ≤ tcz ∧ tcz ≤ maxLen) := ownM_caps HO.out.wait
 have HEM := HC9
 have HQM : Hid ((X.ms.set i9 xs).length = q) := by show _ = _; rw [List.length_set]; exact HQ0.out
 obtain ⟨o0, o1, o2, o3, o4, o5, o6, o7, o8, o9⟩ := Q7.out.ten
 have fo := Q7.out.warm
 have x0 := cellOfBlk Y7.out 0
 have x1 := cellOfBlk Y7.out 1
 have hln := HS.out.ln
 have hLlt := L7.out.lt
 go_wp2_with (at_builtin; refine wpl_push_mat w7 rfl (.tmp 40) (.tmp 42) rfl (min l0 O) (.slice Lz X.ln.length lcz) X.ln (k1, k2) rfl rfl (L7.out.base (by omega)) (by omega) hln ?_; intro v9 w8 hO9 hg9 hf9; obtain ⟨A8, c8, rfl, hc81, hc82, -, -⟩ := hO9.form; have hl9 : (X.ln ++ [(k1, k2)]).length = X.ln.length + 1 := (by rw [List.length_append]; rfl); rw [hl9] at hO9 hf9 hc81 ⊢; have hc7 : Chg (min l0 O) l1 w7 w8 := Chg.of_grown hg9 (fun g hq => ⟨by have := (hLlt g hq).1; omega, HLT.out g hq⟩); have hq8 := Q7.out.chg hc7 (by omega); have h90 := cellOfBlk hq8 0; have h91 := cellOfBlk hq8 1; have h92 := cellOfBlk hq8 2; have h93 := cellOfBlk hq8 3; have h94 := cellOfBlk hq8 4; have h95 := cellOfBlk hq8 5; have h96 := cellOfBlk hq8 6; have h97 := cellOfBlk hq8 7; have h98 := cellOfBlk hq8 8; have h99 := cellOfBlk hq8 9; have h9c := hq8.warm 8; have HC7 := Lib.hid hc7; have HO9 := Lib.hid hO9; have HF9 := Lib.hid hf9; have HC8 := Lib.hid (And.intro hc81 hc82); clear hc7 hq8 hO9 hg9 hf9 hc81 hc82 hl9)
 clear h9c x0 x1 fo h90 h91 h92 h93 h94 h95 h96 h97 h98 h99 o0 o1 o2 o3 o4 o5 o6 o7 o8 o9
 have hc7 := HC7.out
 have T8 := Lib.hid (T7.out.trans ((hc7.below (by omega)).mono (by omega)))
 have V8 := Lib.hid (V7.out.chg hc7 (by omega) (by omega))
 have Ka8 := Lib.hid (Ka7.out.chg hc7 (by omega) (by omega))
 have Kb8 := Lib.hid (Kb7.out.chg hc7 (by omega) (by omega))
 have P8 := Lib.hid (P7.out.chg hc7 (by omega))
 have R8 := Lib.hid (R7.out.chg hc7 (by omega))
 have F8 := Lib.hid (F7.out.chg hc7 (by unfold Off; omega))
 have G8 := Lib.hid (G7.out.chg hc7 (by omega) (by omega))
 have W8 := Lib.hid (W7.out.chg hc7 (fun k hk => by have h7 := HTT.out k hk; have h8 := (W7.out.lt k hk).1; omega))
 have Q8 := Lib.hid (Q7.out.chg hc7 (by omega))
 have Y8 := Lib.hid (Y7.out.chg hc7 (by omega))
 have sz8 : w7.heap.size ≤ w8.heap.size := hc7.size
 clear T7 V7 Ka7 Kb7 P7 R7 F7 G7 L7 W7 Q7 Y7
 obtain ⟨w9, hw9⟩ : ∃ x, w8.setCell ⟨O, 8, none⟩ (.slice A8 (X.ln.length + 1) c8) = x := ⟨_, rfl⟩
 have hL9 : OwnM w9 (min l0 O) (.slice A8 (X.ln.length + 1) c8) (X.ln ++ [(k1, k2)]) := by rw [← hw9]; exact HO9.out.setAt (fun e9 => by rcases HF9.out with h9 | h9; (rw [e9] at h9; have h8 := HLT.out O h9.symm; omega); (have := h9 O e9; omega)) _
 have hc9 : Chg O (O + 1) w8 w9 := by rw [← hw9]; exact chg_one _ _ _ _
 have hQ9 : Blk w9 O #[.string X.f.s, .slice Az X.f.ws.length cz, .slice A2z X.f.cs.length dz, .slice A9 q c9, .int .i64 X.sp, .int .i64 X.w, .int .i64 X.t, .int .i64 X.k, .slice A8 (X.ln.length + 1) c8, .slice Tz X.wt.length tcz] 37 := by rw [← hw9]; exact heapSet (i := 8) Q8.out _
 rw [hw9]
 have T9 := Lib.hid (T8.out.trans ((hc9.below (by omega)).mono (by omega)))
 have V9 := Lib.hid (V8.out.chg hc9 (by omega) (by omega))
 have Ka9 := Lib.hid (Ka8.out.chg hc9 (by omega) (by omega))
 have Kb9 := Lib.hid (Kb8.out.chg hc9 (by omega) (by omega))
 have P9 := Lib.hid (P8.out.chg hc9 (by omega))
 have R9 := Lib.hid (R8.out.chg hc9 (by omega))
 have F9 := Lib.hid (F8.out.chg hc9 (by unfold Off; omega))
 have G9 := Lib.hid (G8.out.chg hc9 (by omega) (by omega))
 have W9 := Lib.hid (W8.out.chg hc9 (fun k hk => by have h7 := HTT.out k hk; have h8 := (W8.out.lt k hk).1; omega))
 have Y9 := Lib.hid (Y8.out.chg hc9 (by omega))
 have sz9 : w8.heap.size ≤ w9.heap.size := hc9.size
 clear T8 V8 Ka8 Kb8 P8 R8 F8 G8 W8 Q8 Y8
 have Q9 := Lib.hid hQ9
 have L9 := Lib.hid hL9
 clear hQ9 hL9 hc9 hc7 hw9 HO9
 have hV9 : MchV w9 w2.heap.size w9.heap.size (.agg #[.string X.f.s, .slice Az X.f.ws.length cz, .slice A2z X.f.cs.length dz, .slice A9 q c9, .int .i64 X.sp, .int .i64 X.w, .int .i64 X.t, .int .i64 X.k, .slice A8 (X.ln.length + 1) c8, .slice Tz X.wt.length tcz]) ⟨X.f, X.ms.set i9 xs, X.sp, X.w, X.t, X.k, X.ln ++ [(k1, k2)], X.wt⟩ := MchV.mk (X := ⟨X.f, X.ms.set i9 xs, X.sp, X.w, X.t, X.k, X.ln ++ [(k1, k2)], X.wt⟩) (F9.out.font.wideR (by omega) (by omega)) (G9.out.wide (by omega) (by omega)) (MatsI.wide L9.out.reads (by omega) (Nat.le_refl _)) ((MatsI.cutM W9.out HTT.out).wide (by omega) (by omega)) HQM.out (by rw [List.length_append]; rfl) rfl HEM.out.1 HEM.out.2 HC8.out.1 HC8.out.2 HTM.out.1 HTM.out.2
 have HV9 := Lib.hid hV9
 refine (specMachine_any w2.heap.size w9.heap.size _ ⟨X.f, X.ms.set i9 xs, X.sp, X.w, X.t, X.k, X.ln ++ [(k1, k2)], X.wt⟩ w9 hV9 (Nat.le_refl _) HSX.out).mono ?_
 rintro e w10 ⟨rfl, hb10⟩
 have HV := Lib.hid (HV9.out.below (Nat.le_refl _) hb10)
 clear hV9 HV9
 have T10 := Lib.hid (T9.out.trans (hb10.mono (by omega)))
 have V10 := Lib.hid (V9.out.below (by omega) hb10)
 have P10 := Lib.hid (P9.out.below hb10 (by omega))
 have R10 := Lib.hid (R9.out.below hb10 (by omega))
 have Q10 := Lib.hid (Q9.out.below hb10 (by omega))
 have sz10 : w9.heap.size ≤ w10.heap.size := hb10.size
 clear T9 V9 P9 R9 Q9
 rw [HMB.out]
 cases hyes : keyYes X b
 ·obtain ⟨p0, p1, p2, p3, p4, p5, p6, p7, p8, p9⟩ := P10.out.ten
  obtain ⟨r0, r1, r2, r3, r4, r5, r6, r7, r8, r9⟩ := R10.out.ten
  have ff := R10.out.warm
  go_wp2
  obtain ⟨w9, hw9, hc9, hR⟩ := R10.out.put10 (.string s) (.slice A n c) (.slice A2 m d) (.slice M q e0) (.int .i64 X.sp) (.int .i64 X.w) (.int .i64 X.t) (.int .i64 X.k) (.slice L l lc) (.slice T r tc)
  (try rw [hw9])
  clear hw9 r0 r1 r2 r3 r4 r5 r6 r7 r8 r9
  obtain ⟨r0, r1, r2, r3, r4, r5, r6, r7, r8, r9⟩ := hR.ten
  (try simp only [Exit.inBlock, Exit.then])
  clear p0 p1 p2 p3 p4 p5 p6 p7 p8 p9
  refine bodyPost_ret (v := .tuple #[.agg #[.string s, .slice A n c, .slice A2 m d, .slice M q e0, .int .i64 X.sp, .int .i64 X.w, .int .i64 X.t, .int .i64 X.k, .slice L l lc, .slice T r tc], .bool false]) (by simp [results, Tryz.results57, go_sem, r0, r1, r2, r3, r4, r5, r6, r7, r8, r9]) rfl ?_
  rw [hyes]
  exact ⟨_, rfl, fun _ => rfl, fun h9 => (by cases h9), T10.out.trans ((hc9.below (by omega)).mono (by omega))⟩
 ·obtain ⟨o0, o1, o2, o3, o4, o5, o6, o7, o8, o9⟩ := Q10.out.ten
  obtain ⟨r0, r1, r2, r3, r4, r5, r6, r7, r8, r9⟩ := R10.out.ten
  have ff := R10.out.warm
  go_wp2
  obtain ⟨w9, hw9, hc9, hR⟩ := R10.out.put10 (.string X.f.s) (.slice Az X.f.ws.length cz) (.slice A2z X.f.cs.length dz) (.slice A9 q c9) (.int .i64 X.sp) (.int .i64 X.w) (.int .i64 X.t) (.int .i64 X.k) (.slice A8 (X.ln.length + 1) c8) (.slice Tz X.wt.length tcz)
  (try rw [hw9])
  clear hw9 r0 r1 r2 r3 r4 r5 r6 r7 r8 r9
  obtain ⟨r0, r1, r2, r3, r4, r5, r6, r7, r8, r9⟩ := hR.ten
  (try simp only [Exit.inBlock, Exit.then])
  clear o0 o1 o2 o3 o4 o5 o6 o7 o8 o9
  refine bodyPost_ret (v := .tuple #[.agg #[.string X.f.s, .slice Az X.f.ws.length cz, .slice A2z X.f.cs.length dz, .slice A9 q c9, .int .i64 X.sp, .int .i64 X.w, .int .i64 X.t, .int .i64 X.k, .slice A8 (X.ln.length + 1) c8, .slice Tz X.wt.length tcz], .bool true]) (by simp [results, Tryz.results57, go_sem, r0, r1, r2, r3, r4, r5, r6, r7, r8, r9]) rfl ?_
  rw [hyes, HXE.out hyes]
  exact ⟨_, rfl, fun h9 => (by cases h9), fun _ => (HV.out.chg hc9 (by omega) (by omega)).wide (by omega) (by have := hc9.size; omega), T10.out.trans ((hc9.below (by omega)).mono (by omega))⟩
theorem specL5K_any (lo hi0 : Nat) (v : Value) (X : Mch) (b : Nat) (w : World) (h : MchV w lo hi0 v X) (hhi : hi0 ≤ w.heap.size) (hm : machB X = true) (wf : WfX X) :
  Calls Tryz.prog 57 #[v, .int .i64 b] w fun e w' => ∃ v', e = .returned (.tuple #[v', .bool (keyYes X b)]) ∧ (keyYes X b = false → v' = v) ∧ (keyYes X b = true → MchV w' w.heap.size w'.heap.size v' (keyX X b)) ∧ Below w.heap.size w w' := by
 by_cases hb : b = 32
 ·exact specL5K_band lo hi0 v X b w h hhi hm wf hb
 ·rcases key_part (b := b) hm with ⟨hin, hkr⟩ | ⟨i9, h1, h2, h3, h4⟩
  ·exact specL5K_out lo hi0 v X b w h hhi hm wf hb hin hkr
  ·cases hr : keyRow X b with
   | nil => rw [hr] at h4; exact specL5K_none lo hi0 v X b w h hhi hm wf hb i9 h1 h4 hr
   | cons x xs => rw [hr] at h4; exact specL5K_take lo hi0 v X b w h hhi hm wf hb i9 h1 h2 h3 x xs h4 hr
end Go.Proofs.YtimhnkpccbcohaaGreatDoor
