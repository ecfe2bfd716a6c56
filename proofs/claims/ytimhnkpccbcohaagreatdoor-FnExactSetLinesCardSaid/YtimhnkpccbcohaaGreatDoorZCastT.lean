/-
 CastLine of the reference model by contract, where the line is cast: the copy, the loop over the line, the answer.
-/
import Derived.Test.YtimhnkpccbcohaaGreatDoorZCastS
import Derived.Test.YtimhnkpccbcohaaGreatDoorZCastR
import Derived.Test.YtimhnkpccbcohaaGreatDoorZPkH
namespace Go.Proofs.YtimhnkpccbcohaaGreatDoor
open Go.RowKit Go.Conc
set_option linter.unusedVariables false
set_option linter.unusedSimpArgs false

set_option maxRecDepth 100000 in
set_option maxHeartbeats 6400000 in
theorem specCast_rag (lo hi0 : Nat) (v : Value) (X : Mch) (rag : Bool) (w : World) (h : MchV w lo hi0 v X) (hhi : hi0 ≤ w.heap.size) (hs : SmallX X) (hm : machB X = true) (hz : ¬ X.ln.length = 0) (hr : rag = true) :
  Calls Tryz.prog 14 #[v, .bool rag] w fun e w' => ∃ v' vp, e = .returned (.tuple #[v', .string (castT X rag), vp, .bool (castOk X rag)]) ∧ MchX w' w.heap.size w'.heap.size v' (castX X rag) ∧ Own w' w.heap.size vp (castP X rag) ∧ Below w.heap.size w w' := by
 subst hr
 have HOK : Hid (castOk X true = clearOk X) := by show _ = _; unfold castOk castGo; rw [hm]; simp [hz]
 have hmf := mach_facts hm
 have HWD : Hid (∀ x ∈ X.ln, hasWid X.f x) := fun x hx => by
  rcases hmf.2.1 x hx with h1 | h1
  ·left; unfold bandM at h1; simp only [Bool.and_eq_true, beq_iff_eq] at h1; omega
  ·exact .inr h1.2
 have HLT : Hid (∀ x ∈ X.ln, hasLet X.f x) := fun x hx => by
  rcases hmf.2.2.1 x hx with h1 | h1
  ·left; unfold bandM at h1; simp only [Bool.and_eq_true, beq_iff_eq] at h1; omega
  ·exact .inr h1.2
 have HSP : Hid (0 ≤ X.sp ∧ X.sp ≤ 60) := hmf.2.2.2
 have HST : Hid (∀ x ∈ X.ln, setM X.f x = true) := fun x hx => List.all_eq_true.1 (machB_parts hm).2.2.2.2.2.1 x hx
 have HLW : Hid (X.ln.length ≤ 120 ∧ X.wt.length ≤ 240) := ⟨(machB_parts hm).2.2.2.2.1, (machB_parts hm).2.2.1⟩
 clear hmf
 obtain ⟨s, A, n, c, A2, m, d, M, q, e0, L, l, lc, T, r, tc, hv, hf, hq, hM, hqe, hem, hl, hL, hllc, hlm, hr, hT, hrt, htm⟩ := h.parts
 rw [hv] at h ⊢
 clear hv
 obtain ⟨w0, hw0⟩ : ∃ x, w = x := ⟨_, rfl⟩
 have hww : w.heap.size = w0.heap.size := by rw [hw0]
 have HS := Lib.hid hs
 have T0 : Hid (Below w0.heap.size w0 w0) := Below.refl _ _
 have V0 : Hid (MchV w0 lo hi0 (.agg #[.string s, .slice A n c, .slice A2 m d, .slice M q e0, .int .i64 X.sp, .int .i64 X.w, .int .i64 X.t, .int .i64 X.k, .slice L l lc, .slice T r tc]) X) := by rw [← hw0]; exact h
 have F0 : Hid (FontV w0 lo hi0 (.agg #[.string s, .slice A n c, .slice A2 m d]) X.f) := by rw [← hw0]; exact hf
 have L0 : Hid (MatsI w0 lo hi0 L X.ln) := by rw [← hw0]; exact hL
 have HL := Lib.hid hl
 clear h hs hf hM hT hL hq hqe hem hr hrt htm hl
 have hl0 : ¬ l = 0 := by rw [← HL.out]; exact hz
 have hl1 : l ≤ 1048576 := by have := HS.out.ln; rw [HL.out] at this; exact this
 obtain ⟨w1, hw1, hb1, hz1, hX1⟩ := mxWorld w0 #[.string s, .slice A n c, .slice A2 m d, .slice M q e0, .int .i64 X.sp, .int .i64 X.w, .int .i64 X.t, .int .i64 X.k, .slice L l lc, .slice T r tc] 37
 have T1 := Lib.hid (T0.out.trans (hb1.mono (by omega)))
 have V1 := Lib.hid (V0.out.below (by omega) hb1)
 have F1 := Lib.hid (F0.out.below (by omega) hb1)
 have L1 := Lib.hid (L0.out.below (by omega) hb1)
 have sz1 : w0.heap.size ≤ w1.heap.size := hb1.size
 clear T0 V0 F0 L0
 have P1 := Lib.hid hX1
 obtain ⟨w2, hw2, hb2, hz2, hX2⟩ := mxWorld w1 #[.string ⟨#[]⟩, .slice none 0 0, .slice none 0 0, .slice none 0 0, .int .i64 0, .int .i64 0, .int .i64 0, .int .i64 0, .slice none 0 0, .slice none 0 0] 37
 have T2 := Lib.hid (T1.out.trans (hb2.mono (by omega)))
 have V2 := Lib.hid (V1.out.below (by omega) hb2)
 have F2 := Lib.hid (F1.out.below (by omega) hb2)
 have L2 := Lib.hid (L1.out.below (by omega) hb2)
 have P2 := Lib.hid (P1.out.below hb2 (by omega))
 have sz2 : w1.heap.size ≤ w2.heap.size := hb2.size
 clear T1 V1 F1 L1 P1
 rw [hz1] at hX2
 have R2 := Lib.hid hX2
 rw [hz1] at hz2
 obtain ⟨p0, p1, p2, p3, p4, p5, p6, p7, p8, p9⟩ := P2.out.ten
 rw [hw0]
 go_enter Tryz.func14, Tryz.ntmps14
 go_wp2_with fail
 clear p0 p1 p2 p3 p4 p5 p6 p7 p8 p9
 have hdl : ((l : Int) == 0) = false := by simp; omega
 refine wp_region_plan (.take 0 (.one 1 (.take 2 (.take 3 (.take 4 (.take 5 (.take 6 (.take 7 (.take 8 (.take 9 (.take 10 (.take 11 (.take 12 (.take 13 (.take 14 (.take 15 (.take 16 (.take 17 (.take 18 (.take 19 (.take 20 (.take 21 (.take 22 (.take 23 .done)))))))))))))))))))))))) (fun w' => w'.cell? ⟨w0.heap.size, 0, none⟩ = some (.string s) ∧ w'.cell? ⟨w0.heap.size, 1, none⟩ = some (.slice A n c) ∧ w'.cell? ⟨w0.heap.size, 2, none⟩ = some (.slice A2 m d) ∧ w'.cell? ⟨w0.heap.size, 3, none⟩ = some (.slice M q e0) ∧ w'.cell? ⟨w0.heap.size, 4, none⟩ = some (.int .i64 X.sp) ∧ w'.cell? ⟨w0.heap.size, 5, none⟩ = some (.int .i64 X.w) ∧ w'.cell? ⟨w0.heap.size, 6, none⟩ = some (.int .i64 X.t) ∧ w'.cell? ⟨w0.heap.size, 7, none⟩ = some (.int .i64 X.k) ∧ w'.cell? ⟨w0.heap.size, 8, none⟩ = some (.slice L l lc) ∧ w'.cell? ⟨w0.heap.size, 9, none⟩ = some (.slice T r tc)) (by kernel_rfl) (by kernel_rfl) (by kernel_rfl) (by intro c a d v w h; cases d <;> exact h) P2.out.ten ?_
 obtain ⟨w3, hwd⟩ : ∃ x, w2.drew = x := ⟨_, rfl⟩
 have hb3 : Below w2.heap.size w2 w3 := by rw [← hwd]; exact (Below.refl _ _).drew
 have hsz3 : w3.heap.size = w2.heap.size := by rw [← hwd]; rfl
 have T3 := Lib.hid (T2.out.trans (hb3.mono (by omega)))
 have V3 := Lib.hid (V2.out.below (by omega) hb3)
 have F3 := Lib.hid (F2.out.below (by omega) hb3)
 have L3 := Lib.hid (L2.out.below (by omega) hb3)
 have P3 := Lib.hid (P2.out.below hb3 (by omega))
 have R3 := Lib.hid (R2.out.below hb3 (by omega))
 have sz3 : w2.heap.size ≤ w3.heap.size := hb3.size
 clear T2 V2 F2 L2 P2 R2
 rw [hwd]
 clear hwd
 refine plan_quiet rfl (by rfl) (v := ?_) ?_ ?_; rotate_left; (intro w1 hSw; obtain ⟨hs0, hs1, hs2, hs3, hs4, hs5, hs6, hs7, hs8, hs9⟩ := hSw; go_simp; try (with_reducible rfl)); (try simp only [Act.put, List.setIfInBounds_toArray, List.set_cons_zero, List.set_cons_succ])
 refine plan_step rfl (fun Kc hK => ?_)
 rw [if_pos (by rfl)]
 go_simp
 refine (specMachine_any lo hi0 _ X w3 V3.out (by omega) HS.out).mono ?_
 rintro e w4 ⟨rfl, hb4⟩
 have T4 := Lib.hid (T3.out.trans (hb4.mono (by omega)))
 have V4 := Lib.hid (V3.out.below (by omega) hb4)
 have F4 := Lib.hid (F3.out.below (by omega) hb4)
 have L4 := Lib.hid (L3.out.below (by omega) hb4)
 have P4 := Lib.hid (P3.out.below hb4 (by omega))
 have R4 := Lib.hid (R3.out.below hb4 (by omega))
 have sz4 : w3.heap.size ≤ w4.heap.size := hb4.size
 clear T3 V3 F3 L3 P3 R3
 rw [hm]
 refine hK.out _ _ P4.out.ten ?_
 clear hK Kc
 iterate 2 (refine plan_quiet rfl (by rfl) (v := ?_) ?_ ?_; rotate_left; (intro w1 hSw; obtain ⟨hs0, hs1, hs2, hs3, hs4, hs5, hs6, hs7, hs8, hs9⟩ := hSw; go_simp; try (with_reducible rfl)); (try simp only [Act.put, List.setIfInBounds_toArray, List.set_cons_zero, List.set_cons_succ]))
 iterate 4 (refine plan_quiet rfl (by rfl) (v := ?_) ?_ ?_; rotate_left; (intro w1 hSw; obtain ⟨hs0, hs1, hs2, hs3, hs4, hs5, hs6, hs7, hs8, hs9⟩ := hSw; go_simp; try (with_reducible rfl)); (try simp only [Act.put, List.setIfInBounds_toArray, List.set_cons_zero, List.set_cons_succ]))
 (try simp only [hdl])
 iterate 2 (refine plan_quiet rfl (by rfl) (v := ?_) ?_ ?_; rotate_left; (intro w1 hSw; obtain ⟨hs0, hs1, hs2, hs3, hs4, hs5, hs6, hs7, hs8, hs9⟩ := hSw; go_simp; try (with_reducible rfl)); (try simp only [Act.put, List.setIfInBounds_toArray, List.set_cons_zero, List.set_cons_succ]))
 iterate 3 (refine plan_quiet rfl (by rfl) (v := ?_) ?_ ?_; rotate_left; (intro w1 hSw; obtain ⟨hs0, hs1, hs2, hs3, hs4, hs5, hs6, hs7, hs8, hs9⟩ := hSw; go_simp; try (with_reducible rfl)); (try simp only [Act.put, List.setIfInBounds_toArray, List.set_cons_zero, List.set_cons_succ]))
 iterate 9 (refine plan_skip rfl (by rfl) ?_; (try simp only [Act.put, List.setIfInBounds_toArray, List.set_cons_zero, List.set_cons_succ]))
 iterate 2 (refine plan_quiet rfl (by rfl) (v := ?_) ?_ ?_; rotate_left; (intro w1 hSw; obtain ⟨hs0, hs1, hs2, hs3, hs4, hs5, hs6, hs7, hs8, hs9⟩ := hSw; go_simp; try (with_reducible rfl)); (try simp only [Act.put, List.setIfInBounds_toArray, List.set_cons_zero, List.set_cons_succ]))
 refine plan_end ?_
 obtain ⟨p0, p1, p2, p3, p4, p5, p6, p7, p8, p9⟩ := P4.out.ten
 go_wp2_with fail
 clear p0 p1 p2 p3 p4 p5 p6 p7 p8 p9
 obtain ⟨b, hbq⟩ : ∃ x, w4.heap.size = x := ⟨_, rfl⟩
 refine (l5Copy_any lo hi0 _ X w4 V4.out (by omega) HS.out).mono ?_
 rintro e u1 ⟨vC, rfl, hC, hbC⟩
 obtain ⟨O, hOz⟩ : ∃ x, u1.heap.size = x := ⟨_, rfl⟩
 have hbO := hbC.size
 rw [hbq] at hC hbC hbO
 rw [hOz] at hC hbO
 obtain ⟨A7, c7, A27, d7, M7, e7, L7, lc7, T7, tc7, rfl, hOut⟩ := hC.out hOz hbO
 have HOUT := Lib.hid hOut
 clear hC hOut
 obtain ⟨u2, hu2, hbu2, hzu2, hU⟩ := mxWorld u1 #[.string ⟨#[]⟩, .slice none 0 0, .slice none 0 0, .slice none 0 0, .int .i64 0, .int .i64 0, .int .i64 0, .int .i64 0, .slice none 0 0, .slice none 0 0] 37
 rw [hOz] at hU hzu2 hbu2
 have BC : Below b w4 u2 := hbC.trans (hbu2.mono hbO)
 have p8 := cellOfBlk (P4.out.below BC (by omega)) 8
 obtain ⟨o0, o1, o2, o3, o4, o5, o6, o7, o8, o9⟩ := hU.ten
 have fo := hU.warm
 have BC2 := Lib.hid BC
 have HU2 := Lib.hid hU
 have HBU := Lib.hid hbu2
 clear BC hU hbC hbu2
 go_wp2
 have hR := (heapSet (i := 8) (HU2.out.fill (.string X.f.s) (.slice A7 X.f.ws.length c7) (.slice A27 X.f.cs.length d7) (.slice M7 X.ms.length e7) (.int .i64 X.sp) (.int .i64 X.w) (.int .i64 X.t) (.int .i64 X.k) (.slice L7 X.ln.length lc7) (.slice T7 X.wt.length tc7)) (.slice none 0 0))
 have hc9 := (chg_ten u2 O (.string X.f.s) (.slice A7 X.f.ws.length c7) (.slice A27 X.f.cs.length d7) (.slice M7 X.ms.length e7) (.int .i64 X.sp) (.int .i64 X.w) (.int .i64 X.t) (.int .i64 X.k) (.slice L7 X.ln.length lc7) (.slice T7 X.wt.length tc7)).trans (chg_set _ O 8 (.slice none 0 0))
 obtain ⟨u3, hu3⟩ : ∃ x, ((((((((((u2.setCell ⟨O, 0, none⟩ (.string X.f.s)).setCell ⟨O, 1, none⟩ (.slice A7 X.f.ws.length c7)).setCell ⟨O, 2, none⟩ (.slice A27 X.f.cs.length d7)).setCell ⟨O, 3, none⟩ (.slice M7 X.ms.length e7)).setCell ⟨O, 4, none⟩ (.int .i64 X.sp)).setCell ⟨O, 5, none⟩ (.int .i64 X.w)).setCell ⟨O, 6, none⟩ (.int .i64 X.t)).setCell ⟨O, 7, none⟩ (.int .i64 X.k)).setCell ⟨O, 8, none⟩ (.slice L7 X.ln.length lc7)).setCell ⟨O, 9, none⟩ (.slice T7 X.wt.length tc7)).setCell ⟨O, 8, none⟩ (.slice none 0 0) = x := ⟨_, rfl⟩
 rw [hu3] at hR hc9 ⊢
 have hzu3 := hc9.size
 obtain ⟨hs7, f0, f1, g0, g1, t0, t1, hOP⟩ := HOUT.out u3 (HBU.out.trans (hc9.below (by omega))) (by omega) hR
 have B3 := Lib.hid (BC2.out.trans ((hc9.below (by omega)).mono hbO))
 have hOb : b ≤ u3.heap.size := by omega
 clear hu3 hR hc9 p8 fo o0 o1 o2 o3 o4 o5 o6 o7 o8 o9 hu2 BC2 HU2 HBU HOUT
 have O3 : Hid (OutP u3 O b ⟨X.f, X.ms, X.sp + (bndN (X.ln.take 0) : Int), X.w, X.t, X.k, [], X.wt ++ mtsN (X.ln.take 0)⟩ A7 c7 A27 d7 M7 e7 T7 tc7 hs7 f0 f1 g0 g1 t0 t1) := by show OutP _ _ _ _ _ _ _ _ _ _ _ _ _ _ _ _ _ _ _; have h9 := hOP; simpa [bndN, mtsN] using h9
 clear hOP
 go_loopw [42] (fun jv wr => ∃ (j : Nat) (Tz : Option Addr) (tz u0 u1 : Nat), j ≤ l ∧ jv = .int .i64 j ∧ Hid (OutP wr O b ⟨X.f, X.ms, X.sp + (bndN (X.ln.take j) : Int), X.w, X.t, X.k, [], X.wt ++ mtsN (X.ln.take j)⟩ A7 c7 A27 d7 M7 e7 Tz tz hs7 f0 f1 g0 g1 u0 u1) ∧ Hid (Below b w4 wr) ∧ b ≤ wr.heap.size) (fun jv _ => l - (intOf jv).toNat)
 case atStart => exact ⟨0, T7, tc7, t0, t1, Nat.zero_le _, rfl, O3, B3, hOb⟩
 case round =>
  clear O3 B3 hOb hzu3 hzu2 hOz
  obtain ⟨j, Tz, tz, t2, t3, hjl, rfl, O3, B3, hOb⟩ := hrel
  obtain ⟨u3, hwq⟩ : ∃ x, x = wr := ⟨_, rfl⟩
  subst hwq
  by_cases hj : j < l
  ·obtain ⟨ad, x, hA, hx, c0, c1⟩ := (MatsI.below L4.out (by omega) B3.out).at_ (k := j) (by rw [HL.out]; exact hj)
   have hxs := HST.out x (List.mem_of_getElem? hx.out)
   obtain ⟨k1, k2⟩ := x
   simp only at c0 c1
   subst hA
   have hji : decide ((j : Int) < (l : Int)) = true := by simp; omega
   have hbj := bndN_le X.ln j
   have hmj := mtsN_le X.ln j
   have hlw := HLW.out
   have hl120 : l ≤ 120 := by rw [← HL.out]; exact hlw.1
   have hng := setM_neg hxs
   simp only at hng
   obtain ⟨u4, hu4, hbu4, hzu4, hX4⟩ := mxWorld u3 #[.int .i64 k1, .int .i64 k2] 64
   have x0 := cellOfBlk hX4 0
   have x1 := cellOfBlk hX4 1
   have O4 := Lib.hid (O3.out.below hbu4)
   have B4 := Lib.hid (B3.out.trans (hbu4.mono hOb))
   clear O3 B3 hxs
   have hbk := O4.out.blk
   have hbz4 := hbu4.size
   clear hzu4
   cases hbm : bandM (k1, k2)
   ·rw [hbm] at hng
    obtain ⟨r9, hr9⟩ : ∃ y, (X.wt ++ mtsN (X.ln.take j)).length = y := ⟨_, rfl⟩
    have hrl : r9 ≤ 360 := by rw [← hr9, List.length_append]; omega
    have g9 : u4.cell? ⟨O, 9, none⟩ = some (.slice Tz r9 tz) := by rw [← hr9]; exact cellOfBlk hbk 9
    have f9 := hbk.warm 9
    have hwait : OwnM u4 t2 (.slice Tz r9 tz) (X.wt ++ mtsN (X.ln.take j)) := by rw [← hr9]; exact O4.out.wait
    have HR9 := Lib.hid hr9
    have ht2 := O4.out.ti.2.2
    have hwlt := hwait.lt
    have HWT := Lib.hid hwait
    clear hbk hr9 hwait
    go_wp2_with (at_builtin; refine wpl_push_mat u4 rfl (.tmp 54) (.tmp 56) rfl t2 (.slice Tz r9 tz) (X.wt ++ mtsN (X.ln.take j)) (k1, k2) rfl rfl HWT.out ht2 (by rw [HR9.out]; omega) ?_; intro v9 w9 hO9 hg9 hf9; obtain ⟨A9, c9, rfl, -⟩ := hO9.form; have hl9 : (X.wt ++ mtsN (X.ln.take j) ++ [(k1, k2)]).length = r9 + 1 := (by rw [List.length_append, HR9.out]; rfl); have hPn := OutP.waits O4.out (show World.grownBy u4 w9 (Value.slice Tz (X.wt ++ mtsN (X.ln.take j)).length tz).ownBlock by rw [HR9.out]; exact hg9) hO9 (by rw [HR9.out]; exact hf9); rw [hl9] at hPn ⊢; have h9c : w9.frozen? ⟨O, 9, none⟩ = false := (by have hc7 : Chg t2 t3 u4 w9 := Chg.of_grown hg9 (fun g hq => ⟨(hwlt g hq).1, by have h9 := O4.out.waitT g; rw [show (⟨X.f, X.ms, X.sp + (bndN (X.ln.take j) : Int), X.w, X.t, X.k, [], X.wt ++ mtsN (X.ln.take j)⟩ : Mch).wt.length = r9 from HR9.out] at h9; exact h9 hq⟩); exact Blk.warm ((hc7.block O O4.out.blk.lt (by have := O4.out.tO; omega)).trans O4.out.blk) 9); have h9d : w9.cell? ⟨O, 9, none⟩ = some (.slice Tz r9 tz) := (by have hc7 : Chg t2 t3 u4 w9 := Chg.of_grown hg9 (fun g hq => ⟨(hwlt g hq).1, by have h9 := O4.out.waitT g; rw [show (⟨X.f, X.ms, X.sp + (bndN (X.ln.take j) : Int), X.w, X.t, X.k, [], X.wt ++ mtsN (X.ln.take j)⟩ : Mch).wt.length = r9 from HR9.out] at h9; exact h9 hq⟩); rw [← HR9.out]; exact cellOfBlk ((hc7.block O O4.out.blk.lt (by have := O4.out.tO; omega)).trans O4.out.blk) 9); have HPN := Lib.hid hPn; have HG9 := Lib.hid hg9; clear hPn hg9 hf9 hO9 hl9)
    obtain ⟨t4, t5, hPn⟩ := HPN.out
    have hb9 : Below b u4 (w9.setCell ⟨O, 9, none⟩ (.slice A9 (r9 + 1) c9)) := by
     have hti := O4.out.ti
     exact (((Below.refl t2 u4).grown HG9.out ht2 (fun g hg => (hwlt g hg).1)).mono hti.1).setCell (p := ⟨O, 9, none⟩) (by show b ≤ O; exact O4.out.low) _
    have O8 : Hid (OutP (w9.setCell ⟨O, 9, none⟩ (.slice A9 (r9 + 1) c9)) O b ⟨X.f, X.ms, X.sp + (bndN (X.ln.take (j + 1)) : Int), X.w, X.t, X.k, [], X.wt ++ mtsN (X.ln.take (j + 1))⟩ A7 c7 A27 d7 M7 e7 A9 c9 hs7 f0 f1 g0 g1 t4 t5) := by show OutP _ _ _ _ _ _ _ _ _ _ _ _ _ _ _ _ _ _ _; rw [bndN_take hx.out, mtsN_take hx.out, hbm, if_neg (by simp), if_neg (by simp), ← List.append_assoc]; exact hPn
    have B8 := Lib.hid (B4.out.trans hb9)
    have hz8 := hb9.size
    exact ⟨⟨j + 1, A9, c9, t4, t5, by omega, by go_num, O8, B8, by omega⟩, by simp [intOf]; omega⟩
   ·rw [hbm] at hng
    obtain ⟨z, hz⟩ : ∃ z : Int, X.sp + (bndN (X.ln.take j) : Int) = z := ⟨_, rfl⟩
    have hsp := HSP.out
    have hz0 : 0 ≤ z := by omega
    have hz1 : z ≤ 180 := by omega
    have e1 : IntKind.i64.wrap (z + 1) = z + 1 := by rw [IntKind.wrap_i64]; omega
    have g4 : u4.cell? ⟨O, 4, none⟩ = some (.int .i64 z) := by rw [← hz]; exact cellOfBlk hbk 4
    have f4 := hbk.warm 4
    have hPn := Lib.hid (O4.out.spare (z + 1))
    have e9 : Hid (X.sp + (bndN (X.ln.take (j + 1)) : Int) = z + 1) := by show _ = _; rw [bndN_take hx.out, hbm, if_pos rfl, ← hz]; push_cast; omega
    clear hbk hz hsp
    go_wp2
    have hb9 : Below b u4 (u4.setCell ⟨O, 4, none⟩ (.int .i64 (z + 1))) := (Below.refl _ _).setCell (p := ⟨O, 4, none⟩) (by show b ≤ O; exact O4.out.low) _
    have O8 : Hid (OutP (u4.setCell ⟨O, 4, none⟩ (.int .i64 (z + 1))) O b ⟨X.f, X.ms, X.sp + (bndN (X.ln.take (j + 1)) : Int), X.w, X.t, X.k, [], X.wt ++ mtsN (X.ln.take (j + 1))⟩ A7 c7 A27 d7 M7 e7 Tz tz hs7 f0 f1 g0 g1 t2 t3) := by show OutP _ _ _ _ _ _ _ _ _ _ _ _ _ _ _ _ _ _ _; rw [e9.out, mtsN_take hx.out, hbm, if_pos rfl]; exact hPn.out
    have B8 := Lib.hid (B4.out.trans hb9)
    have hz8 := hb9.size
    exact ⟨⟨j + 1, Tz, tz, t2, t3, by omega, by go_num, O8, B8, by omega⟩, by simp [intOf]; omega⟩
  ·have hjn : l = j := by omega
   subst hjn
   have hjf : decide ((l : Int) < (l : Int)) = false := by simp
   have hlq : X.ln.take l = X.ln := List.take_of_length_le (by rw [HL.out]; exact Nat.le_refl _)
   rw [hlq] at O3
   obtain ⟨w5, hwk⟩ : ∃ x, u3 = x := ⟨_, rfl⟩
   rw [hwk] at O3 B3 hOb ⊢
   clear hwk hlq
   have T5 := Lib.hid (T4.out.trans (B3.out.mono (by omega)))
   have V5 := Lib.hid (V4.out.below (by omega) B3.out)
   have F5 := Lib.hid (F4.out.below (by omega) B3.out)
   have L5 := Lib.hid (L4.out.below (by omega) B3.out)
   have P5 := Lib.hid (P4.out.below B3.out (by omega))
   have R5 := Lib.hid (R4.out.below B3.out (by omega))
   have sz5 : w4.heap.size ≤ w5.heap.size := B3.out.size
   clear T4 V4 F4 L4 P4 R4
   obtain ⟨z9, hz9⟩ : ∃ z : Int, X.sp + (bndN X.ln : Int) = z := ⟨_, rfl⟩
   obtain ⟨rz, hr9⟩ : ∃ y, (X.wt ++ mtsN X.ln).length = y := ⟨_, rfl⟩
   have O5 : Hid (OutP w5 O b (clearX X) A7 c7 A27 d7 M7 e7 Tz tz hs7 f0 f1 g0 g1 t2 t3) := O3.out
   have Q5 : Hid (Blk w5 O #[.string X.f.s, .slice A7 X.f.ws.length c7, .slice A27 X.f.cs.length d7, .slice M7 X.ms.length e7, .int .i64 z9, .int .i64 X.w, .int .i64 X.t, .int .i64 X.k, .slice none 0 0, .slice Tz rz tz] 37) := by show Blk _ _ _ _; rw [← hz9, ← hr9]; exact O3.out.blk
   have hOk := Q5.out.lt
   have hlow := O3.out.low
   have HZ9 := Lib.hid hz9; have HR9 := Lib.hid hr9
   clear hz9 hr9 O3 B3
   obtain ⟨o0, o1, o2, o3, o4, o5, o6, o7, o8, o9⟩ := Q5.out.ten
   go_wp2_with fail
   clear o0 o1 o2 o3 o4 o5 o6 o7 o8 o9
   have hV9 : MchV w5 b w5.heap.size (.agg #[.string X.f.s, .slice A7 X.f.ws.length c7, .slice A27 X.f.cs.length d7, .slice M7 X.ms.length e7, .int .i64 z9, .int .i64 X.w, .int .i64 X.t, .int .i64 X.k, .slice none 0 0, .slice Tz rz tz]) (clearX X) := by rw [← HZ9.out, ← HR9.out]; exact O5.out.own.reads
   refine (specMachine_any b w5.heap.size _ (clearX X) w5 hV9 (Nat.le_refl _) (small_clear HS.out HLW.out.1 HLW.out.2)).mono ?_
   rintro e w6 ⟨rfl, hb6⟩
   clear hV9
   have T6 := Lib.hid (T5.out.trans (hb6.mono (by omega)))
   have V6 := Lib.hid (V5.out.below (by omega) hb6)
   have F6 := Lib.hid (F5.out.below (by omega) hb6)
   have L6 := Lib.hid (L5.out.below (by omega) hb6)
   have P6 := Lib.hid (P5.out.below hb6 (by omega))
   have R6 := Lib.hid (R5.out.below hb6 (by omega))
   have O6 := Lib.hid (O5.out.below hb6)
   have Q6 := Lib.hid (Q5.out.below hb6 (by omega))
   have sz6 : w5.heap.size ≤ w6.heap.size := hb6.size
   clear T5 V5 F5 L5 P5 R5 O5 Q5
   rw [clear_mach hm]
   cases hco : clearOk X
   ·have HOFF := Lib.hid (HOK.out.trans hco)
    obtain ⟨r0, r1, r2, r3, r4, r5, r6, r7, r8, r9⟩ := R6.out.ten
    have ff := R6.out.warm
    go_wp2
    obtain ⟨w9, hw9, hc9, hR⟩ := R6.out.put10 (.string ⟨#[]⟩) (.slice none 0 0) (.slice none 0 0) (.slice none 0 0) (.int .i64 0) (.int .i64 0) (.int .i64 0) (.int .i64 0) (.slice none 0 0) (.slice none 0 0)
    (try rw [hw9])
    clear hw9 r0 r1 r2 r3 r4 r5 r6 r7 r8 r9
    obtain ⟨r0, r1, r2, r3, r4, r5, r6, r7, r8, r9⟩ := hR.ten
    (try simp only [Exit.inBlock, Exit.then])
    refine bodyPost_ret (v := .tuple #[.agg #[.string ⟨#[]⟩, .slice none 0 0, .slice none 0 0, .slice none 0 0, .int .i64 0, .int .i64 0, .int .i64 0, .int .i64 0, .slice none 0 0, .slice none 0 0], .string ⟨#[]⟩, .slice none 0 0, .bool false]) (by simp [results, Tryz.results14, go_sem, r0, r1, r2, r3, r4, r5, r6, r7, r8, r9]) rfl ?_
    obtain ⟨z1, z2, z3⟩ := cast_off HOFF.out
    rw [HOFF.out, z1, z2, z3]
    exact ⟨_, _, rfl, (zeroX_own w9 w0.heap.size).wide (Nat.le_refl _) (by have := hc9.size; omega), own_none _ _, T6.out.trans ((hc9.below (by omega)).mono (by omega))⟩
   ·have HON := Lib.hid (HOK.out.trans hco)
    go_upto_region 14 with fail
    refine wp_region_plan (.take 0 (.take 1 (.take 2 (.take 3 (.take 4 (.take 6 (.take 7 (.take 8 (.take 9 (.take 10 (.take 11 (.one 5 (.one 12 (.one 13 (.one 14 (.take 15 (.take 16 (.take 17 .done)))))))))))))))))) (fun w' => w'.cell? ⟨w0.heap.size, 0, none⟩ = some (.string s) ∧ w'.cell? ⟨w0.heap.size, 1, none⟩ = some (.slice A n c) ∧ w'.cell? ⟨w0.heap.size, 2, none⟩ = some (.slice A2 m d) ∧ w'.cell? ⟨w0.heap.size, 3, none⟩ = some (.slice M q e0) ∧ w'.cell? ⟨w0.heap.size, 4, none⟩ = some (.int .i64 X.sp) ∧ w'.cell? ⟨w0.heap.size, 5, none⟩ = some (.int .i64 X.w) ∧ w'.cell? ⟨w0.heap.size, 6, none⟩ = some (.int .i64 X.t) ∧ w'.cell? ⟨w0.heap.size, 7, none⟩ = some (.int .i64 X.k) ∧ w'.cell? ⟨w0.heap.size, 8, none⟩ = some (.slice L l lc) ∧ w'.cell? ⟨w0.heap.size, 9, none⟩ = some (.slice T r tc) ∧ w'.cell? ⟨O, 0, none⟩ = some (.string X.f.s) ∧ w'.cell? ⟨O, 1, none⟩ = some (.slice A7 X.f.ws.length c7) ∧ w'.cell? ⟨O, 2, none⟩ = some (.slice A27 X.f.cs.length d7) ∧ w'.cell? ⟨O, 3, none⟩ = some (.slice M7 X.ms.length e7) ∧ w'.cell? ⟨O, 4, none⟩ = some (.int .i64 z9) ∧ w'.cell? ⟨O, 5, none⟩ = some (.int .i64 X.w) ∧ w'.cell? ⟨O, 6, none⟩ = some (.int .i64 X.t) ∧ w'.cell? ⟨O, 7, none⟩ = some (.int .i64 X.k) ∧ w'.cell? ⟨O, 8, none⟩ = some (.slice none 0 0) ∧ w'.cell? ⟨O, 9, none⟩ = some (.slice Tz rz tz)) (by kernel_rfl) (by kernel_rfl) (by kernel_rfl) (by intro c a d v w h; cases d <;> exact h) ⟨cellOfBlk P6.out 0, cellOfBlk P6.out 1, cellOfBlk P6.out 2, cellOfBlk P6.out 3, cellOfBlk P6.out 4, cellOfBlk P6.out 5, cellOfBlk P6.out 6, cellOfBlk P6.out 7, cellOfBlk P6.out 8, cellOfBlk P6.out 9, cellOfBlk Q6.out 0, cellOfBlk Q6.out 1, cellOfBlk Q6.out 2, cellOfBlk Q6.out 3, cellOfBlk Q6.out 4, cellOfBlk Q6.out 5, cellOfBlk Q6.out 6, cellOfBlk Q6.out 7, cellOfBlk Q6.out 8, cellOfBlk Q6.out 9⟩ ?_
    obtain ⟨w7, hwd⟩ : ∃ x, w6.drew = x := ⟨_, rfl⟩
    have hb7 : Below w6.heap.size w6 w7 := by rw [← hwd]; exact (Below.refl _ _).drew
    have hsz7 : w7.heap.size = w6.heap.size := by rw [← hwd]; rfl
    have T7 := Lib.hid (T6.out.trans (hb7.mono (by omega)))
    have V7 := Lib.hid (V6.out.below (by omega) hb7)
    have F7 := Lib.hid (F6.out.below (by omega) hb7)
    have L7 := Lib.hid (L6.out.below (by omega) hb7)
    have P7 := Lib.hid (P6.out.below hb7 (by omega))
    have R7 := Lib.hid (R6.out.below hb7 (by omega))
    have O7 := Lib.hid (O6.out.below hb7)
    have Q7 := Lib.hid (Q6.out.below hb7 (by omega))
    have sz7 : w6.heap.size ≤ w7.heap.size := hb7.size
    clear T6 V6 F6 L6 P6 R6 O6 Q6
    rw [hwd]
    clear hwd
    iterate 11 (refine plan_quiet rfl (by rfl) (v := ?_) ?_ ?_; rotate_left; (intro w1 hSw; obtain ⟨hs0, hs1, hs2, hs3, hs4, hs5, hs6, hs7, hs8, hs9, hs10, hs11, hs12, hs13, hs14, hs15, hs16, hs17, hs18, hs19⟩ := hSw; go_simp; try (with_reducible rfl)); (try simp only [Act.put, List.setIfInBounds_toArray, List.set_cons_zero, List.set_cons_succ]))
    refine plan_step rfl (fun Kc hK => ?_)
    rw [if_pos (by rfl)]
    go_simp
    refine (l5Text_any lo hi0 lo hi0 _ X.f L l lc X.ln w7 F7.out (by omega) HL.out (by omega) L7.out (by omega) HLT.out HS.out.f.1).mono ?_
    rintro e w8 ⟨rfl, hb8⟩
    have T8 := Lib.hid (T7.out.trans (hb8.mono (by omega)))
    have V8 := Lib.hid (V7.out.below (by omega) hb8)
    have F8 := Lib.hid (F7.out.below (by omega) hb8)
    have L8 := Lib.hid (L7.out.below (by omega) hb8)
    have P8 := Lib.hid (P7.out.below hb8 (by omega))
    have R8 := Lib.hid (R7.out.below hb8 (by omega))
    have O8 := Lib.hid (O7.out.below hb8)
    have Q8 := Lib.hid (Q7.out.below hb8 (by omega))
    have sz8 : w7.heap.size ≤ w8.heap.size := hb8.size
    clear T7 V7 F7 L7 P7 R7 O7 Q7
    refine hK.out _ _ ⟨cellOfBlk P8.out 0, cellOfBlk P8.out 1, cellOfBlk P8.out 2, cellOfBlk P8.out 3, cellOfBlk P8.out 4, cellOfBlk P8.out 5, cellOfBlk P8.out 6, cellOfBlk P8.out 7, cellOfBlk P8.out 8, cellOfBlk P8.out 9, cellOfBlk Q8.out 0, cellOfBlk Q8.out 1, cellOfBlk Q8.out 2, cellOfBlk Q8.out 3, cellOfBlk Q8.out 4, cellOfBlk Q8.out 5, cellOfBlk Q8.out 6, cellOfBlk Q8.out 7, cellOfBlk Q8.out 8, cellOfBlk Q8.out 9⟩ ?_
    clear hK Kc
    refine plan_step rfl (fun Kc hK => ?_)
    rw [if_pos (by rfl)]
    go_simp
    refine (l5Items_any lo hi0 lo hi0 _ X.f L l lc X.ln w8 F8.out (by omega) HL.out (by omega) L8.out (by omega) HWD.out).mono ?_
    rintro e w9 ⟨u, rfl, hO, hb9⟩
    obtain ⟨A5, c5, rfl, hI5, -, hc5, hcm5⟩ := hO.form
    obtain ⟨n5, hn5⟩ : ∃ y, (itemsM X.f X.ln).length = y := ⟨_, rfl⟩
    have hn6 : n5 = l := by rw [← hn5]; unfold itemsM; rw [List.length_map]; exact HL.out
    rw [hn5] at hc5 ⊢
    have HN5 := Lib.hid hn5
    clear hn5
    have T9 := Lib.hid (T8.out.trans (hb9.mono (by omega)))
    have V9 := Lib.hid (V8.out.below (by omega) hb9)
    have F9 := Lib.hid (F8.out.below (by omega) hb9)
    have L9 := Lib.hid (L8.out.below (by omega) hb9)
    have P9 := Lib.hid (P8.out.below hb9 (by omega))
    have R9 := Lib.hid (R8.out.below hb9 (by omega))
    have O9 := Lib.hid (O8.out.below hb9)
    have Q9 := Lib.hid (Q8.out.below hb9 (by omega))
    have sz9 : w8.heap.size ≤ w9.heap.size := hb9.size
    clear T8 V8 F8 L8 P8 R8 O8 Q8
    have I9 : Hid (Ints w9 A5 (itemsM X.f X.ln)) := hI5
    clear hO hI5
    refine hK.out _ _ ⟨cellOfBlk P9.out 0, cellOfBlk P9.out 1, cellOfBlk P9.out 2, cellOfBlk P9.out 3, cellOfBlk P9.out 4, cellOfBlk P9.out 5, cellOfBlk P9.out 6, cellOfBlk P9.out 7, cellOfBlk P9.out 8, cellOfBlk P9.out 9, cellOfBlk Q9.out 0, cellOfBlk Q9.out 1, cellOfBlk Q9.out 2, cellOfBlk Q9.out 3, cellOfBlk Q9.out 4, cellOfBlk Q9.out 5, cellOfBlk Q9.out 6, cellOfBlk Q9.out 7, cellOfBlk Q9.out 8, cellOfBlk Q9.out 9⟩ ?_
    clear hK Kc
    refine plan_step rfl (fun Kc hK => ?_)
    rw [if_pos (by rfl)]
    go_simp
    refine (specPlaces_any X.w X.t X.k A5 l c5 (itemsM X.f X.ln) w9 (HN5.out.trans hn6) (by unfold maxLen; omega) I9.out).mono ?_
    rintro e w10 ⟨vp, rfl, hU, hb10⟩
    have T10 := Lib.hid (T9.out.trans (hb10.mono (by omega)))
    have V10 := Lib.hid (V9.out.below (by omega) hb10)
    have F10 := Lib.hid (F9.out.below (by omega) hb10)
    have L10 := Lib.hid (L9.out.below (by omega) hb10)
    have P10 := Lib.hid (P9.out.below hb10 (by omega))
    have R10 := Lib.hid (R9.out.below hb10 (by omega))
    have O10 := Lib.hid (O9.out.below hb10)
    have Q10 := Lib.hid (Q9.out.below hb10 (by omega))
    have sz10 : w9.heap.size ≤ w10.heap.size := hb10.size
    clear T9 V9 F9 L9 P9 R9 O9 Q9 I9
    have U10 : Hid (Own w10 w9.heap.size vp (placesL ⟨X.w, X.t, X.k⟩ (itemsM X.f X.ln))) := hU
    have hUl := hU.lt
    clear hU
    refine hK.out _ _ ⟨cellOfBlk P10.out 0, cellOfBlk P10.out 1, cellOfBlk P10.out 2, cellOfBlk P10.out 3, cellOfBlk P10.out 4, cellOfBlk P10.out 5, cellOfBlk P10.out 6, cellOfBlk P10.out 7, cellOfBlk P10.out 8, cellOfBlk P10.out 9, cellOfBlk Q10.out 0, cellOfBlk Q10.out 1, cellOfBlk Q10.out 2, cellOfBlk Q10.out 3, cellOfBlk Q10.out 4, cellOfBlk Q10.out 5, cellOfBlk Q10.out 6, cellOfBlk Q10.out 7, cellOfBlk Q10.out 8, cellOfBlk Q10.out 9⟩ ?_
    clear hK Kc
    obtain ⟨r0, r1, r2, r3, r4, r5, r6, r7, r8, r9⟩ := R10.out.ten
    have ff := R10.out.warm
    refine plan_step rfl (fun Kc hK => ?_)
    rw [if_pos (by rfl)]
    go_simp
    obtain ⟨w99, hw9, hc9, hR⟩ := R10.out.put10 (.string X.f.s) (.slice A7 X.f.ws.length c7) (.slice A27 X.f.cs.length d7) (.slice M7 X.ms.length e7) (.int .i64 z9) (.int .i64 X.w) (.int .i64 X.t) (.int .i64 X.k) (.slice none 0 0) (.slice Tz rz tz)
    (try rw [hw9])
    clear hw9 r0 r1 r2 r3 r4 r5 r6 r7 r8 r9
    obtain ⟨r0, r1, r2, r3, r4, r5, r6, r7, r8, r9⟩ := hR.ten
    refine hK.out _ _ ⟨(hc9.cell (p := ⟨w0.heap.size, 0, none⟩) (by show w0.heap.size < w10.heap.size; omega) (by show ¬ (w0.heap.size + 1 ≤ w0.heap.size ∧ w0.heap.size < w0.heap.size + 1 + 1); omega)).trans (cellOfBlk P10.out 0), (hc9.cell (p := ⟨w0.heap.size, 1, none⟩) (by show w0.heap.size < w10.heap.size; omega) (by show ¬ (w0.heap.size + 1 ≤ w0.heap.size ∧ w0.heap.size < w0.heap.size + 1 + 1); omega)).trans (cellOfBlk P10.out 1), (hc9.cell (p := ⟨w0.heap.size, 2, none⟩) (by show w0.heap.size < w10.heap.size; omega) (by show ¬ (w0.heap.size + 1 ≤ w0.heap.size ∧ w0.heap.size < w0.heap.size + 1 + 1); omega)).trans (cellOfBlk P10.out 2), (hc9.cell (p := ⟨w0.heap.size, 3, none⟩) (by show w0.heap.size < w10.heap.size; omega) (by show ¬ (w0.heap.size + 1 ≤ w0.heap.size ∧ w0.heap.size < w0.heap.size + 1 + 1); omega)).trans (cellOfBlk P10.out 3), (hc9.cell (p := ⟨w0.heap.size, 4, none⟩) (by show w0.heap.size < w10.heap.size; omega) (by show ¬ (w0.heap.size + 1 ≤ w0.heap.size ∧ w0.heap.size < w0.heap.size + 1 + 1); omega)).trans (cellOfBlk P10.out 4), (hc9.cell (p := ⟨w0.heap.size, 5, none⟩) (by show w0.heap.size < w10.heap.size; omega) (by show ¬ (w0.heap.size + 1 ≤ w0.heap.size ∧ w0.heap.size < w0.heap.size + 1 + 1); omega)).trans (cellOfBlk P10.out 5), (hc9.cell (p := ⟨w0.heap.size, 6, none⟩) (by show w0.heap.size < w10.heap.size; omega) (by show ¬ (w0.heap.size + 1 ≤ w0.heap.size ∧ w0.heap.size < w0.heap.size + 1 + 1); omega)).trans (cellOfBlk P10.out 6), (hc9.cell (p := ⟨w0.heap.size, 7, none⟩) (by show w0.heap.size < w10.heap.size; omega) (by show ¬ (w0.heap.size + 1 ≤ w0.heap.size ∧ w0.heap.size < w0.heap.size + 1 + 1); omega)).trans (cellOfBlk P10.out 7), (hc9.cell (p := ⟨w0.heap.size, 8, none⟩) (by show w0.heap.size < w10.heap.size; omega) (by show ¬ (w0.heap.size + 1 ≤ w0.heap.size ∧ w0.heap.size < w0.heap.size + 1 + 1); omega)).trans (cellOfBlk P10.out 8), (hc9.cell (p := ⟨w0.heap.size, 9, none⟩) (by show w0.heap.size < w10.heap.size; omega) (by show ¬ (w0.heap.size + 1 ≤ w0.heap.size ∧ w0.heap.size < w0.heap.size + 1 + 1); omega)).trans (cellOfBlk P10.out 9), (hc9.cell (p := ⟨O, 0, none⟩) (by show O < w10.heap.size; omega) (by show ¬ (w0.heap.size + 1 ≤ O ∧ O < w0.heap.size + 1 + 1); omega)).trans (cellOfBlk Q10.out 0), (hc9.cell (p := ⟨O, 1, none⟩) (by show O < w10.heap.size; omega) (by show ¬ (w0.heap.size + 1 ≤ O ∧ O < w0.heap.size + 1 + 1); omega)).trans (cellOfBlk Q10.out 1), (hc9.cell (p := ⟨O, 2, none⟩) (by show O < w10.heap.size; omega) (by show ¬ (w0.heap.size + 1 ≤ O ∧ O < w0.heap.size + 1 + 1); omega)).trans (cellOfBlk Q10.out 2), (hc9.cell (p := ⟨O, 3, none⟩) (by show O < w10.heap.size; omega) (by show ¬ (w0.heap.size + 1 ≤ O ∧ O < w0.heap.size + 1 + 1); omega)).trans (cellOfBlk Q10.out 3), (hc9.cell (p := ⟨O, 4, none⟩) (by show O < w10.heap.size; omega) (by show ¬ (w0.heap.size + 1 ≤ O ∧ O < w0.heap.size + 1 + 1); omega)).trans (cellOfBlk Q10.out 4), (hc9.cell (p := ⟨O, 5, none⟩) (by show O < w10.heap.size; omega) (by show ¬ (w0.heap.size + 1 ≤ O ∧ O < w0.heap.size + 1 + 1); omega)).trans (cellOfBlk Q10.out 5), (hc9.cell (p := ⟨O, 6, none⟩) (by show O < w10.heap.size; omega) (by show ¬ (w0.heap.size + 1 ≤ O ∧ O < w0.heap.size + 1 + 1); omega)).trans (cellOfBlk Q10.out 6), (hc9.cell (p := ⟨O, 7, none⟩) (by show O < w10.heap.size; omega) (by show ¬ (w0.heap.size + 1 ≤ O ∧ O < w0.heap.size + 1 + 1); omega)).trans (cellOfBlk Q10.out 7), (hc9.cell (p := ⟨O, 8, none⟩) (by show O < w10.heap.size; omega) (by show ¬ (w0.heap.size + 1 ≤ O ∧ O < w0.heap.size + 1 + 1); omega)).trans (cellOfBlk Q10.out 8), (hc9.cell (p := ⟨O, 9, none⟩) (by show O < w10.heap.size; omega) (by show ¬ (w0.heap.size + 1 ≤ O ∧ O < w0.heap.size + 1 + 1); omega)).trans (cellOfBlk Q10.out 9)⟩ ?_
    clear hK Kc
    iterate 3 (refine plan_quiet rfl (by rfl) (v := ?_) ?_ ?_; rotate_left; (intro w1 hSw; obtain ⟨hs0, hs1, hs2, hs3, hs4, hs5, hs6, hs7, hs8, hs9, hs10, hs11, hs12, hs13, hs14, hs15, hs16, hs17, hs18, hs19⟩ := hSw; go_simp; try (with_reducible rfl)); (try simp only [Act.put, List.setIfInBounds_toArray, List.set_cons_zero, List.set_cons_succ]))
    refine plan_end ?_
    go_wp2
    (try simp only [Exit.inBlock, Exit.then])
    refine bodyPost_ret (v := .tuple #[.agg #[.string X.f.s, .slice A7 X.f.ws.length c7, .slice A27 X.f.cs.length d7, .slice M7 X.ms.length e7, .int .i64 z9, .int .i64 X.w, .int .i64 X.t, .int .i64 X.k, .slice none 0 0, .slice Tz rz tz], .string (txt X.f X.ln), vp, .bool true]) (by simp [results, Tryz.results14, go_sem, r0, r1, r2, r3, r4, r5, r6, r7, r8, r9]) rfl ?_
    obtain ⟨z1, z2, z3⟩ := cast_on HON.out
    rw [HON.out, z1, z2, z3]
    have hX9 : MchX w10 b w10.heap.size (.agg #[.string X.f.s, .slice A7 X.f.ws.length c7, .slice A27 X.f.cs.length d7, .slice M7 X.ms.length e7, .int .i64 z9, .int .i64 X.w, .int .i64 X.t, .int .i64 X.k, .slice none 0 0, .slice Tz rz tz]) (clearX X) := by rw [← HZ9.out, ← HR9.out]; exact O10.out.own
    exact ⟨_, _, rfl, (hX9.chg hc9 (by unfold Off; omega)).wide (by omega) (by have := hc9.size; omega), own_baseB (hc9.own U10.out (fun x hx => by have := (hUl x hx).1; omega)) (by omega), T10.out.trans ((hc9.below (by omega)).mono (by omega))⟩
set_option maxRecDepth 100000 in
set_option maxHeartbeats 6400000 in
theorem specCast_full (lo hi0 : Nat) (v : Value) (X : Mch) (rag : Bool) (w : World) (h : MchV w lo hi0 v X) (hhi : hi0 ≤ w.heap.size) (hs : SmallX X) (hm : machB X = true) (hz : ¬ X.ln.length = 0) (hr : rag = false) (hfl : fullB ⟨X.w, X.t, X.k⟩ (itemsM X.f X.ln) = true) :
  Calls Tryz.prog 14 #[v, .bool rag] w fun e w' => ∃ v' vp, e = .returned (.tuple #[v', .string (castT X rag), vp, .bool (castOk X rag)]) ∧ MchX w' w.heap.size w'.heap.size v' (castX X rag) ∧ Own w' w.heap.size vp (castP X rag) ∧ Below w.heap.size w w' := by
 subst hr
 have HOK : Hid (castOk X false = clearOk X) := by show _ = _; unfold castOk castGo; rw [hm, hfl]; simp [hz]
 have hmf := mach_facts hm
 have HWD : Hid (∀ x ∈ X.ln, hasWid X.f x) := fun x hx => by
  rcases hmf.2.1 x hx with h1 | h1
  ·left; unfold bandM at h1; simp only [Bool.and_eq_true, beq_iff_eq] at h1; omega
  ·exact .inr h1.2
 have HLT : Hid (∀ x ∈ X.ln, hasLet X.f x) := fun x hx => by
  rcases hmf.2.2.1 x hx with h1 | h1
  ·left; unfold bandM at h1; simp only [Bool.and_eq_true, beq_iff_eq] at h1; omega
  ·exact .inr h1.2
 have HSP : Hid (0 ≤ X.sp ∧ X.sp ≤ 60) := hmf.2.2.2
 have HST : Hid (∀ x ∈ X.ln, setM X.f x = true) := fun x hx => List.all_eq_true.1 (machB_parts hm).2.2.2.2.2.1 x hx
 have HLW : Hid (X.ln.length ≤ 120 ∧ X.wt.length ≤ 240) := ⟨(machB_parts hm).2.2.2.2.1, (machB_parts hm).2.2.1⟩
 clear hmf
 obtain ⟨s, A, n, c, A2, m, d, M, q, e0, L, l, lc, T, r, tc, hv, hf, hq, hM, hqe, hem, hl, hL, hllc, hlm, hr, hT, hrt, htm⟩ := h.parts
 rw [hv] at h ⊢
 clear hv
 obtain ⟨w0, hw0⟩ : ∃ x, w = x := ⟨_, rfl⟩
 have hww : w.heap.size = w0.heap.size := by rw [hw0]
 have HS := Lib.hid hs
 have T0 : Hid (Below w0.heap.size w0 w0) := Below.refl _ _
 have V0 : Hid (MchV w0 lo hi0 (.agg #[.string s, .slice A n c, .slice A2 m d, .slice M q e0, .int .i64 X.sp, .int .i64 X.w, .int .i64 X.t, .int .i64 X.k, .slice L l lc, .slice T r tc]) X) := by rw [← hw0]; exact h
 have F0 : Hid (FontV w0 lo hi0 (.agg #[.string s, .slice A n c, .slice A2 m d]) X.f) := by rw [← hw0]; exact hf
 have L0 : Hid (MatsI w0 lo hi0 L X.ln) := by rw [← hw0]; exact hL
 have HL := Lib.hid hl
 clear h hs hf hM hT hL hq hqe hem hr hrt htm hl
 have hl0 : ¬ l = 0 := by rw [← HL.out]; exact hz
 have hl1 : l ≤ 1048576 := by have := HS.out.ln; rw [HL.out] at this; exact this
 obtain ⟨w1, hw1, hb1, hz1, hX1⟩ := mxWorld w0 #[.string s, .slice A n c, .slice A2 m d, .slice M q e0, .int .i64 X.sp, .int .i64 X.w, .int .i64 X.t, .int .i64 X.k, .slice L l lc, .slice T r tc] 37
 have T1 := Lib.hid (T0.out.trans (hb1.mono (by omega)))
 have V1 := Lib.hid (V0.out.below (by omega) hb1)
 have F1 := Lib.hid (F0.out.below (by omega) hb1)
 have L1 := Lib.hid (L0.out.below (by omega) hb1)
 have sz1 : w0.heap.size ≤ w1.heap.size := hb1.size
 clear T0 V0 F0 L0
 have P1 := Lib.hid hX1
 obtain ⟨w2, hw2, hb2, hz2, hX2⟩ := mxWorld w1 #[.string ⟨#[]⟩, .slice none 0 0, .slice none 0 0, .slice none 0 0, .int .i64 0, .int .i64 0, .int .i64 0, .int .i64 0, .slice none 0 0, .slice none 0 0] 37
 have T2 := Lib.hid (T1.out.trans (hb2.mono (by omega)))
 have V2 := Lib.hid (V1.out.below (by omega) hb2)
 have F2 := Lib.hid (F1.out.below (by omega) hb2)
 have L2 := Lib.hid (L1.out.below (by omega) hb2)
 have P2 := Lib.hid (P1.out.below hb2 (by omega))
 have sz2 : w1.heap.size ≤ w2.heap.size := hb2.size
 clear T1 V1 F1 L1 P1
 rw [hz1] at hX2
 have R2 := Lib.hid hX2
 rw [hz1] at hz2
 obtain ⟨p0, p1, p2, p3, p4, p5, p6, p7, p8, p9⟩ := P2.out.ten
 rw [hw0]
 go_enter Tryz.func14, Tryz.ntmps14
 go_wp2_with fail
 clear p0 p1 p2 p3 p4 p5 p6 p7 p8 p9
 have hdl : ((l : Int) == 0) = false := by simp; omega
 refine wp_region_plan (.take 0 (.one 1 (.take 2 (.take 3 (.take 4 (.take 5 (.take 6 (.take 7 (.take 8 (.take 9 (.take 10 (.take 11 (.take 12 (.take 13 (.take 14 (.take 15 (.take 16 (.take 17 (.take 18 (.one 19 (.one 20 (.take 21 (.take 22 (.take 23 .done)))))))))))))))))))))))) (fun w' => w'.cell? ⟨w0.heap.size, 0, none⟩ = some (.string s) ∧ w'.cell? ⟨w0.heap.size, 1, none⟩ = some (.slice A n c) ∧ w'.cell? ⟨w0.heap.size, 2, none⟩ = some (.slice A2 m d) ∧ w'.cell? ⟨w0.heap.size, 3, none⟩ = some (.slice M q e0) ∧ w'.cell? ⟨w0.heap.size, 4, none⟩ = some (.int .i64 X.sp) ∧ w'.cell? ⟨w0.heap.size, 5, none⟩ = some (.int .i64 X.w) ∧ w'.cell? ⟨w0.heap.size, 6, none⟩ = some (.int .i64 X.t) ∧ w'.cell? ⟨w0.heap.size, 7, none⟩ = some (.int .i64 X.k) ∧ w'.cell? ⟨w0.heap.size, 8, none⟩ = some (.slice L l lc) ∧ w'.cell? ⟨w0.heap.size, 9, none⟩ = some (.slice T r tc)) (by kernel_rfl) (by kernel_rfl) (by kernel_rfl) (by intro c a d v w h; cases d <;> exact h) P2.out.ten ?_
 obtain ⟨w3, hwd⟩ : ∃ x, w2.drew = x := ⟨_, rfl⟩
 have hb3 : Below w2.heap.size w2 w3 := by rw [← hwd]; exact (Below.refl _ _).drew
 have hsz3 : w3.heap.size = w2.heap.size := by rw [← hwd]; rfl
 have T3 := Lib.hid (T2.out.trans (hb3.mono (by omega)))
 have V3 := Lib.hid (V2.out.below (by omega) hb3)
 have F3 := Lib.hid (F2.out.below (by omega) hb3)
 have L3 := Lib.hid (L2.out.below (by omega) hb3)
 have P3 := Lib.hid (P2.out.below hb3 (by omega))
 have R3 := Lib.hid (R2.out.below hb3 (by omega))
 have sz3 : w2.heap.size ≤ w3.heap.size := hb3.size
 clear T2 V2 F2 L2 P2 R2
 rw [hwd]
 clear hwd
 refine plan_quiet rfl (by rfl) (v := ?_) ?_ ?_; rotate_left; (intro w1 hSw; obtain ⟨hs0, hs1, hs2, hs3, hs4, hs5, hs6, hs7, hs8, hs9⟩ := hSw; go_simp; try (with_reducible rfl)); (try simp only [Act.put, List.setIfInBounds_toArray, List.set_cons_zero, List.set_cons_succ])
 refine plan_step rfl (fun Kc hK => ?_)
 rw [if_pos (by rfl)]
 go_simp
 refine (specMachine_any lo hi0 _ X w3 V3.out (by omega) HS.out).mono ?_
 rintro e w4 ⟨rfl, hb4⟩
 have T4 := Lib.hid (T3.out.trans (hb4.mono (by omega)))
 have V4 := Lib.hid (V3.out.below (by omega) hb4)
 have F4 := Lib.hid (F3.out.below (by omega) hb4)
 have L4 := Lib.hid (L3.out.below (by omega) hb4)
 have P4 := Lib.hid (P3.out.below hb4 (by omega))
 have R4 := Lib.hid (R3.out.below hb4 (by omega))
 have sz4 : w3.heap.size ≤ w4.heap.size := hb4.size
 clear T3 V3 F3 L3 P3 R3
 rw [hm]
 refine hK.out _ _ P4.out.ten ?_
 clear hK Kc
 iterate 2 (refine plan_quiet rfl (by rfl) (v := ?_) ?_ ?_; rotate_left; (intro w1 hSw; obtain ⟨hs0, hs1, hs2, hs3, hs4, hs5, hs6, hs7, hs8, hs9⟩ := hSw; go_simp; try (with_reducible rfl)); (try simp only [Act.put, List.setIfInBounds_toArray, List.set_cons_zero, List.set_cons_succ]))
 iterate 4 (refine plan_quiet rfl (by rfl) (v := ?_) ?_ ?_; rotate_left; (intro w1 hSw; obtain ⟨hs0, hs1, hs2, hs3, hs4, hs5, hs6, hs7, hs8, hs9⟩ := hSw; go_simp; try (with_reducible rfl)); (try simp only [Act.put, List.setIfInBounds_toArray, List.set_cons_zero, List.set_cons_succ]))
 (try simp only [hdl])
 iterate 2 (refine plan_quiet rfl (by rfl) (v := ?_) ?_ ?_; rotate_left; (intro w1 hSw; obtain ⟨hs0, hs1, hs2, hs3, hs4, hs5, hs6, hs7, hs8, hs9⟩ := hSw; go_simp; try (with_reducible rfl)); (try simp only [Act.put, List.setIfInBounds_toArray, List.set_cons_zero, List.set_cons_succ]))
 iterate 9 (refine plan_quiet rfl (by rfl) (v := ?_) ?_ ?_; rotate_left; (intro w1 hSw; obtain ⟨hs0, hs1, hs2, hs3, hs4, hs5, hs6, hs7, hs8, hs9⟩ := hSw; go_simp; try (with_reducible rfl)); (try simp only [Act.put, List.setIfInBounds_toArray, List.set_cons_zero, List.set_cons_succ]))
 refine plan_step rfl (fun Kc hK => ?_)
 rw [if_pos (by rfl)]
 go_simp
 refine (l5Items_any lo hi0 lo hi0 _ X.f L l lc X.ln w4 F4.out (by omega) HL.out (by omega) L4.out (by omega) HWD.out).mono ?_
 rintro e w5 ⟨u, rfl, hO, hb5⟩
 obtain ⟨A5, c5, rfl, hI5, -, hc5, hcm5⟩ := hO.form
 obtain ⟨n5, hn5⟩ : ∃ y, (itemsM X.f X.ln).length = y := ⟨_, rfl⟩
 have hn6 : n5 = l := by rw [← hn5]; unfold itemsM; rw [List.length_map]; exact HL.out
 rw [hn5] at hc5 ⊢
 have HN5 := Lib.hid hn5
 clear hn5
 have T5 := Lib.hid (T4.out.trans (hb5.mono (by omega)))
 have V5 := Lib.hid (V4.out.below (by omega) hb5)
 have F5 := Lib.hid (F4.out.below (by omega) hb5)
 have L5 := Lib.hid (L4.out.below (by omega) hb5)
 have P5 := Lib.hid (P4.out.below hb5 (by omega))
 have R5 := Lib.hid (R4.out.below hb5 (by omega))
 have sz5 : w4.heap.size ≤ w5.heap.size := hb5.size
 clear T4 V4 F4 L4 P4 R4
 have I5 : Hid (Ints w5 A5 (itemsM X.f X.ln)) := hI5
 clear hO hI5
 refine hK.out _ _ P5.out.ten ?_
 clear hK Kc
 refine plan_step rfl (fun Kc hK => ?_)
 rw [if_pos (by rfl)]
 go_simp
 refine (specIsFull_any X.w X.t X.k A5 l c5 (itemsM X.f X.ln) w5 (HN5.out.trans hn6) (by unfold maxLen; omega) I5.out).mono ?_
 rintro e w6 ⟨rfl, hb6⟩
 have T6 := Lib.hid (T5.out.trans (hb6.mono (by omega)))
 have V6 := Lib.hid (V5.out.below (by omega) hb6)
 have F6 := Lib.hid (F5.out.below (by omega) hb6)
 have L6 := Lib.hid (L5.out.below (by omega) hb6)
 have P6 := Lib.hid (P5.out.below hb6 (by omega))
 have R6 := Lib.hid (R5.out.below hb6 (by omega))
 have I6 := Lib.hid (I5.out.below hb6)
 have sz6 : w5.heap.size ≤ w6.heap.size := hb6.size
 clear T5 V5 F5 L5 P5 R5 I5
 rw [hfl]
 refine hK.out _ _ P6.out.ten ?_
 clear hK Kc
 iterate 3 (refine plan_quiet rfl (by rfl) (v := ?_) ?_ ?_; rotate_left; (intro w1 hSw; obtain ⟨hs0, hs1, hs2, hs3, hs4, hs5, hs6, hs7, hs8, hs9⟩ := hSw; go_simp; try (with_reducible rfl)); (try simp only [Act.put, List.setIfInBounds_toArray, List.set_cons_zero, List.set_cons_succ]))
 refine plan_end ?_
 clear I6
 obtain ⟨p0, p1, p2, p3, p4, p5, p6, p7, p8, p9⟩ := P6.out.ten
 go_wp2_with fail
 clear p0 p1 p2 p3 p4 p5 p6 p7 p8 p9
 obtain ⟨b, hbq⟩ : ∃ x, w6.heap.size = x := ⟨_, rfl⟩
 refine (l5Copy_any lo hi0 _ X w6 V6.out (by omega) HS.out).mono ?_
 rintro e u1 ⟨vC, rfl, hC, hbC⟩
 obtain ⟨O, hOz⟩ : ∃ x, u1.heap.size = x := ⟨_, rfl⟩
 have hbO := hbC.size
 rw [hbq] at hC hbC hbO
 rw [hOz] at hC hbO
 obtain ⟨A7, c7, A27, d7, M7, e7, L7, lc7, T7, tc7, rfl, hOut⟩ := hC.out hOz hbO
 have HOUT := Lib.hid hOut
 clear hC hOut
 obtain ⟨u2, hu2, hbu2, hzu2, hU⟩ := mxWorld u1 #[.string ⟨#[]⟩, .slice none 0 0, .slice none 0 0, .slice none 0 0, .int .i64 0, .int .i64 0, .int .i64 0, .int .i64 0, .slice none 0 0, .slice none 0 0] 37
 rw [hOz] at hU hzu2 hbu2
 have BC : Below b w6 u2 := hbC.trans (hbu2.mono hbO)
 have p8 := cellOfBlk (P6.out.below BC (by omega)) 8
 obtain ⟨o0, o1, o2, o3, o4, o5, o6, o7, o8, o9⟩ := hU.ten
 have fo := hU.warm
 have BC2 := Lib.hid BC
 have HU2 := Lib.hid hU
 have HBU := Lib.hid hbu2
 clear BC hU hbC hbu2
 go_wp2
 have hR := (heapSet (i := 8) (HU2.out.fill (.string X.f.s) (.slice A7 X.f.ws.length c7) (.slice A27 X.f.cs.length d7) (.slice M7 X.ms.length e7) (.int .i64 X.sp) (.int .i64 X.w) (.int .i64 X.t) (.int .i64 X.k) (.slice L7 X.ln.length lc7) (.slice T7 X.wt.length tc7)) (.slice none 0 0))
 have hc9 := (chg_ten u2 O (.string X.f.s) (.slice A7 X.f.ws.length c7) (.slice A27 X.f.cs.length d7) (.slice M7 X.ms.length e7) (.int .i64 X.sp) (.int .i64 X.w) (.int .i64 X.t) (.int .i64 X.k) (.slice L7 X.ln.length lc7) (.slice T7 X.wt.length tc7)).trans (chg_set _ O 8 (.slice none 0 0))
 obtain ⟨u3, hu3⟩ : ∃ x, ((((((((((u2.setCell ⟨O, 0, none⟩ (.string X.f.s)).setCell ⟨O, 1, none⟩ (.slice A7 X.f.ws.length c7)).setCell ⟨O, 2, none⟩ (.slice A27 X.f.cs.length d7)).setCell ⟨O, 3, none⟩ (.slice M7 X.ms.length e7)).setCell ⟨O, 4, none⟩ (.int .i64 X.sp)).setCell ⟨O, 5, none⟩ (.int .i64 X.w)).setCell ⟨O, 6, none⟩ (.int .i64 X.t)).setCell ⟨O, 7, none⟩ (.int .i64 X.k)).setCell ⟨O, 8, none⟩ (.slice L7 X.ln.length lc7)).setCell ⟨O, 9, none⟩ (.slice T7 X.wt.length tc7)).setCell ⟨O, 8, none⟩ (.slice none 0 0) = x := ⟨_, rfl⟩
 rw [hu3] at hR hc9 ⊢
 have hzu3 := hc9.size
 obtain ⟨hs7, f0, f1, g0, g1, t0, t1, hOP⟩ := HOUT.out u3 (HBU.out.trans (hc9.below (by omega))) (by omega) hR
 have B3 := Lib.hid (BC2.out.trans ((hc9.below (by omega)).mono hbO))
 have hOb : b ≤ u3.heap.size := by omega
 clear hu3 hR hc9 p8 fo o0 o1 o2 o3 o4 o5 o6 o7 o8 o9 hu2 BC2 HU2 HBU HOUT
 have O3 : Hid (OutP u3 O b ⟨X.f, X.ms, X.sp + (bndN (X.ln.take 0) : Int), X.w, X.t, X.k, [], X.wt ++ mtsN (X.ln.take 0)⟩ A7 c7 A27 d7 M7 e7 T7 tc7 hs7 f0 f1 g0 g1 t0 t1) := by show OutP _ _ _ _ _ _ _ _ _ _ _ _ _ _ _ _ _ _ _; have h9 := hOP; simpa [bndN, mtsN] using h9
 clear hOP
 go_loopw [42] (fun jv wr => ∃ (j : Nat) (Tz : Option Addr) (tz u0 u1 : Nat), j ≤ l ∧ jv = .int .i64 j ∧ Hid (OutP wr O b ⟨X.f, X.ms, X.sp + (bndN (X.ln.take j) : Int), X.w, X.t, X.k, [], X.wt ++ mtsN (X.ln.take j)⟩ A7 c7 A27 d7 M7 e7 Tz tz hs7 f0 f1 g0 g1 u0 u1) ∧ Hid (Below b w6 wr) ∧ b ≤ wr.heap.size) (fun jv _ => l - (intOf jv).toNat)
 case atStart => exact ⟨0, T7, tc7, t0, t1, Nat.zero_le _, rfl, O3, B3, hOb⟩
 case round =>
  clear O3 B3 hOb hzu3 hzu2 hOz
  obtain ⟨j, Tz, tz, t2, t3, hjl, rfl, O3, B3, hOb⟩ := hrel
  obtain ⟨u3, hwq⟩ : ∃ x, x = wr := ⟨_, rfl⟩
  subst hwq
  by_cases hj : j < l
  ·obtain ⟨ad, x, hA, hx, c0, c1⟩ := (MatsI.below L6.out (by omega) B3.out).at_ (k := j) (by rw [HL.out]; exact hj)
   have hxs := HST.out x (List.mem_of_getElem? hx.out)
   obtain ⟨k1, k2⟩ := x
   simp only at c0 c1
   subst hA
   have hji : decide ((j : Int) < (l : Int)) = true := by simp; omega
   have hbj := bndN_le X.ln j
   have hmj := mtsN_le X.ln j
   have hlw := HLW.out
   have hl120 : l ≤ 120 := by rw [← HL.out]; exact hlw.1
   have hng := setM_neg hxs
   simp only at hng
   obtain ⟨u4, hu4, hbu4, hzu4, hX4⟩ := mxWorld u3 #[.int .i64 k1, .int .i64 k2] 64
   have x0 := cellOfBlk hX4 0
   have x1 := cellOfBlk hX4 1
   have O4 := Lib.hid (O3.out.below hbu4)
   have B4 := Lib.hid (B3.out.trans (hbu4.mono hOb))
   clear O3 B3 hxs
   have hbk := O4.out.blk
   have hbz4 := hbu4.size
   clear hzu4
   cases hbm : bandM (k1, k2)
   ·rw [hbm] at hng
    obtain ⟨r9, hr9⟩ : ∃ y, (X.wt ++ mtsN (X.ln.take j)).length = y := ⟨_, rfl⟩
    have hrl : r9 ≤ 360 := by rw [← hr9, List.length_append]; omega
    have g9 : u4.cell? ⟨O, 9, none⟩ = some (.slice Tz r9 tz) := by rw [← hr9]; exact cellOfBlk hbk 9
    have f9 := hbk.warm 9
    have hwait : OwnM u4 t2 (.slice Tz r9 tz) (X.wt ++ mtsN (X.ln.take j)) := by rw [← hr9]; exact O4.out.wait
    have HR9 := Lib.hid hr9
    have ht2 := O4.out.ti.2.2
    have hwlt := hwait.lt
    have HWT := Lib.hid hwait
    clear hbk hr9 hwait
    go_wp2_with (at_builtin; refine wpl_push_mat u4 rfl (.tmp 54) (.tmp 56) rfl t2 (.slice Tz r9 tz) (X.wt ++ mtsN (X.ln.take j)) (k1, k2) rfl rfl HWT.out ht2 (by rw [HR9.out]; omega) ?_; intro v9 w9 hO9 hg9 hf9; obtain ⟨A9, c9, rfl, -⟩ := hO9.form; have hl9 : (X.wt ++ mtsN (X.ln.take j) ++ [(k1, k2)]).length = r9 + 1 := (by rw [List.length_append, HR9.out]; rfl); have hPn := OutP.waits O4.out (show World.grownBy u4 w9 (Value.slice Tz (X.wt ++ mtsN (X.ln.take j)).length tz).ownBlock by rw [HR9.out]; exact hg9) hO9 (by rw [HR9.out]; exact hf9); rw [hl9] at hPn ⊢; have h9c : w9.frozen? ⟨O, 9, none⟩ = false := (by have hc7 : Chg t2 t3 u4 w9 := Chg.of_grown hg9 (fun g hq => ⟨(hwlt g hq).1, by have h9 := O4.out.waitT g; rw [show (⟨X.f, X.ms, X.sp + (bndN (X.ln.take j) : Int), X.w, X.t, X.k, [], X.wt ++ mtsN (X.ln.take j)⟩ : Mch).wt.length = r9 from HR9.out] at h9; exact h9 hq⟩); exact Blk.warm ((hc7.block O O4.out.blk.lt (by have := O4.out.tO; omega)).trans O4.out.blk) 9); have h9d : w9.cell? ⟨O, 9, none⟩ = some (.slice Tz r9 tz) := (by have hc7 : Chg t2 t3 u4 w9 := Chg.of_grown hg9 (fun g hq => ⟨(hwlt g hq).1, by have h9 := O4.out.waitT g; rw [show (⟨X.f, X.ms, X.sp + (bndN (X.ln.take j) : Int), X.w, X.t, X.k, [], X.wt ++ mtsN (X.ln.take j)⟩ : Mch).wt.length = r9 from HR9.out] at h9; exact h9 hq⟩); rw [← HR9.out]; exact cellOfBlk ((hc7.block O O4.out.blk.lt (by have := O4.out.tO; omega)).trans O4.out.blk) 9); have HPN := Lib.hid hPn; have HG9 := Lib.hid hg9; clear hPn hg9 hf9 hO9 hl9)
    obtain ⟨t4, t5, hPn⟩ := HPN.out
    have hb9 : Below b u4 (w9.setCell ⟨O, 9, none⟩ (.slice A9 (r9 + 1) c9)) := by
     have hti := O4.out.ti
     exact (((Below.refl t2 u4).grown HG9.out ht2 (fun g hg => (hwlt g hg).1)).mono hti.1).setCell (p := ⟨O, 9, none⟩) (by show b ≤ O; exact O4.out.low) _
    have O8 : Hid (OutP (w9.setCell ⟨O, 9, none⟩ (.slice A9 (r9 + 1) c9)) O b ⟨X.f, X.ms, X.sp + (bndN (X.ln.take (j + 1)) : Int), X.w, X.t, X.k, [], X.wt ++ mtsN (X.ln.take (j + 1))⟩ A7 c7 A27 d7 M7 e7 A9 c9 hs7 f0 f1 g0 g1 t4 t5) := by show OutP _ _ _ _ _ _ _ _ _ _ _ _ _ _ _ _ _ _ _; rw [bndN_take hx.out, mtsN_take hx.out, hbm, if_neg (by simp), if_neg (by simp), ← List.append_assoc]; exact hPn
    have B8 := Lib.hid (B4.out.trans hb9)
    have hz8 := hb9.size
    exact ⟨⟨j + 1, A9, c9, t4, t5, by omega, by go_num, O8, B8, by omega⟩, by simp [intOf]; omega⟩
   ·rw [hbm] at hng
    obtain ⟨z, hz⟩ : ∃ z : Int, X.sp + (bndN (X.ln.take j) : Int) = z := ⟨_, rfl⟩
    have hsp := HSP.out
    have hz0 : 0 ≤ z := by omega
    have hz1 : z ≤ 180 := by omega
    have e1 : IntKind.i64.wrap (z + 1) = z + 1 := by rw [IntKind.wrap_i64]; omega
    have g4 : u4.cell? ⟨O, 4, none⟩ = some (.int .i64 z) := by rw [← hz]; exact cellOfBlk hbk 4
    have f4 := hbk.warm 4
    have hPn := Lib.hid (O4.out.spare (z + 1))
    have e9 : Hid (X.sp + (bndN (X.ln.take (j + 1)) : Int) = z + 1) := by show _ = _; rw [bndN_take hx.out, hbm, if_pos rfl, ← hz]; push_cast; omega
    clear hbk hz hsp
    go_wp2
    have hb9 : Below b u4 (u4.setCell ⟨O, 4, none⟩ (.int .i64 (z + 1))) := (Below.refl _ _).setCell (p := ⟨O, 4, none⟩) (by show b ≤ O; exact O4.out.low) _
    have O8 : Hid (OutP (u4.setCell ⟨O, 4, none⟩ (.int .i64 (z + 1))) O b ⟨X.f, X.ms, X.sp + (bndN (X.ln.take (j + 1)) : Int), X.w, X.t, X.k, [], X.wt ++ mtsN (X.ln.take (j + 1))⟩ A7 c7 A27 d7 M7 e7 Tz tz hs7 f0 f1 g0 g1 t2 t3) := by show OutP _ _ _ _ _ _ _ _ _ _ _ _ _ _ _ _ _ _ _; rw [e9.out, mtsN_take hx.out, hbm, if_pos rfl]; exact hPn.out
    have B8 := Lib.hid (B4.out.trans hb9)
    have hz8 := hb9.size
    exact ⟨⟨j + 1, Tz, tz, t2, t3, by omega, by go_num, O8, B8, by omega⟩, by simp [intOf]; omega⟩
  ·have hjn : l = j := by omega
   subst hjn
   have hjf : decide ((l : Int) < (l : Int)) = false := by simp
   have hlq : X.ln.take l = X.ln := List.take_of_length_le (by rw [HL.out]; exact Nat.le_refl _)
   rw [hlq] at O3
   obtain ⟨w7, hwk⟩ : ∃ x, u3 = x := ⟨_, rfl⟩
   rw [hwk] at O3 B3 hOb ⊢
   clear hwk hlq
   have T7 := Lib.hid (T6.out.trans (B3.out.mono (by omega)))
   have V7 := Lib.hid (V6.out.below (by omega) B3.out)
   have F7 := Lib.hid (F6.out.below (by omega) B3.out)
   have L7 := Lib.hid (L6.out.below (by omega) B3.out)
   have P7 := Lib.hid (P6.out.below B3.out (by omega))
   have R7 := Lib.hid (R6.out.below B3.out (by omega))
   have sz7 : w6.heap.size ≤ w7.heap.size := B3.out.size
   clear T6 V6 F6 L6 P6 R6
   obtain ⟨z9, hz9⟩ : ∃ z : Int, X.sp + (bndN X.ln : Int) = z := ⟨_, rfl⟩
   obtain ⟨rz, hr9⟩ : ∃ y, (X.wt ++ mtsN X.ln).length = y := ⟨_, rfl⟩
   have O7 : Hid (OutP w7 O b (clearX X) A7 c7 A27 d7 M7 e7 Tz tz hs7 f0 f1 g0 g1 t2 t3) := O3.out
   have Q7 : Hid (Blk w7 O #[.string X.f.s, .slice A7 X.f.ws.length c7, .slice A27 X.f.cs.length d7, .slice M7 X.ms.length e7, .int .i64 z9, .int .i64 X.w, .int .i64 X.t, .int .i64 X.k, .slice none 0 0, .slice Tz rz tz] 37) := by show Blk _ _ _ _; rw [← hz9, ← hr9]; exact O3.out.blk
   have hOk := Q7.out.lt
   have hlow := O3.out.low
   have HZ9 := Lib.hid hz9; have HR9 := Lib.hid hr9
   clear hz9 hr9 O3 B3
   obtain ⟨o0, o1, o2, o3, o4, o5, o6, o7, o8, o9⟩ := Q7.out.ten
   go_wp2_with fail
   clear o0 o1 o2 o3 o4 o5 o6 o7 o8 o9
   have hV9 : MchV w7 b w7.heap.size (.agg #[.string X.f.s, .slice A7 X.f.ws.length c7, .slice A27 X.f.cs.length d7, .slice M7 X.ms.length e7, .int .i64 z9, .int .i64 X.w, .int .i64 X.t, .int .i64 X.k, .slice none 0 0, .slice Tz rz tz]) (clearX X) := by rw [← HZ9.out, ← HR9.out]; exact O7.out.own.reads
   refine (specMachine_any b w7.heap.size _ (clearX X) w7 hV9 (Nat.le_refl _) (small_clear HS.out HLW.out.1 HLW.out.2)).mono ?_
   rintro e w8 ⟨rfl, hb8⟩
   clear hV9
   have T8 := Lib.hid (T7.out.trans (hb8.mono (by omega)))
   have V8 := Lib.hid (V7.out.below (by omega) hb8)
   have F8 := Lib.hid (F7.out.below (by omega) hb8)
   have L8 := Lib.hid (L7.out.below (by omega) hb8)
   have P8 := Lib.hid (P7.out.below hb8 (by omega))
   have R8 := Lib.hid (R7.out.below hb8 (by omega))
   have O8 := Lib.hid (O7.out.below hb8)
   have Q8 := Lib.hid (Q7.out.below hb8 (by omega))
   have sz8 : w7.heap.size ≤ w8.heap.size := hb8.size
   clear T7 V7 F7 L7 P7 R7 O7 Q7
   rw [clear_mach hm]
   cases hco : clearOk X
   ·have HOFF := Lib.hid (HOK.out.trans hco)
    obtain ⟨r0, r1, r2, r3, r4, r5, r6, r7, r8, r9⟩ := R8.out.ten
    have ff := R8.out.warm
    go_wp2
    obtain ⟨w9, hw9, hc9, hR⟩ := R8.out.put10 (.string ⟨#[]⟩) (.slice none 0 0) (.slice none 0 0) (.slice none 0 0) (.int .i64 0) (.int .i64 0) (.int .i64 0) (.int .i64 0) (.slice none 0 0) (.slice none 0 0)
    (try rw [hw9])
    clear hw9 r0 r1 r2 r3 r4 r5 r6 r7 r8 r9
    obtain ⟨r0, r1, r2, r3, r4, r5, r6, r7, r8, r9⟩ := hR.ten
    (try simp only [Exit.inBlock, Exit.then])
    refine bodyPost_ret (v := .tuple #[.agg #[.string ⟨#[]⟩, .slice none 0 0, .slice none 0 0, .slice none 0 0, .int .i64 0, .int .i64 0, .int .i64 0, .int .i64 0, .slice none 0 0, .slice none 0 0], .string ⟨#[]⟩, .slice none 0 0, .bool false]) (by simp [results, Tryz.results14, go_sem, r0, r1, r2, r3, r4, r5, r6, r7, r8, r9]) rfl ?_
    obtain ⟨z1, z2, z3⟩ := cast_off HOFF.out
    rw [HOFF.out, z1, z2, z3]
    exact ⟨_, _, rfl, (zeroX_own w9 w0.heap.size).wide (Nat.le_refl _) (by have := hc9.size; omega), own_none _ _, T8.out.trans ((hc9.below (by omega)).mono (by omega))⟩
   ·have HON := Lib.hid (HOK.out.trans hco)
    go_upto_region 14 with fail
    refine wp_region_plan (.take 0 (.take 1 (.take 2 (.take 3 (.take 4 (.take 6 (.take 7 (.take 8 (.take 9 (.take 10 (.take 11 (.one 5 (.one 12 (.one 13 (.one 14 (.take 15 (.take 16 (.take 17 .done)))))))))))))))))) (fun w' => w'.cell? ⟨w0.heap.size, 0, none⟩ = some (.string s) ∧ w'.cell? ⟨w0.heap.size, 1, none⟩ = some (.slice A n c) ∧ w'.cell? ⟨w0.heap.size, 2, none⟩ = some (.slice A2 m d) ∧ w'.cell? ⟨w0.heap.size, 3, none⟩ = some (.slice M q e0) ∧ w'.cell? ⟨w0.heap.size, 4, none⟩ = some (.int .i64 X.sp) ∧ w'.cell? ⟨w0.heap.size, 5, none⟩ = some (.int .i64 X.w) ∧ w'.cell? ⟨w0.heap.size, 6, none⟩ = some (.int .i64 X.t) ∧ w'.cell? ⟨w0.heap.size, 7, none⟩ = some (.int .i64 X.k) ∧ w'.cell? ⟨w0.heap.size, 8, none⟩ = some (.slice L l lc) ∧ w'.cell? ⟨w0.heap.size, 9, none⟩ = some (.slice T r tc) ∧ w'.cell? ⟨O, 0, none⟩ = some (.string X.f.s) ∧ w'.cell? ⟨O, 1, none⟩ = some (.slice A7 X.f.ws.length c7) ∧ w'.cell? ⟨O, 2, none⟩ = some (.slice A27 X.f.cs.length d7) ∧ w'.cell? ⟨O, 3, none⟩ = some (.slice M7 X.ms.length e7) ∧ w'.cell? ⟨O, 4, none⟩ = some (.int .i64 z9) ∧ w'.cell? ⟨O, 5, none⟩ = some (.int .i64 X.w) ∧ w'.cell? ⟨O, 6, none⟩ = some (.int .i64 X.t) ∧ w'.cell? ⟨O, 7, none⟩ = some (.int .i64 X.k) ∧ w'.cell? ⟨O, 8, none⟩ = some (.slice none 0 0) ∧ w'.cell? ⟨O, 9, none⟩ = some (.slice Tz rz tz)) (by kernel_rfl) (by kernel_rfl) (by kernel_rfl) (by intro c a d v w h; cases d <;> exact h) ⟨cellOfBlk P8.out 0, cellOfBlk P8.out 1, cellOfBlk P8.out 2, cellOfBlk P8.out 3, cellOfBlk P8.out 4, cellOfBlk P8.out 5, cellOfBlk P8.out 6, cellOfBlk P8.out 7, cellOfBlk P8.out 8, cellOfBlk P8.out 9, cellOfBlk Q8.out 0, cellOfBlk Q8.out 1, cellOfBlk Q8.out 2, cellOfBlk Q8.out 3, cellOfBlk Q8.out 4, cellOfBlk Q8.out 5, cellOfBlk Q8.out 6, cellOfBlk Q8.out 7, cellOfBlk Q8.out 8, cellOfBlk Q8.out 9⟩ ?_
    obtain ⟨w9, hwd⟩ : ∃ x, w8.drew = x := ⟨_, rfl⟩
    have hb9 : Below w8.heap.size w8 w9 := by rw [← hwd]; exact (Below.refl _ _).drew
    have hsz9 : w9.heap.size = w8.heap.size := by rw [← hwd]; rfl
    have T9 := Lib.hid (T8.out.trans (hb9.mono (by omega)))
    have V9 := Lib.hid (V8.out.below (by omega) hb9)
    have F9 := Lib.hid (F8.out.below (by omega) hb9)
    have L9 := Lib.hid (L8.out.below (by omega) hb9)
    have P9 := Lib.hid (P8.out.below hb9 (by omega))
    have R9 := Lib.hid (R8.out.below hb9 (by omega))
    have O9 := Lib.hid (O8.out.below hb9)
    have Q9 := Lib.hid (Q8.out.below hb9 (by omega))
    have sz9 : w8.heap.size ≤ w9.heap.size := hb9.size
    clear T8 V8 F8 L8 P8 R8 O8 Q8
    rw [hwd]
    clear hwd
    iterate 11 (refine plan_quiet rfl (by rfl) (v := ?_) ?_ ?_; rotate_left; (intro w1 hSw; obtain ⟨hs0, hs1, hs2, hs3, hs4, hs5, hs6, hs7, hs8, hs9, hs10, hs11, hs12, hs13, hs14, hs15, hs16, hs17, hs18, hs19⟩ := hSw; go_simp; try (with_reducible rfl)); (try simp only [Act.put, List.setIfInBounds_toArray, List.set_cons_zero, List.set_cons_succ]))
    refine plan_step rfl (fun Kc hK => ?_)
    rw [if_pos (by rfl)]
    go_simp
    refine (l5Text_any lo hi0 lo hi0 _ X.f L l lc X.ln w9 F9.out (by omega) HL.out (by omega) L9.out (by omega) HLT.out HS.out.f.1).mono ?_
    rintro e w10 ⟨rfl, hb10⟩
    have T10 := Lib.hid (T9.out.trans (hb10.mono (by omega)))
    have V10 := Lib.hid (V9.out.below (by omega) hb10)
    have F10 := Lib.hid (F9.out.below (by omega) hb10)
    have L10 := Lib.hid (L9.out.below (by omega) hb10)
    have P10 := Lib.hid (P9.out.below hb10 (by omega))
    have R10 := Lib.hid (R9.out.below hb10 (by omega))
    have O10 := Lib.hid (O9.out.below hb10)
    have Q10 := Lib.hid (Q9.out.below hb10 (by omega))
    have sz10 : w9.heap.size ≤ w10.heap.size := hb10.size
    clear T9 V9 F9 L9 P9 R9 O9 Q9
    refine hK.out _ _ ⟨cellOfBlk P10.out 0, cellOfBlk P10.out 1, cellOfBlk P10.out 2, cellOfBlk P10.out 3, cellOfBlk P10.out 4, cellOfBlk P10.out 5, cellOfBlk P10.out 6, cellOfBlk P10.out 7, cellOfBlk P10.out 8, cellOfBlk P10.out 9, cellOfBlk Q10.out 0, cellOfBlk Q10.out 1, cellOfBlk Q10.out 2, cellOfBlk Q10.out 3, cellOfBlk Q10.out 4, cellOfBlk Q10.out 5, cellOfBlk Q10.out 6, cellOfBlk Q10.out 7, cellOfBlk Q10.out 8, cellOfBlk Q10.out 9⟩ ?_
    clear hK Kc
    refine plan_step rfl (fun Kc hK => ?_)
    rw [if_pos (by rfl)]
    go_simp
    refine (l5Items_any lo hi0 lo hi0 _ X.f L l lc X.ln w10 F10.out (by omega) HL.out (by omega) L10.out (by omega) HWD.out).mono ?_
    rintro e w11 ⟨u, rfl, hO, hb11⟩
    obtain ⟨A5, c5, rfl, hI5, -, hc5, hcm5⟩ := hO.form
    obtain ⟨n5, hn5⟩ : ∃ y, (itemsM X.f X.ln).length = y := ⟨_, rfl⟩
    have hn6 : n5 = l := by rw [← hn5]; unfold itemsM; rw [List.length_map]; exact HL.out
    rw [hn5] at hc5 ⊢
    have HN5 := Lib.hid hn5
    clear hn5
    have T11 := Lib.hid (T10.out.trans (hb11.mono (by omega)))
    have V11 := Lib.hid (V10.out.below (by omega) hb11)
    have F11 := Lib.hid (F10.out.below (by omega) hb11)
    have L11 := Lib.hid (L10.out.below (by omega) hb11)
    have P11 := Lib.hid (P10.out.below hb11 (by omega))
    have R11 := Lib.hid (R10.out.below hb11 (by omega))
    have O11 := Lib.hid (O10.out.below hb11)
    have Q11 := Lib.hid (Q10.out.below hb11 (by omega))
    have sz11 : w10.heap.size ≤ w11.heap.size := hb11.size
    clear T10 V10 F10 L10 P10 R10 O10 Q10
    have I11 : Hid (Ints w11 A5 (itemsM X.f X.ln)) := hI5
    clear hO hI5
    refine hK.out _ _ ⟨cellOfBlk P11.out 0, cellOfBlk P11.out 1, cellOfBlk P11.out 2, cellOfBlk P11.out 3, cellOfBlk P11.out 4, cellOfBlk P11.out 5, cellOfBlk P11.out 6, cellOfBlk P11.out 7, cellOfBlk P11.out 8, cellOfBlk P11.out 9, cellOfBlk Q11.out 0, cellOfBlk Q11.out 1, cellOfBlk Q11.out 2, cellOfBlk Q11.out 3, cellOfBlk Q11.out 4, cellOfBlk Q11.out 5, cellOfBlk Q11.out 6, cellOfBlk Q11.out 7, cellOfBlk Q11.out 8, cellOfBlk Q11.out 9⟩ ?_
    clear hK Kc
    refine plan_step rfl (fun Kc hK => ?_)
    rw [if_pos (by rfl)]
    go_simp
    refine (specPlaces_any X.w X.t X.k A5 l c5 (itemsM X.f X.ln) w11 (HN5.out.trans hn6) (by unfold maxLen; omega) I11.out).mono ?_
    rintro e w12 ⟨vp, rfl, hU, hb12⟩
    have T12 := Lib.hid (T11.out.trans (hb12.mono (by omega)))
    have V12 := Lib.hid (V11.out.below (by omega) hb12)
    have F12 := Lib.hid (F11.out.below (by omega) hb12)
    have L12 := Lib.hid (L11.out.below (by omega) hb12)
    have P12 := Lib.hid (P11.out.below hb12 (by omega))
    have R12 := Lib.hid (R11.out.below hb12 (by omega))
    have O12 := Lib.hid (O11.out.below hb12)
    have Q12 := Lib.hid (Q11.out.below hb12 (by omega))
    have sz12 : w11.heap.size ≤ w12.heap.size := hb12.size
    clear T11 V11 F11 L11 P11 R11 O11 Q11 I11
    have U12 : Hid (Own w12 w11.heap.size vp (placesL ⟨X.w, X.t, X.k⟩ (itemsM X.f X.ln))) := hU
    have hUl := hU.lt
    clear hU
    refine hK.out _ _ ⟨cellOfBlk P12.out 0, cellOfBlk P12.out 1, cellOfBlk P12.out 2, cellOfBlk P12.out 3, cellOfBlk P12.out 4, cellOfBlk P12.out 5, cellOfBlk P12.out 6, cellOfBlk P12.out 7, cellOfBlk P12.out 8, cellOfBlk P12.out 9, cellOfBlk Q12.out 0, cellOfBlk Q12.out 1, cellOfBlk Q12.out 2, cellOfBlk Q12.out 3, cellOfBlk Q12.out 4, cellOfBlk Q12.out 5, cellOfBlk Q12.out 6, cellOfBlk Q12.out 7, cellOfBlk Q12.out 8, cellOfBlk Q12.out 9⟩ ?_
    clear hK Kc
    obtain ⟨r0, r1, r2, r3, r4, r5, r6, r7, r8, r9⟩ := R12.out.ten
    have ff := R12.out.warm
    refine plan_step rfl (fun Kc hK => ?_)
    rw [if_pos (by rfl)]
    go_simp
    obtain ⟨w99, hw9, hc9, hR⟩ := R12.out.put10 (.string X.f.s) (.slice A7 X.f.ws.length c7) (.slice A27 X.f.cs.length d7) (.slice M7 X.ms.length e7) (.int .i64 z9) (.int .i64 X.w) (.int .i64 X.t) (.int .i64 X.k) (.slice none 0 0) (.slice Tz rz tz)
    (try rw [hw9])
    clear hw9 r0 r1 r2 r3 r4 r5 r6 r7 r8 r9
    obtain ⟨r0, r1, r2, r3, r4, r5, r6, r7, r8, r9⟩ := hR.ten
    refine hK.out _ _ ⟨(hc9.cell (p := ⟨w0.heap.size, 0, none⟩) (by show w0.heap.size < w12.heap.size; omega) (by show ¬ (w0.heap.size + 1 ≤ w0.heap.size ∧ w0.heap.size < w0.heap.size + 1 + 1); omega)).trans (cellOfBlk P12.out 0), (hc9.cell (p := ⟨w0.heap.size, 1, none⟩) (by show w0.heap.size < w12.heap.size; omega) (by show ¬ (w0.heap.size + 1 ≤ w0.heap.size ∧ w0.heap.size < w0.heap.size + 1 + 1); omega)).trans (cellOfBlk P12.out 1), (hc9.cell (p := ⟨w0.heap.size, 2, none⟩) (by show w0.heap.size < w12.heap.size; omega) (by show ¬ (w0.heap.size + 1 ≤ w0.heap.size ∧ w0.heap.size < w0.heap.size + 1 + 1); omega)).trans (cellOfBlk P12.out 2), (hc9.cell (p := ⟨w0.heap.size, 3, none⟩) (by show w0.heap.size < w12.heap.size; omega) (by show ¬ (w0.heap.size + 1 ≤ w0.heap.size ∧ w0.heap.size < w0.heap.size + 1 + 1); omega)).trans (cellOfBlk P12.out 3), (hc9.cell (p := ⟨w0.heap.size, 4, none⟩) (by show w0.heap.size < w12.heap.size; omega) (by show ¬ (w0.heap.size + 1 ≤ w0.heap.size ∧ w0.heap.size < w0.heap.size + 1 + 1); omega)).trans (cellOfBlk P12.out 4), (hc9.cell (p := ⟨w0.heap.size, 5, none⟩) (by show w0.heap.size < w12.heap.size; omega) (by show ¬ (w0.heap.size + 1 ≤ w0.heap.size ∧ w0.heap.size < w0.heap.size + 1 + 1); omega)).trans (cellOfBlk P12.out 5), (hc9.cell (p := ⟨w0.heap.size, 6, none⟩) (by show w0.heap.size < w12.heap.size; omega) (by show ¬ (w0.heap.size + 1 ≤ w0.heap.size ∧ w0.heap.size < w0.heap.size + 1 + 1); omega)).trans (cellOfBlk P12.out 6), (hc9.cell (p := ⟨w0.heap.size, 7, none⟩) (by show w0.heap.size < w12.heap.size; omega) (by show ¬ (w0.heap.size + 1 ≤ w0.heap.size ∧ w0.heap.size < w0.heap.size + 1 + 1); omega)).trans (cellOfBlk P12.out 7), (hc9.cell (p := ⟨w0.heap.size, 8, none⟩) (by show w0.heap.size < w12.heap.size; omega) (by show ¬ (w0.heap.size + 1 ≤ w0.heap.size ∧ w0.heap.size < w0.heap.size + 1 + 1); omega)).trans (cellOfBlk P12.out 8), (hc9.cell (p := ⟨w0.heap.size, 9, none⟩) (by show w0.heap.size < w12.heap.size; omega) (by show ¬ (w0.heap.size + 1 ≤ w0.heap.size ∧ w0.heap.size < w0.heap.size + 1 + 1); omega)).trans (cellOfBlk P12.out 9), (hc9.cell (p := ⟨O, 0, none⟩) (by show O < w12.heap.size; omega) (by show ¬ (w0.heap.size + 1 ≤ O ∧ O < w0.heap.size + 1 + 1); omega)).trans (cellOfBlk Q12.out 0), (hc9.cell (p := ⟨O, 1, none⟩) (by show O < w12.heap.size; omega) (by show ¬ (w0.heap.size + 1 ≤ O ∧ O < w0.heap.size + 1 + 1); omega)).trans (cellOfBlk Q12.out 1), (hc9.cell (p := ⟨O, 2, none⟩) (by show O < w12.heap.size; omega) (by show ¬ (w0.heap.size + 1 ≤ O ∧ O < w0.heap.size + 1 + 1); omega)).trans (cellOfBlk Q12.out 2), (hc9.cell (p := ⟨O, 3, none⟩) (by show O < w12.heap.size; omega) (by show ¬ (w0.heap.size + 1 ≤ O ∧ O < w0.heap.size + 1 + 1); omega)).trans (cellOfBlk Q12.out 3), (hc9.cell (p := ⟨O, 4, none⟩) (by show O < w12.heap.size; omega) (by show ¬ (w0.heap.size + 1 ≤ O ∧ O < w0.heap.size + 1 + 1); omega)).trans (cellOfBlk Q12.out 4), (hc9.cell (p := ⟨O, 5, none⟩) (by show O < w12.heap.size; omega) (by show ¬ (w0.heap.size + 1 ≤ O ∧ O < w0.heap.size + 1 + 1); omega)).trans (cellOfBlk Q12.out 5), (hc9.cell (p := ⟨O, 6, none⟩) (by show O < w12.heap.size; omega) (by show ¬ (w0.heap.size + 1 ≤ O ∧ O < w0.heap.size + 1 + 1); omega)).trans (cellOfBlk Q12.out 6), (hc9.cell (p := ⟨O, 7, none⟩) (by show O < w12.heap.size; omega) (by show ¬ (w0.heap.size + 1 ≤ O ∧ O < w0.heap.size + 1 + 1); omega)).trans (cellOfBlk Q12.out 7), (hc9.cell (p := ⟨O, 8, none⟩) (by show O < w12.heap.size; omega) (by show ¬ (w0.heap.size + 1 ≤ O ∧ O < w0.heap.size + 1 + 1); omega)).trans (cellOfBlk Q12.out 8), (hc9.cell (p := ⟨O, 9, none⟩) (by show O < w12.heap.size; omega) (by show ¬ (w0.heap.size + 1 ≤ O ∧ O < w0.heap.size + 1 + 1); omega)).trans (cellOfBlk Q12.out 9)⟩ ?_
    clear hK Kc
    iterate 3 (refine plan_quiet rfl (by rfl) (v := ?_) ?_ ?_; rotate_left; (intro w1 hSw; obtain ⟨hs0, hs1, hs2, hs3, hs4, hs5, hs6, hs7, hs8, hs9, hs10, hs11, hs12, hs13, hs14, hs15, hs16, hs17, hs18, hs19⟩ := hSw; go_simp; try (with_reducible rfl)); (try simp only [Act.put, List.setIfInBounds_toArray, List.set_cons_zero, List.set_cons_succ]))
    refine plan_end ?_
    go_wp2
    (try simp only [Exit.inBlock, Exit.then])
    refine bodyPost_ret (v := .tuple #[.agg #[.string X.f.s, .slice A7 X.f.ws.length c7, .slice A27 X.f.cs.length d7, .slice M7 X.ms.length e7, .int .i64 z9, .int .i64 X.w, .int .i64 X.t, .int .i64 X.k, .slice none 0 0, .slice Tz rz tz], .string (txt X.f X.ln), vp, .bool true]) (by simp [results, Tryz.results14, go_sem, r0, r1, r2, r3, r4, r5, r6, r7, r8, r9]) rfl ?_
    obtain ⟨z1, z2, z3⟩ := cast_on HON.out
    rw [HON.out, z1, z2, z3]
    have hX9 : MchX w12 b w12.heap.size (.agg #[.string X.f.s, .slice A7 X.f.ws.length c7, .slice A27 X.f.cs.length d7, .slice M7 X.ms.length e7, .int .i64 z9, .int .i64 X.w, .int .i64 X.t, .int .i64 X.k, .slice none 0 0, .slice Tz rz tz]) (clearX X) := by rw [← HZ9.out, ← HR9.out]; exact O12.out.own
    exact ⟨_, _, rfl, (hX9.chg hc9 (by unfold Off; omega)).wide (by omega) (by have := hc9.size; omega), own_baseB (hc9.own U12.out (fun x hx => by have := (hUl x hx).1; omega)) (by omega), T12.out.trans ((hc9.below (by omega)).mono (by omega))⟩
theorem specCast_any (lo hi0 : Nat) (v : Value) (X : Mch) (rag : Bool) (w : World) (h : MchV w lo hi0 v X) (hhi : hi0 ≤ w.heap.size) (hs : SmallX X) :
  Calls Tryz.prog 14 #[v, .bool rag] w fun e w' => ∃ v' vp, e = .returned (.tuple #[v', .string (castT X rag), vp, .bool (castOk X rag)]) ∧ MchX w' w.heap.size w'.heap.size v' (castX X rag) ∧ Own w' w.heap.size vp (castP X rag) ∧ Below w.heap.size w w' := by
 cases hm : machB X
 ·exact specCast_no lo hi0 v X rag w h hhi hs hm
 ·by_cases hz : X.ln.length = 0
  ·exact specCast_empty lo hi0 v X rag w h hhi hs hm hz
  ·cases hr : rag
   ·cases hfl : fullB ⟨X.w, X.t, X.k⟩ (itemsM X.f X.ln)
    ·exact specCast_loose lo hi0 v X false w h hhi hs hm hz rfl hfl
    ·exact specCast_full lo hi0 v X false w h hhi hs hm hz rfl hfl
   ·exact specCast_rag lo hi0 v X true w h hhi hs hm hz rfl
end Go.Proofs.YtimhnkpccbcohaaGreatDoor
