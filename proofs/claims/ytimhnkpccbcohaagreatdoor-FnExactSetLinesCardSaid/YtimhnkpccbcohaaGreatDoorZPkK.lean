/-
 Contracts and plain mathematics (EngM, EngP, EngS, EngU), each with its conditions in its own statement.
-/
import Derived.Test.YtimhnkpccbcohaaGreatDoorZPkH
import Derived.Test.YtimhnkpccbcohaaGreatDoorZPkI
import Derived.Test.YtimhnkpccbcohaaGreatDoorZPkD
import Derived.Test.YtimhnkpccbcohaaGreatDoorZPkJ
namespace Go.Proofs.YtimhnkpccbcohaaGreatDoor
open Go.RowKit Go.Conc
set_option linter.unusedVariables false
set_option linter.unusedSimpArgs false

theorem wait_noneE (w : World) (B hi : Nat) : OwnMag w B hi (.slice none 0 0) [] [] :=
 ⟨World.ownsRow_nil _ _ _ _, fun j xs h => by simp at h, fun i j h h' g e => by simp at e, fun i h g e => by simp at e, fun g h => by cases h⟩
theorem fontCodesE {w : World} {lo hi n m c d : Nat} {A A2 : Option Addr} {s : ByteArray} {f : Fnt} (h : FontV w lo hi (.agg #[.string s, .slice A n c, .slice A2 m d]) f) : IntsI w lo hi A2 f.cs := by
 obtain ⟨X, x, Y, y, hv, -, h2, -⟩ := h
 injection hv with hv
 injection hv with hv
 simp only [List.cons.injEq, Value.slice.injEq] at hv
 rw [hv.2.2.1.1]
 exact h2
theorem ownsMapE_below {w w' : World} {n b : Nat} {D : DataW Unit} (h : w.ownsMap Tryz.prog 21 (plainElem (H := Unit) Tryz.prog 3) b n D) (hb : Below w.heap.size w w') : w'.ownsMap Tryz.prog 21 (plainElem (H := Unit) Tryz.prog 3) b n D := by
 obtain ⟨es, clock, h1, rest⟩ := h
 exact ⟨es, clock, (hb.block b (Array.getElem?_eq_some_iff.1 h1).1).trans h1, rest⟩
/-- the engine at block E: its machine (without its magazine) own in blocks b0 to b1, its channels in blocks from B to hi, the codes that the magazine reads, the keys -/
structure EngO (w : World) (lo E : Nat) (X : Mch) (vm : List Value) (Bc : Option Addr) (dc B hi : Nat) (hs : List (Option Nat)) (km b0 b1 p0 p1 : Nat) : Prop where
 blk : ∃ s A n c A2 m d M q e sp W t k L l lc T r tc, vm = [.string s, .slice A n c, .slice A2 m d, .slice M q e, .int .i64 sp, .int .i64 W, .int .i64 t, .int .i64 k, .slice L l lc, .slice T r tc] ∧ Blk w E #[.string s, .slice A n c, .slice A2 m d, .slice M q e, .int .i64 sp, .int .i64 W, .int .i64 t, .int .i64 k, .slice L l lc, .slice T r tc, .slice Bc X.f.cs.length dc, .slice (some ⟨B, 0, none⟩) X.ms.length X.ms.length, .map (some km)] 118
 mach : MchX w b0 b1 (.agg vm.toArray) ⟨X.f, [], X.sp, X.w, X.t, X.k, X.ln, X.wt⟩
 codes : IntsI w p0 p1 Bc X.f.cs
 made : Made hs X.ms.length X.ms.length
 chs : ChM w B hi (.slice (some ⟨B, 0, none⟩) X.ms.length X.ms.length) hs X.ms
 keys : w.ownsMap Tryz.prog 21 (plainElem (H := Unit) Tryz.prog 3) km X.f.s.size (keysD X.f.s X.f.s.size)
 o1 : lo ≤ b0 ∧ b0 ≤ b1
 o2 : b1 ≤ B
 o3 : hi ≤ km
 o4 : km < E
 o0 : p1 ≤ lo
set_option maxRecDepth 100000 in
set_option maxHeartbeats 12800000 in
theorem start_any (lo hi0 : Nat) (v : Value) (X : Mch) (w : World) (h : MchV w lo hi0 v X) (hhi : hi0 ≤ w.heap.size) (hs : SmallX X) (hlim : ∀ xs ∈ X.ms, xs.length ≤ 20) (hall : ∀ i, i < X.f.s.size → letOk X.f.s i = true) :
  Calls Tryz.prog 39 #[v] w fun e w' => ∃ E vm Bc dc B hi hs km b0 b1, e = .returned (.pointer (some ⟨E, 0, none⟩)) ∧ EngO w' w.heap.size E X vm Bc dc B hi hs km b0 b1 lo hi0 ∧ Below w.heap.size w w' := by
 obtain ⟨s, A, n, c, A2, m, d, M, q, e0, L, l, lc, T, r, tc, hv, hf, hq, hM, hqe, hem, hl, hL, hllc, hlm, hr, hT, hrt, htm⟩ := h.parts
 rw [hv] at h ⊢
 clear hv hL hT hllc hlm hrt htm hl hr hem hqe
 obtain ⟨w0, hw0⟩ : ∃ x, w = x := ⟨_, rfl⟩
 have hww : w.heap.size = w0.heap.size := by rw [hw0]
 have Hq := Lib.hid hq; have HLIM := Lib.hid hlim; have HALL := Lib.hid hall; have HS := Lib.hid hs
 have T0 : Hid (Below w0.heap.size w0 w0) := Below.refl _ _
 have V0 : Hid (MchV w0 lo hi0 (.agg #[.string s, .slice A n c, .slice A2 m d, .slice M q e0, .int .i64 X.sp, .int .i64 X.w, .int .i64 X.t, .int .i64 X.k, .slice L l lc, .slice T r tc]) X) := by rw [← hw0]; exact h
 have F0 : Hid (FontV w0 lo hi0 (.agg #[.string s, .slice A n c, .slice A2 m d]) X.f) := by rw [← hw0]; exact hf
 have M0 : Hid (MagI w0 lo hi0 M X.ms) := by rw [← hw0]; exact hM
 clear h hf hM hq hlim hall hs
 obtain ⟨w1, hw1, hb1, hz1, hX1⟩ := mxWorld w0 #[.string s, .slice A n c, .slice A2 m d, .slice M q e0, .int .i64 X.sp, .int .i64 X.w, .int .i64 X.t, .int .i64 X.k, .slice L l lc, .slice T r tc] 37
 have T1 := Lib.hid (T0.out.trans (hb1.mono (by omega)))
 have V1 := Lib.hid (V0.out.below (by omega) hb1)
 have F1 := Lib.hid (F0.out.below (by omega) hb1)
 have M1 := Lib.hid (M0.out.below (by omega) hb1)
 have sz1 : w0.heap.size ≤ w1.heap.size := hb1.size
 clear T0 V0 F0 M0
 have P1 := Lib.hid hX1
 rw [hw0]
 go_enter Tryz.func39, Tryz.ntmps39
 go_wp2_with fail
 refine wp_region_plan (.take 0 (.take 2 (.take 3 (.take 4 (.take 5 (.take 7 (.take 8 (.take 9 (.one 1 (.one 6 (.one 10 (.take 11 (.one 12 (.take 13 .done)))))))))))))) (fun w' => w'.cell? ⟨w0.heap.size, 0, none⟩ = some (.string s) ∧ w'.cell? ⟨w0.heap.size, 1, none⟩ = some (.slice A n c) ∧ w'.cell? ⟨w0.heap.size, 2, none⟩ = some (.slice A2 m d) ∧ w'.cell? ⟨w0.heap.size, 3, none⟩ = some (.slice M q e0) ∧ w'.cell? ⟨w0.heap.size, 4, none⟩ = some (.int .i64 X.sp) ∧ w'.cell? ⟨w0.heap.size, 5, none⟩ = some (.int .i64 X.w) ∧ w'.cell? ⟨w0.heap.size, 6, none⟩ = some (.int .i64 X.t) ∧ w'.cell? ⟨w0.heap.size, 7, none⟩ = some (.int .i64 X.k) ∧ w'.cell? ⟨w0.heap.size, 8, none⟩ = some (.slice L l lc) ∧ w'.cell? ⟨w0.heap.size, 9, none⟩ = some (.slice T r tc)) (by kernel_rfl) (by kernel_rfl) (by kernel_rfl) (by intro c a d v w h; cases d <;> exact h) P1.out.ten ?_
 obtain ⟨w2, hwd⟩ : ∃ x, w1.drew = x := ⟨_, rfl⟩
 have hb2 : Below w1.heap.size w1 w2 := by rw [← hwd]; exact (Below.refl _ _).drew
 have hsz2 : w2.heap.size = w1.heap.size := by rw [← hwd]; rfl
 have T2 := Lib.hid (T1.out.trans (hb2.mono (by omega)))
 have V2 := Lib.hid (V1.out.below (by omega) hb2)
 have F2 := Lib.hid (F1.out.below (by omega) hb2)
 have M2 := Lib.hid (M1.out.below (by omega) hb2)
 have P2 := Lib.hid (P1.out.below hb2 (by omega))
 have sz2 : w1.heap.size ≤ w2.heap.size := hb2.size
 clear T1 V1 F1 M1 P1
 rw [hwd]
 clear hwd
 iterate 8 (refine plan_quiet rfl (by rfl) (v := ?_) ?_ ?_; rotate_left; (intro w1 hSw; obtain ⟨hs0, hs1, hs2, hs3, hs4, hs5, hs6, hs7, hs8, hs9⟩ := hSw; go_simp; try (with_reducible rfl)); (try simp only [Act.put, List.setIfInBounds_toArray, List.set_cons_zero, List.set_cons_succ]))
 refine plan_step rfl (fun Kc hK => ?_)
 rw [if_pos (by rfl)]
 go_simp
 refine (withMag_any lo hi0 w2.heap.size w2.heap.size w2.heap.size _ X none 0 0 [] [] w2 V2.out (by omega) HS.out (wait_noneE w2 _ _) (Nat.le_refl _) (Nat.le_refl _) (Nat.le_refl _)).mono ?_
 rintro e w3 ⟨v1, rfl, hO, hb3⟩
 obtain ⟨sz, Az, nz, cz, Bz, mz, dz, Mz, qz, ez, spz, Wz, tz, kz, Lz, lz, lcz, Tz, rz, gz, rfl⟩ := hO.reads.form
 have T3 := Lib.hid (T2.out.trans (hb3.mono (by omega)))
 have V3 := Lib.hid (V2.out.below (by omega) hb3)
 have F3 := Lib.hid (F2.out.below (by omega) hb3)
 have M3 := Lib.hid (M2.out.below (by omega) hb3)
 have P3 := Lib.hid (P2.out.below hb3 (by omega))
 have sz3 : w2.heap.size ≤ w3.heap.size := hb3.size
 clear T2 V2 F2 M2 P2
 have O3 : Hid (MchX w3 w2.heap.size w3.heap.size (.agg #[.string sz, .slice Az nz cz, .slice Bz mz dz, .slice Mz qz ez, .int .i64 spz, .int .i64 Wz, .int .i64 tz, .int .i64 kz, .slice Lz lz lcz, .slice Tz rz gz]) ⟨X.f, [], X.sp, X.w, X.t, X.k, X.ln, X.wt⟩) := hO
 clear hO
 refine hK.out _ _ P3.out.ten ?_
 clear hK Kc
 refine plan_step rfl (fun Kc hK => ?_)
 rw [if_pos (by rfl)]
 go_simp
 refine (load_any lo hi0 lo hi0 _ X.f M q e0 X.ms w3 F3.out Hq.out (by rw [← Hq.out]; exact HS.out.ms) HLIM.out M3.out (by omega)).mono ?_
 rintro e w4 ⟨Bc, dc, B, hi, hsc, ⟨X1, x1, hfo⟩, rfl, hmd, hBw, hhi9, hC, hb4⟩
 have T4 := Lib.hid (T3.out.trans (hb4.mono (by omega)))
 have V4 := Lib.hid (V3.out.below (by omega) hb4)
 have F4 := Lib.hid (F3.out.below (by omega) hb4)
 have M4 := Lib.hid (M3.out.below (by omega) hb4)
 have P4 := Lib.hid (P3.out.below hb4 (by omega))
 have O4 := Lib.hid (O3.out.below hb4)
 have sz4 : w3.heap.size ≤ w4.heap.size := hb4.size
 clear T3 V3 F3 M3 P3 O3
 have C4 : Hid (ChM w4 B hi (.slice (some ⟨B, 0, none⟩) q q) hsc X.ms) := hC
 obtain ⟨eb, em, ed⟩ : A2 = Bc ∧ m = X.f.cs.length ∧ d = dc := by
  injection hfo with hfo
  injection hfo with hfo
  simp only [List.cons.injEq, Value.slice.injEq] at hfo
  exact ⟨hfo.2.2.1.1, hfo.2.2.1.2.1, hfo.2.2.1.2.2⟩
 subst eb; subst ed
 have hBh := hC.top B rfl
 have HMD := Lib.hid hmd
 clear hC hmd
 have esz : s = X.f.s := by
  injection hfo with hfo
  injection hfo with hfo
  simp only [List.cons.injEq, Value.string.injEq] at hfo
  exact hfo.1
 have HES := Lib.hid esz; have HEM := Lib.hid em
 clear hfo esz em
 refine hK.out _ _ P4.out.ten ?_
 clear hK Kc
 refine plan_step rfl (fun Kc hK => ?_)
 rw [if_pos (by rfl)]
 go_simp
 refine (keysOf_any s w4 (by rw [HES.out]; have := HS.out.f.1; omega) (by rw [HES.out]; exact HALL.out)).mono ?_
 rintro e w5 ⟨rfl, hKM, hb5⟩
 have hkl : w4.heap.size < w5.heap.size := by obtain ⟨es, ck, h9, -⟩ := hKM; exact (Array.getElem?_eq_some_iff.1 h9).1
 have T5 := Lib.hid (T4.out.trans (hb5.mono (by omega)))
 have V5 := Lib.hid (V4.out.below (by omega) hb5)
 have F5 := Lib.hid (F4.out.below (by omega) hb5)
 have M5 := Lib.hid (M4.out.below (by omega) hb5)
 have P5 := Lib.hid (P4.out.below hb5 (by omega))
 have O5 := Lib.hid (O4.out.below hb5)
 have C5 := Lib.hid (C4.out.below (by omega) hb5)
 have sz5 : w4.heap.size ≤ w5.heap.size := hb5.size
 clear T4 V4 F4 M4 P4 O4 C4
 have N5 : Hid ((w5).ownsMap Tryz.prog 21 (plainElem (H := Unit) Tryz.prog 3) w4.heap.size s.size (keysD s s.size)) := hKM
 clear hKM
 refine hK.out _ _ P5.out.ten ?_
 clear hK Kc
 refine plan_quiet rfl (by rfl) (v := ?_) ?_ ?_; rotate_left; (intro w1 hSw; obtain ⟨hs0, hs1, hs2, hs3, hs4, hs5, hs6, hs7, hs8, hs9⟩ := hSw; go_simp; try (with_reducible rfl)); (try simp only [Act.put, List.setIfInBounds_toArray, List.set_cons_zero, List.set_cons_succ])
 refine plan_step rfl (fun Kc hK => ?_)
 rw [if_pos (by rfl)]
 go_simp
 obtain ⟨w6, hw6, hb6, hz6, hX6⟩ := mxWorld w5 #[.string sz, .slice Az nz cz, .slice Bz mz dz, .slice Mz qz ez, .int .i64 spz, .int .i64 Wz, .int .i64 tz, .int .i64 kz, .slice Lz lz lcz, .slice Tz rz gz, .slice A2 X.f.cs.length d, .slice (some ⟨B, 0, none⟩) q q, .map (some w4.heap.size)] 118
 have T6 := Lib.hid (T5.out.trans (hb6.mono (by omega)))
 have V6 := Lib.hid (V5.out.below (by omega) hb6)
 have F6 := Lib.hid (F5.out.below (by omega) hb6)
 have M6 := Lib.hid (M5.out.below (by omega) hb6)
 have P6 := Lib.hid (P5.out.below hb6 (by omega))
 have O6 := Lib.hid (O5.out.below hb6)
 have C6 := Lib.hid (C5.out.below (by omega) hb6)
 have N6 : Hid ((w6).ownsMap Tryz.prog 21 (plainElem (H := Unit) Tryz.prog 3) w4.heap.size s.size (keysD s s.size)) := ownsMapE_below N5.out hb6
 have sz6 : w5.heap.size ≤ w6.heap.size := hb6.size
 clear T5 V5 F5 M5 P5 O5 C5 N5
 have G6 := Lib.hid hX6
 rw [hw6]
 refine hK.out _ _ P6.out.ten ?_
 clear hK Kc
 refine plan_quiet rfl (by rfl) (v := ?_) ?_ ?_; rotate_left; (intro w1 hSw; obtain ⟨hs0, hs1, hs2, hs3, hs4, hs5, hs6, hs7, hs8, hs9⟩ := hSw; go_simp; try (with_reducible rfl)); (try simp only [Act.put, List.setIfInBounds_toArray, List.set_cons_zero, List.set_cons_succ])
 refine plan_end ?_
 go_wp2
 go_ret
 have hq2 := Hq.out
 subst hq2
 refine ⟨w5.heap.size, [.string sz, .slice Az nz cz, .slice Bz mz dz, .slice Mz qz ez, .int .i64 spz, .int .i64 Wz, .int .i64 tz, .int .i64 kz, .slice Lz lz lcz, .slice Tz rz gz], A2, d, B, hi, hsc, w4.heap.size, w2.heap.size, w3.heap.size, rfl, ⟨⟨sz, Az, nz, cz, Bz, mz, dz, Mz, qz, ez, spz, Wz, tz, kz, Lz, lz, lcz, Tz, rz, gz, rfl, G6.out⟩, O6.out, ?_, HMD.out, C6.out, ?_, ⟨by omega, by omega⟩, by omega, by omega, by omega, by omega⟩, T6.out⟩
 ·exact fontCodesE F6.out
 ·have h9 := N6.out
  rw [HES.out] at h9
  exact h9
end Go.Proofs.YtimhnkpccbcohaaGreatDoor

namespace Go.Proofs.YtimhnkpccbcohaaGreatDoor
open Go.RowKit Go.Conc
set_option linter.unusedVariables false
set_option linter.unusedSimpArgs false

structure EngP (w : World) (lo E : Nat) (X : Mch) (A : Option Addr) (c : Nat) (A2 : Option Addr) (d : Nat) (M : Option Addr) (q e0 : Nat) (L : Option Addr) (lc : Nat) (T : Option Addr) (tc : Nat) (Bc : Option Addr) (dc B hi : Nat) (hs : List (Option Nat)) (km f0 f1 l0 l1 t0 t1 p0 p1 : Nat) : Prop where
 blk : Blk w E #[.string X.f.s, .slice A X.f.ws.length c, .slice A2 X.f.cs.length d, .slice M q e0, .int .i64 X.sp, .int .i64 X.w, .int .i64 X.t, .int .i64 X.k, .slice L X.ln.length lc, .slice T X.wt.length tc, .slice Bc X.f.cs.length dc, .slice (some ⟨B, 0, none⟩) X.ms.length X.ms.length, .map (some km)] 118
 font : FontO w f0 f1 (.agg #[.string X.f.s, .slice A X.f.ws.length c, .slice A2 X.f.cs.length d]) X.f
 line : OwnM w l0 (.slice L X.ln.length lc) X.ln
 lineT : ∀ k, (Value.slice L X.ln.length lc).ownBlock = some k → k < l1
 wait : OwnM w t0 (.slice T X.wt.length tc) X.wt
 waitT : ∀ k, (Value.slice T X.wt.length tc).ownBlock = some k → k < t1
 fl : Off f0 f1 l0 l1
 ft : Off f0 f1 t0 t1
 lt : Off l0 l1 t0 t1
 fE : Off f0 f1 B (E + 1)
 lE : Off l0 l1 B (E + 1)
 tE : Off t0 t1 B (E + 1)
 low : lo ≤ f0 ∧ lo ≤ l0 ∧ lo ≤ t0 ∧ lo ≤ B
 top : f1 ≤ w.heap.size ∧ l1 ≤ w.heap.size ∧ t1 ≤ w.heap.size
 t0h : t0 ≤ w.heap.size
 codes : IntsI w p0 p1 Bc X.f.cs
 o0 : p1 ≤ lo
 made : Made hs X.ms.length X.ms.length
 chs : ChM w B hi (.slice (some ⟨B, 0, none⟩) X.ms.length X.ms.length) hs X.ms
 keys : w.ownsMap Tryz.prog 21 (plainElem (H := Unit) Tryz.prog 3) km X.f.s.size (keysD X.f.s X.f.s.size)
 o3 : hi ≤ km
 o4 : km < E
def Eng (w : World) (lo E : Nat) (X : Mch) : Prop := ∃ A c A2 d M q e0 L lc T tc Bc dc B hi hs km f0 f1 l0 l1 t0 t1 p0 p1, EngP w lo E X A c A2 d M q e0 L lc T tc Bc dc B hi hs km f0 f1 l0 l1 t0 t1 p0 p1
theorem EngO.parts {w : World} {lo E : Nat} {X : Mch} {vm : List Value} {Bc : Option Addr} {dc B hi : Nat} {hs : List (Option Nat)} {km b0 b1 p0 p1 : Nat} (h : EngO w lo E X vm Bc dc B hi hs km b0 b1 p0 p1) : Eng w lo E X := by
 obtain ⟨⟨s, A, n, c, A2, m, d, M, q, e, sp, W, t, k, L, l, lc, T, r, tc, rfl, hblk⟩, hmach, hcod, hmd, hch, hkeys, ⟨o1, o1b⟩, o2, o3, o4, o0⟩ := h
 have hEl := hblk.lt
 have hBh := hch.top B rfl
 obtain ⟨A', c', A2', d', M', e', L', lc', T', tc', hs', f0, f1, k0, k1, l0, l1, t0, t1, h⟩ := hmach
 have hv := h.v
 unfold mwords at hv
 simp only [Value.agg.injEq, Array.mk.injEq, List.cons.injEq, Value.string.injEq, Value.slice.injEq, Value.int.injEq, true_and, and_true] at hv
 obtain ⟨rfl, ⟨rfl, rfl, rfl⟩, ⟨rfl, rfl, rfl⟩, -, rfl, rfl, rfl, rfl, ⟨rfl, rfl, rfl⟩, ⟨rfl, rfl, rfl⟩⟩ := hv
 have q1 := h.fi; have q3 := h.li; have q4 := h.ti
 have o5 := h.ft; have o6 := h.lt
 unfold Off at o5 o6
 refine ⟨_, _, _, _, M, q, e, _, _, _, _, Bc, dc, B, hi, hs, km, f0, f1, l0, l1, min t0 w.heap.size, t1, p0, p1, ⟨hblk, h.font, h.line, h.lineT, h.wait.base (Nat.min_le_left _ _), h.waitT, h.fl, by unfold Off; omega, by unfold Off; omega, .inl (by omega), .inl (by omega), .inl (by omega), ⟨by omega, by omega, by omega, by omega⟩, ⟨by omega, by omega, by omega⟩, Nat.min_le_right _ _, hcod, o0, hmd, hch, hkeys, o3, o4⟩⟩
end Go.Proofs.YtimhnkpccbcohaaGreatDoor

namespace Go.Proofs.YtimhnkpccbcohaaGreatDoor
open Go.RowKit Go.Conc
set_option linter.unusedVariables false
set_option linter.unusedSimpArgs false

theorem chg_ten (w : World) (B : Nat) (u0 u1 u2 u3 u4 u5 u6 u7 u8 u9 : Value) : Chg B (B + 1) w (((((((((((w.setCell ⟨B, 0, none⟩ u0).setCell ⟨B, 1, none⟩ u1).setCell ⟨B, 2, none⟩ u2).setCell ⟨B, 3, none⟩ u3).setCell ⟨B, 4, none⟩ u4).setCell ⟨B, 5, none⟩ u5).setCell ⟨B, 6, none⟩ u6).setCell ⟨B, 7, none⟩ u7).setCell ⟨B, 8, none⟩ u8).setCell ⟨B, 9, none⟩ u9)) :=
 ((((((((((chg_one w B 0 u0).trans (chg_one _ B 1 u1)).trans (chg_one _ B 2 u2)).trans (chg_one _ B 3 u3)).trans (chg_one _ B 4 u4)).trans (chg_one _ B 5 u5)).trans (chg_one _ B 6 u6)).trans (chg_one _ B 7 u7)).trans (chg_one _ B 8 u8)).trans (chg_one _ B 9 u9))
theorem Blk.put10 {w : World} {B : Nat} {a0 a1 a2 a3 a4 a5 a6 a7 a8 a9 : Value} {T : TypeId} (h : Blk w B #[a0, a1, a2, a3, a4, a5, a6, a7, a8, a9] T) (u0 u1 u2 u3 u4 u5 u6 u7 u8 u9 : Value) : ∃ w', ((((((((((w.setCell ⟨B, 0, none⟩ u0).setCell ⟨B, 1, none⟩ u1).setCell ⟨B, 2, none⟩ u2).setCell ⟨B, 3, none⟩ u3).setCell ⟨B, 4, none⟩ u4).setCell ⟨B, 5, none⟩ u5).setCell ⟨B, 6, none⟩ u6).setCell ⟨B, 7, none⟩ u7).setCell ⟨B, 8, none⟩ u8).setCell ⟨B, 9, none⟩ u9) = w' ∧ Chg B (B + 1) w w' ∧ Blk w' B #[u0, u1, u2, u3, u4, u5, u6, u7, u8, u9] T := ⟨_, rfl, chg_ten w B u0 u1 u2 u3 u4 u5 u6 u7 u8 u9, h.fill u0 u1 u2 u3 u4 u5 u6 u7 u8 u9⟩
end Go.Proofs.YtimhnkpccbcohaaGreatDoor

namespace Go.Proofs.YtimhnkpccbcohaaGreatDoor
open Go.RowKit Go.Conc
set_option linter.unusedVariables false
set_option linter.unusedSimpArgs false

theorem OwnM.rise {w : World} {B B' : Nat} {v : Value} {xs : List Mat} (h : OwnM w B v xs) (hB : ∀ k, v.ownBlock = some k → B' ≤ k) : OwnM w B' v xs := by
 refine ⟨h.1, ?_⟩
 rcases h.2 with hn | ⟨g, cap, cur, rfl, hg, rest⟩
 ·exact .inl hn
 ·exact .inr ⟨g, cap, cur, rfl, hB g rfl, rest⟩
theorem IntsI.chgE {w w' : World} {lo hi lo' hi' : Nat} {A : Option Addr} {zs : List Int} (h : IntsI w lo hi A zs) (hc : Chg lo' hi' w w') (hs : hi ≤ w.heap.size) (hn : hi ≤ lo') : IntsI w' lo hi A zs := h.keep fun p h1 h2 => hc.cell (by omega) (by omega)
theorem ownsMapE_chg {w w' : World} {n b lo' hi' : Nat} {D : DataW Unit} (h : w.ownsMap Tryz.prog 21 (plainElem (H := Unit) Tryz.prog 3) b n D) (hc : Chg lo' hi' w w') (hn : ¬ (lo' ≤ b ∧ b < hi')) : w'.ownsMap Tryz.prog 21 (plainElem (H := Unit) Tryz.prog 3) b n D := by
 obtain ⟨es, clock, h1, rest⟩ := h
 exact ⟨es, clock, (hc.block b (Array.getElem?_eq_some_iff.1 h1).1 hn).trans h1, rest⟩
section
variable {w w' : World} {lo E : Nat} {X : Mch} {A : Option Addr} {c : Nat} {A2 : Option Addr} {d : Nat} {M : Option Addr} {q e0 : Nat} {L : Option Addr} {lc : Nat} {T : Option Addr} {tc : Nat} {Bc : Option Addr} {dc B hi : Nat} {hs : List (Option Nat)} {km f0 f1 l0 l1 t0 t1 p0 p1 : Nat}
theorem EngP.at_ (h : EngP w lo E X A c A2 d M q e0 L lc T tc Bc dc B hi hs km f0 f1 l0 l1 t0 t1 p0 p1) : B < hi ∧ E < w.heap.size := ⟨h.chs.top B rfl, h.blk.lt⟩
theorem EngP.below (h : EngP w lo E X A c A2 d M q e0 L lc T tc Bc dc B hi hs km f0 f1 l0 l1 t0 t1 p0 p1) (hb : Below w.heap.size w w') : EngP w' lo E X A c A2 d M q e0 L lc T tc Bc dc B hi hs km f0 f1 l0 l1 t0 t1 p0 p1 := by
 obtain ⟨e1, e2⟩ := h.at_
 have e3 := h.low; have e4 := h.top; have e5 := h.o3; have e6 := h.o4; have e7 := h.o0; have e8 := hb.size
 exact ⟨h.blk.below hb e2, h.font.below hb, h.line.below hb, h.lineT, h.wait.below hb, h.waitT, h.fl, h.ft, h.lt, h.fE, h.lE, h.tE, h.low, ⟨by omega, by omega, by omega⟩, Nat.le_trans h.t0h e8, h.codes.below (by omega) hb, h.o0, h.made, h.chs.below (by omega) hb, ownsMapE_below h.keys hb, h.o3, h.o4⟩
/-- one cell of the engine's block set: all but the block stays -/
theorem EngP.setc (h : EngP w lo E X A c A2 d M q e0 L lc T tc Bc dc B hi hs km f0 f1 l0 l1 t0 t1 p0 p1) (i : Nat) (u : Value) {X' : Mch} (hf : X'.f = X.f) (hm : X'.ms = X.ms)
  (hl : X'.ln = X.ln) (hw : X'.wt = X.wt)
  (hblk : Blk (w.setCell ⟨E, i, none⟩ u) E #[.string X'.f.s, .slice A X'.f.ws.length c, .slice A2 X'.f.cs.length d, .slice M q e0, .int .i64 X'.sp, .int .i64 X'.w, .int .i64 X'.t, .int .i64 X'.k, .slice L X'.ln.length lc, .slice T X'.wt.length tc, .slice Bc X'.f.cs.length dc, .slice (some ⟨B, 0, none⟩) X'.ms.length X'.ms.length, .map (some km)] 118) :
  EngP (w.setCell ⟨E, i, none⟩ u) lo E X' A c A2 d M q e0 L lc T tc Bc dc B hi hs km f0 f1 l0 l1 t0 t1 p0 p1 := by
 obtain ⟨e1, e2⟩ := h.at_
 have e3 := h.low; have e4 := h.top; have e5 := h.o3; have e6 := h.o4; have e7 := h.o0
 have fE := h.fE; have lE := h.lE; have tE := h.tE
 unfold Off at fE lE tE
 have hc := chg_one w E i u
 have hz : (w.setCell ⟨E, i, none⟩ u).heap.size = w.heap.size := by simp [World.setCell]
 obtain ⟨f', ms', sp', w_', t', k', ln', wt'⟩ := X'
 simp only at hf hm hl hw
 subst hf; subst hm; subst hl; subst hw
 exact ⟨hblk, h.font.chg hc (by unfold Off; omega), h.line.chg hc (fun k hk => by have := h.line.lt k hk; have := h.lineT k hk; omega), h.lineT, h.wait.chg hc (fun k hk => by have := h.wait.lt k hk; have := h.waitT k hk; omega), h.waitT, h.fl, h.ft, h.lt, h.fE, h.lE, h.tE, h.low, ⟨by omega, by omega, by omega⟩, by rw [hz]; exact h.t0h, h.codes.chgE hc (by omega) (by omega), h.o0, h.made, h.chs.chg (by omega) hc (.inl (by omega)), ownsMapE_chg h.keys hc (by omega), h.o3, h.o4⟩
theorem EngP.spare (h : EngP w lo E X A c A2 d M q e0 L lc T tc Bc dc B hi hs km f0 f1 l0 l1 t0 t1 p0 p1) (z : Int) : EngP (w.setCell ⟨E, 4, none⟩ (.int .i64 z)) lo E ⟨X.f, X.ms, z, X.w, X.t, X.k, X.ln, X.wt⟩ A c A2 d M q e0 L lc T tc Bc dc B hi hs km f0 f1 l0 l1 t0 t1 p0 p1 :=
 h.setc 4 (.int .i64 z) rfl rfl rfl rfl (heapSet (i := 4) h.blk _)
theorem EngP.noline (h : EngP w lo E X A c A2 d M q e0 L lc T tc Bc dc B hi hs km f0 f1 l0 l1 t0 t1 p0 p1) : EngP (w.setCell ⟨E, 8, none⟩ (.slice none 0 0)) lo E ⟨X.f, X.ms, X.sp, X.w, X.t, X.k, [], X.wt⟩ A c A2 d M q e0 none 0 T tc Bc dc B hi hs km f0 f1 l0 l1 t0 t1 p0 p1 := by
 obtain ⟨e1, e2⟩ := h.at_
 have e3 := h.low; have e4 := h.top; have e5 := h.o3; have e6 := h.o4; have e7 := h.o0
 have fE := h.fE; have lE := h.lE; have tE := h.tE
 unfold Off at fE lE tE
 have hc := chg_one w E 8 (.slice none 0 0)
 have hz : (w.setCell ⟨E, 8, none⟩ (.slice none 0 0)).heap.size = w.heap.size := by simp [World.setCell]
 exact ⟨heapSet (i := 8) h.blk _, h.font.chg hc (by unfold Off; omega), ⟨rfl, .inl ⟨rfl, rfl⟩⟩, fun k hk => (by cases hk), h.wait.chg hc (fun k hk => by have := h.wait.lt k hk; have := h.waitT k hk; omega), h.waitT, h.fl, h.ft, h.lt, h.fE, h.lE, h.tE, h.low, ⟨by omega, by omega, by omega⟩, by rw [hz]; exact h.t0h, h.codes.chgE hc (by omega) (by omega), h.o0, h.made, h.chs.chg (by omega) hc (.inl (by omega)), ownsMapE_chg h.keys hc (by omega), h.o3, h.o4⟩
/-- a longer row of waiting matrices -/
theorem EngP.waits (h : EngP w lo E X A c A2 d M q e0 L lc T tc Bc dc B hi hs km f0 f1 l0 l1 t0 t1 p0 p1) {T' : Option Addr} {tc' : Nat} {xs : List Mat} (hg : w.grownBy w' (Value.slice T X.wt.length tc).ownBlock) (ho : OwnM w' t0 (.slice T' xs.length tc') xs) (hf : (Value.slice T' xs.length tc').ownBlock = (Value.slice T X.wt.length tc).ownBlock ∨ ∀ k, (Value.slice T' xs.length tc').ownBlock = some k → w.heap.size ≤ k) :
  ∃ t0' t1', ((t0' = t0 ∧ t1' = t1) ∨ w.heap.size ≤ t0') ∧ EngP (w'.setCell ⟨E, 9, none⟩ (.slice T' xs.length tc')) lo E ⟨X.f, X.ms, X.sp, X.w, X.t, X.k, X.ln, xs⟩ A c A2 d M q e0 L lc T' tc' Bc dc B hi hs km f0 f1 l0 l1 t0' t1' p0 p1 := by
 obtain ⟨e1, e2⟩ := h.at_
 have e3 := h.low; have e4 := h.top; have e5 := h.o3; have e6 := h.o4; have e7 := h.o0
 have fE := h.fE; have lE := h.lE; have tE := h.tE; have ft := h.ft; have lt := h.lt
 unfold Off at fE lE tE ft lt
 have hgs := hg.size
 have hc1 : Chg t0 t1 w w' := Chg.of_grown hg (fun g hq => ⟨(h.wait.lt g hq).1, h.waitT g hq⟩)
 have hc2 := chg_one w' E 9 (.slice T' xs.length tc')
 have hz : (w'.setCell ⟨E, 9, none⟩ (.slice T' xs.length tc')).heap.size = w'.heap.size := by simp [World.setCell]
 have hblk : Blk (w'.setCell ⟨E, 9, none⟩ (.slice T' xs.length tc')) E #[.string X.f.s, .slice A X.f.ws.length c, .slice A2 X.f.cs.length d, .slice M q e0, .int .i64 X.sp, .int .i64 X.w, .int .i64 X.t, .int .i64 X.k, .slice L X.ln.length lc, .slice T' xs.length tc', .slice Bc X.f.cs.length dc, .slice (some ⟨B, 0, none⟩) X.ms.length X.ms.length, .map (some km)] 118 := heapSet (i := 9) ((hc1.block E e2 (by omega)).trans h.blk) _
 have hfont := (h.font.chg hc1 (by unfold Off; omega)).chg hc2 (by unfold Off; omega)
 have hline := (h.line.chg hc1 (fun k hk => by have := h.line.lt k hk; have := h.lineT k hk; omega)).chg hc2 (fun k hk => by have := h.line.lt k hk; have := h.lineT k hk; omega)
 have hcod := (h.codes.chgE hc1 (by omega) (by omega)).chgE hc2 (by omega) (by omega)
 have hchs := (h.chs.chg (by omega) hc1 (by omega)).chg (by omega) hc2 (.inl (by omega))
 have hkey := ownsMapE_chg (ownsMapE_chg h.keys hc1 (by omega)) hc2 (by omega)
 have ho2 : OwnM (w'.setCell ⟨E, 9, none⟩ (.slice T' xs.length tc')) t0 (.slice T' xs.length tc') xs := ho.chg hc2 (fun k hk => by
  rcases hf with hf | hf
  ·have h9 := hf ▸ hk; have := (h.wait.lt k h9).1; have := h.waitT k h9; omega
  ·have := hf k hk; omega)
 rcases hf with hf | hf
 ·exact ⟨t0, t1, .inl ⟨rfl, rfl⟩, ⟨hblk, hfont, hline, h.lineT, ho2, fun k hk => h.waitT k (hf ▸ hk), h.fl, h.ft, h.lt, h.fE, h.lE, h.tE, h.low, ⟨by omega, by omega, by omega⟩, by have := h.t0h; omega, hcod, h.o0, h.made, hchs, hkey, h.o3, h.o4⟩⟩
 ·exact ⟨w.heap.size, w'.heap.size, .inr (Nat.le_refl _), ⟨hblk, hfont, hline, h.lineT, ho2.rise hf, fun k hk => by have := (ho.lt k hk).2; omega, h.fl, .inl (by omega), .inl (by omega), h.fE, h.lE, .inr (by omega), ⟨by omega, by omega, by omega, by omega⟩, ⟨by omega, by omega, by omega⟩, by omega, hcod, h.o0, h.made, hchs, hkey, h.o3, h.o4⟩⟩
end
theorem Eng.below {w w' : World} {lo E : Nat} {X : Mch} (h : Eng w lo E X) (hb : Below w.heap.size w w') : Eng w' lo E X := by
 obtain ⟨A, c, A2, d, M, q, e0, L, lc, T, tc, Bc, dc, B, hi, hs, km, f0, f1, l0, l1, t0, t1, p0, p1, hP⟩ := h
 exact ⟨A, c, A2, d, M, q, e0, L, lc, T, tc, Bc, dc, B, hi, hs, km, f0, f1, l0, l1, t0, t1, p0, p1, hP.below hb⟩
end Go.Proofs.YtimhnkpccbcohaaGreatDoor
