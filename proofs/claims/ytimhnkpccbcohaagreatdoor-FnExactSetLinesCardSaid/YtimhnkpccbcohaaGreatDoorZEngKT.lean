/-
 cast of an engine by contract. Conditions: a line of at most 120 that is set of the font, at most 240 wait, at most 60 bands are spare; errNoItems, errLoose, errTooMany read as laid.
-/
import Derived.Test.YtimhnkpccbcohaaGreatDoorZEngIT
import Derived.Test.YtimhnkpccbcohaaGreatDoorZCntMagG
namespace Go.Proofs.YtimhnkpccbcohaaGreatDoor
open Go.RowKit Go.Conc
set_option linter.unusedVariables false
set_option linter.unusedSimpArgs false

/-- the engine, its machine's parts apart from the row v -/
def EngAT (w : World) (lo E : Nat) (X : Mch) (v : Value) : Prop := ∃ A c A2 d M q e0 L lc T tc Bc dc B hi hs km f0 f1 l0 l1 t0 t1 p0 p1, EngT w lo E X A c A2 d M q e0 L lc T tc Bc dc B hi hs km f0 f1 l0 l1 t0 t1 p0 p1 ∧ ∀ g, v.ownBlock = some g → E < g ∧ Off f0 f1 g (g + 1) ∧ Off l0 l1 g (g + 1) ∧ Off t0 t1 g (g + 1)
set_option maxRecDepth 100000 in
set_option maxHeartbeats 6400000 in
theorem castE_no (lo E : Nat) (X : Mch) (rag : Bool) (w : World) (h : EngX w lo E X) (hln : X.ln.length ≤ 120) (hset : ∀ x ∈ X.ln, bandM x = true ∨ (0 ≤ x.1 ∧ x.1.toNat < X.f.ws.length)) (a1 a2 : Addr) (ca1 ca2 : Array Value) (ta1 ta2 : TypeId) (hne : a1 ≠ a2) (hb1 : w.heap[a1.block]? = some (.cells ca1 ta1 (0, 0))) (hb2 : w.heap[a2.block]? = some (.cells ca2 ta2 (0, 0))) (hg1 : w.cell? ⟨3, 0, none⟩ = some (.iface 192 (.pointer (some a1)))) (hg2 : w.cell? ⟨1, 0, none⟩ = some (.iface 192 (.pointer (some a2)))) (hgo : castGo X rag = false) :
  Calls Tryz.prog 56 #[.pointer (some ⟨E, 0, none⟩), .bool rag] w fun e w' => (∃ a, e = .returned (.tuple #[.string ⟨#[]⟩, .slice none 0 0, .iface 192 (.pointer (some a))])) ∧ Below w.heap.size w w' := by
 have HGO := Lib.hid hgo
 clear hgo
 have HE := Lib.hid h; have HLN0 := Lib.hid hln; have HSET0 := Lib.hid hset
 obtain ⟨A, c, A2, d, M, q, e0, L, lc, T, tc, Bc, dc, B, hi, hs, km, f0, f1, l0, l1, t0, t1, p0, p1, hP⟩ := h
 obtain ⟨hBh, hEw⟩ := hP.at_
 have hlow := hP.low; have htop := hP.top; have hkm := hP.o3; have hkE := hP.o4
 obtain ⟨w0, hw0⟩ : ∃ x, w = x := ⟨_, rfl⟩
 obtain ⟨l, hl⟩ : ∃ y, X.ln.length = y := ⟨_, rfl⟩
 have hfont := hP.font.font
 have hline := hP.line
 have hblk := hP.blk
 have hLT := hP.lineT
 rw [hl] at hln hline hblk hLT
 have HL := Lib.hid hl; have HSET := Lib.hid hset
 clear hl hset
 have P0 : Hid (EngT w0 lo E X A c A2 d M q e0 L lc T tc Bc dc B hi hs km f0 f1 l0 l1 t0 t1 p0 p1) := by rw [← hw0]; exact hP
 clear hP
 have T0 : Hid (Below w0.heap.size w0 w0) := Below.refl _ _
 have V0 : Hid (FontV w0 f0 f1 (.agg #[.string X.f.s, .slice A X.f.ws.length c, .slice A2 X.f.cs.length d]) X.f) := by rw [← hw0]; exact hfont
 have L0 : Hid (OwnM w0 l0 (.slice L l lc) X.ln) := by rw [← hw0]; exact hline
 have G0 : Hid (Blk w0 E #[.string X.f.s, .slice A X.f.ws.length c, .slice A2 X.f.cs.length d, .slice M q e0, .int .i64 X.sp, .int .i64 X.w, .int .i64 X.t, .int .i64 X.k, .slice L l lc, .slice T X.wt.length tc, .slice Bc X.f.cs.length dc, .slice (some ⟨B, 0, none⟩) X.ms.length X.ms.length, .map (some km)] 118) := by show Blk _ _ _ _; rw [← hw0]; exact hblk
 clear hfont hline hblk
 rw [hw0]
 rw [hw0] at htop hEw hg1 hg2 HE hb1 hb2
 have C10 : Hid (w0.cell? ⟨3, 0, none⟩ = some (.iface 192 (.pointer (some a1)))) := hg1
 have C20 : Hid (w0.cell? ⟨1, 0, none⟩ = some (.iface 192 (.pointer (some a2)))) := hg2
 have B10 : Hid ((w0).heap[a1.block]? = some (.cells ca1 ta1 (0, 0))) := hb1
 have B20 : Hid ((w0).heap[a2.block]? = some (.cells ca2 ta2 (0, 0))) := hb2
 have H0 : Hid (EngX w0 lo E X) := HE.out
 clear hg1 hg2 HE hb1 hb2
 go_enter Tryz.func56, Tryz.ntmps56
 go_wp2_with fail
 refine (readyT_any lo E X w0 H0.out HLN0.out HSET0.out 192 192 (.pointer (some a1)) (.pointer (some a2)) C10.out C20.out).mono ?_
 rintro e w1 ⟨rfl, hb1⟩
 have P1 := Lib.hid (P0.out.below hb1)
 have T1 := Lib.hid (T0.out.trans (hb1.mono (by omega)))
 have V1 := Lib.hid (V0.out.below (by omega) hb1)
 have L1 := Lib.hid (L0.out.below hb1)
 have G1 := Lib.hid (G0.out.below hb1 (by omega))
 have C11 := Lib.hid ((hb1.cell (World.block_lt_of_cell? _ _ C10.out)).trans C10.out)
 have C21 := Lib.hid ((hb1.cell (World.block_lt_of_cell? _ _ C20.out)).trans C20.out)
 have B11 := Lib.hid ((hb1.block a1.block (Array.getElem?_eq_some_iff.1 B10.out).1).trans B10.out)
 have B21 := Lib.hid ((hb1.block a2.block (Array.getElem?_eq_some_iff.1 B20.out).1).trans B20.out)
 have H1 : Hid (EngX w1 lo E X) := EngX.below H0.out hb1
 have sz1 : w0.heap.size ≤ w1.heap.size := hb1.size
 clear P0 T0 V0 L0 G0 C10 C20 B10 B20 H0
 by_cases hz : l = 0
 ·have hr : readyE X (.iface 192 (.pointer (some a1))) (.iface 192 (.pointer (some a2))) = .iface 192 (.pointer (some a1)) := by unfold readyE; rw [if_pos (by rw [HL.out]; exact hz)]
  rw [hr]
  clear hr hz
  have k2 := C21.out
  cases rag
  ·go_wp2
   go_ret3
   exact ⟨⟨_, rfl⟩, T1.out⟩
  ·go_wp2_with (go_at_call 85; refine (is_other a1 a2 ca1 ca2 ta1 ta2 _ hne B11.out B21.out).mono ?_; rintro e w' ⟨rfl, hwq⟩; rw [hwq]; clear hwq)
   go_ret3
   exact ⟨⟨_, rfl⟩, T1.out⟩
 ·have hf : fullB ⟨X.w, X.t, X.k⟩ (itemsM X.f X.ln) = false ∧ rag = false := by have h9 := HGO.out; unfold castGo at h9; rw [HL.out] at h9; have hz9 : (l == 0) = false := (by simpa using hz); rw [hz9] at h9; cases rag <;> simp_all
  obtain ⟨hf1, rfl⟩ := hf
  have hr : readyE X (.iface 192 (.pointer (some a1))) (.iface 192 (.pointer (some a2))) = .iface 192 (.pointer (some a2)) := by unfold readyE; rw [if_neg (by rw [HL.out]; exact hz), hf1]; rfl
  rw [hr]
  clear hr hz hf1
  have k2 := C21.out
  go_wp2
  go_ret3
  exact ⟨⟨_, rfl⟩, T1.out⟩
set_option maxRecDepth 100000 in
set_option maxHeartbeats 12800000 in
theorem castR_go (lo E : Nat) (X : Mch) (rag : Bool) (w : World) {A : Option Addr} {c : Nat} {A2 : Option Addr} {d : Nat} {M : Option Addr} {q e0 : Nat} {L : Option Addr} {lc : Nat} {T : Option Addr} {tc : Nat} {Bc : Option Addr} {dc B hi : Nat} {hs : List (Option Nat)} {km f0 f1 l0 l1 t0 t1 p0 p1 : Nat} (hP : EngT w lo E X A c A2 d M q e0 L lc T tc Bc dc B hi hs km f0 f1 l0 l1 t0 t1 p0 p1) (hln : X.ln.length ≤ 120) (hset : ∀ x ∈ X.ln, bandM x = true ∨ (0 ≤ x.1 ∧ x.1.toNat < X.f.ws.length)) (a1 a2 : Addr) (ca1 ca2 : Array Value) (ta1 ta2 : TypeId) (hne : a1 ≠ a2) (hb1 : w.heap[a1.block]? = some (.cells ca1 ta1 (0, 0))) (hb2 : w.heap[a2.block]? = some (.cells ca2 ta2 (0, 0))) (hg1 : w.cell? ⟨3, 0, none⟩ = some (.iface 192 (.pointer (some a1)))) (hg2 : w.cell? ⟨1, 0, none⟩ = some (.iface 192 (.pointer (some a2)))) (hwt : X.wt.length ≤ 240) (hsp0 : 0 ≤ X.sp) (hsp1 : X.sp ≤ 60) (hset2 : ∀ x ∈ X.ln, bandM x = true ∨ (0 ≤ x.1 ∧ x.1.toNat < X.f.s.size)) (ct : TypeId) (cu : Value) (hg3 : w.cell? ⟨4, 0, none⟩ = some (.iface ct cu)) (hglo : 4 < lo) (hgo : castGo X rag = true) :
  Calls Tryz.prog 56 #[.pointer (some ⟨E, 0, none⟩), .bool rag] w fun e w' => ∃ v, e = .returned (.tuple #[.string (txt X.f X.ln), v, clearE X ct cu]) ∧ (∃ (T2 : Option Addr) (tc2 u0 u1 : Nat), EngT w' lo E (clearX X) A c A2 d M q e0 none 0 T2 tc2 Bc dc B hi hs km f0 f1 l0 l1 u0 u1 p0 p1 ∧ ((u0 = t0 ∧ u1 = t1) ∨ w.heap.size ≤ u0)) ∧ Below lo w w' ∧ Beyond E t0 t1 w w' := by
 have HGO := Lib.hid hgo; have HSET2 := Lib.hid hset2
 clear hgo hset2
 have HE := Lib.hid hP.engx; have HLN0 := Lib.hid hln; have HSET0 := Lib.hid hset
 obtain ⟨hBh, hEw⟩ := hP.at_
 have hlow := hP.low; have htop := hP.top; have hkm := hP.o3; have hkE := hP.o4
 obtain ⟨w0, hw0⟩ : ∃ x, w = x := ⟨_, rfl⟩
 obtain ⟨l, hl⟩ : ∃ y, X.ln.length = y := ⟨_, rfl⟩
 have hfont := hP.font.font
 have hline := hP.line
 have hblk := hP.blk
 have hLT := hP.lineT
 rw [hl] at hln hline hblk hLT
 have HL := Lib.hid hl; have HSET := Lib.hid hset
 clear hl hset
 have P0 : Hid (EngT w0 lo E X A c A2 d M q e0 L lc T tc Bc dc B hi hs km f0 f1 l0 l1 t0 t1 p0 p1) := by rw [← hw0]; exact hP
 clear hP
 have T0 : Hid (Below w0.heap.size w0 w0) := Below.refl _ _
 have V0 : Hid (FontV w0 f0 f1 (.agg #[.string X.f.s, .slice A X.f.ws.length c, .slice A2 X.f.cs.length d]) X.f) := by rw [← hw0]; exact hfont
 have L0 : Hid (OwnM w0 l0 (.slice L l lc) X.ln) := by rw [← hw0]; exact hline
 have G0 : Hid (Blk w0 E #[.string X.f.s, .slice A X.f.ws.length c, .slice A2 X.f.cs.length d, .slice M q e0, .int .i64 X.sp, .int .i64 X.w, .int .i64 X.t, .int .i64 X.k, .slice L l lc, .slice T X.wt.length tc, .slice Bc X.f.cs.length dc, .slice (some ⟨B, 0, none⟩) X.ms.length X.ms.length, .map (some km)] 118) := by show Blk _ _ _ _; rw [← hw0]; exact hblk
 clear hfont hline hblk
 rw [hw0]
 rw [hw0] at htop hEw hg1 hg2 HE hb1 hb2
 have C10 : Hid (w0.cell? ⟨3, 0, none⟩ = some (.iface 192 (.pointer (some a1)))) := hg1
 have C20 : Hid (w0.cell? ⟨1, 0, none⟩ = some (.iface 192 (.pointer (some a2)))) := hg2
 have B10 : Hid ((w0).heap[a1.block]? = some (.cells ca1 ta1 (0, 0))) := hb1
 have B20 : Hid ((w0).heap[a2.block]? = some (.cells ca2 ta2 (0, 0))) := hb2
 have H0 : Hid (EngX w0 lo E X) := HE.out
 clear hg1 hg2 HE hb1 hb2
 rw [hw0] at hg3
 have C30 : Hid (w0.cell? ⟨4, 0, none⟩ = some (.iface ct cu)) := hg3
 clear hg3
 go_enter Tryz.func56, Tryz.ntmps56
 go_wp2_with fail
 refine (readyT_any lo E X w0 H0.out HLN0.out HSET0.out 192 192 (.pointer (some a1)) (.pointer (some a2)) C10.out C20.out).mono ?_
 rintro e w1 ⟨rfl, hb1⟩
 have P1 := Lib.hid (P0.out.below hb1)
 have T1 := Lib.hid (T0.out.trans (hb1.mono (by omega)))
 have V1 := Lib.hid (V0.out.below (by omega) hb1)
 have L1 := Lib.hid (L0.out.below hb1)
 have G1 := Lib.hid (G0.out.below hb1 (by omega))
 have C11 := Lib.hid ((hb1.cell (World.block_lt_of_cell? _ _ C10.out)).trans C10.out)
 have C21 := Lib.hid ((hb1.cell (World.block_lt_of_cell? _ _ C20.out)).trans C20.out)
 have B11 := Lib.hid ((hb1.block a1.block (Array.getElem?_eq_some_iff.1 B10.out).1).trans B10.out)
 have B21 := Lib.hid ((hb1.block a2.block (Array.getElem?_eq_some_iff.1 B20.out).1).trans B20.out)
 have H1 : Hid (EngX w1 lo E X) := EngX.below H0.out hb1
 have C31 := Lib.hid ((hb1.cell (World.block_lt_of_cell? _ _ C30.out)).trans C30.out)
 have sz1 : w0.heap.size ≤ w1.heap.size := hb1.size
 clear P0 T0 V0 L0 G0 C10 C20 B10 B20 H0 C30
 have hz : ¬ l = 0 := by have h9 := HGO.out; unfold castGo at h9; rw [HL.out] at h9; intro e; subst e; simp at h9
 obtain ⟨er, her⟩ : ∃ er, readyE X (.iface 192 (.pointer (some a1))) (.iface 192 (.pointer (some a2))) = er := ⟨_, rfl⟩
 have hcase : er = .nilIface ∨ (er = .iface 192 (.pointer (some a2)) ∧ rag = true) := by
  have h9 := HGO.out
  unfold castGo at h9
  have hz9 : (X.ln.length == 0) = false := by rw [HL.out]; simpa using hz
  rw [hz9] at h9
  rw [← her]
  unfold readyE
  rw [if_neg (by rw [HL.out]; exact hz)]
  cases hf : fullB ⟨X.w, X.t, X.k⟩ (itemsM X.f X.ln)
  ·rw [hf] at h9; right; exact ⟨rfl, by simpa using h9⟩
  ·left; rfl
 rw [her]
 clear her hz
 have k2 := C21.out
 rcases hcase with rfl | ⟨rfl, rfl⟩
 ·go_upto_region 4 with fail
  refine wp_region_plan (.take 0 (.take 1 (.take 2 (.take 3 (.take 4 (.take 5 (.take 6 (.take 7 (.take 8 (.take 9 (.one 10 (.take 11 .done)))))))))))) (fun w' => w'.cell? ⟨E, 0, none⟩ = some (.string X.f.s) ∧ w'.cell? ⟨E, 1, none⟩ = some (.slice A X.f.ws.length c) ∧ w'.cell? ⟨E, 2, none⟩ = some (.slice A2 X.f.cs.length d) ∧ w'.cell? ⟨E, 3, none⟩ = some (.slice M q e0) ∧ w'.cell? ⟨E, 4, none⟩ = some (.int .i64 X.sp) ∧ w'.cell? ⟨E, 5, none⟩ = some (.int .i64 X.w) ∧ w'.cell? ⟨E, 6, none⟩ = some (.int .i64 X.t) ∧ w'.cell? ⟨E, 7, none⟩ = some (.int .i64 X.k) ∧ w'.cell? ⟨E, 8, none⟩ = some (.slice L l lc) ∧ w'.cell? ⟨E, 9, none⟩ = some (.slice T X.wt.length tc) ∧ w'.cell? ⟨E, 10, none⟩ = some (.slice Bc X.f.cs.length dc) ∧ w'.cell? ⟨E, 11, none⟩ = some (.slice (some ⟨B, 0, none⟩) X.ms.length X.ms.length) ∧ w'.cell? ⟨E, 12, none⟩ = some (.map (some km))) (by kernel_rfl) (by kernel_rfl) (by kernel_rfl) (by intro c a d v w h; cases d <;> exact h) ⟨cellOfBlk G1.out 0, cellOfBlk G1.out 1, cellOfBlk G1.out 2, cellOfBlk G1.out 3, cellOfBlk G1.out 4, cellOfBlk G1.out 5, cellOfBlk G1.out 6, cellOfBlk G1.out 7, cellOfBlk G1.out 8, cellOfBlk G1.out 9, cellOfBlk G1.out 10, cellOfBlk G1.out 11, cellOfBlk G1.out 12⟩ ?_
  obtain ⟨w2, hwd⟩ : ∃ x, w1.drew = x := ⟨_, rfl⟩
  have hb2 : Below w1.heap.size w1 w2 := by rw [← hwd]; exact (Below.refl _ _).drew
  have hsz2 : w2.heap.size = w1.heap.size := by rw [← hwd]; rfl
  have P2 := Lib.hid (P1.out.below hb2)
  have T2 := Lib.hid (T1.out.trans (hb2.mono (by omega)))
  have V2 := Lib.hid (V1.out.below (by omega) hb2)
  have L2 := Lib.hid (L1.out.below hb2)
  have G2 := Lib.hid (G1.out.below hb2 (by omega))
  have C12 := Lib.hid ((hb2.cell (World.block_lt_of_cell? _ _ C11.out)).trans C11.out)
  have C22 := Lib.hid ((hb2.cell (World.block_lt_of_cell? _ _ C21.out)).trans C21.out)
  have B12 := Lib.hid ((hb2.block a1.block (Array.getElem?_eq_some_iff.1 B11.out).1).trans B11.out)
  have B22 := Lib.hid ((hb2.block a2.block (Array.getElem?_eq_some_iff.1 B21.out).1).trans B21.out)
  have H2 : Hid (EngX w2 lo E X) := EngX.below H1.out hb2
  have C32 := Lib.hid ((hb2.cell (World.block_lt_of_cell? _ _ C31.out)).trans C31.out)
  have sz2 : w1.heap.size ≤ w2.heap.size := hb2.size
  clear P1 T1 V1 L1 G1 C11 C21 B11 B21 H1 C31
  rw [hwd]
  clear hwd
  iterate 10 (refine plan_quiet rfl (by rfl) (v := ?_) ?_ ?_; rotate_left; (intro w1 hSw; obtain ⟨hs0, hs1, hs2, hs3, hs4, hs5, hs6, hs7, hs8, hs9, hs10, hs11, hs12⟩ := hSw; go_simp; try (with_reducible rfl)); (try simp only [Act.put, List.setIfInBounds_toArray, List.set_cons_zero, List.set_cons_succ]))
  refine plan_step rfl (fun Kc hK => ?_)
  rw [if_pos (by rfl)]
  go_simp
  refine (lineText_any f0 f1 l0 l1 _ X.f L l lc X.ln w2 V2.out (by omega) HL.out (by omega) (MatsI.cutM L2.out hLT) (by omega) HSET2.out).mono ?_
  rintro e w3 ⟨rfl, hb3⟩
  have P3 := Lib.hid (P2.out.below hb3)
  have T3 := Lib.hid (T2.out.trans (hb3.mono (by omega)))
  have V3 := Lib.hid (V2.out.below (by omega) hb3)
  have L3 := Lib.hid (L2.out.below hb3)
  have G3 := Lib.hid (G2.out.below hb3 (by omega))
  have C13 := Lib.hid ((hb3.cell (World.block_lt_of_cell? _ _ C12.out)).trans C12.out)
  have C23 := Lib.hid ((hb3.cell (World.block_lt_of_cell? _ _ C22.out)).trans C22.out)
  have B13 := Lib.hid ((hb3.block a1.block (Array.getElem?_eq_some_iff.1 B12.out).1).trans B12.out)
  have B23 := Lib.hid ((hb3.block a2.block (Array.getElem?_eq_some_iff.1 B22.out).1).trans B22.out)
  have H3 : Hid (EngX w3 lo E X) := EngX.below H2.out hb3
  have C33 := Lib.hid ((hb3.cell (World.block_lt_of_cell? _ _ C32.out)).trans C32.out)
  have sz3 : w2.heap.size ≤ w3.heap.size := hb3.size
  clear P2 T2 V2 L2 G2 C12 C22 B12 B22 H2 C32
  refine hK.out _ _ ⟨cellOfBlk G3.out 0, cellOfBlk G3.out 1, cellOfBlk G3.out 2, cellOfBlk G3.out 3, cellOfBlk G3.out 4, cellOfBlk G3.out 5, cellOfBlk G3.out 6, cellOfBlk G3.out 7, cellOfBlk G3.out 8, cellOfBlk G3.out 9, cellOfBlk G3.out 10, cellOfBlk G3.out 11, cellOfBlk G3.out 12⟩ ?_
  clear hK Kc
  refine plan_quiet rfl (by rfl) (v := ?_) ?_ ?_; rotate_left; (intro w1 hSw; obtain ⟨hs0, hs1, hs2, hs3, hs4, hs5, hs6, hs7, hs8, hs9, hs10, hs11, hs12⟩ := hSw; go_simp; try (with_reducible rfl)); (try simp only [Act.put, List.setIfInBounds_toArray, List.set_cons_zero, List.set_cons_succ])
  refine plan_end ?_
  go_upto_region 5 with fail
  refine wp_region_plan (.take 0 (.take 1 (.take 2 (.take 3 (.take 4 (.take 5 (.one 6 (.one 7 (.take 8 .done))))))))) (fun w' => w'.cell? ⟨E, 0, none⟩ = some (.string X.f.s) ∧ w'.cell? ⟨E, 1, none⟩ = some (.slice A X.f.ws.length c) ∧ w'.cell? ⟨E, 2, none⟩ = some (.slice A2 X.f.cs.length d) ∧ w'.cell? ⟨E, 3, none⟩ = some (.slice M q e0) ∧ w'.cell? ⟨E, 4, none⟩ = some (.int .i64 X.sp) ∧ w'.cell? ⟨E, 5, none⟩ = some (.int .i64 X.w) ∧ w'.cell? ⟨E, 6, none⟩ = some (.int .i64 X.t) ∧ w'.cell? ⟨E, 7, none⟩ = some (.int .i64 X.k) ∧ w'.cell? ⟨E, 8, none⟩ = some (.slice L l lc) ∧ w'.cell? ⟨E, 9, none⟩ = some (.slice T X.wt.length tc) ∧ w'.cell? ⟨E, 10, none⟩ = some (.slice Bc X.f.cs.length dc) ∧ w'.cell? ⟨E, 11, none⟩ = some (.slice (some ⟨B, 0, none⟩) X.ms.length X.ms.length) ∧ w'.cell? ⟨E, 12, none⟩ = some (.map (some km))) (by kernel_rfl) (by kernel_rfl) (by kernel_rfl) (by intro c a d v w h; cases d <;> exact h) ⟨cellOfBlk G3.out 0, cellOfBlk G3.out 1, cellOfBlk G3.out 2, cellOfBlk G3.out 3, cellOfBlk G3.out 4, cellOfBlk G3.out 5, cellOfBlk G3.out 6, cellOfBlk G3.out 7, cellOfBlk G3.out 8, cellOfBlk G3.out 9, cellOfBlk G3.out 10, cellOfBlk G3.out 11, cellOfBlk G3.out 12⟩ ?_
  obtain ⟨w4, hwd⟩ : ∃ x, w3.drew = x := ⟨_, rfl⟩
  have hb4 : Below w3.heap.size w3 w4 := by rw [← hwd]; exact (Below.refl _ _).drew
  have hsz4 : w4.heap.size = w3.heap.size := by rw [← hwd]; rfl
  have P4 := Lib.hid (P3.out.below hb4)
  have T4 := Lib.hid (T3.out.trans (hb4.mono (by omega)))
  have V4 := Lib.hid (V3.out.below (by omega) hb4)
  have L4 := Lib.hid (L3.out.below hb4)
  have G4 := Lib.hid (G3.out.below hb4 (by omega))
  have C14 := Lib.hid ((hb4.cell (World.block_lt_of_cell? _ _ C13.out)).trans C13.out)
  have C24 := Lib.hid ((hb4.cell (World.block_lt_of_cell? _ _ C23.out)).trans C23.out)
  have B14 := Lib.hid ((hb4.block a1.block (Array.getElem?_eq_some_iff.1 B13.out).1).trans B13.out)
  have B24 := Lib.hid ((hb4.block a2.block (Array.getElem?_eq_some_iff.1 B23.out).1).trans B23.out)
  have H4 : Hid (EngX w4 lo E X) := EngX.below H3.out hb4
  have C34 := Lib.hid ((hb4.cell (World.block_lt_of_cell? _ _ C33.out)).trans C33.out)
  have sz4 : w3.heap.size ≤ w4.heap.size := hb4.size
  clear P3 T3 V3 L3 G3 C13 C23 B13 B23 H3 C33
  rw [hwd]
  clear hwd
  iterate 6 (refine plan_quiet rfl (by rfl) (v := ?_) ?_ ?_; rotate_left; (intro w1 hSw; obtain ⟨hs0, hs1, hs2, hs3, hs4, hs5, hs6, hs7, hs8, hs9, hs10, hs11, hs12⟩ := hSw; go_simp; try (with_reducible rfl)); (try simp only [Act.put, List.setIfInBounds_toArray, List.set_cons_zero, List.set_cons_succ]))
  refine plan_step rfl (fun Kc hK => ?_)
  rw [if_pos (by rfl)]
  go_simp
  refine (itemsT_any lo E X w4 H4.out HLN0.out HSET0.out).mono ?_
  rintro e w5 ⟨u, rfl, hO, hb5⟩
  obtain ⟨A5, c5, rfl, hI5, -, hc5, hcm5⟩ := hO.form
  obtain ⟨n5, hn5⟩ : ∃ y, (itemsM X.f X.ln).length = y := ⟨_, rfl⟩
  rw [hn5] at hc5 ⊢
  have HN5 := Lib.hid hn5
  clear hn5
  have P5 := Lib.hid (P4.out.below hb5)
  have T5 := Lib.hid (T4.out.trans (hb5.mono (by omega)))
  have V5 := Lib.hid (V4.out.below (by omega) hb5)
  have L5 := Lib.hid (L4.out.below hb5)
  have G5 := Lib.hid (G4.out.below hb5 (by omega))
  have C15 := Lib.hid ((hb5.cell (World.block_lt_of_cell? _ _ C14.out)).trans C14.out)
  have C25 := Lib.hid ((hb5.cell (World.block_lt_of_cell? _ _ C24.out)).trans C24.out)
  have B15 := Lib.hid ((hb5.block a1.block (Array.getElem?_eq_some_iff.1 B14.out).1).trans B14.out)
  have B25 := Lib.hid ((hb5.block a2.block (Array.getElem?_eq_some_iff.1 B24.out).1).trans B24.out)
  have H5 : Hid (EngX w5 lo E X) := EngX.below H4.out hb5
  have C35 := Lib.hid ((hb5.cell (World.block_lt_of_cell? _ _ C34.out)).trans C34.out)
  have sz5 : w4.heap.size ≤ w5.heap.size := hb5.size
  clear P4 T4 V4 L4 G4 C14 C24 B14 B24 H4 C34
  have I5 : Hid (Ints w5 A5 (itemsM X.f X.ln)) := hI5
  clear hO hI5
  refine hK.out _ _ ⟨cellOfBlk G5.out 0, cellOfBlk G5.out 1, cellOfBlk G5.out 2, cellOfBlk G5.out 3, cellOfBlk G5.out 4, cellOfBlk G5.out 5, cellOfBlk G5.out 6, cellOfBlk G5.out 7, cellOfBlk G5.out 8, cellOfBlk G5.out 9, cellOfBlk G5.out 10, cellOfBlk G5.out 11, cellOfBlk G5.out 12⟩ ?_
  clear hK Kc
  refine plan_step rfl (fun Kc hK => ?_)
  rw [if_pos (by rfl)]
  go_simp
  refine (implPlaces_any X.w X.t X.k A5 n5 c5 (itemsM X.f X.ln) w5 HN5.out (by omega) I5.out).mono ?_
  rintro e w6 ⟨vp, rfl, hO, hb6⟩
  have P6 := Lib.hid (P5.out.below hb6)
  have T6 := Lib.hid (T5.out.trans (hb6.mono (by omega)))
  have V6 := Lib.hid (V5.out.below (by omega) hb6)
  have L6 := Lib.hid (L5.out.below hb6)
  have G6 := Lib.hid (G5.out.below hb6 (by omega))
  have C16 := Lib.hid ((hb6.cell (World.block_lt_of_cell? _ _ C15.out)).trans C15.out)
  have C26 := Lib.hid ((hb6.cell (World.block_lt_of_cell? _ _ C25.out)).trans C25.out)
  have B16 := Lib.hid ((hb6.block a1.block (Array.getElem?_eq_some_iff.1 B15.out).1).trans B15.out)
  have B26 := Lib.hid ((hb6.block a2.block (Array.getElem?_eq_some_iff.1 B25.out).1).trans B25.out)
  have H6 : Hid (EngX w6 lo E X) := EngX.below H5.out hb6
  have C36 := Lib.hid ((hb6.cell (World.block_lt_of_cell? _ _ C35.out)).trans C35.out)
  have I6 := Lib.hid (I5.out.below hb6)
  have sz6 : w5.heap.size ≤ w6.heap.size := hb6.size
  clear P5 T5 V5 L5 G5 C15 C25 B15 B25 H5 C35 I5
  have O6 : Hid (Own w6 w5.heap.size vp (placesL ⟨X.w, X.t, X.k⟩ (itemsM X.f X.ln))) := hO
  clear hO
  refine hK.out _ _ ⟨cellOfBlk G6.out 0, cellOfBlk G6.out 1, cellOfBlk G6.out 2, cellOfBlk G6.out 3, cellOfBlk G6.out 4, cellOfBlk G6.out 5, cellOfBlk G6.out 6, cellOfBlk G6.out 7, cellOfBlk G6.out 8, cellOfBlk G6.out 9, cellOfBlk G6.out 10, cellOfBlk G6.out 11, cellOfBlk G6.out 12⟩ ?_
  clear hK Kc
  refine plan_quiet rfl (by rfl) (v := ?_) ?_ ?_; rotate_left; (intro w1 hSw; obtain ⟨hs0, hs1, hs2, hs3, hs4, hs5, hs6, hs7, hs8, hs9, hs10, hs11, hs12⟩ := hSw; go_simp; try (with_reducible rfl)); (try simp only [Act.put, List.setIfInBounds_toArray, List.set_cons_zero, List.set_cons_succ])
  refine plan_end ?_
  go_wp2_with fail
  refine (clearT_any lo E X w6 P6.out HLN0.out hwt hsp0 hsp1 ct cu C36.out hglo).mono ?_
  rintro e w7 ⟨rfl, ⟨T9, tc9, v0, v1, hEn, hU9⟩, hbl, hby⟩
  go_wp2
  go_ret3
  exact ⟨vp, rfl, ⟨T9, tc9, v0, v1, hEn, by rcases hU9 with h9 | h9; exact .inl h9; exact .inr (by omega)⟩, (T6.out.mono (by omega)).trans hbl, fun k h1 h2 h3 => (hby k (by omega) h2 h3).trans (T6.out.block k (by omega))⟩
 ·go_upto_region 4 with (go_at_call 85; refine (is_same a2 _).mono ?_; rintro e w' ⟨rfl, hwq⟩; rw [hwq]; clear hwq)
  refine wp_region_plan (.take 0 (.take 1 (.take 2 (.take 3 (.take 4 (.take 5 (.take 6 (.take 7 (.take 8 (.take 9 (.one 10 (.take 11 .done)))))))))))) (fun w' => w'.cell? ⟨E, 0, none⟩ = some (.string X.f.s) ∧ w'.cell? ⟨E, 1, none⟩ = some (.slice A X.f.ws.length c) ∧ w'.cell? ⟨E, 2, none⟩ = some (.slice A2 X.f.cs.length d) ∧ w'.cell? ⟨E, 3, none⟩ = some (.slice M q e0) ∧ w'.cell? ⟨E, 4, none⟩ = some (.int .i64 X.sp) ∧ w'.cell? ⟨E, 5, none⟩ = some (.int .i64 X.w) ∧ w'.cell? ⟨E, 6, none⟩ = some (.int .i64 X.t) ∧ w'.cell? ⟨E, 7, none⟩ = some (.int .i64 X.k) ∧ w'.cell? ⟨E, 8, none⟩ = some (.slice L l lc) ∧ w'.cell? ⟨E, 9, none⟩ = some (.slice T X.wt.length tc) ∧ w'.cell? ⟨E, 10, none⟩ = some (.slice Bc X.f.cs.length dc) ∧ w'.cell? ⟨E, 11, none⟩ = some (.slice (some ⟨B, 0, none⟩) X.ms.length X.ms.length) ∧ w'.cell? ⟨E, 12, none⟩ = some (.map (some km))) (by kernel_rfl) (by kernel_rfl) (by kernel_rfl) (by intro c a d v w h; cases d <;> exact h) ⟨cellOfBlk G1.out 0, cellOfBlk G1.out 1, cellOfBlk G1.out 2, cellOfBlk G1.out 3, cellOfBlk G1.out 4, cellOfBlk G1.out 5, cellOfBlk G1.out 6, cellOfBlk G1.out 7, cellOfBlk G1.out 8, cellOfBlk G1.out 9, cellOfBlk G1.out 10, cellOfBlk G1.out 11, cellOfBlk G1.out 12⟩ ?_
  obtain ⟨w2, hwd⟩ : ∃ x, w1.drew = x := ⟨_, rfl⟩
  have hb2 : Below w1.heap.size w1 w2 := by rw [← hwd]; exact (Below.refl _ _).drew
  have hsz2 : w2.heap.size = w1.heap.size := by rw [← hwd]; rfl
  have P2 := Lib.hid (P1.out.below hb2)
  have T2 := Lib.hid (T1.out.trans (hb2.mono (by omega)))
  have V2 := Lib.hid (V1.out.below (by omega) hb2)
  have L2 := Lib.hid (L1.out.below hb2)
  have G2 := Lib.hid (G1.out.below hb2 (by omega))
  have C12 := Lib.hid ((hb2.cell (World.block_lt_of_cell? _ _ C11.out)).trans C11.out)
  have C22 := Lib.hid ((hb2.cell (World.block_lt_of_cell? _ _ C21.out)).trans C21.out)
  have B12 := Lib.hid ((hb2.block a1.block (Array.getElem?_eq_some_iff.1 B11.out).1).trans B11.out)
  have B22 := Lib.hid ((hb2.block a2.block (Array.getElem?_eq_some_iff.1 B21.out).1).trans B21.out)
  have H2 : Hid (EngX w2 lo E X) := EngX.below H1.out hb2
  have C32 := Lib.hid ((hb2.cell (World.block_lt_of_cell? _ _ C31.out)).trans C31.out)
  have sz2 : w1.heap.size ≤ w2.heap.size := hb2.size
  clear P1 T1 V1 L1 G1 C11 C21 B11 B21 H1 C31
  rw [hwd]
  clear hwd
  iterate 10 (refine plan_quiet rfl (by rfl) (v := ?_) ?_ ?_; rotate_left; (intro w1 hSw; obtain ⟨hs0, hs1, hs2, hs3, hs4, hs5, hs6, hs7, hs8, hs9, hs10, hs11, hs12⟩ := hSw; go_simp; try (with_reducible rfl)); (try simp only [Act.put, List.setIfInBounds_toArray, List.set_cons_zero, List.set_cons_succ]))
  refine plan_step rfl (fun Kc hK => ?_)
  rw [if_pos (by rfl)]
  go_simp
  refine (lineText_any f0 f1 l0 l1 _ X.f L l lc X.ln w2 V2.out (by omega) HL.out (by omega) (MatsI.cutM L2.out hLT) (by omega) HSET2.out).mono ?_
  rintro e w3 ⟨rfl, hb3⟩
  have P3 := Lib.hid (P2.out.below hb3)
  have T3 := Lib.hid (T2.out.trans (hb3.mono (by omega)))
  have V3 := Lib.hid (V2.out.below (by omega) hb3)
  have L3 := Lib.hid (L2.out.below hb3)
  have G3 := Lib.hid (G2.out.below hb3 (by omega))
  have C13 := Lib.hid ((hb3.cell (World.block_lt_of_cell? _ _ C12.out)).trans C12.out)
  have C23 := Lib.hid ((hb3.cell (World.block_lt_of_cell? _ _ C22.out)).trans C22.out)
  have B13 := Lib.hid ((hb3.block a1.block (Array.getElem?_eq_some_iff.1 B12.out).1).trans B12.out)
  have B23 := Lib.hid ((hb3.block a2.block (Array.getElem?_eq_some_iff.1 B22.out).1).trans B22.out)
  have H3 : Hid (EngX w3 lo E X) := EngX.below H2.out hb3
  have C33 := Lib.hid ((hb3.cell (World.block_lt_of_cell? _ _ C32.out)).trans C32.out)
  have sz3 : w2.heap.size ≤ w3.heap.size := hb3.size
  clear P2 T2 V2 L2 G2 C12 C22 B12 B22 H2 C32
  refine hK.out _ _ ⟨cellOfBlk G3.out 0, cellOfBlk G3.out 1, cellOfBlk G3.out 2, cellOfBlk G3.out 3, cellOfBlk G3.out 4, cellOfBlk G3.out 5, cellOfBlk G3.out 6, cellOfBlk G3.out 7, cellOfBlk G3.out 8, cellOfBlk G3.out 9, cellOfBlk G3.out 10, cellOfBlk G3.out 11, cellOfBlk G3.out 12⟩ ?_
  clear hK Kc
  refine plan_quiet rfl (by rfl) (v := ?_) ?_ ?_; rotate_left; (intro w1 hSw; obtain ⟨hs0, hs1, hs2, hs3, hs4, hs5, hs6, hs7, hs8, hs9, hs10, hs11, hs12⟩ := hSw; go_simp; try (with_reducible rfl)); (try simp only [Act.put, List.setIfInBounds_toArray, List.set_cons_zero, List.set_cons_succ])
  refine plan_end ?_
  go_upto_region 5 with fail
  refine wp_region_plan (.take 0 (.take 1 (.take 2 (.take 3 (.take 4 (.take 5 (.one 6 (.one 7 (.take 8 .done))))))))) (fun w' => w'.cell? ⟨E, 0, none⟩ = some (.string X.f.s) ∧ w'.cell? ⟨E, 1, none⟩ = some (.slice A X.f.ws.length c) ∧ w'.cell? ⟨E, 2, none⟩ = some (.slice A2 X.f.cs.length d) ∧ w'.cell? ⟨E, 3, none⟩ = some (.slice M q e0) ∧ w'.cell? ⟨E, 4, none⟩ = some (.int .i64 X.sp) ∧ w'.cell? ⟨E, 5, none⟩ = some (.int .i64 X.w) ∧ w'.cell? ⟨E, 6, none⟩ = some (.int .i64 X.t) ∧ w'.cell? ⟨E, 7, none⟩ = some (.int .i64 X.k) ∧ w'.cell? ⟨E, 8, none⟩ = some (.slice L l lc) ∧ w'.cell? ⟨E, 9, none⟩ = some (.slice T X.wt.length tc) ∧ w'.cell? ⟨E, 10, none⟩ = some (.slice Bc X.f.cs.length dc) ∧ w'.cell? ⟨E, 11, none⟩ = some (.slice (some ⟨B, 0, none⟩) X.ms.length X.ms.length) ∧ w'.cell? ⟨E, 12, none⟩ = some (.map (some km))) (by kernel_rfl) (by kernel_rfl) (by kernel_rfl) (by intro c a d v w h; cases d <;> exact h) ⟨cellOfBlk G3.out 0, cellOfBlk G3.out 1, cellOfBlk G3.out 2, cellOfBlk G3.out 3, cellOfBlk G3.out 4, cellOfBlk G3.out 5, cellOfBlk G3.out 6, cellOfBlk G3.out 7, cellOfBlk G3.out 8, cellOfBlk G3.out 9, cellOfBlk G3.out 10, cellOfBlk G3.out 11, cellOfBlk G3.out 12⟩ ?_
  obtain ⟨w4, hwd⟩ : ∃ x, w3.drew = x := ⟨_, rfl⟩
  have hb4 : Below w3.heap.size w3 w4 := by rw [← hwd]; exact (Below.refl _ _).drew
  have hsz4 : w4.heap.size = w3.heap.size := by rw [← hwd]; rfl
  have P4 := Lib.hid (P3.out.below hb4)
  have T4 := Lib.hid (T3.out.trans (hb4.mono (by omega)))
  have V4 := Lib.hid (V3.out.below (by omega) hb4)
  have L4 := Lib.hid (L3.out.below hb4)
  have G4 := Lib.hid (G3.out.below hb4 (by omega))
  have C14 := Lib.hid ((hb4.cell (World.block_lt_of_cell? _ _ C13.out)).trans C13.out)
  have C24 := Lib.hid ((hb4.cell (World.block_lt_of_cell? _ _ C23.out)).trans C23.out)
  have B14 := Lib.hid ((hb4.block a1.block (Array.getElem?_eq_some_iff.1 B13.out).1).trans B13.out)
  have B24 := Lib.hid ((hb4.block a2.block (Array.getElem?_eq_some_iff.1 B23.out).1).trans B23.out)
  have H4 : Hid (EngX w4 lo E X) := EngX.below H3.out hb4
  have C34 := Lib.hid ((hb4.cell (World.block_lt_of_cell? _ _ C33.out)).trans C33.out)
  have sz4 : w3.heap.size ≤ w4.heap.size := hb4.size
  clear P3 T3 V3 L3 G3 C13 C23 B13 B23 H3 C33
  rw [hwd]
  clear hwd
  iterate 6 (refine plan_quiet rfl (by rfl) (v := ?_) ?_ ?_; rotate_left; (intro w1 hSw; obtain ⟨hs0, hs1, hs2, hs3, hs4, hs5, hs6, hs7, hs8, hs9, hs10, hs11, hs12⟩ := hSw; go_simp; try (with_reducible rfl)); (try simp only [Act.put, List.setIfInBounds_toArray, List.set_cons_zero, List.set_cons_succ]))
  refine plan_step rfl (fun Kc hK => ?_)
  rw [if_pos (by rfl)]
  go_simp
  refine (itemsT_any lo E X w4 H4.out HLN0.out HSET0.out).mono ?_
  rintro e w5 ⟨u, rfl, hO, hb5⟩
  obtain ⟨A5, c5, rfl, hI5, -, hc5, hcm5⟩ := hO.form
  obtain ⟨n5, hn5⟩ : ∃ y, (itemsM X.f X.ln).length = y := ⟨_, rfl⟩
  rw [hn5] at hc5 ⊢
  have HN5 := Lib.hid hn5
  clear hn5
  have P5 := Lib.hid (P4.out.below hb5)
  have T5 := Lib.hid (T4.out.trans (hb5.mono (by omega)))
  have V5 := Lib.hid (V4.out.below (by omega) hb5)
  have L5 := Lib.hid (L4.out.below hb5)
  have G5 := Lib.hid (G4.out.below hb5 (by omega))
  have C15 := Lib.hid ((hb5.cell (World.block_lt_of_cell? _ _ C14.out)).trans C14.out)
  have C25 := Lib.hid ((hb5.cell (World.block_lt_of_cell? _ _ C24.out)).trans C24.out)
  have B15 := Lib.hid ((hb5.block a1.block (Array.getElem?_eq_some_iff.1 B14.out).1).trans B14.out)
  have B25 := Lib.hid ((hb5.block a2.block (Array.getElem?_eq_some_iff.1 B24.out).1).trans B24.out)
  have H5 : Hid (EngX w5 lo E X) := EngX.below H4.out hb5
  have C35 := Lib.hid ((hb5.cell (World.block_lt_of_cell? _ _ C34.out)).trans C34.out)
  have sz5 : w4.heap.size ≤ w5.heap.size := hb5.size
  clear P4 T4 V4 L4 G4 C14 C24 B14 B24 H4 C34
  have I5 : Hid (Ints w5 A5 (itemsM X.f X.ln)) := hI5
  clear hO hI5
  refine hK.out _ _ ⟨cellOfBlk G5.out 0, cellOfBlk G5.out 1, cellOfBlk G5.out 2, cellOfBlk G5.out 3, cellOfBlk G5.out 4, cellOfBlk G5.out 5, cellOfBlk G5.out 6, cellOfBlk G5.out 7, cellOfBlk G5.out 8, cellOfBlk G5.out 9, cellOfBlk G5.out 10, cellOfBlk G5.out 11, cellOfBlk G5.out 12⟩ ?_
  clear hK Kc
  refine plan_step rfl (fun Kc hK => ?_)
  rw [if_pos (by rfl)]
  go_simp
  refine (implPlaces_any X.w X.t X.k A5 n5 c5 (itemsM X.f X.ln) w5 HN5.out (by omega) I5.out).mono ?_
  rintro e w6 ⟨vp, rfl, hO, hb6⟩
  have P6 := Lib.hid (P5.out.below hb6)
  have T6 := Lib.hid (T5.out.trans (hb6.mono (by omega)))
  have V6 := Lib.hid (V5.out.below (by omega) hb6)
  have L6 := Lib.hid (L5.out.below hb6)
  have G6 := Lib.hid (G5.out.below hb6 (by omega))
  have C16 := Lib.hid ((hb6.cell (World.block_lt_of_cell? _ _ C15.out)).trans C15.out)
  have C26 := Lib.hid ((hb6.cell (World.block_lt_of_cell? _ _ C25.out)).trans C25.out)
  have B16 := Lib.hid ((hb6.block a1.block (Array.getElem?_eq_some_iff.1 B15.out).1).trans B15.out)
  have B26 := Lib.hid ((hb6.block a2.block (Array.getElem?_eq_some_iff.1 B25.out).1).trans B25.out)
  have H6 : Hid (EngX w6 lo E X) := EngX.below H5.out hb6
  have C36 := Lib.hid ((hb6.cell (World.block_lt_of_cell? _ _ C35.out)).trans C35.out)
  have I6 := Lib.hid (I5.out.below hb6)
  have sz6 : w5.heap.size ≤ w6.heap.size := hb6.size
  clear P5 T5 V5 L5 G5 C15 C25 B15 B25 H5 C35 I5
  have O6 : Hid (Own w6 w5.heap.size vp (placesL ⟨X.w, X.t, X.k⟩ (itemsM X.f X.ln))) := hO
  clear hO
  refine hK.out _ _ ⟨cellOfBlk G6.out 0, cellOfBlk G6.out 1, cellOfBlk G6.out 2, cellOfBlk G6.out 3, cellOfBlk G6.out 4, cellOfBlk G6.out 5, cellOfBlk G6.out 6, cellOfBlk G6.out 7, cellOfBlk G6.out 8, cellOfBlk G6.out 9, cellOfBlk G6.out 10, cellOfBlk G6.out 11, cellOfBlk G6.out 12⟩ ?_
  clear hK Kc
  refine plan_quiet rfl (by rfl) (v := ?_) ?_ ?_; rotate_left; (intro w1 hSw; obtain ⟨hs0, hs1, hs2, hs3, hs4, hs5, hs6, hs7, hs8, hs9, hs10, hs11, hs12⟩ := hSw; go_simp; try (with_reducible rfl)); (try simp only [Act.put, List.setIfInBounds_toArray, List.set_cons_zero, List.set_cons_succ])
  refine plan_end ?_
  go_wp2_with fail
  refine (clearT_any lo E X w6 P6.out HLN0.out hwt hsp0 hsp1 ct cu C36.out hglo).mono ?_
  rintro e w7 ⟨rfl, ⟨T9, tc9, v0, v1, hEn, hU9⟩, hbl, hby⟩
  go_wp2
  go_ret3
  exact ⟨vp, rfl, ⟨T9, tc9, v0, v1, hEn, by rcases hU9 with h9 | h9; exact .inl h9; exact .inr (by omega)⟩, (T6.out.mono (by omega)).trans hbl, fun k h1 h2 h3 => (hby k (by omega) h2 h3).trans (T6.out.block k (by omega))⟩
end Go.Proofs.YtimhnkpccbcohaaGreatDoor
