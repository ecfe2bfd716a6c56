/-
 drop of the engine by contract: what waits goes into its channels, until one is full, or enough are gone. Conditions: a magazine as it should be, at most 240 wait; errFull reads as laid.
-/
import Derived.Test.YtimhnkpccbcohaaGreatDoorZKeyA
import Derived.Test.YtimhnkpccbcohaaGreatDoorZDropM
import Derived.Test.YtimhnkpccbcohaaGreatDoorZTakeM
import Derived.Test.YtimhnkpccbcohaaGreatDoorZCntMagG
namespace Go.Proofs.YtimhnkpccbcohaaGreatDoor
open Go.RowKit Go.Conc
set_option linter.unusedVariables false
set_option linter.unusedSimpArgs false

set_option maxRecDepth 100000 in
set_option maxHeartbeats 12800000 in
theorem engDropR_any (lo E : Nat) (X : Mch) (most : Int) (w : World) {A : Option Addr} {c : Nat} {A2 : Option Addr} {d : Nat} {M : Option Addr} {q e0 : Nat} {L : Option Addr} {lc : Nat} {T : Option Addr} {tc : Nat} {Bc : Option Addr} {dc B hi : Nat} {hs : List (Option Nat)} {km f0 f1 l0 l1 t0 t1 p0 p1 : Nat} (hP : EngT w lo E X A c A2 d M q e0 L lc T tc Bc dc B hi hs km f0 f1 l0 l1 t0 t1 p0 p1) (hmag : magB X.f X.ms = true) (hmat : ∀ x ∈ X.wt, matB X.f x = true) (hwt : X.wt.length ≤ 240) (hm0 : 0 ≤ most) (hm1 : (Lit.int .i64 most).wf = true) (b : Addr) (hg : w.cell? ⟨0, 0, none⟩ = some (.iface 192 (.pointer (some b)))) (hglo : 0 < lo) :
  Calls Tryz.prog 40 #[.pointer (some ⟨E, 0, none⟩), .int .i64 most] w fun e w' => e = .returned (.int .i64 (dropN X most)) ∧ (∃ (T2 : Option Addr) (tc2 : Nat), EngT w' lo E (dropGo X (dropN X most)) A c A2 d M q e0 L lc T2 tc2 Bc dc B hi hs km f0 f1 l0 l1 t0 t1 p0 p1) ∧ Below lo w w' ∧ Elder E 0 0 B hi w w' := by
 obtain ⟨k, rfl⟩ : ∃ k : Nat, most = (k : Int) := ⟨most.toNat, by omega⟩
 have hkn : dropN X (k : Int) = dropC X.f k X.ms X.wt := by unfold dropN; rw [Int.toNat_natCast]
 rw [hkn]
 have hlow := hP.low; have htop := hP.top; have ho3 := hP.o3; have ho4 := hP.o4
 have HMAG := Lib.hid hmag; have HMAT := Lib.hid hmat; have HWT := Lib.hid hwt
 obtain ⟨w0, hw0⟩ : ∃ x, w = x := ⟨_, rfl⟩
 have P0 : Hid (EngT w0 lo E (dropGo X 0) A c A2 d M q e0 L lc T tc Bc dc B hi hs km f0 f1 l0 l1 t0 t1 p0 p1) := by show EngT _ _ _ _ _ _ _ _ _ _ _ _ _ _ _ _ _ _ _ _ _ _ _ _ _ _ _ _ _; rw [← hw0]; exact hP
 have T0 : Hid (Below lo w0 w0) := Below.refl _ _
 have G0 : Hid (w0.cell? ⟨0, 0, none⟩ = some (.iface 192 (.pointer (some b)))) := by show _ = _; rw [← hw0]; exact hg
 have D0 := Lib.hid (DropAt.start X.f X.ms X.wt k)
 have R0 : Hid (Elder E 0 0 B hi w0 w0) := fun k _ _ _ _ => rfl
 have HM1 := Lib.hid hm1
 clear hP hg hmag hmat hwt hkn hm1
 rw [hw0]
 go_enter Tryz.func40, Tryz.ntmps40
 go_wp2
 go_loopw [5] (fun jv wr => ∃ (j : Nat) (Tz : Option Addr) (tz : Nat), jv = .int .i64 j ∧ Hid (EngT wr lo E (dropGo X j) A c A2 d M q e0 L lc Tz tz Bc dc B hi hs km f0 f1 l0 l1 t0 t1 p0 p1) ∧ Hid (DropAt X.f X.ms X.wt k j) ∧ Hid (Below lo w0 wr) ∧ Hid (wr.cell? ⟨0, 0, none⟩ = some (.iface 192 (.pointer (some b)))) ∧ Hid (Elder E 0 0 B hi w0 wr) ∧ w0.heap.size ≤ wr.heap.size) (fun jv _ => k - (intOf jv).toNat)
 case atStart => exact ⟨0, T, tc, rfl, P0, D0, T0, G0, R0, Nat.le_refl _⟩
 case round =>
  clear P0 D0 T0 G0 R0 hw0
  obtain ⟨j, Tz, tz, rfl, P1, D1, T1, G1, R1, hsz1⟩ := hrel
  obtain ⟨w1, hwq⟩ : ∃ x, x = wr := ⟨_, rfl⟩
  subst hwq
  obtain ⟨hBh, hE1⟩ := P1.out.at_
  have hjk := D1.out.le.1
  have hjw := D1.out.le.2
  have hw240 := HWT.out
  obtain ⟨r, hr⟩ : ∃ y, (X.wt.drop j).length = y := ⟨_, rfl⟩
  have hrl : X.wt.length = j + r := by rw [List.length_drop] at hr; omega
  have HR := Lib.hid hr
  clear hr
  have hbk := P1.out.blk
  have g9 : w1.cell? ⟨E, 9, none⟩ = some (.slice Tz r tz) := by rw [← HR.out]; exact cellOfBlk hbk 9
  by_cases hj : j < k
  ·have hjd : decide ((j : Int) < (k : Int)) = true := by simp; omega
   by_cases hr0 : r = 0
   ·subst hr0
    have hrd : decide (((0 : Nat) : Int) > 0) = false := by simp
    have HCNT : Hid (dropC X.f k X.ms X.wt = j) := D1.out.empty (by omega)
    go_wp2
    go_ret
    rw [HCNT.out]
    exact ⟨rfl, ⟨_, _, P1.out⟩, T1.out, R1.out⟩
   have hrd : decide ((r : Int) > 0) = true := by simp; omega
   have hrd2 : decide (0 < (r : Int)) = true := by simp; omega
   obtain ⟨x, hx⟩ : ∃ x, X.wt[j]? = some x := ⟨_, List.getElem?_eq_getElem (by omega)⟩
   have hdr : X.wt.drop j = x :: X.wt.drop (j + 1) := by rw [List.drop_eq_getElem_cons (by omega)]; rw [(List.getElem?_eq_some_iff.1 hx).2]
   obtain ⟨ad, x9, hA, hx9, c0, c1⟩ := (OwnT.cutM P1.out.wait P1.out.waitT).at_ (k := 0) (by show 0 < (X.wt.drop j).length; rw [HR.out]; omega)
   have hx9 : (X.wt.drop j)[0]? = some x9 := hx9.out
   rw [hdr] at hx9
   obtain rfl : x = x9 := Option.some.inj hx9
   clear hx9
   have hxm := HMAT.out x (List.mem_of_getElem? hx)
   have HX := Lib.hid hx
   have HDR := Lib.hid hdr
   clear hx hdr
   obtain ⟨k1, k2⟩ := x
   simp only at c0 c1
   subst hA
   have hmagj := D1.out.mag HMAG.out HMAT.out
   have hlt := drop_lt hmagj hxm
   simp only at hlt
   obtain ⟨i, hi9⟩ : ∃ i, fallOf X.f.cs k2 = i := ⟨_, rfl⟩
   rw [hi9] at hlt
   obtain ⟨xs, hxs⟩ : ∃ xs, (dropMs X.f X.ms X.wt j)[i]? = some xs := ⟨_, List.getElem?_eq_getElem hlt⟩
   have hroom : roomy X.f (dropMs X.f X.ms X.wt j) (k1, k2) = decide (xs.length < 20) := by unfold roomy; simp only; rw [hi9, List.getD, hxs]; rfl
   have hput : putD X.f (dropMs X.f X.ms X.wt j) (k1, k2) = (dropMs X.f X.ms X.wt j).set i (xs ++ [(k1, k2)]) := by unfold putD; simp only; rw [hi9, List.getD, hxs]; rfl
   have HI := Lib.hid hi9; have HXS := Lib.hid hxs; have HROOM := Lib.hid hroom; have HPUT := Lib.hid hput
   clear hi9 hxs hroom hput hmagj hxm
   have g10 := cellOfBlk hbk 10
   have g11 := cellOfBlk hbk 11
   have x0 : w1.cell? ad = some (.int .i64 k1) := by simpa [Addr.add] using c0
   have x1 : w1.cell? ⟨ad.block, ad.off + 1, none⟩ = some (.int .i64 k2) := by simpa [Addr.add] using c1
   clear c0 c1
   have hadE := P1.out.tE
   have hadT := P1.out.wait.lt ad.block rfl
   have hadU := P1.out.waitT ad.block rfl
   unfold Off at hadE
   have g10 : w1.cell? ⟨E, 10, none⟩ = some (.slice Bc X.f.cs.length dc) := cellOfBlk hbk 10
   have g11 : w1.cell? ⟨E, 11, none⟩ = some (.slice (some ⟨B, 0, none⟩) (dropMs X.f X.ms X.wt j).length (dropMs X.f X.ms X.wt j).length) := cellOfBlk hbk 11
   obtain ⟨n, hn⟩ : ∃ n, (dropMs X.f X.ms X.wt j).length = n := ⟨_, rfl⟩
   rw [hn] at g11 hlt
   obtain ⟨m, hm⟩ : ∃ m, X.f.cs.length = m := ⟨_, rfl⟩
   rw [hm] at g10
   have hmx : m ≤ maxLen := by
    obtain ⟨hf, -, -⟩ := magB_rows HMAG.out
    have e1 := (fontB_codes hf).1
    have e2 := fontB_size hf
    unfold maxLen; omega
   have HN := Lib.hid hn; have HM := Lib.hid hm
   clear hn hm
   go_upto_region 3 with fail
   refine wp_region_plan (.take 0 (.take 1 (.take 2 (.take 3 (.take 4 (.take 5 (.take 6 (.take 7 (.take 8 (.take 9 (.take 10 (.one 11 (.take 12 (.take 13 (.take 14 (.take 15 (.take 16 .done))))))))))))))))) (fun w' => w'.cell? ⟨E, 9, none⟩ = some (.slice (some ad) r tz) ∧ w'.cell? ⟨E, 10, none⟩ = some (.slice Bc m dc) ∧ w'.cell? ⟨E, 11, none⟩ = some (.slice (some ⟨B, 0, none⟩) n n) ∧ w'.cell? ad = some (.int .i64 k1) ∧ w'.cell? ⟨ad.block, ad.off + 1, none⟩ = some (.int .i64 k2)) (by kernel_rfl) (by kernel_rfl) (by kernel_rfl) (by intro c a d v w h; cases d <;> exact h) ⟨g9, g10, g11, x0, x1⟩ ?_
   iterate 11 (refine plan_quiet rfl (by rfl) (v := ?_) ?_ ?_; rotate_left; (intro w1 hSw; obtain ⟨hs0, hs1, hs2, hs3, hs4⟩ := hSw; go_simp; try (with_reducible rfl)); (try simp only [Act.put, List.setIfInBounds_toArray, List.set_cons_zero, List.set_cons_succ]))
   obtain ⟨w2, hwd⟩ : ∃ x, w1.drew = x := ⟨_, rfl⟩
   have hb2 : Below w1.heap.size w1 w2 := by rw [← hwd]; exact (Below.refl _ _).drew
   have hz2 : w2.heap.size = w1.heap.size := by rw [← hwd]; rfl
   have P2 := Lib.hid (P1.out.below hb2)
   have T2 := Lib.hid (T1.out.trans (hb2.mono (by omega)))
   have R2 : Hid (Elder E 0 0 B hi w0 w2) := fun k h1 h2 h3 h4 => (hb2.block k (by omega)).trans (R1.out k h1 h2 h3 h4)
   have G2 := Lib.hid ((hb2.cell (World.block_lt_of_cell? _ _ G1.out)).trans G1.out)
   rw [hwd]
   have y9 := (hb2.cell (p := ⟨E, 9, none⟩) (by show E < _; omega)).trans g9
   have y10 := (hb2.cell (p := ⟨E, 10, none⟩) (by show E < _; omega)).trans g10
   have y11 := (hb2.cell (p := ⟨E, 11, none⟩) (by show E < _; omega)).trans g11
   have y0 := (hb2.cell (p := ad) (by omega)).trans x0
   have y1 := (hb2.cell (p := ⟨ad.block, ad.off + 1, none⟩) (by show ad.block < _; omega)).trans x1
   clear g9 g10 g11 x0 x1 hwd P1 T1 G1 R1 hbk
   refine plan_step rfl (fun Kc hK => ?_)
   rw [if_pos (by rfl)]
   go_simp
   have hmd : Made hs n n := by rw [← HN.out]; exact P2.out.made
   have hch : ChM w2 B hi (.slice (some ⟨B, 0, none⟩) n n) hs (dropMs X.f X.ms X.wt j) := by rw [← HN.out]; exact P2.out.chs
   have hiE : hi ≤ w2.heap.size := by have := P2.out.o3; have := P2.out.o4; omega
   have hcodes := P2.out.codes.ints
   cases hro : decide (xs.length < 20)
   ·refine (drop_full Bc m dc X.f.cs B hi n hs (dropMs X.f X.ms X.wt j) i w2 hmd hch hiE hlt k1 k2 xs HM.out hmx hcodes HI.out _ _ G2.out HXS.out (by have := of_decide_eq_false hro; omega)).mono ?_
    rintro e w3 ⟨rfl, hC3, hc3⟩
    have P3 := Lib.hid (P2.out.comm (ms' := dropMs X.f X.ms X.wt j) hc3 rfl (by show ChM _ _ _ (.slice (some ⟨B, 0, none⟩) (dropMs X.f X.ms X.wt j).length (dropMs X.f X.ms X.wt j).length) _ _; rw [HN.out]; exact hC3))
    have hz3 := hc3.size
    have R3 : Hid (Elder E 0 0 B hi w0 w3) := fun k h1 h2 h3 h4 => (hc3.block k (by omega) h4).trans (R2.out k h1 h2 h3 h4)
    have T3 := Lib.hid (T2.out.trans ((hc3.below (by omega)).mono hlow.2.2.2))
    have G3 : Hid (w3.cell? ⟨0, 0, none⟩ = some (.iface 192 (.pointer (some b)))) := (hc3.cell (World.block_lt_of_cell? _ _ G2.out) (by show ¬ (B ≤ 0 ∧ 0 < hi); omega)).trans G2.out
    refine hK.out _ _ ⟨(hc3.cell (p := ⟨E, 9, none⟩) (by show E < _; omega) (by show ¬ (B ≤ E ∧ E < hi); omega)).trans y9, (hc3.cell (p := ⟨E, 10, none⟩) (by show E < _; omega) (by show ¬ (B ≤ E ∧ E < hi); omega)).trans y10, (hc3.cell (p := ⟨E, 11, none⟩) (by show E < _; omega) (by show ¬ (B ≤ E ∧ E < hi); omega)).trans y11, (hc3.cell (p := ad) (by omega) (by omega)).trans y0, (hc3.cell (p := ⟨ad.block, ad.off + 1, none⟩) (by show ad.block < _; omega) (by show ¬ (B ≤ ad.block ∧ ad.block < hi); omega)).trans y1⟩ ?_
    clear hK Kc hC3 hmd hch
    iterate 5 (refine plan_quiet rfl (by rfl) (v := ?_) ?_ ?_; rotate_left; (intro w1 hSw; obtain ⟨hs0, hs1, hs2, hs3, hs4⟩ := hSw; go_simp; try (with_reducible rfl)); (try simp only [Act.put, List.setIfInBounds_toArray, List.set_cons_zero, List.set_cons_succ]))
    refine plan_end ?_
    clear y9 y10 y11 y0 y1
    have gg := G3.out
    go_wp2_with fail
    refine (is_chan (i : Int) b w3).mono ?_
    rintro e w4 ⟨rfl, hb4⟩
    have P4 := Lib.hid (P3.out.below hb4)
    have T4 := Lib.hid (T3.out.trans (hb4.mono (by omega)))
    have R4 : Hid (Elder E 0 0 B hi w0 w4) := fun k h1 h2 h3 h4 => (hb4.block k (by omega)).trans (R3.out k h1 h2 h3 h4)
    have HCNT : Hid (dropC X.f k X.ms X.wt = j) := D1.out.stuck HX.out (HROOM.out.trans hro)
    go_wp2
    go_ret
    rw [HCNT.out]
    exact ⟨rfl, ⟨_, _, P4.out⟩, T4.out, R4.out⟩
   ·refine (drop_room Bc m dc X.f.cs B hi n hs (dropMs X.f X.ms X.wt j) i w2 hmd hch hiE hlt k1 k2 xs HM.out hmx hcodes HI.out HXS.out (of_decide_eq_true hro)).mono ?_
    rintro e w3 ⟨rfl, hC3, hc3⟩
    have P3 := Lib.hid (P2.out.comm (ms' := (dropMs X.f X.ms X.wt j).set i (xs ++ [(k1, k2)])) hc3 (by show _ = (dropMs X.f X.ms X.wt j).length; rw [List.length_set]) (by show ChM _ _ _ (.slice (some ⟨B, 0, none⟩) (dropMs X.f X.ms X.wt j).length (dropMs X.f X.ms X.wt j).length) _ _; rw [HN.out]; exact hC3))
    have hz3 := hc3.size
    have R3 : Hid (Elder E 0 0 B hi w0 w3) := fun k h1 h2 h3 h4 => (hc3.block k (by omega) h4).trans (R2.out k h1 h2 h3 h4)
    have T3 := Lib.hid (T2.out.trans ((hc3.below (by omega)).mono hlow.2.2.2))
    have G3 : Hid (w3.cell? ⟨0, 0, none⟩ = some (.iface 192 (.pointer (some b)))) := (hc3.cell (World.block_lt_of_cell? _ _ G2.out) (by show ¬ (B ≤ 0 ∧ 0 < hi); omega)).trans G2.out
    refine hK.out _ _ ⟨(hc3.cell (p := ⟨E, 9, none⟩) (by show E < _; omega) (by show ¬ (B ≤ E ∧ E < hi); omega)).trans y9, (hc3.cell (p := ⟨E, 10, none⟩) (by show E < _; omega) (by show ¬ (B ≤ E ∧ E < hi); omega)).trans y10, (hc3.cell (p := ⟨E, 11, none⟩) (by show E < _; omega) (by show ¬ (B ≤ E ∧ E < hi); omega)).trans y11, (hc3.cell (p := ad) (by omega) (by omega)).trans y0, (hc3.cell (p := ⟨ad.block, ad.off + 1, none⟩) (by show ad.block < _; omega) (by show ¬ (B ≤ ad.block ∧ ad.block < hi); omega)).trans y1⟩ ?_
    clear hK Kc hC3 hmd hch
    iterate 5 (refine plan_quiet rfl (by rfl) (v := ?_) ?_ ?_; rotate_left; (intro w1 hSw; obtain ⟨hs0, hs1, hs2, hs3, hs4⟩ := hSw; go_simp; try (with_reducible rfl)); (try simp only [Act.put, List.setIfInBounds_toArray, List.set_cons_zero, List.set_cons_succ]))
    refine plan_end ?_
    clear y9 y10 y11 y0 y1
    have gg := G3.out
    go_wp2_with fail
    refine (is_nil b w3).mono ?_
    rintro e w4 ⟨rfl, hw4⟩
    have hw4 := hw4.symm
    subst hw4
    have hbk := P3.out.blk
    have hD := D1.out.step hj HX.out (HROOM.out.trans hro)
    have g9 : w3.cell? ⟨E, 9, none⟩ = some (.slice (some ad) r tz) := by rw [← HR.out]; exact cellOfBlk hbk 9
    have f9 := hbk.warm 9
    have hcap9 := P3.out.wait.caps
    obtain ⟨AN, hAN⟩ : ∃ AN, (if tz = 1 then some ad else Option.map (fun x => x.add 2) (some ad)) = AN := ⟨_, rfl⟩
    clear hbk
    go_wp2
    have hN := P3.out.next (x := (k1, k2)) (xs := X.wt.drop (j + 1)) HDR.out (T' := (if tz = 1 then some ad else some { block := ad.block, off := ad.off + 2 })) (fun h => by rw [if_neg (by omega)]; rfl) (fun h => by rw [if_pos h])
    have hr1 : (X.wt.drop (j + 1)).length = r - 1 := by rw [List.length_drop]; omega
    rw [hr1] at hN
    have P5 : Hid (EngT (w3.setCell ⟨E, 9, none⟩ (.slice (if tz = 1 then some ad else some { block := ad.block, off := ad.off + 2 }) (r - 1) (tz - 1))) lo E (dropGo X (j + 1)) A c A2 d M q e0 L lc (if tz = 1 then some ad else some { block := ad.block, off := ad.off + 2 }) (tz - 1) Bc dc B hi hs km f0 f1 l0 l1 t0 t1 p0 p1) := by show EngT _ _ _ _ _ _ _ _ _ _ _ _ _ _ _ _ _ _ _ _ _ _ _ _ _ _ _ _ _; unfold dropGo; rw [dropMs_next HX.out, HPUT.out]; exact hN
    have T5 : Hid (Below lo w0 (w3.setCell ⟨E, 9, none⟩ (.slice (if tz = 1 then some ad else some { block := ad.block, off := ad.off + 2 }) (r - 1) (tz - 1)))) := T3.out.setCell (p := ⟨E, 9, none⟩) (by show lo ≤ E; omega) _
    have G5 : Hid ((w3.setCell ⟨E, 9, none⟩ (.slice (if tz = 1 then some ad else some { block := ad.block, off := ad.off + 2 }) (r - 1) (tz - 1))).cell? ⟨0, 0, none⟩ = some (.iface 192 (.pointer (some b)))) := (((Below.refl E w3).setCell (p := ⟨E, 9, none⟩) (Nat.le_refl _) _).cell (p := ⟨0, 0, none⟩) (by show 0 < E; omega)).trans G3.out
    have R5 : Hid (Elder E 0 0 B hi w0 (w3.setCell ⟨E, 9, none⟩ (.slice (if tz = 1 then some ad else some { block := ad.block, off := ad.off + 2 }) (r - 1) (tz - 1)))) := fun k h1 h2 h3 h4 => ((chg_one w3 E 9 _).block k (by omega) (by omega)).trans (R3.out k h1 h2 h3 h4)
    have hz5 : w0.heap.size ≤ ((w3.setCell ⟨E, 9, none⟩ (.slice (if tz = 1 then some ad else some { block := ad.block, off := ad.off + 2 }) (r - 1) (tz - 1)))).heap.size := by simp [World.setCell]; omega
    exact ⟨⟨j + 1, _, _, by go_num, P5, Lib.hid hD, T5, G5, R5, hz5⟩, by simp [intOf]; omega⟩
  ·have hjd : decide ((j : Int) < (k : Int)) = false := by simp; omega
   have HCNT : Hid (dropC X.f k X.ms X.wt = j) := D1.out.enough (by omega)
   go_wp2
   go_ret
   rw [HCNT.out]
   exact ⟨rfl, ⟨_, _, P1.out⟩, T1.out, R1.out⟩
end Go.Proofs.YtimhnkpccbcohaaGreatDoor
