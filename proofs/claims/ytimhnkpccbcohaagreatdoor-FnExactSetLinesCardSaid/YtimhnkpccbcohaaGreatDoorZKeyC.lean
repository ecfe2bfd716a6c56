/-
 keyMatrix of the engine by contract: the matrix is taken and set, or goes back if it does not fit. Conditions: a line of at most 120, rows of at most 20; errEmpty and errNoFit read as laid.
-/
import Derived.Test.YtimhnkpccbcohaaGreatDoorZAsG
import Derived.Test.YtimhnkpccbcohaaGreatDoorZGiveB
namespace Go.Proofs.YtimhnkpccbcohaaGreatDoor
open Go.RowKit Go.Conc
set_option linter.unusedVariables false
set_option linter.unusedSimpArgs false

/-- the machine without the first matrix of channel i -/
def tookX (X : Mch) (i : Nat) (xs : List Mat) : Mch := ⟨X.f, X.ms.set i xs, X.sp, X.w, X.t, X.k, X.ln, X.wt⟩
def keyMX (X : Mch) (i : Nat) : Mch := match X.ms.getD i [] with
 | [] => X
 | x :: xs => if addOk X x then addX (tookX X i xs) x else X
def keyME (X : Mch) (i : Nat) (te : TypeId) (ue : Value) (ct : TypeId) (cu : Value) : Value := match X.ms.getD i [] with
 | [] => .iface 183 (.agg #[.int .i64 i, .iface te ue])
 | x :: xs => if addOk X x then .nilIface else .iface ct cu
set_option maxRecDepth 100000 in
set_option maxHeartbeats 6400000 in
theorem engMat_none (lo E : Nat) (X : Mch) (i : Nat) (w : World) {A : Option Addr} {c : Nat} {A2 : Option Addr} {d : Nat} {M : Option Addr} {q e0 : Nat} {L : Option Addr} {lc : Nat} {T : Option Addr} {tc : Nat} {Bc : Option Addr} {dc B hi : Nat} {hs : List (Option Nat)} {km f0 f1 l0 l1 t0 t1 p0 p1 : Nat} (hP : EngT w lo E X A c A2 d M q e0 L lc T tc Bc dc B hi hs km f0 f1 l0 l1 t0 t1 p0 p1) (hi9 : i < X.ms.length) (hrow : X.ms[i]? = some []) (te : TypeId) (ue : Value) (hg : w.cell? ⟨8, 0, none⟩ = some (.iface te ue)) :
  Calls Tryz.prog 127 #[.pointer (some ⟨E, 0, none⟩), .int .i64 i] w fun e w' => e = .returned (.iface 183 (.agg #[.int .i64 i, .iface te ue])) ∧ (∃ (L' : Option Addr) (lc' l0' l1' : Nat), EngT w' lo E (X) A c A2 d M q e0 L' lc' T tc Bc dc B hi hs km f0 f1 l0' l1' t0 t1 p0 p1 ∧ ((l0' = l0 ∧ l1' = l1) ∨ w.heap.size ≤ l0')) ∧ Below lo w w' ∧ Elder E l0 l1 B hi w w' := by
 obtain ⟨hBh, hEw⟩ := hP.at_
 have hlow := hP.low; have hp3 := hP.o3; have hp4 := hP.o4
 obtain ⟨w0, hw0⟩ : ∃ x, w = x := ⟨_, rfl⟩
 rw [hw0] at hP hEw hg
 obtain ⟨n, hn⟩ : ∃ n, X.ms.length = n := ⟨_, rfl⟩
 obtain ⟨m, hm⟩ : ∃ m, X.f.cs.length = m := ⟨_, rfl⟩
 have g10 : w0.cell? ⟨E, 10, none⟩ = some (.slice Bc m dc) := by rw [← hm]; exact cellOfBlk hP.blk 10
 have g11 : w0.cell? ⟨E, 11, none⟩ = some (.slice (some ⟨B, 0, none⟩) n n) := by rw [← hn]; exact cellOfBlk hP.blk 11
 have hmd : Made hs n n := by rw [← hn]; exact hP.made
 have hch : ChM w0 B hi (.slice (some ⟨B, 0, none⟩) n n) hs X.ms := by rw [← hn]; exact hP.chs
 rw [hn] at hi9
 have HP := Lib.hid hP; have HN := Lib.hid hn
 clear hP hn hm
 rw [hw0]
 go_enter Tryz.func127, Tryz.ntmps127
 go_wp2_with fail
 clear g10 g11
 refine (take_none (.slice Bc m dc) B hi n hs X.ms i w0 hmd hch (by omega) hi9 te ue hg hrow).mono ?_
 rintro e w1 ⟨rfl, hC1, hc1⟩
 have P1 := Lib.hid (HP.out.comm (ms' := X.ms) hc1 rfl (by rw [HN.out]; exact hC1))
 have T1 := Lib.hid ((hc1.below (by omega)).mono hlow.2.2.2)
 have hz1 := hc1.size
 have C1 := Lib.hid hc1
 clear hmd hch hC1 hc1 hg hrow HP
 go_wp2
 go_ret
 exact ⟨rfl, ⟨_, _, _, _, P1.out.below (below_new _ _), .inl ⟨rfl, rfl⟩⟩, T1.out.trans ((below_new _ _).mono (by omega)), fun k h1 h2 h3 h4 => ((below_new w1 _).block k (by omega)).trans (C1.out.block k h1 h4)⟩
set_option maxRecDepth 100000 in
set_option maxHeartbeats 6400000 in
theorem engMat_bad (lo E : Nat) (X : Mch) (i : Nat) (w : World) {A : Option Addr} {c : Nat} {A2 : Option Addr} {d : Nat} {M : Option Addr} {q e0 : Nat} {L : Option Addr} {lc : Nat} {T : Option Addr} {tc : Nat} {Bc : Option Addr} {dc B hi : Nat} {hs : List (Option Nat)} {km f0 f1 l0 l1 t0 t1 p0 p1 : Nat} (hP : EngT w lo E X A c A2 d M q e0 L lc T tc Bc dc B hi hs km f0 f1 l0 l1 t0 t1 p0 p1) (hi9 : i < X.ms.length) (k1 k2 : Int) (xs : List Mat) (hrow : X.ms[i]? = some ((k1, k2) :: xs)) (h20 : xs.length < 20) (hln : X.ln.length ≤ 120) (hset : ∀ x ∈ X.ln ++ [(k1, k2)], bandM x = true ∨ (0 ≤ x.1 ∧ x.1.toNat < X.f.ws.length)) (ct : TypeId) (cu : Value) (hg : w.cell? ⟨7, 0, none⟩ = some (.iface ct cu)) (hglo : 7 < lo) (hadd : addOk X (k1, k2) = false) :
  Calls Tryz.prog 127 #[.pointer (some ⟨E, 0, none⟩), .int .i64 i] w fun e w' => e = .returned (.iface ct cu) ∧ (∃ (L' : Option Addr) (lc' l0' l1' : Nat), EngT w' lo E (X) A c A2 d M q e0 L' lc' T tc Bc dc B hi hs km f0 f1 l0' l1' t0 t1 p0 p1 ∧ ((l0' = l0 ∧ l1' = l1) ∨ w.heap.size ≤ l0')) ∧ Below lo w w' ∧ Elder E l0 l1 B hi w w' := by
 obtain ⟨hBh, hEw⟩ := hP.at_
 have hlow := hP.low; have hp3 := hP.o3; have hp4 := hP.o4
 obtain ⟨w0, hw0⟩ : ∃ x, w = x := ⟨_, rfl⟩
 rw [hw0] at hP hEw hg
 obtain ⟨n, hn⟩ : ∃ n, X.ms.length = n := ⟨_, rfl⟩
 obtain ⟨m, hm⟩ : ∃ m, X.f.cs.length = m := ⟨_, rfl⟩
 have g10 : w0.cell? ⟨E, 10, none⟩ = some (.slice Bc m dc) := by rw [← hm]; exact cellOfBlk hP.blk 10
 have g11 : w0.cell? ⟨E, 11, none⟩ = some (.slice (some ⟨B, 0, none⟩) n n) := by rw [← hn]; exact cellOfBlk hP.blk 11
 have hmd : Made hs n n := by rw [← hn]; exact hP.made
 have hch : ChM w0 B hi (.slice (some ⟨B, 0, none⟩) n n) hs X.ms := by rw [← hn]; exact hP.chs
 rw [hn] at hi9
 have HP := Lib.hid hP; have HN := Lib.hid hn; have HM := Lib.hid hm; have HSET := Lib.hid hset; have HLN := Lib.hid hln; have HROW := Lib.hid hrow
 have G0 := Lib.hid hg
 clear hP hn hm hset hln hg
 rw [hw0]
 go_enter Tryz.func127, Tryz.ntmps127
 go_wp2_with fail
 clear g10 g11
 refine (take_hit (.slice Bc m dc) B hi n hs X.ms i w0 hmd hch (by omega) hi9 (k1, k2) xs hrow).mono ?_
 rintro e w1 ⟨rfl, hC1, hc1⟩
 unfold cvM
 have P1 : Hid (EngT w1 lo E (tookX X i xs) A c A2 d M q e0 L lc T tc Bc dc B hi hs km f0 f1 l0 l1 t0 t1 p0 p1) := HP.out.comm (ms' := X.ms.set i xs) hc1 (by rw [List.length_set]) (by rw [HN.out]; exact hC1)
 have T1 := Lib.hid ((hc1.below (by omega)).mono hlow.2.2.2)
 have G1 : Hid (w1.cell? ⟨7, 0, none⟩ = some (.iface ct cu)) := (hc1.cell (World.block_lt_of_cell? _ _ G0.out) (by show ¬ (B ≤ 7 ∧ 7 < hi); omega)).trans G0.out
 have hz1 := hc1.size
 have R1 : Hid (Elder E l0 l1 B hi w0 w1) := fun k h1 h2 h3 h4 => hc1.block k h1 h4
 obtain ⟨w2, hw2, hb2, hz2, X2⟩ := mxWorld w1 #[.int .i64 k1, .int .i64 k2] 64
 have R2 : Hid (Elder E l0 l1 B hi w0 w2) := fun k h1 h2 h3 h4 => (hb2.block k (by omega)).trans (R1.out k h1 h2 h3 h4)
 have P2 := Lib.hid (P1.out.below hb2)
 have T2 := Lib.hid (T1.out.trans (hb2.mono (by omega)))
 have G2 := Lib.hid ((hb2.cell (World.block_lt_of_cell? _ _ G1.out)).trans G1.out)
 have x0 := cellOfBlk X2 0
 have x1 := cellOfBlk X2 1
 have X2 := Lib.hid X2
 have HL1 : Hid (l1 ≤ w1.heap.size ∧ E < w1.heap.size) := ⟨P1.out.top.2.1, P1.out.at_.2⟩
 clear hmd hch hC1 hc1 HP P1 T1 G1 G0 R1 hrow hb2
 go_wp2_with fail
 clear x0 x1
 refine (engAdd_any lo E (tookX X i xs) k1 k2 w2 P2.out HLN.out HSET.out ct cu G2.out hglo).mono ?_
 rintro e w3 ⟨rfl, ⟨L', lc', l0', l1', hX, hrel⟩, hb3, hEl⟩
 have R3 : Hid (Elder E l0 l1 B hi w0 w3) := fun k h1 h2 h3 h4 => (hEl k (by omega) h2 h3 h4).trans (R2.out k h1 h2 h3 h4)
 have HREL : Hid ((l0' = l0 ∧ l1' = l1) ∨ w0.heap.size ≤ l0') := by
  rcases hrel with h9 | h9
  ·exact .inl h9
  ·right; show w0.heap.size ≤ l0'; omega
 clear R2 hrel
 have hl1 := HL1.out
 have hlo2 : lo ≤ w1.heap.size := by omega
 have hE : addE (tookX X i xs) (k1, k2) ct cu = .iface ct cu := by unfold addE; rw [show addOk (tookX X i xs) (k1, k2) = false from hadd]; rfl
 unfold addM at hX
 simp only [show addOk (tookX X i xs) (k1, k2) = false from hadd, Bool.false_eq_true, if_false] at hX
 have hP := hX
 have XB : Hid (Blk w3 w1.heap.size #[.int .i64 k1, .int .i64 k2] 64) := (hEl w1.heap.size (by omega) (by omega) (by omega) (by omega)).trans X2.out
 clear hX hEl P2 X2 HL1 hl1
 rw [hE]
 have T3 := Lib.hid (T2.out.trans hb3)
 obtain ⟨hBh3, hEw3⟩ := hP.at_
 have hlow3 := hP.low; have hq3 := hP.o3; have hq4 := hP.o4
 have hlen : (X.ms.set i xs).length = n := by rw [List.length_set]; exact HN.out
 have hz3 := hb3.size
 have g10 : w3.cell? ⟨E, 10, none⟩ = some (.slice Bc m dc) := by rw [← HM.out]; exact cellOfBlk hP.blk 10
 have g11 : w3.cell? ⟨E, 11, none⟩ = some (.slice (some ⟨B, 0, none⟩) n n) := by rw [← hlen]; exact cellOfBlk hP.blk 11
 have x0 := cellOfBlk XB.out 0
 have x1 := cellOfBlk XB.out 1
 have HP3 := Lib.hid hP; have HLEN := Lib.hid hlen
 have hxw := XB.out.lt
 clear hP hlen hE hb3 T2 G2
 go_upto_region 6 with fail
 refine wp_region_plan (.take 0 (.take 1 (.take 2 (.take 3 (.take 4 (.take 5 (.one 6 .done))))))) (fun w' => w'.cell? ⟨E, 10, none⟩ = some (.slice Bc m dc) ∧ w'.cell? ⟨E, 11, none⟩ = some (.slice (some ⟨B, 0, none⟩) n n) ∧ w'.cell? ⟨w1.heap.size, 0, none⟩ = some (.int .i64 k1) ∧ w'.cell? ⟨w1.heap.size, 1, none⟩ = some (.int .i64 k2)) (by kernel_rfl) (by kernel_rfl) (by kernel_rfl) (by intro c a d v w h; cases d <;> exact h) ⟨g10, g11, x0, x1⟩ ?_
 iterate 6 (refine plan_quiet rfl (by rfl) (v := ?_) ?_ ?_; rotate_left; (intro w1 hSw; obtain ⟨hs0, hs1, hs2, hs3⟩ := hSw; go_simp; try (with_reducible rfl)); (try simp only [Act.put, List.setIfInBounds_toArray, List.set_cons_zero, List.set_cons_succ]))
 obtain ⟨w4, hwd⟩ : ∃ x, w3.drew = x := ⟨_, rfl⟩
 have hb4 : Below w3.heap.size w3 w4 := by rw [← hwd]; exact (Below.refl _ _).drew
 rw [hwd]
 clear hwd
 have hz4 := hb4.size
 have P4 := Lib.hid (HP3.out.below hb4)
 have T4 := Lib.hid (T3.out.trans (hb4.mono (by omega)))
 have y10 := (hb4.cell (p := ⟨E, 10, none⟩) (by show E < _; omega)).trans g10
 have y11 := (hb4.cell (p := ⟨E, 11, none⟩) (by show E < _; omega)).trans g11
 have y0 := (hb4.cell (p := ⟨w1.heap.size, 0, none⟩) (by show w1.heap.size < _; omega)).trans x0
 have y1 := (hb4.cell (p := ⟨w1.heap.size, 1, none⟩) (by show w1.heap.size < _; omega)).trans x1
 clear g10 g11 x0 x1 HP3 T3
 refine plan_step rfl (fun Kc hK => ?_)
 rw [if_pos (by rfl)]
 go_simp
 have hmd : Made hs n n := by rw [← HLEN.out]; exact P4.out.made
 have hch : ChM w4 B hi (.slice (some ⟨B, 0, none⟩) n n) hs (X.ms.set i xs) := by rw [← HLEN.out]; exact P4.out.chs
 refine (giveBack_any (.slice Bc m dc) B hi n hs (X.ms.set i xs) i w4 hmd hch (by omega) hi9 k1 k2 xs (List.getElem?_set_self (by rw [HN.out]; exact hi9)) h20).mono ?_
 rintro e w5 ⟨rfl, hC5, hc5⟩
 rw [List.set_set, set_same HROW.out] at hC5
 have P5 : Hid (EngT w5 lo E X A c A2 d M q e0 L' lc' T tc Bc dc B hi hs km f0 f1 l0' l1' t0 t1 p0 p1) := by show EngT _ _ _ _ _ _ _ _ _ _ _ _ _ _ _ _ _ _ _ _ _ _ _ _ _ _ _ _ _; exact P4.out.comm (ms' := X.ms) hc5 (by show X.ms.length = (X.ms.set i xs).length; rw [List.length_set]) (by show ChM _ _ _ (.slice (some ⟨B, 0, none⟩) (X.ms.set i xs).length (X.ms.set i xs).length) _ _; rw [HLEN.out]; exact hC5)
 have T5 := Lib.hid (T4.out.trans ((hc5.below (by omega)).mono hlow3.2.2.2))
 have R5 : Hid (Elder E l0 l1 B hi w0 w5) := fun k h1 h2 h3 h4 => (hc5.block k (by omega) h4).trans ((hb4.block k (by omega)).trans (R3.out k h1 h2 h3 h4))
 have hoB : ¬ (B ≤ w1.heap.size ∧ w1.heap.size < hi) := by omega
 refine hK.out _ _ ⟨(hc5.cell (p := ⟨E, 10, none⟩) (by show E < _; omega) (by show ¬ (B ≤ E ∧ E < hi); omega)).trans y10, (hc5.cell (p := ⟨E, 11, none⟩) (by show E < _; omega) (by show ¬ (B ≤ E ∧ E < hi); omega)).trans y11, (hc5.cell (p := ⟨w1.heap.size, 0, none⟩) (by show w1.heap.size < _; omega) hoB).trans y0, (hc5.cell (p := ⟨w1.heap.size, 1, none⟩) (by show w1.heap.size < _; omega) hoB).trans y1⟩ ?_
 clear hK Kc hmd hch hC5 hc5 y10 y11 y0 y1
 refine plan_end ?_
 go_wp2
 go_ret
 exact ⟨rfl, ⟨_, _, _, _, P5.out, HREL.out⟩, T5.out, R5.out⟩
set_option maxRecDepth 100000 in
set_option maxHeartbeats 6400000 in
theorem engMat_good (lo E : Nat) (X : Mch) (i : Nat) (w : World) {A : Option Addr} {c : Nat} {A2 : Option Addr} {d : Nat} {M : Option Addr} {q e0 : Nat} {L : Option Addr} {lc : Nat} {T : Option Addr} {tc : Nat} {Bc : Option Addr} {dc B hi : Nat} {hs : List (Option Nat)} {km f0 f1 l0 l1 t0 t1 p0 p1 : Nat} (hP : EngT w lo E X A c A2 d M q e0 L lc T tc Bc dc B hi hs km f0 f1 l0 l1 t0 t1 p0 p1) (hi9 : i < X.ms.length) (k1 k2 : Int) (xs : List Mat) (hrow : X.ms[i]? = some ((k1, k2) :: xs)) (h20 : xs.length < 20) (hln : X.ln.length ≤ 120) (hset : ∀ x ∈ X.ln ++ [(k1, k2)], bandM x = true ∨ (0 ≤ x.1 ∧ x.1.toNat < X.f.ws.length)) (ct : TypeId) (cu : Value) (hg : w.cell? ⟨7, 0, none⟩ = some (.iface ct cu)) (hglo : 7 < lo) (hadd : addOk X (k1, k2) = true) :
  Calls Tryz.prog 127 #[.pointer (some ⟨E, 0, none⟩), .int .i64 i] w fun e w' => e = .returned (.nilIface) ∧ (∃ (L' : Option Addr) (lc' l0' l1' : Nat), EngT w' lo E (addX (tookX X i xs) (k1, k2)) A c A2 d M q e0 L' lc' T tc Bc dc B hi hs km f0 f1 l0' l1' t0 t1 p0 p1 ∧ ((l0' = l0 ∧ l1' = l1) ∨ w.heap.size ≤ l0')) ∧ Below lo w w' ∧ Elder E l0 l1 B hi w w' := by
 obtain ⟨hBh, hEw⟩ := hP.at_
 have hlow := hP.low; have hp3 := hP.o3; have hp4 := hP.o4
 obtain ⟨w0, hw0⟩ : ∃ x, w = x := ⟨_, rfl⟩
 rw [hw0] at hP hEw hg
 obtain ⟨n, hn⟩ : ∃ n, X.ms.length = n := ⟨_, rfl⟩
 obtain ⟨m, hm⟩ : ∃ m, X.f.cs.length = m := ⟨_, rfl⟩
 have g10 : w0.cell? ⟨E, 10, none⟩ = some (.slice Bc m dc) := by rw [← hm]; exact cellOfBlk hP.blk 10
 have g11 : w0.cell? ⟨E, 11, none⟩ = some (.slice (some ⟨B, 0, none⟩) n n) := by rw [← hn]; exact cellOfBlk hP.blk 11
 have hmd : Made hs n n := by rw [← hn]; exact hP.made
 have hch : ChM w0 B hi (.slice (some ⟨B, 0, none⟩) n n) hs X.ms := by rw [← hn]; exact hP.chs
 rw [hn] at hi9
 have HP := Lib.hid hP; have HN := Lib.hid hn; have HM := Lib.hid hm; have HSET := Lib.hid hset; have HLN := Lib.hid hln; have HROW := Lib.hid hrow
 have G0 := Lib.hid hg
 clear hP hn hm hset hln hg
 rw [hw0]
 go_enter Tryz.func127, Tryz.ntmps127
 go_wp2_with fail
 clear g10 g11
 refine (take_hit (.slice Bc m dc) B hi n hs X.ms i w0 hmd hch (by omega) hi9 (k1, k2) xs hrow).mono ?_
 rintro e w1 ⟨rfl, hC1, hc1⟩
 unfold cvM
 have P1 : Hid (EngT w1 lo E (tookX X i xs) A c A2 d M q e0 L lc T tc Bc dc B hi hs km f0 f1 l0 l1 t0 t1 p0 p1) := HP.out.comm (ms' := X.ms.set i xs) hc1 (by rw [List.length_set]) (by rw [HN.out]; exact hC1)
 have T1 := Lib.hid ((hc1.below (by omega)).mono hlow.2.2.2)
 have G1 : Hid (w1.cell? ⟨7, 0, none⟩ = some (.iface ct cu)) := (hc1.cell (World.block_lt_of_cell? _ _ G0.out) (by show ¬ (B ≤ 7 ∧ 7 < hi); omega)).trans G0.out
 have hz1 := hc1.size
 have R1 : Hid (Elder E l0 l1 B hi w0 w1) := fun k h1 h2 h3 h4 => hc1.block k h1 h4
 obtain ⟨w2, hw2, hb2, hz2, X2⟩ := mxWorld w1 #[.int .i64 k1, .int .i64 k2] 64
 have R2 : Hid (Elder E l0 l1 B hi w0 w2) := fun k h1 h2 h3 h4 => (hb2.block k (by omega)).trans (R1.out k h1 h2 h3 h4)
 have P2 := Lib.hid (P1.out.below hb2)
 have T2 := Lib.hid (T1.out.trans (hb2.mono (by omega)))
 have G2 := Lib.hid ((hb2.cell (World.block_lt_of_cell? _ _ G1.out)).trans G1.out)
 have x0 := cellOfBlk X2 0
 have x1 := cellOfBlk X2 1
 have X2 := Lib.hid X2
 have HL1 : Hid (l1 ≤ w1.heap.size ∧ E < w1.heap.size) := ⟨P1.out.top.2.1, P1.out.at_.2⟩
 clear hmd hch hC1 hc1 HP P1 T1 G1 G0 R1 hrow hb2
 go_wp2_with fail
 clear x0 x1
 refine (engAdd_any lo E (tookX X i xs) k1 k2 w2 P2.out HLN.out HSET.out ct cu G2.out hglo).mono ?_
 rintro e w3 ⟨rfl, ⟨L', lc', l0', l1', hX, hrel⟩, hb3, hEl⟩
 have R3 : Hid (Elder E l0 l1 B hi w0 w3) := fun k h1 h2 h3 h4 => (hEl k (by omega) h2 h3 h4).trans (R2.out k h1 h2 h3 h4)
 have HREL : Hid ((l0' = l0 ∧ l1' = l1) ∨ w0.heap.size ≤ l0') := by
  rcases hrel with h9 | h9
  ·exact .inl h9
  ·right; show w0.heap.size ≤ l0'; omega
 clear R2 hrel
 have hl1 := HL1.out
 have hlo2 : lo ≤ w1.heap.size := by omega
 have hE : addE (tookX X i xs) (k1, k2) ct cu = .nilIface := by unfold addE; rw [show addOk (tookX X i xs) (k1, k2) = true from hadd]; rfl
 unfold addM at hX
 simp only [show addOk (tookX X i xs) (k1, k2) = true from hadd, if_true] at hX
 have hX1 := Lib.hid hX
 rw [hE]
 have T3 := Lib.hid (T2.out.trans hb3)
 clear hX hEl hE hadd hb3 P2 HL1 hl1
 go_wp2
 go_ret
 exact ⟨rfl, ⟨_, _, _, _, hX1.out, HREL.out⟩, T3.out, R3.out⟩
theorem engMat_any (lo E : Nat) (X : Mch) (i : Nat) (w : World) {A : Option Addr} {c : Nat} {A2 : Option Addr} {d : Nat} {M : Option Addr} {q e0 : Nat} {L : Option Addr} {lc : Nat} {T : Option Addr} {tc : Nat} {Bc : Option Addr} {dc B hi : Nat} {hs : List (Option Nat)} {km f0 f1 l0 l1 t0 t1 p0 p1 : Nat} (hP : EngT w lo E X A c A2 d M q e0 L lc T tc Bc dc B hi hs km f0 f1 l0 l1 t0 t1 p0 p1) (hi9 : i < X.ms.length) (hlim : ∀ xs ∈ X.ms, xs.length ≤ 20) (hkind : ∀ xs ∈ X.ms, ∀ x ∈ xs, 0 ≤ x.1 ∧ x.1.toNat < X.f.ws.length) (hln : X.ln.length ≤ 120) (hset : ∀ x ∈ X.ln, bandM x = true ∨ (0 ≤ x.1 ∧ x.1.toNat < X.f.ws.length)) (te : TypeId) (ue : Value) (hge : w.cell? ⟨8, 0, none⟩ = some (.iface te ue)) (ct : TypeId) (cu : Value) (hg : w.cell? ⟨7, 0, none⟩ = some (.iface ct cu)) (hglo : 7 < lo) :
  Calls Tryz.prog 127 #[.pointer (some ⟨E, 0, none⟩), .int .i64 i] w fun e w' => e = .returned (keyME X i te ue ct cu) ∧ (∃ (L' : Option Addr) (lc' l0' l1' : Nat), EngT w' lo E (keyMX X i) A c A2 d M q e0 L' lc' T tc Bc dc B hi hs km f0 f1 l0' l1' t0 t1 p0 p1 ∧ ((l0' = l0 ∧ l1' = l1) ∨ w.heap.size ≤ l0')) ∧ Below lo w w' ∧ Elder E l0 l1 B hi w w' := by
 obtain ⟨row, hrow⟩ : ∃ row, X.ms[i]? = some row := ⟨_, List.getElem?_eq_getElem hi9⟩
 have hgd : X.ms.getD i [] = row := by rw [List.getD, hrow]; rfl
 have hmem := List.mem_of_getElem? hrow
 unfold keyME keyMX
 rw [hgd]
 cases row with
 | nil => exact engMat_none lo E X i w hP hi9 hrow te ue hge
 | cons x xs =>
  obtain ⟨k1, k2⟩ := x
  have h20 : xs.length < 20 := by have := hlim _ hmem; simp only [List.length_cons] at this; omega
  have hs2 : ∀ x ∈ X.ln ++ [(k1, k2)], bandM x = true ∨ (0 ≤ x.1 ∧ x.1.toNat < X.f.ws.length) := fun x hx => by
   rcases List.mem_append.1 hx with hx | hx
   ·exact hset x hx
   ·rw [List.mem_singleton] at hx; subst hx; exact .inr (hkind _ hmem _ (by simp))
  cases hadd : addOk X (k1, k2)
  ·simp only [hadd, Bool.false_eq_true, if_false]
   exact engMat_bad lo E X i w hP hi9 k1 k2 xs hrow h20 hln hs2 ct cu hg hglo hadd
  ·simp only [hadd, if_true]
   exact engMat_good lo E X i w hP hi9 k1 k2 xs hrow h20 hln hs2 ct cu hg hglo hadd
end Go.Proofs.YtimhnkpccbcohaaGreatDoor
