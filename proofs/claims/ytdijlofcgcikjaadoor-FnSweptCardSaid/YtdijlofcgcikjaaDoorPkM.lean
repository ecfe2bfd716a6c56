/-
  Contracts and plain mathematics (MchK, MchS, MchI, MchT, MchS2, MchJ, MchL, MchC), each with its conditions in its own statement.
-/
import Derived.Test.YtdijlofcgcikjaaDoorPkG
import Derived.Test.YtdijlofcgcikjaaDoorPush
import Derived.Test.YtdijlofcgcikjaaDoorSpecL
import Derived.Test.YtdijlofcgcikjaaDoorPkD
import Derived.Test.YtdijlofcgcikjaaDoorFitI
import Derived.Test.YtdijlofcgcikjaaDoorConcat
import Derived.Test.YtdijlofcgcikjaaDoorCopyS
namespace Go.Proofs.YtdijlofcgcikjaaDoor
open Go.RowKit
set_option linter.unusedVariables false

theorem Blk.chg {w w' : World} {lo hi B : Nat} {cs : Array Value} {T : TypeId} (h : Blk w B cs T) (hc : Chg lo hi w w') (hn : ¬ (lo ≤ B ∧ B < hi)) : Blk w' B cs T := (hc.block B h.lt hn).trans h
def mkF (k : Int) (f : Fnt) : Fnt := ⟨f.s, upFrom k f.ws.length, upFrom (k + f.ws.length) f.cs.length⟩
theorem upFrom_length (k : Int) (n : Nat) : (upFrom k n).length = n := by simp [upFrom]
set_option maxRecDepth 100000 in
set_option maxHeartbeats 800000 in
theorem markFontO_any (lo hi : Nat) (v : Value) (f : Fnt) (k : Int) (w : World) (h : FontO w lo hi v f) (hlo : lo ≤ w.heap.size) (hhi : hi ≤ w.heap.size) (hs : Small f) (hk0 : 0 ≤ k) (hk1 : k ≤ 1048576) (hk2 : k + f.ws.length ≤ 1048577) :
    Calls Tryd.prog 30 #[v, .int .i64 k] w fun e w' => e = .returned (.int .i64 (k + f.ws.length + f.cs.length)) ∧ FontO w' lo hi v (mkF k f) ∧ Chg lo hi w w' := by
  obtain ⟨A, c, A2, d, mid, rfl, hO1, hm1, hO2, hm2, h3, h4, hss⟩ := h
  obtain ⟨s, ws, cs⟩ := f
  obtain ⟨hs1, hs2, hs3⟩ := hs
  simp only at *
  obtain ⟨n, hn⟩ : ∃ n, ws.length = n := ⟨_, rfl⟩
  obtain ⟨m, hm⟩ : ∃ m, cs.length = m := ⟨_, rfl⟩
  have Hn := Lib.hid hn; have Hm := Lib.hid hm
  have HF : Hid (mkF k ⟨s, ws, cs⟩ = ⟨s, upFrom k n, upFrom (k + n) m⟩) := by show _ = _; unfold mkF; simp only; rw [hn, hm]
  rw [hn] at hO1 hm1 hs2 hk2
  rw [hm] at hO2 hm2 hs3
  rw [hn, hm, HF.out]
  have hL1 := Lib.hid (fun g hg => World.ownsRow.lt hO1 g hg)
  have hL2 := Lib.hid (fun g hg => World.ownsRow.lt hO2 g hg)
  have hW : Below w.heap.size w (w.alloc (.cells #[.string s, .slice A n c, .slice A2 m d] 25)) := (Below.refl _ _).alloc (Nat.le_refl _) _
  have G1 := Lib.hid (hO1.below hW); have G2 := Lib.hid (hO2.below hW)
  have HW := Lib.hid hW; have M1 := Lib.hid hm1; have M2 := Lib.hid hm2; have HSS := Lib.hid hss
  clear hn hm hO1 hO2 hW hm1 hm2 HF hss
  go_enter Tryd.func30, Tryd.ntmps30
  go_wp2_with fail
  refine (markIntS_any lo _ _ ws _ hk0 (by omega) (by rw [Hn.out]; exact hs2) G1.out).mono ?_
  rintro e w1 ⟨rfl, hP1, hg1⟩
  rw [Hn.out] at hP1
  rw [Hn.out]
  have c1 : Chg lo hi (w.alloc (.cells #[.string s, .slice A n c, .slice A2 m d] 25)) w1 := Chg.of_grown hg1 (fun g hg => ⟨(hL1.out g hg).1, by have := M1.out g hg; omega⟩)
  have O2 : Own w1 mid (.slice A2 m d) cs := by
    refine (Chg.of_grown (lo := lo) (hi := mid) hg1 (fun g hg => ⟨(hL1.out g hg).1, M1.out g hg⟩)).own G2.out fun g hg => ?_
    have := (hL2.out g hg).1; omega
  have k2 : w1.cell? ⟨w.heap.size, 2, none⟩ = some (.slice A2 m d) := by
    rw [c1.cell (by simp) (by simp <;> omega)]
    rw [World.cell?_alloc_at _ _ _ _ rfl]; rfl
  have C1 := Lib.hid c1
  have P1 := Lib.hid hP1
  have P2 := Lib.hid O2
  clear hP1 hg1 c1 O2
  go_wp2_with fail
  refine (markIntS_any mid _ _ cs _ (by omega) (by omega) (by rw [Hm.out]; exact hs3) P2.out).mono ?_
  rintro e w2 ⟨rfl, hP2, hg2⟩
  rw [Hm.out] at hP2
  rw [Hm.out]
  have C2 := Lib.hid (Chg.of_grown (lo := lo) (hi := hi) hg2 (fun g hg => ⟨by have := (hL2.out g hg).1; omega, M2.out g hg⟩))
  have R1 := Lib.hid ((Chg.of_grown (lo := mid) (hi := hi) hg2 (fun g hg => ⟨(hL2.out g hg).1, M2.out g hg⟩)).own P1.out (fun g hg => by have := M1.out g hg; omega))
  have R2 := Lib.hid hP2
  clear hP2 hg2
  go_wp2
  go_ret
  exact ⟨rfl, ⟨A, c, A2, d, mid, by simp only; rw [upFrom_length, upFrom_length], by simp only; rw [upFrom_length]; exact R1.out, by simp only; rw [upFrom_length]; exact M1.out, by simp only; rw [upFrom_length]; exact R2.out, by simp only; rw [upFrom_length]; exact M2.out, h3, h4, HSS.out⟩, ((Chg.of_below HW.out).trans C1.out).trans C2.out⟩
/-- how far the marks of a machine go -/
def Mch.marks (X : Mch) : Nat := X.f.ws.length + X.f.cs.length + 2 * tot X.ms + 2 * X.ln.length + 2 * X.wt.length
def markX (k : Int) (X : Mch) : Mch :=
  ⟨mkF k X.f, upMM (k + X.f.ws.length + X.f.cs.length) X.ms, X.sp, X.w, X.t, X.k, upM (k + X.f.ws.length + X.f.cs.length + 2 * tot X.ms) X.ln.length, upM (k + X.f.ws.length + X.f.cs.length + 2 * tot X.ms + 2 * X.ln.length) X.wt.length⟩
end Go.Proofs.YtdijlofcgcikjaaDoor

namespace Go.Proofs.YtdijlofcgcikjaaDoor
open Go.RowKit
set_option linter.unusedVariables false

/-- every item of the line has a width -/
def hasWid (f : Fnt) (x : Mat) : Prop := x.1 < 0 ∨ x.1.toNat < f.ws.length
theorem itemsM_len (f : Fnt) (xs : List Mat) : (itemsM f xs).length = xs.length := by simp [itemsM]
theorem itemsM_succ {f : Fnt} {xs : List Mat} {k : Nat} {x : Mat} (h : xs[k]? = some x) : itemsM f (xs.take (k + 1)) = itemsM f (xs.take k) ++ [itemM f x] := by
  rw [mtake_at h]; simp [itemsM]
theorem own_grown {w w' : World} {B b : Nat} {v : Value} {zs : List Int} (h : Own w B v zs) (hb : Below b w w') (hk : ∀ k, v.ownBlock = some k → k < b) : Own w' B v zs := by
  refine ⟨h.1, ?_⟩
  have hl := World.ownsRow.lt h
  rcases h.2 with hn | ⟨g, cap, cur, rfl, hg, hh, rest⟩
  · exact .inl hn
  · exact .inr ⟨g, cap, cur, rfl, hg, (hb.block g (hk g rfl)).trans hh, rest⟩

end Go.Proofs.YtdijlofcgcikjaaDoor

namespace Go.Proofs.YtdijlofcgcikjaaDoor
open Go.RowKit
set_option linter.unusedVariables false

end Go.Proofs.YtdijlofcgcikjaaDoor

namespace Go.Proofs.YtdijlofcgcikjaaDoor
open Go.RowKit
set_option linter.unusedVariables false

theorem eqMatrixS_same (lo hi lo2 hi2 : Nat) (A B : Option Addr) (n c d : Nat) (xs : List Mat) (w : World) (hn : xs.length = n) (hl : n ≤ 1048576) (hhi : hi ≤ w.heap.size) (hhi2 : hi2 ≤ w.heap.size) (h : MatsI w lo hi A xs) (h2 : MatsI w lo2 hi2 B xs) :
    Calls Tryd.prog 66 #[.slice A n c, .slice B n d] w fun e w' => e = .returned (.bool true) ∧ Below w.heap.size w w' := by
  refine (eqMatrixS_any lo hi lo2 hi2 A B n n c d xs xs w hn hn hl (by unfold maxLen; omega) hhi hhi2 h h2).mono ?_
  rintro e w' ⟨rfl, hb⟩
  exact ⟨by simp, hb⟩
/-- the words of a second machine that reads alike -/
theorem MchV.again {w : World} {lo hi lo2 hi2 : Nat} {X : Mch} {v u : Value} (h : MchV w lo hi v X) (h2 : MchV w lo2 hi2 u X) : ∃ s A n c A2 m d M q e L l lc T r tc B b B2 b2 N e' L' lc' T' tc',
    v = .agg #[.string s, .slice A n c, .slice A2 m d, .slice M q e, .int .i64 X.sp, .int .i64 X.w, .int .i64 X.t, .int .i64 X.k, .slice L l lc, .slice T r tc]
    ∧ u = .agg #[.string s, .slice B n b, .slice B2 m b2, .slice N q e', .int .i64 X.sp, .int .i64 X.w, .int .i64 X.t, .int .i64 X.k, .slice L' l lc', .slice T' r tc']
    ∧ FontV w lo hi (.agg #[.string s, .slice A n c, .slice A2 m d]) X.f ∧ FontV w lo2 hi2 (.agg #[.string s, .slice B n b, .slice B2 m b2]) X.f
    ∧ X.ms.length = q ∧ MagI w lo hi M X.ms ∧ MagI w lo2 hi2 N X.ms ∧ X.ln.length = l ∧ MatsI w lo hi L X.ln ∧ MatsI w lo2 hi2 L' X.ln ∧ X.wt.length = r ∧ MatsI w lo hi T X.wt ∧ MatsI w lo2 hi2 T' X.wt := by
  obtain ⟨A, c, A2, d, M, e, L, lc, T, tc, hv, hp⟩ := h
  obtain ⟨B, b, B2, b2, N, e', L', lc', T', tc', hu, hp2⟩ := h2
  exact ⟨_, A, _, c, A2, _, d, M, _, e, L, _, lc, T, _, tc, B, b, B2, b2, N, e', L', lc', T', tc', hv, hu, hp.font, hp2.font, rfl, hp.mag, hp2.mag, rfl, hp.line, hp2.line, rfl, hp.wait, hp2.wait⟩
end Go.Proofs.YtdijlofcgcikjaaDoor

namespace Go.Proofs.YtdijlofcgcikjaaDoor
open Go.RowKit
set_option linter.unusedVariables false

theorem machB_mag {X : Mch} (h : magB X.f X.ms = false) : machB X = false := by unfold machB; rw [h]; rfl
theorem machB_sp {X : Mch} (h : inB X.sp 0 60 = false) : machB X = false := by unfold machB; rw [h]; simp
theorem machB_ms {X : Mch} (h : msrB X.m = false) : machB X = false := by unfold machB; rw [good_no h]; simp
theorem machB_wl {X : Mch} (h : ¬ X.wt.length ≤ 240) : machB X = false := by unfold machB; rw [decide_eq_false h]; simp
theorem machB_wt {X : Mch} {j : Nat} {x : Mat} (hx : X.wt[j]? = some x) (h : matB X.f x = false) : machB X = false := by
  unfold machB; rw [mats_bad hx h]; simp
theorem machB_ln {X : Mch} {j : Nat} {x : Mat} (hx : X.ln[j]? = some x) (h : setM X.f x = false) : machB X = false := by
  unfold machB; rw [mats_bad hx h]; simp
theorem machB_fit {X : Mch} (h1 : magB X.f X.ms = true) (h2 : inB X.sp 0 60 = true) (h3 : msrB X.m = true) (h4 : X.wt.length ≤ 240) (h5 : X.wt.all (matB X.f) = true) (h6 : X.ln.all (setM X.f) = true) :
    machB X = fitsB X.m (itemsM X.f X.ln) := by
  unfold machB goodB
  rw [h1, h2, h3, h5, h6, decide_eq_true h4]
  cases hf : fitsB X.m (itemsM X.f X.ln)
  · simp
  · have : lineB (itemsM X.f X.ln) = true := by unfold fitsB at hf; rw [Bool.and_eq_true] at hf; exact hf.1
    have hl := (lineB_parts this).2
    rw [itemsM_len] at hl
    rw [decide_eq_true hl]; rfl
theorem set_hasWid {f : Fnt} {x : Mat} (hf : fontB f = true) (h : setM f x = true) : hasWid f x := by
  obtain ⟨e1, e2, _⟩ := fontB_codes hf
  unfold setM at h
  rw [Bool.or_eq_true] at h
  rcases h with h | h
  · unfold bandM at h
    rw [Bool.and_eq_true, beq_iff_eq] at h
    left; omega
  · unfold matB at h
    rw [Bool.and_eq_true] at h
    have := (inB_iff _ _ _).1 h.1
    right; omega
theorem magB_font {f : Fnt} {ms : List (List Mat)} (h : magB f ms = true) : fontB f = true := by unfold magB at h; rw [Bool.and_eq_true] at h; exact h.1

end Go.Proofs.YtdijlofcgcikjaaDoor

namespace Go.Proofs.YtdijlofcgcikjaaDoor
open Go.RowKit
set_option linter.unusedVariables false

theorem inB_nat (r b : Nat) : inB (r : Int) 0 b = decide (r ≤ b) := by
  unfold inB
  by_cases h : r ≤ b
  · rw [decide_eq_true (show 0 ≤ (r : Int) ∧ (r : Int) ≤ b by omega), decide_eq_true h]
  · rw [decide_eq_false (show ¬ (0 ≤ (r : Int) ∧ (r : Int) ≤ b) by omega), decide_eq_false h]
theorem set_item {f : Fnt} {x : Mat} (hf : fontB f = true) (h : setM f x = true) : bandM x = true ∨ (0 ≤ x.1 ∧ x.1.toNat < f.ws.length) := by
  obtain ⟨e1, e2, _⟩ := fontB_codes hf
  unfold setM at h
  rw [Bool.or_eq_true] at h
  rcases h with h | h
  · exact .inl h
  · unfold matB at h
    rw [Bool.and_eq_true] at h
    have := (inB_iff _ _ _).1 h.1
    right; omega
theorem machB_wait {X : Mch} {r : Nat} (hr : X.wt.length = r) (h : (inB (r : Int) 0 240 && X.wt.all (matB X.f)) = false) : machB X = false := by
  rw [show (240 : Int) = ((240 : Nat) : Int) from rfl, inB_nat] at h
  unfold machB; rw [hr, h]; simp
theorem machB_line {X : Mch} {l : Nat} (hl : X.ln.length = l) (h : (inB (l : Int) 0 120 && X.ln.all (setM X.f)) = false) : machB X = false := by
  rw [show (120 : Int) = ((120 : Nat) : Int) from rfl, inB_nat] at h
  unfold machB; rw [hl, h]; simp
theorem machB_good {X : Mch} {l r : Nat} (hl : X.ln.length = l) (hr : X.wt.length = r) (h1 : magB X.f X.ms = true) (h2 : inB X.sp 0 60 = true) (h3 : (inB (r : Int) 0 240 && X.wt.all (matB X.f)) = true) (h4 : (inB (l : Int) 0 120 && X.ln.all (setM X.f)) = true) : machB X = goodB X.m (itemsM X.f X.ln) := by
  rw [show (240 : Int) = ((240 : Nat) : Int) from rfl, inB_nat] at h3
  rw [show (120 : Int) = ((120 : Nat) : Int) from rfl, inB_nat] at h4
  unfold machB; rw [hl, hr, h1, h2, h3, h4]; simp

end Go.Proofs.YtdijlofcgcikjaaDoor

namespace Go.Proofs.YtdijlofcgcikjaaDoor
open Go.RowKit
set_option linter.unusedVariables false

theorem machB_parts {X : Mch} (h : machB X = true) : magB X.f X.ms = true ∧ inB X.sp 0 60 = true ∧ X.wt.length ≤ 240 ∧ X.wt.all (matB X.f) = true ∧ X.ln.length ≤ 120 ∧ X.ln.all (setM X.f) = true ∧ goodB X.m (itemsM X.f X.ln) = true := by
  unfold machB at h
  simp only [Bool.and_eq_true, decide_eq_true_eq] at h
  exact ⟨h.1, h.2.1, h.2.2.1.1, h.2.2.1.2, h.2.2.2.1.1, h.2.2.2.1.2, h.2.2.2.2⟩
def itsA (X : Mch) : List Int := if machB X then itemsM X.f X.ln else []
theorem itsA_len (X : Mch) : (itsA X).length ≤ 1048576 := by
  unfold itsA
  split
  · rename_i h
    have := (machB_parts h).2.2.2.2.1
    rw [itemsM_len]; omega
  · simp
theorem items_set {X : Mch} (h : machB X = true) : ∀ x ∈ X.ln, bandM x = true ∨ (0 ≤ x.1 ∧ x.1.toNat < X.f.ws.length) := fun x hx =>
  set_item (magB_font (machB_parts h).1) (List.all_eq_true.1 (machB_parts h).2.2.2.2.2.1 x hx)
theorem items_wid {X : Mch} (h : machB X = true) : ∀ x ∈ X.ln, hasWid X.f x := fun x hx =>
  set_hasWid (magB_font (machB_parts h).1) (List.all_eq_true.1 (machB_parts h).2.2.2.2.2.1 x hx)
theorem own_intsQ {w : World} {B n c : Nat} {A : Option Addr} {zs : List Int} (h : Own w B (.slice A n c) zs) : Ints w A zs := (IntsI.of_own h).ints
theorem own_none (w : World) (B : Nat) : Own w B (.slice none 0 0) [] := ⟨rfl, .inl ⟨rfl, rfl⟩⟩
end Go.Proofs.YtdijlofcgcikjaaDoor

namespace Go.Proofs.YtdijlofcgcikjaaDoor
open Go.RowKit
set_option linter.unusedVariables false

theorem chg_set (w : World) (b o : Nat) (u : Value) : Chg b (b + 1) w (w.setCell ⟨b, o, none⟩ u) :=
  ⟨rfl, rfl, rfl, by simp [World.setCell], fun k hk hn => Below.heap_setCell _ _ _ _ (by show k ≠ b; omega)⟩
end Go.Proofs.YtdijlofcgcikjaaDoor
