/-
  CountAll of the model and the program by contract. Conditions: lengths of at most 2^20, teeth in the range of int.
-/
import Derived.Test.YthoepelgmplcmaaMchL
import Derived.Test.YthoepelgmplcmaaConM
import Derived.Test.YthoepelgmplcmaaKind
import Derived.Test.YthoepelgmplcmaaPkD
namespace Go.Proofs.Ythoepelgmplcmaa
open Go.RowKit
set_option linter.unusedVariables false

def cAdd (l : List Int) (x : Mat) : List Int := if bandM x then l else kAdd l x
def cRow (l : List Int) (xs : List Mat) : List Int := xs.foldl cAdd l
def allX (X : Mch) : List Mat := X.ln ++ X.wt
def cntX (X : Mch) : List Int := if machB X then cRow (kAll X.ms.length X.ms) (allX X) else []
theorem cRow_succ {l : List Int} {xs : List Mat} {k : Nat} {x : Mat} (hx : xs[k]? = some x) : cRow l (xs.take (k + 1)) = cAdd (cRow l (xs.take k)) x := by
  unfold cRow; rw [mtake_at hx, List.foldl_append]; rfl
theorem cAdd_len (l : List Int) (x : Mat) : (cAdd l x).length = l.length := by
  unfold cAdd; split
  · rfl
  · unfold kAdd; rw [List.length_set]
theorem cRow_len (xs : List Mat) : ∀ l, (cRow l xs).length = l.length := by
  induction xs with
  | nil => intro l; rfl
  | cons x xs ih => intro l; show (cRow (cAdd l x) xs).length = _; rw [ih, cAdd_len]
theorem between_c {l : List Int} {b : Nat} (h : between l b) (xs : List Mat) : ∀ k, k ≤ xs.length → between (cRow l (xs.take k)) (b + k)
  | 0, _ => h
  | k + 1, hk => by
    have hx : xs[k]? = some (xs[k]'(by omega)) := List.getElem?_eq_getElem (by omega)
    rw [cRow_succ hx]
    have h1 := between_c h xs k (by omega)
    unfold cAdd
    split
    · intro z hz; have := h1 z hz; omega
    · exact between_add h1 _
theorem cntX_len (X : Mch) : (cntX X).length ≤ 1048576 := by
  unfold cntX
  split
  · rename_i h
    rw [cRow_len, kAll_len]
    obtain ⟨h1, -⟩ := machB_parts h
    unfold magB at h1
    rw [Bool.and_eq_true, Bool.and_eq_true, beq_iff_eq] at h1
    have := fontB_size h1.1
    omega
  · simp
/-- what a machine's lists hold: bands, or kinds of the font -/
theorem all_item {X : Mch} (h : machB X = true) : ∀ x ∈ allX X, bandM x = true ∨ (0 ≤ x.1 ∧ x.1.toNat < X.ms.length) := fun x hx => by
  obtain ⟨h1, -, -, h4, -, h6, -⟩ := machB_parts h
  have hf := magB_font h1
  obtain ⟨e1, e2, _⟩ := fontB_codes hf
  unfold magB at h1
  rw [Bool.and_eq_true, Bool.and_eq_true, beq_iff_eq] at h1
  unfold allX at hx
  rcases List.mem_append.1 hx with hx | hx
  · rcases set_item hf (List.all_eq_true.1 h6 x hx) with h | h
    · exact .inl h
    · exact .inr ⟨h.1, by omega⟩
  · have hm := List.all_eq_true.1 h4 x hx
    unfold matB at hm
    rw [Bool.and_eq_true] at hm
    have := (inB_iff _ _ _).1 hm.1
    right; omega
theorem all_small {X : Mch} (h : machB X = true) : (allX X).length ≤ 360 ∧ 1 ≤ X.ms.length ∧ X.ms.length ≤ 40 ∧ (∀ xs ∈ X.ms, xs.length ≤ 20) := by
  obtain ⟨h1, -, h3, -, h5, -, -⟩ := machB_parts h
  have hf := magB_font h1
  have hs := fontB_size hf
  unfold magB at h1
  rw [Bool.and_eq_true, Bool.and_eq_true, beq_iff_eq] at h1
  refine ⟨by unfold allX; rw [List.length_append]; omega, by omega, by omega, fun xs hx => ?_⟩
  have := List.all_eq_true.1 h1.2.2 xs hx
  unfold rowB at this
  rw [Bool.and_eq_true, decide_eq_true_eq] at this
  exact this.1
set_option maxRecDepth 100000 in
/-- append(s, ys...) as a step of a region that draws -/
theorem step_app_mat {ops : Array Oper} {o : Oper} {a : Act} {w : World} {K : Act → World → Prop} {Q : Exit → Act → World → Prop} {E : Prop} (hw : Region.wanted o (yielded ops a.tmps) = true) (s x : Operand)
    (ho : o.op = .call { callee := .builtin .append, args := #[s, x], argTypes := #[32, 32] })
    (B lo hi : Nat) (v : Value) (xs ys : List Mat) (A : Option Addr) (m c : Nat) (hs : a.eval s = v) (hx : a.eval x = .slice A m c) (hm : ys.length = m) (hI : MatsI w lo hi A ys) (hown : OwnM w B v xs) (hB : B ≤ w.heap.size) (hlen : xs.length + m ≤ 1048576)
    (hK : ∀ v' w', OwnM w' B v' (xs ++ ys) → w.grownBy w' v.ownBlock → K (a.put o.dst v') w') :
    if Region.wanted o (yielded ops a.tmps) = true then Oper.wp Try.prog o a w K Q else E := by
  rw [if_pos hw]
  obtain ⟨i0, hi, hz0, hz1, hz2⟩ := info_parts matInfo
  cases A with
  | none =>
    have hm0 : m = 0 := by
      rcases Nat.eq_zero_or_pos m with h | h
      · exact h
      · obtain ⟨ad, e, _⟩ := hI (by omega); cases e
    subst hm0
    have hy : ys = [] := List.eq_nil_of_length_eq_zero hm
    subst hy
    have hrun := run_append_none_any (P := Try.prog) (w := w) B 32 o.type 34 i0 2 Try.underlying32 hi v _ c _ hown
    unfold Oper.wp execOp
    simp only [ho, resolve, invoke, builtin, Sem.run_bind, Sem.run_pure, Result.andThen_ok, List.map_toArray, List.map_cons, List.map_nil, hs, hx, hrun]
    exact hK v w (by rw [List.append_nil]; exact hown) (World.grownBy.refl w _)
  | some ad =>
    refine wp_append_own w s x 32 ho B 34 i0 (.agg #[.int .i64 0, .int .i64 0]) 2 16 Try.underlying32 hi hz0 hz1 hz2 rfl (by decide) v xs.length (mcells xs) hs hown ad m c (mcells ys) hx (by rw [mcells_len, hm]) ?_ ?_ (by unfold maxLen; omega) (by omega) hB ?_
    · intro j u hj
      have hjl : j < m * 2 := by
        have := (List.getElem?_eq_some_iff.1 hj).1
        rw [mcells_len, hm] at this; exact this
      obtain ⟨ad', e, _, _, hc⟩ := hI (by omega)
      obtain rfl := Option.some.inj e
      have hy : ys[j / 2]? = some (ys[j / 2]'(by omega)) := List.getElem?_eq_getElem (by omega)
      obtain ⟨c1, c2⟩ := hc (j / 2) _ hy
      obtain ⟨g1, g2⟩ := mcells_get hy
      rcases Nat.mod_two_eq_zero_or_one j with h0 | h0
      · have e2 : j / 2 * 2 = j := by omega
        rw [e2] at c1 g1
        rw [hj] at g1
        injection g1 with g1
        rw [c1, g1]
      · have e2 : j / 2 * 2 + 1 = j := by omega
        rw [e2] at c2 g2
        rw [hj] at g2
        injection g2 with g2
        rw [c2, g2]
    · intro u hu
      unfold mcells at hu
      rw [List.mem_flatMap] at hu
      obtain ⟨y, _, hu⟩ := hu
      simp at hu
      rcases hu with rfl | rfl <;> rfl
    · intro v' w' h1 h2 _
      refine hK v' w' ?_ h2
      unfold OwnM
      rw [List.length_append, hm, mcells_append]
      exact h1
theorem blk2 {w : World} {B : Nat} {a0 a1 : Value} {T : TypeId} (h : Blk w B #[a0, a1] T) : w.cell? ⟨B, 0, none⟩ = some a0 ∧ w.cell? ⟨B, 1, none⟩ = some a1 := ⟨cellOfBlk h 0, cellOfBlk h 1⟩
theorem chg_at (w : World) (b o : Nat) (u : Value) : Chg b (b + 1) w (w.setCell ⟨b, o, none⟩ u) := chg_set w b o u
set_option maxRecDepth 100000 in
set_option maxHeartbeats 6400000 in
theorem implCountAll_any (lo hi : Nat) (v : Value) (X : Mch) (w : World) (h : MchV w lo hi v X) (hhi : hi ≤ w.heap.size) (hs : SmallX X) (wf : WfX X) :
    Calls Try.prog 56 #[v] w fun e w' => ∃ u, e = .returned u ∧ Own w' w.heap.size u (cntX X) ∧ Below w.heap.size w w' := by
  have HWf := Lib.hid wf
  clear wf
  obtain ⟨s, A, n, c, A2, m, d, M, q, e0, L, l, lc, T, r, tc, rfl, hf, hq, hM, hqe, hem, hl, hL, hllc, hlm, hr, hT, hrt, htm⟩ := h.parts
  have Hq := Lib.hid hq; have Hl := Lib.hid hl; have Hr := Lib.hid hr; have HS := Lib.hid hs
  have hq1 : q ≤ 1048576 := by rw [← hq]; exact hs.ms
  have hl1 : l ≤ 1048576 := by rw [← hl]; exact hs.ln
  have hr1 : r ≤ 1048576 := by rw [← hr]; exact hs.wt
  obtain ⟨sp, hsp⟩ : ∃ x, X.sp = x := ⟨_, rfl⟩
  obtain ⟨W, hW⟩ : ∃ x, X.w = x := ⟨_, rfl⟩
  obtain ⟨t, ht⟩ : ∃ x, X.t = x := ⟨_, rfl⟩
  obtain ⟨k, hk⟩ : ∃ x, X.k = x := ⟨_, rfl⟩
  rw [hsp, hW, ht, hk] at h ⊢
  have HE : Hid (X.sp = sp ∧ X.m = ⟨W, t, k⟩) := ⟨hsp, by unfold Mch.m; rw [hW, ht, hk]⟩
  obtain ⟨w0, hw0, hb0, hz0, K0⟩ := mxWorld w #[.string s, .slice A n c, .slice A2 m d, .slice M q e0, .int .i64 sp, .int .i64 W, .int .i64 t, .int .i64 k, .slice L l lc, .slice T r tc] 61
  have T0 := Lib.hid hb0; have K0 := Lib.hid K0; have Z0 := Lib.hid hz0
  have F0 := Lib.hid (hf.below hhi hb0); have M0 := Lib.hid (hM.below hhi hb0); have L0 := Lib.hid (hL.below hhi hb0); have W0 := Lib.hid (hT.below hhi hb0)
  have z0 : w.heap.size < w0.heap.size := by omega
  have V0 := Lib.hid (h.below hhi hb0)
  clear h hf hq hM hqe hem hl hL hllc hlm hr hT hrt htm hsp hW ht hk hb0 hz0 hs
  obtain ⟨kc0, kc1, kc2, kc3, kc4, kc5, kc6, kc7, kc8, kc9⟩ := K0.out.ten
  cases hmb : machB X
  · have HM := Lib.hid hmb
    have HR : Hid (cntX X = []) := by show _ = _; unfold cntX; rw [hmb]; rfl
    clear hmb
    go_enter Try.func56, Try.ntmps56
    go_wp2_with fail
    clear hw0
    refine (implMachine_any lo hi _ X w0 V0.out (by omega) HS.out HWf.out).mono ?_
    rintro e w1 ⟨rfl, hb⟩
    rw [HM.out]
    have K1 := Lib.hid (K0.out.below hb (by omega)); have T1 := Lib.hid (T0.out.trans (hb.mono (by omega))); have z1 : w.heap.size < w1.heap.size := Nat.lt_of_lt_of_le z0 hb.size; clear hb kc0 kc1 kc2 kc3 kc4 kc5 kc6 kc7 kc8 kc9; obtain ⟨kc0, kc1, kc2, kc3, kc4, kc5, kc6, kc7, kc8, kc9⟩ := K1.out.ten
    go_wp2
    go_ret
    exact ⟨_, rfl, by rw [HR.out]; exact own_none _ _, T1.out⟩
  have HM := Lib.hid hmb
  have HR : Hid (cntX X = cRow (kAll q X.ms) (allX X)) := by show _ = _; unfold cntX; rw [hmb, Hq.out]; rfl
  have HIt := Lib.hid (all_item hmb)
  obtain ⟨a1, a2, a3, a4⟩ := all_small hmb
  rw [Hq.out] at a2 a3
  obtain ⟨nl, hnl⟩ : ∃ x, (allX X).length = x := ⟨_, rfl⟩
  rw [hnl] at a1
  have HNl := Lib.hid hnl
  have HBt : Hid (between (kAll q X.ms) 800) := by
    show between _ _
    have h1 := between_all (n := q) a4 X.ms.length (Nat.le_refl _)
    rw [List.take_of_length_le (Nat.le_refl _), Hq.out] at h1
    intro z hz
    have := h1 z hz
    omega
  have HKi : Hid (kindL X.f X.ms = kAll q X.ms) := by show _ = _; unfold kindL; rw [(machB_parts hmb).1, Hq.out]; rfl
  clear hmb hnl a4
  go_enter Try.func56, Try.ntmps56
  go_wp2_with fail
  clear hw0
  refine (implMachine_any lo hi _ X w0 V0.out (by omega) HS.out HWf.out).mono ?_
  rintro e w1 ⟨rfl, hb⟩
  rw [HM.out]
  have K1 := Lib.hid (K0.out.below hb (by omega)); have T1 := Lib.hid (T0.out.trans (hb.mono (by omega))); have z1 : w.heap.size < w1.heap.size := Nat.lt_of_lt_of_le z0 hb.size; have F1 := Lib.hid (F0.out.below (by omega) hb); have M1 := Lib.hid (M0.out.below (by omega) hb); have L1 := Lib.hid (L0.out.below (by omega) hb); have W1 := Lib.hid (W0.out.below (by omega) hb); clear hb kc0 kc1 kc2 kc3 kc4 kc5 kc6 kc7 kc8 kc9; obtain ⟨kc0, kc1, kc2, kc3, kc4, kc5, kc6, kc7, kc8, kc9⟩ := K1.out.ten
  go_wp2_with fail
  refine (implKind_any lo hi lo hi _ X.f _ _ _ X.ms w1 F1.out (by omega) HS.out.f Hq.out hq1 M1.out (by omega) HWf.out.ms).mono ?_
  rintro e w2 ⟨u, rfl, hO, hb⟩
  rw [HKi.out] at hO
  obtain ⟨g, cu, rfl⟩ : ∃ g cu, u = .slice (some ⟨g, 0, none⟩) q cu := by
    rcases hO.2 with ⟨-, h0⟩ | ⟨g, cap, cur, rfl, -⟩
    · rw [kAll_len] at h0; omega
    · exact ⟨g, cap, by rw [kAll_len]⟩
  have hgl := World.ownsRow.lt hO g rfl
  have hO2 : w2.ownsRow w1.heap.size 3 1 (.slice (some ⟨g, 0, none⟩) q cu) q ((kAll q X.ms).map (Value.int .i64)) := by
    have := hO
    unfold Own at this
    rwa [kAll_len] at this
  clear hO
  have K2 := Lib.hid (K1.out.below hb (by omega)); have T2 := Lib.hid (T1.out.trans (hb.mono (by omega))); have z2 : w.heap.size < w2.heap.size := Nat.lt_of_lt_of_le z1 hb.size; have L2 := Lib.hid (L1.out.below (by omega) hb); have W2 := Lib.hid (W1.out.below (by omega) hb); clear hb kc0 kc1 kc2 kc3 kc4 kc5 kc6 kc7 kc8 kc9; obtain ⟨kc0, kc1, kc2, kc3, kc4, kc5, kc6, kc7, kc8, kc9⟩ := K2.out.ten
  have C2 := Lib.hid hO2
  clear hO2
  go_wp2_with fail
  obtain ⟨w3, hw, hb, hz, hG⟩ := mxWorld w2 #[.slice L l lc, .slice T r tc] 32
  first | rw [hw] | skip
  have L3 := Lib.hid (L2.out.below (by omega) hb); have W3 := Lib.hid (W2.out.below (by omega) hb); have T3 := Lib.hid (T2.out.trans (hb.mono (by omega))); have C3 := Lib.hid (row_keep C2.out hb)
  have z3 : w2.heap.size < w3.heap.size := hG.lt
  obtain ⟨b0, b1⟩ := blk2 hG
  have hPM : PartsM w3 ⟨w2.heap.size, 0, none⟩ w3.heap.size [⟨L, l, lc, X.ln⟩, ⟨T, r, tc, X.wt⟩] := by
    refine ⟨z3, fun j p hp => ?_⟩
    match j, hp with
    | 0, hp =>
      simp at hp; subst hp
      exact ⟨by rw [show (⟨w2.heap.size, 0, none⟩ : Addr).add 0 = ⟨w2.heap.size, 0, none⟩ from rfl]; exact b0, Hl.out, L3.out.wide (Nat.zero_le _) (by omega)⟩
    | 1, hp =>
      simp at hp; subst hp
      exact ⟨by rw [show (⟨w2.heap.size, 0, none⟩ : Addr).add 1 = ⟨w2.heap.size, 1, none⟩ from rfl]; exact b1, Hr.out, W3.out.wide (Nat.zero_le _) (by omega)⟩
  have hfl : flatM [⟨L, l, lc, X.ln⟩, ⟨T, r, tc, X.wt⟩] = allX X := by simp [flatM, allX]
  have HPM := Lib.hid hPM; have HFl := Lib.hid hfl
  clear hw hb hz hG b0 b1 hPM hfl kc0 kc1 kc2 kc3 kc4 kc5 kc6 kc7 kc8 kc9
  refine (concatM_any ⟨w2.heap.size, 0, none⟩ w3.heap.size 2 2 [⟨L, l, lc, X.ln⟩, ⟨T, r, tc, X.wt⟩] w3 rfl (by omega) (Nat.le_refl _) HPM.out (by rw [HFl.out, HNl.out]; omega)).mono ?_
  rintro e w4 ⟨u, rfl, hO, hb⟩
  rw [HFl.out] at hO
  obtain ⟨AL, cl, rfl, -⟩ := hO.form
  rw [HNl.out] at hO ⊢
  have I4 := Lib.hid hO.reads
  have T4 := Lib.hid (T3.out.trans (hb.mono (by omega))); have C4 := Lib.hid (row_keep C3.out hb)
  have z4 := hb.size
  clear hO hb
  go_wp2
  go_loopw [21] (fun i wr => ∃ j : Nat, j ≤ nl ∧ i = .int .i64 j ∧ wr.ownsRow w1.heap.size 3 1 (.slice (some ⟨g, 0, none⟩) q cu) q ((cRow (kAll q X.ms) ((allX X).take j)).map (Value.int .i64)) ∧ Chg w1.heap.size w2.heap.size w4 wr) (fun i _ => nl - (intOf i).toNat)
  case atStart => exact ⟨0, Nat.zero_le _, rfl, C4.out, Chg.refl _ _ _⟩
  case round =>
    obtain ⟨j, hj, rfl, hown, hb⟩ := hrel
    have HO := Lib.hid hown; have HB := Lib.hid hb
    have zr := hb.size
    clear hown hb
    by_cases hlt : j < nl
    · obtain ⟨ad, x, rfl, hx, c1, c2⟩ := (MatsI.keep (w' := wr) I4.out (fun p p1 p2 => HB.out.cell (by omega) (by omega))).at_ (k := j) (by rw [HNl.out]; exact hlt)
      have HX := HIt.out x (List.mem_of_getElem? hx.out)
      have HC := Lib.hid (cRow_succ (l := kAll q X.ms) hx.out)
      have hbt := between_c HBt.out (allX X) j (by rw [HNl.out]; exact hj)
      obtain ⟨a, b⟩ := x
      simp only at c1 c2
      obtain ⟨wm, hwm⟩ : ∃ y, wr.alloc (.cells #[.int .i64 a, .int .i64 b] 34) = y := ⟨_, rfl⟩
      have bm : Below wr.heap.size wr wm := by rw [← hwm]; exact below_new _ _
      have bk : Blk wm wr.heap.size #[.int .i64 a, .int .i64 b] 34 := by rw [← hwm]; exact Blk.new _ _ _
      have m0 : wm.cell? ⟨wr.heap.size, 0, none⟩ = some (.int .i64 a) := cellOfBlk bk 0
      have m1 : wm.cell? ⟨wr.heap.size, 1, none⟩ = some (.int .i64 b) := cellOfBlk bk 1
      have zm : wr.heap.size < wm.heap.size := bk.lt
      have HBm := Lib.hid (HB.out.trans (Chg.of_below bm)); have HOm := Lib.hid (row_keep HO.out bm); have BK := Lib.hid bk
      clear bm bk
      cases hbd : bandM (a, b)
      · obtain ⟨k0, k1⟩ : 0 ≤ a ∧ a.toNat < X.ms.length := by
          rcases HX with h | h
          · rw [hbd] at h; cases h
          · exact h
        obtain ⟨kk, rfl⟩ : ∃ kk : Nat, a = (kk : Int) := ⟨a.toNat, by omega⟩
        have hkq : kk < q := by have := Hq.out; simp only [Int.toNat_natCast] at k1; omega
        have Hbd := Lib.hid hbd
        have hge : decide (0 ≤ (kk : Int)) = true := decide_eq_true (by omega)
        have HC2 : Hid (cRow (kAll q X.ms) ((allX X).take (j + 1)) = kAdd (cRow (kAll q X.ms) ((allX X).take j)) ((kk : Int), b)) := by show _ = _; rw [HC.out]; unfold cAdd; rw [hbd]; rfl
        obtain ⟨gv, hgv⟩ : ∃ y, (cRow (kAll q X.ms) ((allX X).take j)).getD kk 0 = y := ⟨_, rfl⟩
        have hbd2 := between_getD hbt kk
        rw [hgv] at hbd2
        have hlen2 : (cRow (kAll q X.ms) ((allX X).take j)).length = q := by rw [cRow_len, kAll_len]
        have hcell : ((cRow (kAll q X.ms) ((allX X).take j)).map (Value.int .i64))[kk]? = some (.int .i64 gv) := by
          rw [List.getElem?_map, List.getElem?_eq_getElem (by omega), ← hgv]; simp [List.getD, hlen2, hkq]
        have HCell := Lib.hid hcell
        have hg0 : 0 ≤ gv := hbd2.1
        have hg1 : gv ≤ 2000 := by have := hbd2.2; have := HNl.out; omega
        have HG := Lib.hid hgv
        clear hbd k0 k1 HX hbt hbd2 hcell hlen2 hgv
        go_wp2_with fail
        refine (isBand_any _ _ _).mono ?_
        rintro e w6 ⟨he, hb6⟩
        rw [Hbd.out] at he
        subst he
        have HB6 := Lib.hid (HBm.out.trans (Chg.of_below hb6)); have HO6 := Lib.hid (row_keep HOm.out hb6)
        have bk6 := BK.out.below hb6 zm
        have m0' : w6.cell? ⟨wr.heap.size, 0, none⟩ = some (.int .i64 kk) := cellOfBlk bk6 0
        have z6 := hb6.size
        clear hwm m0 m1 bk6 hb6
        have hcl := (HO6.out.cellAt kk (by omega)).trans HCell.out
        have hfz := HO6.out.frozenAt kk
        have hst := (HO6.out.stored kk (.int .i64 (gv + 1))).1
        rw [← HG.out, kAdd_set (x := ((kk : Int), b)) rfl, ← HC2.out, HG.out] at hst
        have HST := Lib.hid hst
        have HE := Lib.hid (HB6.out.trans ((chg_set w6 g kk (.int .i64 (gv + 1))).wide (lo' := w1.heap.size) (hi' := w2.heap.size) (by omega) (by omega)))
        have hk0 : (0 : Int) ≤ (kk : Int) := by omega
        have hk1 : (kk : Int) < (q : Int) := by omega
        clear hst
        go_wp2
        go_roundw
        case rel => exact ⟨j + 1, by omega, by go_num, HST.out, HE.out⟩
        case measure => simp [intOf]; omega
      · have Hbd := Lib.hid hbd
        have HC2 : Hid (cRow (kAll q X.ms) ((allX X).take (j + 1)) = cRow (kAll q X.ms) ((allX X).take j)) := by show _ = _; rw [HC.out]; unfold cAdd; rw [hbd]; rfl
        have hge : decide (0 ≤ a) = false := by
          unfold bandM at hbd
          rw [Bool.and_eq_true, beq_iff_eq] at hbd
          exact decide_eq_false (by have := hbd.1; simp only at this; omega)
        clear hbd HX hbt
        go_wp2_with fail
        refine (isBand_any _ _ _).mono ?_
        rintro e w6 ⟨he, hb6⟩
        rw [Hbd.out] at he
        subst he
        have HB6 := Lib.hid (HBm.out.trans (Chg.of_below hb6)); have HO6 := Lib.hid (row_keep HOm.out hb6)
        clear hwm m0 m1 hb6
        go_wp2
        go_roundw
        case rel => exact ⟨j + 1, by omega, by go_num, by rw [HC2.out]; exact HO6.out, HB6.out⟩
        case measure => simp [intOf]; omega
    · have hjn : j = nl := by omega
      subst hjn
      go_wp2
      go_ret
      refine ⟨_, rfl, ?_, T4.out.trans ((HB.out.below (by omega)).mono (by omega))⟩
      have hO := HO.out
      rw [mtake_all HNl.out] at hO
      rw [HR.out]
      refine own_baseB (B := w1.heap.size) ?_ (by omega)
      unfold Own
      rw [cRow_len, kAll_len]
      exact hO
set_option maxRecDepth 100000 in
set_option maxHeartbeats 6400000 in
theorem specCountAll_any (lo hi : Nat) (v : Value) (X : Mch) (w : World) (h : MchV w lo hi v X) (hhi : hi ≤ w.heap.size) (hs : SmallX X) (wf : WfX X) :
    Calls Try.prog 55 #[v] w fun e w' => ∃ u, e = .returned u ∧ Own w' w.heap.size u (cntX X) ∧ Below w.heap.size w w' := by
  have HWf := Lib.hid wf
  clear wf
  obtain ⟨s, A, n, c, A2, m, d, M, q, e0, L, l, lc, T, r, tc, rfl, hf, hq, hM, hqe, hem, hl, hL, hllc, hlm, hr, hT, hrt, htm⟩ := h.parts
  have Hq := Lib.hid hq; have Hl := Lib.hid hl; have Hr := Lib.hid hr; have HS := Lib.hid hs
  have hq1 : q ≤ 1048576 := by rw [← hq]; exact hs.ms
  have hl1 : l ≤ 1048576 := by rw [← hl]; exact hs.ln
  have hr1 : r ≤ 1048576 := by rw [← hr]; exact hs.wt
  obtain ⟨sp, hsp⟩ : ∃ x, X.sp = x := ⟨_, rfl⟩
  obtain ⟨W, hW⟩ : ∃ x, X.w = x := ⟨_, rfl⟩
  obtain ⟨t, ht⟩ : ∃ x, X.t = x := ⟨_, rfl⟩
  obtain ⟨k, hk⟩ : ∃ x, X.k = x := ⟨_, rfl⟩
  rw [hsp, hW, ht, hk] at h ⊢
  have HE : Hid (X.sp = sp ∧ X.m = ⟨W, t, k⟩) := ⟨hsp, by unfold Mch.m; rw [hW, ht, hk]⟩
  obtain ⟨w0, hw0, hb0, hz0, K0⟩ := mxWorld w #[.string s, .slice A n c, .slice A2 m d, .slice M q e0, .int .i64 sp, .int .i64 W, .int .i64 t, .int .i64 k, .slice L l lc, .slice T r tc] 61
  have T0 := Lib.hid hb0; have K0 := Lib.hid K0; have Z0 := Lib.hid hz0
  have F0 := Lib.hid (hf.below hhi hb0); have M0 := Lib.hid (hM.below hhi hb0); have L0 := Lib.hid (hL.below hhi hb0); have W0 := Lib.hid (hT.below hhi hb0)
  have z0 : w.heap.size < w0.heap.size := by omega
  have V0 := Lib.hid (h.below hhi hb0)
  clear h hf hq hM hqe hem hl hL hllc hlm hr hT hrt htm hsp hW ht hk hb0 hz0 hs
  obtain ⟨kc0, kc1, kc2, kc3, kc4, kc5, kc6, kc7, kc8, kc9⟩ := K0.out.ten
  cases hmb : machB X
  · have HM := Lib.hid hmb
    have HR : Hid (cntX X = []) := by show _ = _; unfold cntX; rw [hmb]; rfl
    clear hmb
    go_enter Try.func55, Try.ntmps55
    go_wp2_with fail
    clear hw0
    refine (specMachine_any lo hi _ X w0 V0.out (by omega) HS.out).mono ?_
    rintro e w1 ⟨rfl, hb⟩
    rw [HM.out]
    have K1 := Lib.hid (K0.out.below hb (by omega)); have T1 := Lib.hid (T0.out.trans (hb.mono (by omega))); have z1 : w.heap.size < w1.heap.size := Nat.lt_of_lt_of_le z0 hb.size; clear hb kc0 kc1 kc2 kc3 kc4 kc5 kc6 kc7 kc8 kc9; obtain ⟨kc0, kc1, kc2, kc3, kc4, kc5, kc6, kc7, kc8, kc9⟩ := K1.out.ten
    go_wp2
    go_ret
    exact ⟨_, rfl, by rw [HR.out]; exact own_none _ _, T1.out⟩
  have HM := Lib.hid hmb
  have HR : Hid (cntX X = cRow (kAll q X.ms) (allX X)) := by show _ = _; unfold cntX; rw [hmb, Hq.out]; rfl
  have HIt := Lib.hid (all_item hmb)
  obtain ⟨a1, a2, a3, a4⟩ := all_small hmb
  rw [Hq.out] at a2 a3
  obtain ⟨nl, hnl⟩ : ∃ x, (allX X).length = x := ⟨_, rfl⟩
  rw [hnl] at a1
  have HNl := Lib.hid hnl
  have HBt : Hid (between (kAll q X.ms) 800) := by
    show between _ _
    have h1 := between_all (n := q) a4 X.ms.length (Nat.le_refl _)
    rw [List.take_of_length_le (Nat.le_refl _), Hq.out] at h1
    intro z hz
    have := h1 z hz
    omega
  have HKi : Hid (kindL X.f X.ms = kAll q X.ms) := by show _ = _; unfold kindL; rw [(machB_parts hmb).1, Hq.out]; rfl
  clear hmb hnl a4
  go_enter Try.func55, Try.ntmps55
  go_wp2_with fail
  clear hw0
  refine (specMachine_any lo hi _ X w0 V0.out (by omega) HS.out).mono ?_
  rintro e w1 ⟨rfl, hb⟩
  rw [HM.out]
  have K1 := Lib.hid (K0.out.below hb (by omega)); have T1 := Lib.hid (T0.out.trans (hb.mono (by omega))); have z1 : w.heap.size < w1.heap.size := Nat.lt_of_lt_of_le z0 hb.size; have F1 := Lib.hid (F0.out.below (by omega) hb); have M1 := Lib.hid (M0.out.below (by omega) hb); have L1 := Lib.hid (L0.out.below (by omega) hb); have W1 := Lib.hid (W0.out.below (by omega) hb); clear hb kc0 kc1 kc2 kc3 kc4 kc5 kc6 kc7 kc8 kc9; obtain ⟨kc0, kc1, kc2, kc3, kc4, kc5, kc6, kc7, kc8, kc9⟩ := K1.out.ten
  go_wp2_with fail
  refine (specKind_any lo hi lo hi _ X.f _ _ _ X.ms w1 F1.out (by omega) HS.out.f Hq.out hq1 M1.out (by omega)).mono ?_
  rintro e w2 ⟨u, rfl, hO, hb⟩
  rw [HKi.out] at hO
  obtain ⟨g, cu, rfl⟩ : ∃ g cu, u = .slice (some ⟨g, 0, none⟩) q cu := by
    rcases hO.2 with ⟨-, h0⟩ | ⟨g, cap, cur, rfl, -⟩
    · rw [kAll_len] at h0; omega
    · exact ⟨g, cap, by rw [kAll_len]⟩
  have hgl := World.ownsRow.lt hO g rfl
  have hO2 : w2.ownsRow w1.heap.size 3 1 (.slice (some ⟨g, 0, none⟩) q cu) q ((kAll q X.ms).map (Value.int .i64)) := by
    have := hO
    unfold Own at this
    rwa [kAll_len] at this
  clear hO
  have K2 := Lib.hid (K1.out.below hb (by omega)); have T2 := Lib.hid (T1.out.trans (hb.mono (by omega))); have z2 : w.heap.size < w2.heap.size := Nat.lt_of_lt_of_le z1 hb.size; have L2 := Lib.hid (L1.out.below (by omega) hb); have W2 := Lib.hid (W1.out.below (by omega) hb); clear hb kc0 kc1 kc2 kc3 kc4 kc5 kc6 kc7 kc8 kc9; obtain ⟨kc0, kc1, kc2, kc3, kc4, kc5, kc6, kc7, kc8, kc9⟩ := K2.out.ten
  have C2 := Lib.hid hO2
  clear hO2
  go_wp2
  clear kc0 kc1 kc2 kc3 kc4 kc5 kc6 kc7 kc8 kc9
  refine wp_region_plan (.take 1 (.take 2 (.take 4 (.take 5 (.take 8 (.one 0 (.one 3 (.one 6 (.take 7 .done))))))))) (fun w' => w'.cell? ⟨w.heap.size, 8, none⟩ = some (.slice L l lc) ∧ w'.cell? ⟨w.heap.size, 9, none⟩ = some (.slice T r tc)) (by kernel_rfl) (by kernel_rfl) (by kernel_rfl) (by intro c a d v w h; cases d <;> exact h) ⟨cellOfBlk K2.out 8, cellOfBlk K2.out 9⟩ ?_
  iterate 5 (refine plan_quiet rfl (by rfl) (v := ?_) ?_ ?_; rotate_left; (intro w1 hSw; obtain ⟨h0, h1⟩ := hSw; go_simp; try (with_reducible rfl)); (try simp only [Act.put, List.setIfInBounds_toArray, List.set_cons_zero, List.set_cons_succ]))
  obtain ⟨r0, hr0⟩ : ∃ x, w2.drew = x := ⟨_, rfl⟩
  have D0 : Hid (Below w2.heap.size w2 r0) := by show Below _ _ _; rw [← hr0]; exact (Below.refl _ _).drew
  have tr0 : w2.heap.size ≤ r0.heap.size := by rw [← hr0]; exact Nat.le_refl _
  rw [hr0]
  clear hr0
  refine plan_step rfl (fun K hK => ?_)
  rw [if_pos (by rfl)]
  go_simp
  obtain ⟨r1, hw, hb, hz, hZ⟩ := mxWorld r0 #[] 34
  rw [hw]
  have hE : OwnM r1 r0.heap.size (.slice (some ⟨r0.heap.size, 0, none⟩) 0 0) [] := by rw [← hw]; exact World.ownsRow_lit r0 #[] 0 (Nat.le_refl _) (Nat.zero_le _) rfl
  have E1 := Lib.hid hE; have D1 := Lib.hid (D0.out.trans (hb.mono tr0)); have G1 := Lib.hid hb
  have tr1 : r0.heap.size < r1.heap.size := hZ.lt
  clear hw hb hz hZ hE
  refine hK.out _ _ ⟨cellOfBlk (K2.out.below D1.out (by omega)) 8, cellOfBlk (K2.out.below D1.out (by omega)) 9⟩ ?_
  clear hK K
  refine plan_step rfl (fun K hK => ?_)
  refine step_app_mat (by rfl) (.tmp 14) (.tmp 16) rfl r0.heap.size lo hi _ [] X.ln _ l lc rfl rfl Hl.out (L2.out.below (by omega) D1.out) E1.out (by omega) (by simp; omega) ?_
  intro v1 r2 hO hg
  rw [List.nil_append] at hO
  obtain ⟨A1, k1, rfl, -⟩ := hO.form
  rw [Hl.out] at hO ⊢
  have hb : Below r0.heap.size r1 r2 := (Below.refl r0.heap.size r1).grown hg (by omega) (fun x hx => (E1.out.lt x hx).1)
  have E2 := Lib.hid hO; have D2 := Lib.hid (D1.out.trans (hb.mono tr0)); have G2 := Lib.hid (G1.out.trans hb)
  have tr2 : r1.heap.size ≤ r2.heap.size := hg.size
  clear hO hg hb
  refine hK.out _ _ ⟨cellOfBlk (K2.out.below D2.out (by omega)) 8, cellOfBlk (K2.out.below D2.out (by omega)) 9⟩ ?_
  clear hK K
  refine plan_step rfl (fun K hK => ?_)
  refine step_app_mat (by rfl) (.tmp 17) (.tmp 19) rfl r0.heap.size lo hi _ X.ln X.wt _ r tc rfl rfl Hr.out (W2.out.below (by omega) D2.out) E2.out (by omega) (by rw [Hl.out]; have := HNl.out; unfold allX at this; rw [List.length_append, Hl.out, Hr.out] at this; omega) ?_
  intro v2 w4 hO hg
  have hO : OwnM w4 r0.heap.size v2 (allX X) := hO
  obtain ⟨AL, cl, rfl, -⟩ := hO.form
  rw [HNl.out] at hO ⊢
  have hb : Below r0.heap.size r2 w4 := (Below.refl r0.heap.size r2).grown hg (by omega) (fun x hx => (E2.out.lt x hx).1)
  have D3 := D2.out.trans (hb.mono tr0)
  have I4 := Lib.hid (MatsI.wide hO.reads (lo' := r0.heap.size) (Nat.le_refl _) (Nat.le_refl _)); have T4 := Lib.hid (T2.out.trans (D3.mono (by omega))); have C4 := Lib.hid (row_keep C2.out D3)
  have z4 : r2.heap.size ≤ w4.heap.size := hg.size
  have K4 := Lib.hid (K2.out.below D3 (by omega))
  clear hO hg hb D3
  refine hK.out _ _ ⟨cellOfBlk K4.out 8, cellOfBlk K4.out 9⟩ ?_
  clear hK K
  refine plan_quiet rfl (by rfl) (v := ?_) ?_ ?_; rotate_left; (intro w1 hSw; obtain ⟨h0, h1⟩ := hSw; go_simp; try (with_reducible rfl)); (try simp only [Act.put, List.setIfInBounds_toArray, List.set_cons_zero, List.set_cons_succ])
  refine plan_end ?_
  go_wp2
  go_loopw [22] (fun i wr => ∃ j : Nat, j ≤ nl ∧ i = .int .i64 j ∧ wr.ownsRow w1.heap.size 3 1 (.slice (some ⟨g, 0, none⟩) q cu) q ((cRow (kAll q X.ms) ((allX X).take j)).map (Value.int .i64)) ∧ Chg w1.heap.size w2.heap.size w4 wr) (fun i _ => nl - (intOf i).toNat)
  case atStart => exact ⟨0, Nat.zero_le _, rfl, C4.out, Chg.refl _ _ _⟩
  case round =>
    obtain ⟨j, hj, rfl, hown, hb⟩ := hrel
    have HO := Lib.hid hown; have HB := Lib.hid hb
    have zr := hb.size
    clear hown hb
    by_cases hlt : j < nl
    · obtain ⟨ad, x, rfl, hx, c1, c2⟩ := (MatsI.keep (w' := wr) I4.out (fun p p1 p2 => HB.out.cell (by omega) (by omega))).at_ (k := j) (by rw [HNl.out]; exact hlt)
      have HX := HIt.out x (List.mem_of_getElem? hx.out)
      have HC := Lib.hid (cRow_succ (l := kAll q X.ms) hx.out)
      have hbt := between_c HBt.out (allX X) j (by rw [HNl.out]; exact hj)
      obtain ⟨a, b⟩ := x
      simp only at c1 c2
      obtain ⟨wm, hwm⟩ : ∃ y, wr.alloc (.cells #[.int .i64 a, .int .i64 b] 34) = y := ⟨_, rfl⟩
      have bm : Below wr.heap.size wr wm := by rw [← hwm]; exact below_new _ _
      have bk : Blk wm wr.heap.size #[.int .i64 a, .int .i64 b] 34 := by rw [← hwm]; exact Blk.new _ _ _
      have m0 : wm.cell? ⟨wr.heap.size, 0, none⟩ = some (.int .i64 a) := cellOfBlk bk 0
      have m1 : wm.cell? ⟨wr.heap.size, 1, none⟩ = some (.int .i64 b) := cellOfBlk bk 1
      have zm : wr.heap.size < wm.heap.size := bk.lt
      have HBm := Lib.hid (HB.out.trans (Chg.of_below bm)); have HOm := Lib.hid (row_keep HO.out bm); have BK := Lib.hid bk
      clear bm bk
      cases hbd : bandM (a, b)
      · obtain ⟨k0, k1⟩ : 0 ≤ a ∧ a.toNat < X.ms.length := by
          rcases HX with h | h
          · rw [hbd] at h; cases h
          · exact h
        obtain ⟨kk, rfl⟩ : ∃ kk : Nat, a = (kk : Int) := ⟨a.toNat, by omega⟩
        have hkq : kk < q := by have := Hq.out; simp only [Int.toNat_natCast] at k1; omega
        have Hbd := Lib.hid hbd
        have hge : decide (0 ≤ (kk : Int)) = true := decide_eq_true (by omega)
        have HC2 : Hid (cRow (kAll q X.ms) ((allX X).take (j + 1)) = kAdd (cRow (kAll q X.ms) ((allX X).take j)) ((kk : Int), b)) := by show _ = _; rw [HC.out]; unfold cAdd; rw [hbd]; rfl
        obtain ⟨gv, hgv⟩ : ∃ y, (cRow (kAll q X.ms) ((allX X).take j)).getD kk 0 = y := ⟨_, rfl⟩
        have hbd2 := between_getD hbt kk
        rw [hgv] at hbd2
        have hlen2 : (cRow (kAll q X.ms) ((allX X).take j)).length = q := by rw [cRow_len, kAll_len]
        have hcell : ((cRow (kAll q X.ms) ((allX X).take j)).map (Value.int .i64))[kk]? = some (.int .i64 gv) := by
          rw [List.getElem?_map, List.getElem?_eq_getElem (by omega), ← hgv]; simp [List.getD, hlen2, hkq]
        have HCell := Lib.hid hcell
        have hg0 : 0 ≤ gv := hbd2.1
        have hg1 : gv ≤ 2000 := by have := hbd2.2; have := HNl.out; omega
        have HG := Lib.hid hgv
        clear hbd k0 k1 HX hbt hbd2 hcell hlen2 hgv
        have HB6 := HBm; have HO6 := HOm
        have hcl := (HO6.out.cellAt kk (by omega)).trans HCell.out
        have hfz := HO6.out.frozenAt kk
        have hst := (HO6.out.stored kk (.int .i64 (gv + 1))).1
        rw [← HG.out, kAdd_set (x := ((kk : Int), b)) rfl, ← HC2.out, HG.out] at hst
        have HST := Lib.hid hst
        have HE := Lib.hid (HB6.out.trans ((chg_set wm g kk (.int .i64 (gv + 1))).wide (lo' := w1.heap.size) (hi' := w2.heap.size) (by omega) (by omega)))
        have hk0 : (0 : Int) ≤ (kk : Int) := by omega
        have hk1 : (kk : Int) < (q : Int) := by omega
        clear hst
        go_wp2
        go_roundw
        case rel => exact ⟨j + 1, by omega, by go_num, HST.out, HE.out⟩
        case measure => simp [intOf]; omega
      · have Hbd := Lib.hid hbd
        have HC2 : Hid (cRow (kAll q X.ms) ((allX X).take (j + 1)) = cRow (kAll q X.ms) ((allX X).take j)) := by show _ = _; rw [HC.out]; unfold cAdd; rw [hbd]; rfl
        have hge : decide (0 ≤ a) = false := by
          unfold bandM at hbd
          rw [Bool.and_eq_true, beq_iff_eq] at hbd
          exact decide_eq_false (by have := hbd.1; simp only at this; omega)
        clear hbd HX hbt
        have HB6 := HBm; have HO6 := HOm
        go_wp2
        go_roundw
        case rel => exact ⟨j + 1, by omega, by go_num, by rw [HC2.out]; exact HO6.out, HB6.out⟩
        case measure => simp [intOf]; omega
    · have hjn : j = nl := by omega
      subst hjn
      go_wp2
      go_ret
      refine ⟨_, rfl, ?_, T4.out.trans ((HB.out.below (by omega)).mono (by omega))⟩
      have hO := HO.out
      rw [mtake_all HNl.out] at hO
      rw [HR.out]
      refine own_baseB (B := w1.heap.size) ?_ (by omega)
      unfold Own
      rw [cRow_len, kAll_len]
      exact hO
end Go.Proofs.Ythoepelgmplcmaa
