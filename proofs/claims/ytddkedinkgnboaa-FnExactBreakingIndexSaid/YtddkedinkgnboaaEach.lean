/-
  fromEachWord of the program by contract, with the function that counts (and the one of the least costs). Conditions: the measure is one, the words are a text.
-/
import Derived.Test.YtddkedinkgnboaaBridge
namespace Go.Proofs.Ytddkedinkgnboaa
open Go.RowKit Go.Shelf
set_option linter.unusedVariables false
attribute [local go_sem] Oper.semAt_some

/-- what is still to do, read off the frame and the world -/
def leftE (a : Act) (w : World) : Nat := match a.tmps.getD 10 undef with
  | .pointer (some p) => match w.cell? p with
    | some (.int _ x) => (x + 1).toNat
    | _ => 0
  | _ => 0
def addC : Int → Nat → Nat → Int → Int := fun acc _ _ b => wrap64 (acc + b)

/-- what fromEachWord holds in memory: the setting's box, the function's, the numbers' variable and row, the word's variable -/
structure FeSt (w0 : World) (g vb : Nat) (sc : Array Value) (fv sv : Value) (fb : Nat) (i : Int) (row : List Int) (w : World) : Prop where
  st : Blk w g sc 59
  fn : Blk w (g + 1) #[fv] 88
  va : Blk w vb #[sv] 25
  fr : Blk w fb #[.int .i64 i] 3
  ro : Own w g sv row
  bl : Below g w0 w
theorem FeSt.below {w0 w w' : World} {g vb : Nat} {sc : Array Value} {fv sv : Value} {fb : Nat} {i : Int} {row : List Int} (h : FeSt w0 g vb sc fv sv fb i row w) (hb : Below w.heap.size w w') (hg : g ≤ w.heap.size) : FeSt w0 g vb sc fv sv fb i row w' :=
  ⟨h.st.below hb h.st.lt, h.fn.below hb h.fn.lt, h.va.below hb h.va.lt, h.fr.below hb h.fr.lt, h.ro.below hb, h.bl.trans (hb.mono hg)⟩
theorem FeSt.keptC {w0 w w' : World} {g vb : Nat} {sc : Array Value} {fv sv : Value} {fb : Nat} {i : Int} {row : List Int} {r : Option Nat} (h : FeSt w0 g vb sc fv sv fb i row w) (hg : w.grownBy w' r) (hr : ∀ q, r = some q → g ≤ q ∧ ∃ o : Obj, w.heap[q]? = some o ∧ o.isCells = false) : FeSt w0 g vb sc fv sv fb i row w' :=
  ⟨h.st.kept hg (fun q e => (hr q e).2), h.fn.kept hg (fun q e => (hr q e).2), h.va.kept hg (fun q e => (hr q e).2), h.fr.kept hg (fun q e => (hr q e).2), h.ro.keptC hg (fun q e => (hr q e).2),
   h.bl.grown hg (by have := h.st.lt; omega) (fun q e => (hr q e).1)⟩
/-- a store into the row -/
theorem FeSt.store {w0 w : World} {g vb : Nat} {sc : Array Value} {fv : Value} {fb m c : Nat} {i : Int} {row : List Int} (h : FeSt w0 g vb sc fv (.slice (some ⟨g + 2, 0, none⟩) m c) fb i row w) (hl : row.length = m) (hvb : g + 2 < vb) (hfb : g + 2 < fb) {j : Nat} (hj : j < m) (x : Int) :
    FeSt w0 g vb sc fv (.slice (some ⟨g + 2, 0, none⟩) m c) fb i (row.set j x) (w.setCell ⟨g + 2, j, none⟩ (.int .i64 x)) :=
  ⟨h.st.other _ _ (by simp), h.fn.other _ _ (by simp), h.va.other _ _ (by show _ ≠ g + 2; omega), h.fr.other _ _ (by show _ ≠ g + 2; omega), (own_store h.ro hl hj).2.2 x, h.bl.setCell (p := ⟨g + 2, j, none⟩) (by simp) _⟩
theorem FeSt.turn {w0 w : World} {g vb : Nat} {sc : Array Value} {fv sv : Value} {fb : Nat} {i : Int} {row : List Int} (h : FeSt w0 g vb sc fv sv fb i row w) (j : Int) (hg : g ≤ w.heap.size) : FeSt w0 g vb sc fv sv w.heap.size j row (w.alloc (.cells #[.int .i64 j] 3)) :=
  ⟨h.st.below (below_new _ _) h.st.lt, h.fn.below (below_new _ _) h.fn.lt, h.va.below (below_new _ _) h.va.lt, Blk.new _ _ _, h.ro.below (below_new _ _), h.bl.trans ((below_new _ _).mono hg)⟩
theorem leftE_at {a : Act} {w : World} {B : Nat} {x : Int} (ha : a.tmps.getD 10 undef = .pointer (some ⟨B, 0, none⟩)) (hc : w.cell? ⟨B, 0, none⟩ = some (.int .i64 x)) : leftE a w = (x + 1).toNat := by
  unfold leftE; rw [ha]; simp only [hc]
theorem own_cell {w : World} {B b m c j : Nat} {zs : List Int} (h : Own w B (.slice (some ⟨b, 0, none⟩) m c) zs) (hj : j < zs.length) : w.cell? ⟨b, j, none⟩ = some (.int .i64 (zs.getD j 0)) := by
  obtain ⟨A', c', hv, hI, _⟩ := h.form
  injection hv with h1 h2 h3
  subst h1
  obtain ⟨ad, e, hc⟩ := hI (by omega)
  injection e with e
  subst e
  have := hc j hj
  rwa [add_zero_at] at this
theorem FeSt.drewN {w0 w : World} {g vb : Nat} {sc : Array Value} {fv sv : Value} {fb : Nat} {i : Int} {row : List Int} (h : FeSt w0 g vb sc fv sv fb i row w) (k : Nat) : FeSt w0 g vb sc fv sv fb i row (w.drewN k) :=
  ⟨h.st, h.fn, h.va, h.fr, h.ro, below_drewN h.bl k⟩

theorem own_base2 {w : World} {B B' : Nat} {v : Value} {zs : List Int} (h : Own w B v zs) (hB : B' ≤ B) : Own w B' v zs := by
  refine ⟨h.1, ?_⟩
  rcases h.2 with hn | ⟨g, cap, cur, hv, hg, rest⟩
  · exact .inl hn
  · exact .inr ⟨g, cap, cur, hv, by omega, rest⟩
theorem own_block {w : World} {g m c : Nat} {j : Nat} {zs : List Int} (h : Own w g (.slice (some ⟨g + 2, 0, none⟩) m c) zs) : ∃ o : Obj, w.heap[(⟨g + 2, j, none⟩ : Addr).block]? = some o ∧ o.isCells = true := by
  rcases h.2 with ⟨h1, _⟩ | ⟨g', cap, cur, hv, hB, hh, _⟩
  · cases h1
  · injection hv with h1 h2 h3
    injection h1 with h1
    injection h1 with h1
    exact ⟨_, by rw [show (⟨g + 2, j, none⟩ : Addr).block = g' from h1]; exact hh, rfl⟩
/-- behind the row's making: the variable's box, the last number stored -/
theorem each_start (w wa wb : World) (g n N1 : Nat) (W t k : Int) (s fv : Value) (e0 : Int) (zs : List Int) (bA : Below g w wa) (zA : wa.heap.size = g + 2)
    (sA : Blk wa g #[.int .i64 W, .int .i64 t, .int .i64 k, s] 59) (fA : Blk wa (g + 1) #[fv] 88) (hN1 : n + 1 = N1) (hn : zs.length = n)
    (hO : Own wb wa.heap.size (.slice (some ⟨wa.heap.size, 0, none⟩) N1 N1) (List.replicate N1 0)) (hb : Below wa.heap.size wa wb) :
    ∃ wc wd, wb.alloc (.cells #[.slice (some ⟨g + 2, 0, none⟩) N1 N1] 25) = wc ∧ wc.setCell ⟨g + 2, n, none⟩ (.int .i64 e0) = wd ∧ g + 2 < wb.heap.size ∧ wc.heap.size = wb.heap.size + 1 ∧ wd.heap.size = wb.heap.size + 1 ∧
      St wc g W t k s ∧ St wd g W t k s ∧ (wc.cell? ⟨wb.heap.size, 0, none⟩ = some (.slice (some ⟨g + 2, 0, none⟩) N1 N1) ∧ wc.frozen? ⟨wb.heap.size, 0, none⟩ = false) ∧ (∃ y, wc.cell? ⟨g + 2, n, none⟩ = some (.int .i64 y)) ∧ wc.frozen? ⟨g + 2, n, none⟩ = false ∧
      ∀ fb i, fb = wb.heap.size + 1 → FeSt w g wb.heap.size #[.int .i64 W, .int .i64 t, .int .i64 k, s] fv (.slice (some ⟨g + 2, 0, none⟩) N1 N1) fb i (List.replicate zs.length 0 ++ [e0]) (wd.alloc (.cells #[.int .i64 i] 3)) := by
  rw [zA] at hO hb
  have hO' : Own wb g (.slice (some ⟨g + 2, 0, none⟩) N1 N1) (List.replicate N1 0) := own_base2 hO (by omega)
  have zB : g + 2 < wb.heap.size := by
    obtain ⟨g', m', c', e, -, -, -, -, -, hr⟩ := own_form2 hO (by simp; omega)
    injection e with e1 e2 e3
    injection e1 with e1
    injection e1 with e1
    have := (World.ownsRow.lt hr g' rfl).2
    omega
  have sB := sA.below hb (by omega)
  have fB := fA.below hb (by omega)
  have bB := bA.trans (hb.mono (B' := g) (by omega))
  obtain ⟨wc, hwc⟩ : ∃ wc, wb.alloc (.cells #[.slice (some ⟨g + 2, 0, none⟩) N1 N1] 25) = wc := ⟨_, rfl⟩
  have hbc : Below wb.heap.size wb wc := by rw [← hwc]; exact below_new _ _
  have zC : wc.heap.size = wb.heap.size + 1 := by rw [← hwc]; simp
  have sC := sB.below hbc (by omega)
  have fC := fB.below hbc (by omega)
  have vC : Blk wc wb.heap.size #[.slice (some ⟨g + 2, 0, none⟩) N1 N1] 25 := by rw [← hwc]; exact Blk.new _ _ _
  have bC := bB.trans (hbc.mono (B' := g) (by omega))
  have oC := hO'.below hbc
  obtain ⟨y, fz, st⟩ := own_store oC (by simp) (show n < N1 by omega)
  refine ⟨wc, _, hwc, rfl, zB, zC, by rw [← zC]; simp [World.setCell], sC.st, (sC.other _ _ (by simp)).st, vC.one, y, fz, fun fb i hfb => ?_⟩
  have st1 := st e0
  rw [← hN1, row_start, ← hn] at st1
  have hsz : (wc.setCell ⟨g + 2, n, none⟩ (.int .i64 e0)).heap.size = wb.heap.size + 1 := by rw [← zC]; simp [World.setCell]
  have hbd : Below (wb.heap.size + 1) (wc.setCell ⟨g + 2, n, none⟩ (.int .i64 e0)) ((wc.setCell ⟨g + 2, n, none⟩ (.int .i64 e0)).alloc (.cells #[.int .i64 i] 3)) := by rw [← hsz]; exact below_new _ _
  refine ⟨(sC.other _ _ (by simp)).below hbd (by omega), (fC.other _ _ (by simp)).below hbd (by omega), (vC.other _ _ (by show _ ≠ g + 2; omega)).below hbd (by omega), ?_, ?_, ?_⟩
  · rw [hfb, ← hsz]; exact Blk.new _ _ _
  · rw [← hN1]; exact Own.below (by rw [hn] at st1; rw [hn]; exact st1) (by rw [hsz]; exact hbd)
  · exact (bC.setCell (p := ⟨g + 2, n, none⟩) (by simp) _).trans (hbd.mono (B' := g) (by omega))

theorem countsFn_any (a i j b : Int) (w : World) : Calls Try.prog 84 #[.int .i64 a, .int .i64 i, .int .i64 j, .int .i64 b] w fun e w' => e = .returned (.int .i64 (wrap64 (a + b))) ∧ w = w' := by
  go_enter Try.func84, Try.ntmps84
  go_wp2
  go_ret
  exact ⟨rfl, rfl⟩

set_option maxRecDepth 100000 in
set_option maxHeartbeats 6400000 in
theorem eachC_any (W t k : Int) (ad : Addr) (n c : Nat) (zs : List Int) (w : World) (hn : zs.length = n) (hc : n ≤ c) (hcm : c ≤ maxLen) (h : Ints w (some ad) zs) (hm : msrB ⟨W, t, k⟩ = true) (ht : textB zs = true) :
    Calls Try.prog 76 #[stV W t k ad n c, .int .i64 1, .int .i64 0, .func (.func 84) #[] #[]] w fun e w' => ∃ N1, N1 = n + 1 ∧ e = .returned (.slice (some ⟨w.heap.size + 2, 0, none⟩) N1 N1) ∧ Own w' w.heap.size (.slice (some ⟨w.heap.size + 2, 0, none⟩) N1 N1) (rowE ⟨W, t, k⟩ zs addC 1 0 n) ∧ Below w.heap.size w w' := by
  obtain ⟨hz, hl1, hl2⟩ := textB_parts ht
  rw [hn] at hl1 hl2
  obtain ⟨N1, hN1⟩ : ∃ N1, n + 1 = N1 := ⟨_, rfl⟩
  obtain ⟨g, hg⟩ : ∃ g, w.heap.size = g := ⟨_, rfl⟩
  have Hn := Lib.hid hn; have Hc := Lib.hid hc; have Hcm := Lib.hid hcm; have HM := Lib.hid hm; have HT := Lib.hid ht; have HN1 := Lib.hid hN1; have HG := Lib.hid hg
  have HI : Hid (IntsB w g (some ad) zs) := by show IntsB _ _ _ _; rw [← hg]; exact IntsB.of h
  have hcast : (n : Int) + 1 = (N1 : Int) := by omega
  have e1 : IntKind.i64.wrap ((n : Int) + 1) = (N1 : Int) := by rw [IntKind.wrap_i64]; omega
  have hw1 : IntKind.i64.wrap ((n : Int) - 1) = (n : Int) - 1 := by rw [IntKind.wrap_i64]; omega
  -- the world with the two boxes
  obtain ⟨wa, hwa⟩ : ∃ wa, (w.alloc (.cells #[.int .i64 W, .int .i64 t, .int .i64 k, .slice (some ad) n c] 59)).alloc (.cells #[.func (.func 84) #[] #[]] 88) = wa := ⟨_, rfl⟩
  have bA : Below g w wa := by rw [← hg, ← hwa]; exact (below_new _ _).trans ((below_new _ _).mono (by simp))
  have zA : wa.heap.size = g + 2 := by rw [← hwa, ← hg]; simp
  have sA : Blk wa g #[.int .i64 W, .int .i64 t, .int .i64 k, .slice (some ad) n c] 59 := by rw [← hwa, ← hg]; exact (Blk.new w _ _).below (below_new _ _) (by simp)
  have fA : Blk wa (g + 1) #[.func (.func 84) #[] #[]] 88 := by rw [← hwa, ← hg]; have := Blk.new (w.alloc (.cells #[.int .i64 W, .int .i64 t, .int .i64 k, .slice (some ad) n c] 59)) #[.func (.func 84) #[] #[]] 88; rwa [World.size_alloc] at this
  have BA := Lib.hid bA; have ZA := Lib.hid zA; have SA := Lib.hid sA; have FA := Lib.hid fA
  obtain ⟨s0, s1, s2, s3⟩ := sA.st
  clear bA sA fA hn hc hcm h hm ht hN1 hz
  refine (callsIn_wide (n := 9)).1 ?_
  refine callsIn_of_wp_marks Try.func76 rfl trivial ?_ rfl
  simp only [Try.ntmps76, List.size_toArray, List.length_cons, List.length_nil, Nat.reduceAdd, Nat.reduceSub, Array.replicate_succ, Array.replicate_zero, List.push_toArray, List.append_toArray, List.nil_append, List.cons_append]
  rw [HG.out]
  gi_wp2_with (gi_at_make; refine wplI_make_int wa rfl (.tmp 15) rfl N1 (N1 : Int) rfl rfl (by omega) ?_; intro wb hO hb; obtain ⟨wc, wd, hwc, hwd, zB, zC, zD, ST, SD, vC, ⟨y0, hy0⟩, hfz, FD⟩ := each_start w wa wb g n N1 W t k (.slice (some ad) n c) (.func (.func 84) #[] #[]) 1 zs BA.out ZA.out SA.out FA.out HN1.out Hn.out hO hb; (have FD := Lib.hid FD); obtain ⟨c0, c1, c2, c3⟩ := ST; obtain ⟨d0, d1, d2, d3⟩ := SD; obtain ⟨v0, v1⟩ := vC; clear hO hb s0 s1 s2 s3 hwa)
  clear hwc hwd c0 c1 c2 c3 d0 d1 d2 d3 v0 v1 hy0 hfz zA
  obtain ⟨vb, hvb⟩ : ∃ vb, wb.heap.size = vb := ⟨_, rfl⟩
  rw [hvb] at FD zB zD ⊢
  clear zC hvb
  have FS := Lib.hid (FD.out (vb + 1) ((n : Int) - 1) rfl)
  obtain ⟨we, hwe⟩ : ∃ we, wd.alloc (.cells #[.int .i64 ((n : Int) - 1)] 3) = we := ⟨_, rfl⟩
  rw [hwe] at FS ⊢
  clear FD hwe zD
  refine wpIn_loop (fun a' wr => ∃ (d fb : Nat) (Ds : List Nat) (u27 u28 u29 u30 u31 u32 u33 u34 u35 u36 u37 u38 u39 u40 u41 u42 u43 u44 u45 u46 u47 u48 u49 u50 u51 u52 u53 u54 : Value), a' = { tmps := #[(stV W t k ad n c : Value), .int .i64 1, .int .i64 0, .func (.func 84) #[] #[], .pointer (some ⟨g, 0, none⟩), undef, undef, .pointer (some ⟨g + 1, 0, none⟩), .slice none 0 0, .pointer (some ⟨vb, 0, none⟩), .pointer (some ⟨fb, 0, none⟩), undef, .pointer (some ⟨g, 3, none⟩), .slice (some ad) n c, .int .i64 n, .int .i64 N1, .slice (some ⟨g + 2, 0, none⟩) N1 N1, .slice (some ⟨g + 2, 0, none⟩) N1 N1, .pointer (some ⟨g, 3, none⟩), .slice (some ad) n c, .int .i64 n, .int .i64 1, .pointer (some ⟨g + 2, n, none⟩), .pointer (some ⟨g, 3, none⟩), .slice (some ad) n c, .int .i64 n, .int .i64 ((n : Int) - 1), u27, u28, u29, u30, u31, u32, u33, u34, u35, u36, u37, u38, u39, u40, u41, u42, u43, u44, u45, u46, u47, u48, u49, u50, u51, u52, u53, u54, undef], defers := Ds.map markOf } ∧ d ≤ n ∧ Hid (FeSt w g vb #[.int .i64 W, .int .i64 t, .int .i64 k, .slice (some ad) n c] (.func (.func 84) #[] #[]) (.slice (some ⟨g + 2, 0, none⟩) N1 N1) fb ((n : Int) - 1 - d) (rowE ⟨W, t, k⟩ zs addC 1 0 d) wr) ∧ Hid (Marks wr Ds) ∧ Hid (Ds.Nodup) ∧ Hid (∀ D ∈ Ds, g ≤ D) ∧ vb < fb) leftE ?_ ?_
  · exact ⟨0, vb + 1, [], undef, undef, undef, undef, undef, undef, undef, undef, undef, undef, undef, undef, undef, undef, undef, undef, undef, undef, undef, undef, undef, undef, undef, undef, undef, undef, undef, undef, rfl, Nat.zero_le _, by have h := FS.out; rw [show (n : Int) - 1 - ((0 : Nat) : Int) = (n : Int) - 1 by omega]; exact h, (fun D hD => by cases hD), List.nodup_nil, (fun D hD => by cases hD), Nat.lt_succ_self _⟩
  · rintro a' wr ⟨d, fb, Ds, u27, u28, u29, u30, u31, u32, u33, u34, u35, u36, u37, u38, u39, u40, u41, u42, u43, u44, u45, u46, u47, u48, u49, u50, u51, u52, u53, u54, rfl, hd, HF, HMk, HND, HGD, hvf⟩
    clear FS
    obtain ⟨f0, f1⟩ := HF.out.fr.one
    obtain ⟨v0, v1⟩ := HF.out.va.one
    obtain ⟨s0, s1, s2, s3⟩ := HF.out.st.st
    by_cases hlt : d < n
    · obtain ⟨q, hq⟩ : ∃ q : Nat, n - 1 - d = q := ⟨_, rfl⟩
      have hqn : q < n := by omega
      have hqi : (n : Int) - 1 - (d : Int) = (q : Int) := by omega
      have HLE := Lib.hid (show leftE { tmps := #[(stV W t k ad n c : Value), .int .i64 1, .int .i64 0, .func (.func 84) #[] #[], .pointer (some ⟨g, 0, none⟩), undef, undef, .pointer (some ⟨g + 1, 0, none⟩), .slice none 0 0, .pointer (some ⟨vb, 0, none⟩), .pointer (some ⟨fb, 0, none⟩), undef, .pointer (some ⟨g, 3, none⟩), .slice (some ad) n c, .int .i64 n, .int .i64 N1, .slice (some ⟨g + 2, 0, none⟩) N1 N1, .slice (some ⟨g + 2, 0, none⟩) N1 N1, .pointer (some ⟨g, 3, none⟩), .slice (some ad) n c, .int .i64 n, .int .i64 1, .pointer (some ⟨g + 2, n, none⟩), .pointer (some ⟨g, 3, none⟩), .slice (some ad) n c, .int .i64 n, .int .i64 ((n : Int) - 1), u27, u28, u29, u30, u31, u32, u33, u34, u35, u36, u37, u38, u39, u40, u41, u42, u43, u44, u45, u46, u47, u48, u49, u50, u51, u52, u53, u54, undef], defers := Ds.map markOf } wr = q + 1 by simp only [leftE]; simp [f0, hqi])
      rw [hqi] at f0 HF
      have hqN : q < N1 := by omega
      have Hlen : Hid ((rowE ⟨W, t, k⟩ zs addC 1 0 d).length = N1) := by show _ = _; rw [rowE_len, Hn.out]; exact HN1.out
      obtain ⟨⟨y0, hy0⟩, hfz, -⟩ := own_store HF.out.ro Hlen.out hqN
      have SF := Lib.hid (HF.out.store Hlen.out zB (by omega) hqN 0)
      have MF := Lib.hid (HMk.out.set (p := ⟨g + 2, q, none⟩) (.int .i64 0) (own_block HF.out.ro))
      obtain ⟨wf, hwf⟩ : ∃ wf, wr.setCell ⟨g + 2, q, none⟩ (.int .i64 0) = wf := ⟨_, rfl⟩
      rw [hwf] at SF MF
      obtain ⟨f2, f3⟩ := SF.out.fr.one
      obtain ⟨t0, t1, t2, t3⟩ := SF.out.st.st
      gi_wp2_with ((try refine ⟨trivial, ?_⟩); gi_at_call 54; refine (callsIn_wide.2 (ends_any W t k ad n c q wf)).mono ?_; rintro e wg ⟨rfl, hwg⟩)
      rw [← hwg]
      clear hwf f0 f1 v0 v1 s0 s1 s2 s3 f2 f3 t0 t1 t2 t3 hy0 hfz HF HMk
      obtain ⟨b, hb⟩ : ∃ b, wf.heap.size = b := ⟨_, rfl⟩
      have bG : Below b wf wg := by rw [hwg, ← hb]; exact ((Below.refl _ _).alloc (Nat.le_refl _) _).alloc (by simp) _
      have zG : wg.heap.size = b + 2 := by rw [hwg, ← hb]; simp
      have sG : St wg b W t k (.slice (some ad) n c) := by rw [hwg, ← hb]; exact St.hold (below_new _ _) (by simp) (Blk.new wf _ _).st
      have qG : wg.cell? ⟨b + 1, 0, none⟩ = some (.int .i64 q) := by rw [hwg, ← hb]; have h1 := (Blk.new (wf.alloc (.cells #[.int .i64 W, .int .i64 t, .int .i64 k, .slice (some ad) n c] 59)) #[.int .i64 q] 3).one.1; rwa [World.size_alloc] at h1
      have SG := Lib.hid (SF.out.below (by rw [hb]; exact bG) (by have := SF.out.st.lt; omega))
      have MG := Lib.hid (MF.out.below bG (fun D hD => by rw [← hb]; exact MF.out.lt D hD))
      have hfb : fb < b := by rw [← hb]; exact SF.out.fr.lt
      rw [hb]
      have IG : IntsB wg g (some ad) zs := (HI.out.keep (Nat.le_refl _) SG.out.bl)
      clear hwg bG hb SF MF
      refine wpIn_rangeFunc_ownG (α := EndT ⟨W, t, k⟩ zs q n) rfl (by omega) (gf := 74) (lb := #[.pointer (some ⟨b + 1, 0, none⟩), .pointer (some ⟨b, 0, none⟩)]) rfl trivial (enters_of Try.func74 (by kernel_rfl) rfl)
        (ends_stops 8 (by omega) W t k ad n c q b g zs wg Hn.out Hc.out Hcm.out HM.out HT.out hqn IG sG qG (by omega)) (fun h k => h.trans k) (fun V l o o' hl h _ _ => KpE.putObj o' (by omega) (by omega) hl h) (Below.refl _ _) (fun _ => rfl)
        (fun pre V => FeSt w g vb #[.int .i64 W, .int .i64 t, .int .i64 k, .slice (some ad) n c] (.func (.func 84) #[] #[]) (.slice (some ⟨g + 2, 0, none⟩) N1 N1) fb (q : Int) ((rowE ⟨W, t, k⟩ zs addC 1 0 d).set q (accE addC 0 q (rowE ⟨W, t, k⟩ zs addC 1 0 d) (pre.map (fun (x : EndT ⟨W, t, k⟩ zs q n) => x.1)))) V ∧ Marks V Ds) (fun _ _ _ => False)
        (fun pre V V' r h hg hr => ⟨h.1.keptC hg (fun s e => ⟨by have h1 := (hr s e).1; omega, (hr s e).2⟩), h.2.kept hg (fun D hD e => by have h1 := (hr D e).1; have h2 := MG.out.lt D hD; omega)⟩)
        (fun _ _ _ _ _ h _ _ => h) ⟨SG.out, MG.out⟩ (fun x => { tmps := #[(stV W t k ad n c : Value), .int .i64 1, .int .i64 0, .func (.func 84) #[] #[], .pointer (some ⟨g, 0, none⟩), undef, undef, .pointer (some ⟨g + 1, 0, none⟩), .slice none 0 0, .pointer (some ⟨vb, 0, none⟩), .pointer (some ⟨fb, 0, none⟩), .int .i64 x.1, .pointer (some ⟨g, 3, none⟩), .slice (some ad) n c, .int .i64 n, .int .i64 N1, .slice (some ⟨g + 2, 0, none⟩) N1 N1, .slice (some ⟨g + 2, 0, none⟩) N1 N1, .pointer (some ⟨g, 3, none⟩), .slice (some ad) n c, .int .i64 n, .int .i64 1, .pointer (some ⟨g + 2, n, none⟩), .pointer (some ⟨g, 3, none⟩), .slice (some ad) n c, .int .i64 n, .int .i64 ((n : Int) - 1), .int .i64 q, .bool true, u29, u30, .slice (some ⟨g + 2, 0, none⟩) N1 N1, .int .i64 q, .int .i64 0, .pointer (some ⟨g + 2, q, none⟩), .agg #[.int .i64 W, .int .i64 t, .int .i64 k, .slice (some ad) n c], .int .i64 q, .func (.func 74) #[] #[.pointer (some ⟨b + 1, 0, none⟩), .pointer (some ⟨b, 0, none⟩)], .int .i64 x.1, u39, u40, u41, u42, u43, u44, u45, u46, u47, u48, u49, u50, u51, u52, u53, u54, undef], defers := [] }) ?assign ?body ?done ?stop
      case assign =>
        intro l x V K hK
        gi_wp2
        exact hK
      case body =>
        rintro l pre x V ⟨hF, hMk⟩ hlen
        obtain ⟨p, hp1, hp2, hp3⟩ := x
        have hpN : p < N1 := by omega
        have Hl2 : Hid (((rowE ⟨W, t, k⟩ zs addC 1 0 d).set q (accE addC 0 q (rowE ⟨W, t, k⟩ zs addC 1 0 d) (pre.map (fun (x : EndT ⟨W, t, k⟩ zs q n) => x.1)))).length = N1) := by show _ = _; rw [List.length_set]; exact Hlen.out
        obtain ⟨v0, v1⟩ := hF.va.one
        obtain ⟨f0, f1⟩ := hF.fr.one
        obtain ⟨u0, u1⟩ := hF.fn.one
        obtain ⟨-, hfz, -⟩ := own_store hF.ro Hl2.out hqN
        have hcq := own_cell hF.ro (j := q) (by rw [Hl2.out]; exact hqN)
        have hcp := own_cell hF.ro (j := p) (by rw [Hl2.out]; exact hpN)
        rw [getD_set_eq (by rw [Hlen.out]; exact hqN)] at hcq
        rw [getD_set_ne (by omega)] at hcp
        have HA := Lib.hid (accE_snoc addC 0 q (rowE ⟨W, t, k⟩ zs addC 1 0 d) (pre.map (fun (x : EndT ⟨W, t, k⟩ zs q n) => x.1)) p)
        obtain ⟨acc, hacc⟩ : ∃ acc, accE addC 0 q (rowE ⟨W, t, k⟩ zs addC 1 0 d) (pre.map (fun (x : EndT ⟨W, t, k⟩ zs q n) => x.1)) = acc := ⟨_, rfl⟩
        obtain ⟨y, hy⟩ : ∃ y, (rowE ⟨W, t, k⟩ zs addC 1 0 d).getD p 0 = y := ⟨_, rfl⟩
        have bV : Below V.heap.size V V.drew := Below.drew (Below.refl _ _)
        have hF4 := hF.below bV (by have := hF.st.lt; omega)
        have hM4 := hMk.below bV hMk.lt
        have HF3 := Lib.hid (hF4.store Hl2.out zB (by omega) hqN (addC acc q p y))
        rw [hacc] at hcq HA
        rw [hy] at hcp HA
        have HM3 := Lib.hid (hM4.set (p := ⟨g + 2, q, none⟩) (.int .i64 (addC acc q p y)) (own_block hF4.ro))
        clear hF4 hM4 bV
        have hpq : ¬ p = q := by omega
        clear hF hMk
        have hmx : Try.prog.follows .mixedOrders = true := by kernel_rfl
        gi_wp2
        refine wpIn_region_tail 15 hmx (by kernel_rfl) (fun hlo => (by obtain ⟨_, _, hlo⟩ := hlo; exact hlo)) (by kernel_rfl) ?_
        simp only [List.take_succ_cons, List.take_zero, List.drop_succ_cons, List.drop_zero]
        iterate 13 still_step
        still_call ((countsFn_any acc q p y V.drew).mono fun e w' h => ⟨h.1, h.2.symm⟩)
        still_step
        refine wpStill_nil ?_
        go_wp2
        have hW : (V.setCell { block := g + 2, off := q } (.int .i64 (wrap64 (acc + y)))).drew = V.drew.setCell ⟨g + 2, q, none⟩ (.int .i64 (addC acc q p y)) := rfl
        rw [hW]
        refine ⟨KeepsFrom.of_grownBy (row := some (g + 2)) (grown_cell_drew V ⟨g + 2, q, none⟩ _) (fun j hj => (by cases hj; omega)), KpE.drewN (KpE.store _ (by show g ≤ g + 2; omega) (by show g + 2 < b; omega)) 1, ?_, HM3.out⟩
        rw [List.map_append]
        show FeSt _ _ _ _ _ _ _ _ ((rowE ⟨W, t, k⟩ zs addC 1 0 d).set q (accE addC 0 q (rowE ⟨W, t, k⟩ zs addC 1 0 d) (pre.map (fun (x : EndT ⟨W, t, k⟩ zs q n) => x.1) ++ [p]))) _
        rw [HA.out]
        have h3 := HF3.out
        rw [set_set_same] at h3
        exact h3
      case done =>
        rintro D xs V hD hS ⟨hF, hMk⟩ hK
        have HF2 := Lib.hid hF; have HM2 := Lib.hid hMk; have HK2 := Lib.hid hK
        obtain ⟨f0, f1⟩ := hF.fr.one
        clear hF hMk hK
        dsimp only
        gi_wp2
        have hDs : D ∉ Ds := fun hd2 => by have h2 := MG.out.lt D hd2; omega
        refine ⟨⟨d + 1, V.heap.size, D :: Ds, _, _, _, _, _, _, _, _, _, _, _, _, _, _, _, _, _, _, _, _, _, _, _, _, _, _, _, _, rfl, by omega, ?_, ?_, List.nodup_cons.2 ⟨hDs, HND.out⟩, ?_, HF2.out.va.lt⟩, ?_⟩
        · show FeSt _ _ _ _ _ _ _ _ _ _
          rw [show (n : Int) - 1 - ((d + 1 : Nat) : Int) = (q : Int) - 1 by omega]
          have h1 := HF2.out.turn ((q : Int) - 1) (by have := HF2.out.st.lt; omega)
          rw [hS] at h1
          show FeSt _ _ _ _ _ _ _ _ ((rowE ⟨W, t, k⟩ zs addC 1 0 d).set (zs.length - 1 - d) (accE addC 0 (zs.length - 1 - d) (rowE ⟨W, t, k⟩ zs addC 1 0 d) (endsTo ⟨W, t, k⟩ zs (zs.length - 1 - d) (zs.length + 1)))) _
          rw [Hn.out, hq]
          exact h1
        · intro D' hD'
          rw [List.mem_cons] at hD'
          rcases hD' with rfl | hD'
          · exact (Below.heap_alloc V _ _ (Array.getElem?_eq_some_iff.1 HK2.out).1).trans HK2.out
          · exact (Below.heap_alloc V _ _ (HM2.out.lt D' hD')).trans (HM2.out D' hD')
        · intro D' hD'
          rw [List.mem_cons] at hD'
          rcases hD' with rfl | hD'
          · have := SG.out.st.lt; omega
          · exact HGD.out D' hD'
        · rw [HLE.out, leftE_at rfl (Blk.new V _ _).one.1]
          omega
      case stop =>
        rintro D c' pre V _ _ h _
        exact h.elim
    · obtain rfl : d = n := by omega
      rw [show (d : Int) - 1 - (d : Int) = -1 by omega] at f0
      gi_wp2
      exact leaves_marks g (fun v => Own v g (.slice (some ⟨g + 2, 0, none⟩) N1 N1) (rowE ⟨W, t, k⟩ zs addC 1 0 d) ∧ Below g w v) (fun v D hgD h hD => ⟨own_putObj h.1 hD, below_putObj h.2 hD hgD⟩) (fun v h => ⟨_, results_tmp rfl _ _ _, N1, HN1.out.symm, rfl, h.1, h.2⟩) Ds wr HND.out HGD.out HMk.out ⟨HF.out.ro, HF.out.bl⟩
end Go.Proofs.Ytddkedinkgnboaa
