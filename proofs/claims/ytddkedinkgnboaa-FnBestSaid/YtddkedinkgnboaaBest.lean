/-
  BestBreaking of the program by contract. Conditions: lengths and capacities within the reach of a slice.
-/
import Derived.Test.YtddkedinkgnboaaPkD
import Derived.Test.YtddkedinkgnboaaEachL
import Derived.Test.YtddkedinkgnboaaPkC
import Derived.OwnWalk
namespace Go.Proofs.Ytddkedinkgnboaa
open Go.RowKit Go.Shelf
set_option linter.unusedVariables false
attribute [local go_sem] Oper.semAt_some

/-- the row of the least costs -/
def lstR (m : Msr) (zs : List Int) : List Int := rowE m zs (addL m zs) 0 dearC zs.length
theorem lstR_len (m : Msr) (zs : List Int) : (lstR m zs).length = zs.length + 1 := rowE_len _ _ _ _ _ _
theorem lstR_cell {m : Msr} {zs : List Int} {w : World} {p i : Nat} (h : Ints w (some ⟨p, 0, none⟩) (lstR m zs)) (hi : i ≤ zs.length) : w.cell? ⟨p, i, none⟩ = some (.int .i64 (lstF m zs i)) :=
  ints_cell h (by rw [rowE_len]; omega)

set_option maxRecDepth 100000 in
set_option maxHeartbeats 1600000 in
theorem ldBest_any (W t k : Int) (ad : Addr) (n c p q sb lb r N1 : Nat) (zs : List Int) (w : World) (hn : zs.length = n) (hc : n ≤ c) (hcm : c ≤ maxLen) (h : Ints w (some ad) zs) (hm : msrB ⟨W, t, k⟩ = true) (ht : textB zs = true) (hpq : p < q) (hq : q ≤ n) (hl : lineW ⟨W, t, k⟩ zs p q = true) (hN1 : n + 1 = N1) (hS : Blk w sb #[.int .i64 W, .int .i64 t, .int .i64 k, .slice (some ad) n c] 59) (hL : Blk w lb #[.slice (some ⟨r, 0, none⟩) N1 N1] 25) (hR : Ints w (some ⟨r, 0, none⟩) (lstR ⟨W, t, k⟩ zs)) :
    Calls Try.prog 61 #[.int .i64 p, .int .i64 q, .pointer (some ⟨sb, 0, none⟩), .pointer (some ⟨lb, 0, none⟩)] w fun e w' => e = .returned (.bool (ldB ⟨W, t, k⟩ zs 0 p q).1) ∧ Below w.heap.size w w' := by
  have HC := Lib.hid (fun v (hI : Ints v (some ad) zs) => stCost_any W t k ad n c zs p q v hn hc hcm hI hm ht hpq hq)
  have HI := Lib.hid h
  have ho : okW ⟨W, t, k⟩ zs = true := by unfold okW; rw [hm, ht]; rfl
  have hcb := costW_bound ho (by omega) hl
  have hlb := (lst_bound ho _ q rfl (by omega)).1
  have hlp := (lst_bound ho _ p rfl (by omega)).1
  have cq := lstR_cell hR (i := q) (by omega)
  have cp := lstR_cell hR (i := p) (by omega)
  obtain ⟨x, hx⟩ : ∃ x, costW ⟨W, t, k⟩ zs p q = x := ⟨_, rfl⟩
  obtain ⟨y, hy⟩ : ∃ x, lstF ⟨W, t, k⟩ zs q = x := ⟨_, rfl⟩
  obtain ⟨z, hz⟩ : ∃ x, lstF ⟨W, t, k⟩ zs p = x := ⟨_, rfl⟩
  have HB : Hid ((ldB ⟨W, t, k⟩ zs 0 p q).1 = (x + y == z)) := by show _ = _; unfold ldB; rw [hx, hy, hz]
  unfold dearC at hlb hlp
  rw [hx] at HC hcb
  rw [hy] at cq hlb
  rw [hz] at cp hlp
  have e1 : IntKind.i64.wrap (x + y) = x + y := by rw [IntKind.wrap_i64]; omega
  obtain ⟨s0, s1, s2, s3⟩ := hS.st
  have l0 := hL.one.1
  have hmx : Try.prog.follows .mixedOrders = true := by kernel_rfl
  have hqN : q < N1 := by omega
  have hpN : p < N1 := by omega
  clear hn hc hcm h hm ht hS hL hR hx hy hz ho hlb hlp hcb
  go_enter Try.func61, Try.ntmps61
  go_wp2
  refine wp_region_plan (.take 0 (.take 1 (.take 2 (.take 4 (.take 5 (.take 6 (.take 7 (.take 9 (.take 10 (.take 11 (.take 12 (.one 3 (.one 8 (.one 13 (.one 14 .done))))))))))))))) (fun w' => (w'.cell? ⟨sb, 0, none⟩ = some (.int .i64 W) ∧ w'.cell? ⟨sb, 1, none⟩ = some (.int .i64 t) ∧ w'.cell? ⟨sb, 2, none⟩ = some (.int .i64 k) ∧ w'.cell? ⟨sb, 3, none⟩ = some (.slice (some ad) n c)) ∧ w'.cell? ⟨lb, 0, none⟩ = some (.slice (some ⟨r, 0, none⟩) N1 N1) ∧ w'.cell? ⟨r, q, none⟩ = some (.int .i64 y) ∧ w'.cell? ⟨r, p, none⟩ = some (.int .i64 z)) hmx (by kernel_rfl) (by kernel_rfl) (by intro c a d v w h; cases d <;> exact h) ⟨⟨s0, s1, s2, s3⟩, l0, cq, cp⟩ ?_
  iterate 11 (refine plan_quiet rfl (by rfl) (v := ?_) ?_ ?_; rotate_left; (intro w1 hSw; (try dsimp only at hSw); go_simp; try (with_reducible rfl)); (try simp only [Act.put, List.setIfInBounds_toArray, List.set_cons_zero, List.set_cons_succ]))
  refine plan_step rfl (fun K hK => ?_)
  rw [if_pos (by rfl)]
  go_simp
  refine (HC.out w.drew HI.out).mono ?_
  rintro e w1 ⟨rfl, hb1⟩
  have hb2 : Below w.heap.size w w1 := ⟨hb1.os, hb1.tape, hb1.output, hb1.size, hb1.block⟩
  have HB1 := Lib.hid hb2
  have cc : ∀ {ad : Addr} {v : Value}, w.cell? ad = some v → w1.cell? ad = some v := fun h => (hb2.cell (World.block_lt_of_cell? _ _ h)).trans h
  have c1 := cc s0; have c2 := cc s1; have c3 := cc s2; have c4 := cc s3; have c5 := cc l0; have c6 := cc cq; have c7 := cc cp
  clear cc hb2 hb1 s0 s1 s2 s3 l0 cq cp
  have HS := Lib.hid (show (w1.cell? ⟨sb, 0, none⟩ = some (.int .i64 W) ∧ w1.cell? ⟨sb, 1, none⟩ = some (.int .i64 t) ∧ w1.cell? ⟨sb, 2, none⟩ = some (.int .i64 k) ∧ w1.cell? ⟨sb, 3, none⟩ = some (.slice (some ad) n c)) ∧ w1.cell? ⟨lb, 0, none⟩ = some (.slice (some ⟨r, 0, none⟩) N1 N1) ∧ w1.cell? ⟨r, q, none⟩ = some (.int .i64 y) ∧ w1.cell? ⟨r, p, none⟩ = some (.int .i64 z) from ⟨⟨c1, c2, c3, c4⟩, c5, c6, c7⟩)
  clear c1 c2 c3 c4 c5 c6 c7
  refine hK.out _ _ HS.out ?_
  clear hK K
  refine plan_step rfl (fun K hK => ?_)
  rw [if_pos (by rfl)]
  go_simp
  refine hK.out _ _ HS.out ?_
  clear hK K
  refine plan_step rfl (fun K hK => ?_)
  rw [if_pos (by rfl)]
  go_simp
  refine hK.out _ _ HS.out ?_
  clear hK K
  refine plan_step rfl (fun K hK => ?_)
  rw [if_pos (by rfl)]
  go_simp
  refine hK.out _ _ HS.out ?_
  clear hK K
  refine plan_end ?_
  go_wp2
  go_ret
  exact ⟨ret_bool HB.out.symm, HB1.out⟩

/-- what the cheapest line's function leans on -/
def RBst (W t k : Int) (ad : Addr) (n c sb lb r N1 g : Nat) (zs : List Int) (G : Nat → Prop) (s : Int) (w : World) : Prop :=
  s = 0 ∧ Blk w sb #[.int .i64 W, .int .i64 t, .int .i64 k, .slice (some ad) n c] 59 ∧ Blk w lb #[.slice (some ⟨r, 0, none⟩) N1 N1] 25 ∧ IntsB w g (some ⟨r, 0, none⟩) (lstR ⟨W, t, k⟩ zs) ∧ IntsB w g (some ad) zs ∧ sb < g ∧ lb < g ∧ g ≤ w.heap.size ∧ ∀ k, G k → g ≤ k
theorem bestLeads (W t k : Int) (ad : Addr) (n c sb lb r N1 g g1 : Nat) (zs : List Int) (hg1 : g ≤ g1) (hn : zs.length = n) (hc : n ≤ c) (hcm : c ≤ maxLen) (hm : msrB ⟨W, t, k⟩ = true) (ht : textB zs = true) (hN1 : n + 1 = N1) :
    LeadsOK ⟨W, t, k⟩ zs 61 #[.pointer (some ⟨sb, 0, none⟩), .pointer (some ⟨lb, 0, none⟩)] g1 (fun _ => False) (RBst W t k ad n c sb lb r N1 g zs) (ldB ⟨W, t, k⟩ zs) where
  ent := fun args w => by kernel_rfl
  ext := fun G s w w' h he => by
    obtain ⟨h0, h1, h2, h3, h4, h5, h6, h7, h8⟩ := h
    exact ⟨h0, h1.ext he (fun hx => by have := h8 _ hx; omega), h2.ext he (fun hx => by have := h8 _ hx; omega), h3.ext he h8, h4.ext he h8, h5, h6, Nat.le_trans h7 he.size, h8⟩
  join := fun G G' s w h hG => by
    obtain ⟨h0, h1, h2, h3, h4, h5, h6, h7, h8⟩ := h
    exact ⟨h0, h1, h2, h3, h4, h5, h6, h7, fun k hk => (hG k hk).elim (h8 k) (fun hx => Nat.le_trans h7 hx)⟩
  kept := fun G s w w' row h hg hr => by
    obtain ⟨h0, h1, h2, h3, h4, h5, h6, h7, h8⟩ := h
    exact ⟨h0, h1.kept hg (fun q e => (hr q e).2), h2.kept hg (fun q e => (hr q e).2), h3.ext (X := fun k => g1 ≤ k) (ExtX.by_ hg (fun q e => (hr q e).1)) (fun k hk => by omega), h4.ext (X := fun k => g1 ≤ k) (ExtX.by_ hg (fun q e => (hr q e).1)) (fun k hk => by omega), h5, h6, Nat.le_trans h7 hg.size, h8⟩
  call := fun G s p q w h hG hg hpq hq hl => by
    obtain ⟨h0, h1, h2, h3, h4, h5, h6, h7, h8⟩ := h
    subst h0
    refine (ldBest_any W t k ad n c p q sb lb r N1 zs w hn hc hcm h4.ints hm ht hpq (by omega) hl hN1 h1 h2 h3.ints).mono ?_
    rintro e w' ⟨rfl, hb⟩
    exact ⟨rfl, ⟨rfl, h1.below hb h1.lt, h2.below hb h2.lt, h3.keep h7 hb, h4.keep h7 hb, h5, h6, Nat.le_trans h7 hb.size, h8⟩, ExtX.of hb⟩

/-- the cheapest breaking, if there is one -/
def bstA (m : Msr) (zs : List Int) : Option (List Int) := if okW m zs && decide (lstF m zs 0 < dearC) then some (bstF m zs (zs.length + 1) 0) else none
/-- its cost, or 0 -/
def bstC (m : Msr) (zs : List Int) : Int := if okW m zs && decide (lstF m zs 0 < dearC) then lstF m zs 0 else 0

set_option maxRecDepth 100000 in
set_option maxHeartbeats 3200000 in
theorem implBest_any (W t k : Int) (A : Option Addr) (n c : Nat) (zs : List Int) (w : World) (hn : zs.length = n) (hc : n ≤ c) (hcm : c ≤ maxLen) (h : Ints w A zs) :
    Calls Try.prog 27 #[.agg #[.int .i64 W, .int .i64 t, .int .i64 k], .slice A n c] w fun e w' => ∃ v, e = .returned (.tuple #[v, .int .i64 (bstC ⟨W, t, k⟩ zs), .bool (bstA ⟨W, t, k⟩ zs).isSome]) ∧ Own w' w.heap.size v ((bstA ⟨W, t, k⟩ zs).getD []) ∧ Below w.heap.size w w' := by
  have C := fun (w : World) (hI : Ints w A zs) => stOk_any W t k A n c zs w hn (Nat.le_trans hc hcm) hI
  obtain ⟨g, hg⟩ : ∃ g, w.heap.size = g := ⟨_, rfl⟩
  obtain ⟨w0, hw0, hb0, hz0, P⟩ := msWorld w W t k
  have T0 := Lib.hid hb0; have P0 := Lib.hid P
  have I0 := Lib.hid ((IntsB.of h).keep (Nat.le_refl _) hb0)
  rw [hg] at T0 P0 I0 P hz0
  have CC := Lib.hid C; have Hn := Lib.hid hn; have Hc := Lib.hid hc; have Hcm := Lib.hid hcm; have HG := Lib.hid hg
  obtain ⟨p0, p1, p2⟩ := P
  -- the setting's box
  obtain ⟨w1, hw1⟩ : ∃ v, w0.alloc (.cells #[.int .i64 W, .int .i64 t, .int .i64 k, .slice A n c] 59) = v := ⟨_, rfl⟩
  have b1 : Below (g + 1) w0 w1 := by rw [← hw1, ← hz0]; exact below_new _ _
  have z1 : w1.heap.size = g + 2 := by rw [← hw1]; simp [hz0]
  have S1 : Blk w1 (g + 1) #[.int .i64 W, .int .i64 t, .int .i64 k, .slice A n c] 59 := by rw [← hw1, ← hz0]; exact Blk.new _ _ _
  have T1 := Lib.hid (T0.out.trans (b1.mono (by omega))); have I1 := Lib.hid (I0.out.keep (by omega) b1); have HS1 := Lib.hid S1
  obtain ⟨s0, s1, s2, s3⟩ := (show w1.cell? ⟨g + 1, 0, none⟩ = some (.int .i64 W) ∧ w1.cell? ⟨g + 1, 1, none⟩ = some (.int .i64 t) ∧ w1.cell? ⟨g + 1, 2, none⟩ = some (.int .i64 k) ∧ w1.cell? ⟨g + 1, 3, none⟩ = some (.slice A n c) from S1.st)
  clear hb0 hn h C hc hcm b1 S1
  cases ho : okW ⟨W, t, k⟩ zs
  · have HR : Hid (bstA ⟨W, t, k⟩ zs = none ∧ bstC ⟨W, t, k⟩ zs = 0) := by show _ ∧ _; unfold bstA bstC; rw [ho]; exact ⟨rfl, rfl⟩
    have HO := Lib.hid ho
    clear ho
    rw [HR.out.1, HR.out.2]
    go_enter Try.func27, Try.ntmps27
    go_wp2_with (go_at_call 46; refine (CC.out _ I1.out.ints).mono ?_; rintro e w2 ⟨he, hb2⟩; rw [show (msrB ⟨W, t, k⟩ && textB zs) = false from HO.out] at he; subst he; have T2 := Lib.hid (T1.out.trans (hb2.mono (B' := g) (by omega))); clear hb2 p0 p1 p2 s0 s1 s2 s3)
    go_ret3
    exact ⟨_, rfl, World.ownsRow_nil _ _ _ _, by rw [HG.out]; exact T2.out⟩
  have HO := Lib.hid ho
  have HM := Lib.hid (okW_parts ho)
  obtain ⟨-, hl1, hl2⟩ := textB_parts HM.out.2
  rw [Hn.out] at hl1 hl2
  obtain ⟨ad, rfl⟩ := ints_some I0.out.ints (by rw [Hn.out]; exact hl1)
  have hlb := (lst_bound ho _ 0 rfl (Nat.zero_le _)).1
  obtain ⟨N1, hN1⟩ : ∃ N1, n + 1 = N1 := ⟨_, rfl⟩
  obtain ⟨x, hx⟩ : ∃ x, lstF ⟨W, t, k⟩ zs 0 = x := ⟨_, rfl⟩
  rw [hx] at hlb
  unfold dearC at hlb
  have HX := Lib.hid hx
  by_cases hd : x < 400000
  · have HR : Hid (bstA ⟨W, t, k⟩ zs = some (bstF ⟨W, t, k⟩ zs (n + 1) 0) ∧ bstC ⟨W, t, k⟩ zs = x) := by
      show _ ∧ _
      unfold bstA bstC dearC; rw [ho, hx, decide_eq_true hd, Hn.out]; exact ⟨rfl, rfl⟩
    have HGo : Hid (goE ⟨W, t, k⟩ zs (ldB ⟨W, t, k⟩ zs) (n + 1) [] 0 0 = (some ([] ++ bstF ⟨W, t, k⟩ zs (n + 1) 0), 0)) := goE_best ho (n + 1) [] 0 0 (by rw [Hn.out]; omega) (Nat.zero_le _) (by rw [hx]; exact hd)
    clear ho
    rw [HR.out.1, HR.out.2]
    have hne : (x == 400000) = false := by rw [beq_eq_false_iff_ne]; omega
    go_enter Try.func27, Try.ntmps27
    go_wp2_with (go_at_call 46; refine (CC.out _ I1.out.ints).mono ?_; rintro e w2 ⟨he, hb2⟩; rw [show (msrB ⟨W, t, k⟩ && textB zs) = true from HO.out] at he; subst he; have T2 := Lib.hid (T1.out.trans (hb2.mono (B' := g) (by omega))); have I2 := Lib.hid (I1.out.keep (by omega) hb2); have S2 := Lib.hid (HS1.out.below hb2 (by omega)); have zz2 : g + 2 ≤ w2.heap.size := (by have := hb2.size; omega); clear hb2 p0 p1 p2 s0 s1 s2 s3; obtain ⟨s0, s1, s2, s3⟩ := S2.out.st)
    refine (least_any W t k ad n c zs _ Hn.out Hc.out Hcm.out I2.out.ints HM.out.1 HM.out.2).mono ?_
    rintro e w3 ⟨N2, r, hN2, rfl, hr, hIr, hb3⟩
    obtain rfl : N2 = N1 := by omega
    clear s0 s1 s2 s3
    have HIr : Hid (Ints w3 (some ⟨r, 0, none⟩) (lstR ⟨W, t, k⟩ zs)) := by show Ints _ _ _; unfold lstR; rw [Hn.out]; exact hIr
    have zz3 : g + 2 ≤ w3.heap.size := (by have := hb3.size; omega)
    have T3 := Lib.hid (T2.out.trans (hb3.mono (B' := g) (by omega))); have I3 := Lib.hid (I2.out.keep (by omega) hb3); have S3 := Lib.hid (S2.out.below hb3 S2.out.lt)
    clear hIr hb3 hN2
    obtain ⟨w4, hw4⟩ : ∃ v, w3.alloc (.cells #[.slice (some ⟨r, 0, none⟩) N2 N2] 25) = v := ⟨_, rfl⟩
    have b4 : Below w3.heap.size w3 w4 := by rw [← hw4]; exact below_new _ _
    have L4 : Hid (Blk w4 w3.heap.size #[.slice (some ⟨r, 0, none⟩) N2 N2] 25) := by show Blk _ _ _ _; rw [← hw4]; exact Blk.new _ _ _
    have S4 := Lib.hid (S3.out.below b4 S3.out.lt)
    have R4 := Lib.hid (HIr.out.below b4)
    have c0 := lstR_cell R4.out (i := 0) (Nat.zero_le _)
    rw [HX.out] at c0
    have l0 := L4.out.one.1
    obtain ⟨s0, s1, s2, s3⟩ := S4.out.st
    obtain ⟨lb, hlb2⟩ : ∃ lb, w3.heap.size = lb := ⟨_, rfl⟩
    rw [hlb2] at L4 l0 zz3 b4
    have z4 : w4.heap.size = lb + 1 := by rw [← hw4, ← hlb2]; simp
    have T4 := Lib.hid (T3.out.trans (b4.mono (B' := g) (by omega))); have I4 := Lib.hid (I3.out.keep (B := lb) (by omega) b4); have I5 : Hid (IntsB w4 (lb + 1) (some ad) zs) := (by have h5 := IntsB.of I4.out.ints; rw [z4] at h5; exact h5)
    clear b4 S3 I3 T3 I2 T2 S2 HIr
    subst hlb2 hw4
    go_wp2_with (go_at_call 50; obtain ⟨w4, hw4⟩ : ∃ v, w3.alloc (.cells #[.slice (some ⟨r, 0, none⟩) N2 N2] 25) = v := ⟨_, rfl⟩; obtain ⟨lb, hlb2⟩ : ∃ lb, w3.heap.size = lb := ⟨_, rfl⟩; rw [hw4, hlb2]; rw [hw4, hlb2] at L4; rw [hw4] at S4 I4 I5 T4 R4 z4; rw [hlb2] at z4 zz3 I5; refine (firstBr2_any W t k ad n c zs Hn.out Hc.out Hcm.out HM.out.1 HM.out.2 (lb + 1) (fun _ => False) 61 _ (RBst W t k ad n c (g + 1) lb r N2 (lb + 1) zs) (ldB ⟨W, t, k⟩ zs) 0 w4 (by omega) (fun k h => h.elim) (fun g1 h => bestLeads W t k ad n c (g + 1) lb r N2 (lb + 1) g1 zs (by omega) Hn.out Hc.out Hcm.out HM.out.1 HM.out.2 hN1) ⟨rfl, S4.out, L4.out, by rw [← z4]; exact IntsB.of R4.out, I5.out, by omega, by omega, by omega, fun k h => h.elim⟩ I5.out (some (bstF ⟨W, t, k⟩ zs (n + 1) 0)) (by rw [HGo.out]; simp)).mono ?_; rintro e w5 ⟨v, rfl, hO, hb5⟩; have HO5 := Lib.hid hO; have T5 := Lib.hid (T4.out.trans (hb5.mono (B' := g) (by omega))); have L5 := Lib.hid (L4.out.below hb5 (by omega)); have R5 := Lib.hid (IntsB.keep (by rw [← z4]; exact IntsB.of R4.out) (Nat.le_refl _) hb5).ints; clear s0 s1 s2 s3 hb5 hO l0 c0; have c0 := lstR_cell R5.out (i := 0) (Nat.zero_le _); rw [HX.out] at c0; have l0 := L5.out.one.1)
    go_region
    go_wp2
    go_ret3
    exact ⟨_, rfl, by rw [HG.out]; exact own_base2 HO5.out (by omega), by rw [HG.out]; exact T5.out.drew⟩
  · have HR : Hid (bstA ⟨W, t, k⟩ zs = none ∧ bstC ⟨W, t, k⟩ zs = 0) := by
      show _ ∧ _
      unfold bstA bstC dearC; rw [ho, hx, decide_eq_false hd]; exact ⟨rfl, rfl⟩
    clear ho
    rw [HR.out.1, HR.out.2]
    have hx4 : x = 400000 := by omega
    have hne : (x == 400000) = true := by rw [beq_iff_eq]; exact hx4
    go_enter Try.func27, Try.ntmps27
    go_wp2_with (go_at_call 46; refine (CC.out _ I1.out.ints).mono ?_; rintro e w2 ⟨he, hb2⟩; rw [show (msrB ⟨W, t, k⟩ && textB zs) = true from HO.out] at he; subst he; have T2 := Lib.hid (T1.out.trans (hb2.mono (B' := g) (by omega))); have I2 := Lib.hid (I1.out.keep (by omega) hb2); have S2 := Lib.hid (HS1.out.below hb2 (by omega)); have zz2 : g + 2 ≤ w2.heap.size := (by have := hb2.size; omega); clear hb2 p0 p1 p2 s0 s1 s2 s3; obtain ⟨s0, s1, s2, s3⟩ := S2.out.st)
    refine (least_any W t k ad n c zs _ Hn.out Hc.out Hcm.out I2.out.ints HM.out.1 HM.out.2).mono ?_
    rintro e w3 ⟨N2, r, hN2, rfl, hr, hIr, hb3⟩
    obtain rfl : N2 = N1 := by omega
    clear s0 s1 s2 s3
    have HIr : Hid (Ints w3 (some ⟨r, 0, none⟩) (lstR ⟨W, t, k⟩ zs)) := by show Ints _ _ _; unfold lstR; rw [Hn.out]; exact hIr
    have zz3 : g + 2 ≤ w3.heap.size := (by have := hb3.size; omega)
    have T3 := Lib.hid (T2.out.trans (hb3.mono (B' := g) (by omega))); have I3 := Lib.hid (I2.out.keep (by omega) hb3); have S3 := Lib.hid (S2.out.below hb3 S2.out.lt)
    clear hIr hb3 hN2
    obtain ⟨w4, hw4⟩ : ∃ v, w3.alloc (.cells #[.slice (some ⟨r, 0, none⟩) N2 N2] 25) = v := ⟨_, rfl⟩
    have b4 : Below w3.heap.size w3 w4 := by rw [← hw4]; exact below_new _ _
    have L4 : Hid (Blk w4 w3.heap.size #[.slice (some ⟨r, 0, none⟩) N2 N2] 25) := by show Blk _ _ _ _; rw [← hw4]; exact Blk.new _ _ _
    have S4 := Lib.hid (S3.out.below b4 S3.out.lt)
    have R4 := Lib.hid (HIr.out.below b4)
    have c0 := lstR_cell R4.out (i := 0) (Nat.zero_le _)
    rw [HX.out] at c0
    have l0 := L4.out.one.1
    obtain ⟨s0, s1, s2, s3⟩ := S4.out.st
    obtain ⟨lb, hlb2⟩ : ∃ lb, w3.heap.size = lb := ⟨_, rfl⟩
    rw [hlb2] at L4 l0 zz3 b4
    have z4 : w4.heap.size = lb + 1 := by rw [← hw4, ← hlb2]; simp
    have T4 := Lib.hid (T3.out.trans (b4.mono (B' := g) (by omega))); have I4 := Lib.hid (I3.out.keep (B := lb) (by omega) b4); have I5 : Hid (IntsB w4 (lb + 1) (some ad) zs) := (by have h5 := IntsB.of I4.out.ints; rw [z4] at h5; exact h5)
    clear b4 S3 I3 T3 I2 T2 S2 HIr
    subst hlb2 hw4
    go_wp2
    go_ret3
    exact ⟨_, rfl, World.ownsRow_nil _ _ _ _, by rw [HG.out]; exact T4.out⟩
end Go.Proofs.Ytddkedinkgnboaa
