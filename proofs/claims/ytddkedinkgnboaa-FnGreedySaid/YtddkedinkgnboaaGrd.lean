/-
  GreedyBreaking of the program by contract. Conditions: lengths and capacities within the reach of a slice.
-/
import Derived.Test.YtddkedinkgnboaaPkD
import Derived.Test.YtddkedinkgnboaaPkC
namespace Go.Proofs.Ytddkedinkgnboaa
open Go.RowKit
set_option linter.unusedVariables false

set_option maxHeartbeats 800000 in
theorem ldGreedy_any (W t k : Int) (ad : Addr) (n c p q sb : Nat) (zs : List Int) (w : World) (hn : zs.length = n) (hc : n ≤ c) (hcm : c ≤ maxLen) (h : Ints w (some ad) zs) (hm : msrB ⟨W, t, k⟩ = true) (ht : textB zs = true) (hp : p < n) (hS : Blk w sb #[.int .i64 W, .int .i64 t, .int .i64 k, .slice (some ad) n c] 59) :
    Calls Try.prog 57 #[.int .i64 p, .int .i64 q, .pointer (some ⟨sb, 0, none⟩)] w fun e w' => e = .returned (.bool (q == lastE ⟨W, t, k⟩ zs p)) ∧ Below w.heap.size w w' := by
  have HL := Lib.hid (lgEnd_any W t k ad n c p zs w hn hc hcm h hm ht hp)
  obtain ⟨L, hL⟩ : ∃ L, lastE ⟨W, t, k⟩ zs p = L := ⟨_, rfl⟩
  rw [hL] at HL ⊢
  obtain ⟨s0, s1, s2, s3⟩ := hS.st
  clear hn hc hcm h hm ht hp hS hL
  have hd : Hid ((((q : Int) == (L : Int)) : Bool) = (q == L)) := by
    show _ = _
    rw [Bool.eq_iff_iff, beq_iff_eq, beq_iff_eq]; omega
  go_enter Try.func57, Try.ntmps57
  go_wp2_with (go_at_call 58; refine HL.out.mono ?_; rintro e w1 ⟨rfl, hb1⟩; have HB1 := Lib.hid hb1; clear hb1)
  go_ret
  exact ⟨ret_bool hd.out, HB1.out⟩

/-- what the longest line's function leans on -/
def RGrd (W t k : Int) (ad : Addr) (n c sb g : Nat) (zs : List Int) (G : Nat → Prop) (s : Int) (w : World) : Prop :=
  s = 0 ∧ Blk w sb #[.int .i64 W, .int .i64 t, .int .i64 k, .slice (some ad) n c] 59 ∧ IntsB w g (some ad) zs ∧ g ≤ sb ∧ ¬ G sb ∧ ∀ k, G k → g ≤ k
theorem grdLeads (W t k : Int) (ad : Addr) (n c sb g g1 : Nat) (zs : List Int) (hg1 : g ≤ g1) (hn : zs.length = n) (hc : n ≤ c) (hcm : c ≤ maxLen) (hm : msrB ⟨W, t, k⟩ = true) (ht : textB zs = true) :
    LeadsOK ⟨W, t, k⟩ zs 57 #[.pointer (some ⟨sb, 0, none⟩)] g1 (fun _ => False) (RGrd W t k ad n c sb g zs) (ldG ⟨W, t, k⟩ zs) where
  ent := fun args w => by kernel_rfl
  ext := fun G s w w' h he => ⟨h.1, h.2.1.ext he h.2.2.2.2.1, h.2.2.1.ext he h.2.2.2.2.2, h.2.2.2⟩
  join := fun G G' s w h hG => ⟨h.1, h.2.1, h.2.2.1, h.2.2.2.1, fun hs => (hG _ hs).elim h.2.2.2.2.1 (fun hx => by have := h.2.1.lt; omega), fun k hk => (hG k hk).elim (h.2.2.2.2.2 k) (fun hx => by have := h.2.1.lt; have := h.2.2.2.1; omega)⟩
  kept := fun G s w w' row h hg hr => ⟨h.1, h.2.1.kept hg (fun q e => (hr q e).2), h.2.2.1.ext (X := fun k => g1 ≤ k) (ExtX.by_ hg (fun q e => (hr q e).1)) (fun k hk => by omega), h.2.2.2⟩
  call := fun G s p q w h hG hg hpq hq hl => by
    refine (ldGreedy_any W t k ad n c p q sb zs w hn hc hcm h.2.2.1.ints hm ht (by omega) h.2.1).mono ?_
    rintro e w' ⟨rfl, hb⟩
    exact ⟨rfl, ⟨h.1, h.2.1.below hb h.2.1.lt, h.2.2.1.keep (by have := h.2.1.lt; have := h.2.2.2.1; omega) hb, h.2.2.2⟩, ExtX.of hb⟩

set_option maxRecDepth 100000 in
set_option maxHeartbeats 3200000 in
theorem implGreedy_any (W t k : Int) (A : Option Addr) (n c : Nat) (zs : List Int) (w : World) (hn : zs.length = n) (hc : n ≤ c) (hcm : c ≤ maxLen) (h : Ints w A zs) :
    Calls Try.prog 24 #[.agg #[.int .i64 W, .int .i64 t, .int .i64 k], .slice A n c] w fun e w' => ∃ v, e = .returned (.tuple #[v, .bool (grdA ⟨W, t, k⟩ zs).isSome]) ∧ Own w' w.heap.size v ((grdA ⟨W, t, k⟩ zs).getD []) ∧ Below w.heap.size w w' := by
  have C := fun (w : World) (hI : Ints w A zs) => stOk_any W t k A n c zs w hn (Nat.le_trans hc hcm) hI
  obtain ⟨g, hg⟩ : ∃ g, w.heap.size = g := ⟨_, rfl⟩
  obtain ⟨w0, hw0, hb0, hz0, P⟩ := msWorld w W t k
  have T0 := Lib.hid hb0; have P0 := Lib.hid P
  have I0 := Lib.hid ((IntsB.of h).keep (Nat.le_refl _) hb0)
  rw [hg] at T0 P0 I0 P hz0
  have CC := Lib.hid C; have Hn := Lib.hid hn; have Hc := Lib.hid hc; have Hcm := Lib.hid hcm; have HG := Lib.hid hg
  obtain ⟨p0, p1, p2⟩ := P
  -- the setting's box
  obtain ⟨w1, hw1⟩ : ∃ v, w0.alloc (.cells #[.int .i64 W, .int .i64 t, .int .i64 k, .slice A n c] 59) = v := ⟨_, rfl⟩
  have b1 : Below (g + 1) w0 w1 := by rw [← hw1, ← hz0]; exact below_new _ _
  have z1 : w1.heap.size = g + 2 := by rw [← hw1]; simp [hz0]
  have S1 : Blk w1 (g + 1) #[.int .i64 W, .int .i64 t, .int .i64 k, .slice A n c] 59 := by rw [← hw1, ← hz0]; exact Blk.new _ _ _
  have T1 := Lib.hid (T0.out.trans (b1.mono (by omega))); have I1 := Lib.hid (I0.out.keep (by omega) b1); have HS1 := Lib.hid S1
  obtain ⟨s0, s1, s2, s3⟩ := (show w1.cell? ⟨g + 1, 0, none⟩ = some (.int .i64 W) ∧ w1.cell? ⟨g + 1, 1, none⟩ = some (.int .i64 t) ∧ w1.cell? ⟨g + 1, 2, none⟩ = some (.int .i64 k) ∧ w1.cell? ⟨g + 1, 3, none⟩ = some (.slice A n c) from S1.st)
  clear hb0 hn h C hc hcm b1 S1
  cases ho : okW ⟨W, t, k⟩ zs
  · have HR : Hid (grdA ⟨W, t, k⟩ zs = none) := by show _ = _; unfold grdA; rw [ho]; rfl
    have HO := Lib.hid ho
    clear ho
    rw [HR.out]
    go_enter Try.func24, Try.ntmps24
    go_wp2_with (go_at_call 46; refine (CC.out _ I1.out.ints).mono ?_; rintro e w2 ⟨he, hb2⟩; rw [show (msrB ⟨W, t, k⟩ && textB zs) = false from HO.out] at he; subst he; have T2 := Lib.hid (T1.out.trans (hb2.mono (B' := g) (by omega))); clear hb2 p0 p1 p2 s0 s1 s2 s3)
    go_ret2
    exact ⟨_, rfl, World.ownsRow_nil _ _ _ _, by rw [HG.out]; exact T2.out⟩
  have HR : Hid (grdA ⟨W, t, k⟩ zs = grdF ⟨W, t, k⟩ zs (n + 1) 0) := by show _ = _; unfold grdA; rw [ho, Hn.out]; rfl
  have HO := Lib.hid ho
  have HM := Lib.hid (okW_parts ho)
  obtain ⟨-, hl1, hl2⟩ := textB_parts HM.out.2
  rw [Hn.out] at hl1 hl2
  obtain ⟨ad, rfl⟩ := ints_some I0.out.ints (by rw [Hn.out]; exact hl1)
  have HGo : Hid (goE ⟨W, t, k⟩ zs (ldG ⟨W, t, k⟩ zs) (n + 1) [] 0 0 = ((grdF ⟨W, t, k⟩ zs (n + 1) 0).map ([] ++ ·), 0)) := goE_greedy ⟨W, t, k⟩ zs (n + 1) [] 0 0 (by rw [Hn.out]; omega) (Nat.zero_le _)
  clear ho
  rw [HR.out]
  go_enter Try.func24, Try.ntmps24
  go_wp2_with (first
    | (go_at_call 46; refine (CC.out _ I1.out.ints).mono ?_; rintro e w2 ⟨he, hb2⟩; rw [show (msrB ⟨W, t, k⟩ && textB zs) = true from HO.out] at he; subst he; have T2 := Lib.hid (T1.out.trans (hb2.mono (B' := g) (by omega))); have I2 := Lib.hid (I1.out.keep (by omega) hb2); have S2 := Lib.hid (HS1.out.below hb2 (by omega)); have zz2 : g + 2 ≤ w2.heap.size := (by have := hb2.size; omega); clear hb2 p0 p1 p2 s0 s1 s2 s3; obtain ⟨s0, s1, s2, s3⟩ := S2.out.st)
    | (go_at_call 50; refine (firstBr2_any W t k ad n c zs Hn.out Hc.out Hcm.out HM.out.1 HM.out.2 g (fun _ => False) 57 _ (RGrd W t k ad n c (g + 1) g zs) (ldG ⟨W, t, k⟩ zs) 0 w2 (by omega) (fun k h => h.elim) (fun g1 h => grdLeads W t k ad n c (g + 1) g g1 zs (by omega) Hn.out Hc.out Hcm.out HM.out.1 HM.out.2) ⟨rfl, S2.out, I2.out, by omega, id, fun k h => h.elim⟩ I2.out (grdF ⟨W, t, k⟩ zs (n + 1) 0) (by rw [HGo.out]; simp)).mono ?_; rintro e w3 ⟨v, rfl, hO, hb3⟩; have HO3 := Lib.hid hO; have T3 := Lib.hid (T2.out.trans hb3); clear hO hb3))
  go_ret2
  exact ⟨_, rfl, by rw [HG.out]; exact HO3.out, by rw [HG.out]; exact T3.out⟩
end Go.Proofs.Ytddkedinkgnboaa
