/-
  BreakingAt of the program by contract (what stands on AtI). Conditions: lengths and capacities within the reach of a slice, an index of int's range.
-/
import Derived.Test.YtddkedinkgnboaaAtI
namespace Go.Proofs.Ytddkedinkgnboaa
open Go.RowKit
set_option linter.unusedVariables false

def atB (m : Msr) (zs : List Int) (i : Int) : Bool := okW m zs && (decide (0 ≤ i) && decide (i < wayF m zs 0))
/-- L is the breaking with index i, or empty where there is none -/
def AtR (m : Msr) (zs : List Int) (i : Int) (L : List Int) : Prop := if atB m zs i then brkF m zs 0 L = true ∧ idxF m zs 0 L = i else L = []
theorem brkF_len {m : Msr} {zs : List Int} : ∀ (ls : List Int) (p : Nat), p ≤ zs.length → brkF m zs p ls = true → ls.length ≤ zs.length - p
  | [], p, _, _ => by simp
  | x :: r, p, hp, hb => by
    rw [brkF, Bool.and_eq_true, Bool.and_eq_true] at hb
    have hx := inB_true hb.1
    have := brkF_len r (p + x.toNat) (by omega) hb.2.2
    simp; omega
theorem atR_ex (m : Msr) (zs : List Int) (i : Int) : ∃ L, AtR m zs i L ∧ L.length ≤ 1048576 := by
  unfold AtR
  cases h : atB m zs i
  · exact ⟨[], by simp, by simp⟩
  · have h' := h
    unfold atB at h
    rw [Bool.and_eq_true, Bool.and_eq_true, decide_eq_true_eq, decide_eq_true_eq] at h
    obtain ⟨-, -, h40⟩ := textB_parts (okW_parts h.1).2
    obtain ⟨r, s2, g1, g2, g3⟩ := goE_index (m := m) h40 (zs.length + 1) [] 0 i (by omega) (Nat.zero_le _) h.2.1 h.2.2
    have := brkF_len r 0 (Nat.zero_le _) g2
    exact ⟨r, by simp only [if_true]; exact ⟨g2, g3⟩, by omega⟩

set_option maxRecDepth 100000 in
set_option maxHeartbeats 3200000 in
theorem implAt_any (W t k : Int) (A : Option Addr) (n c : Nat) (zs : List Int) (i : Int) (L : List Int) (w : World) (hn : zs.length = n) (hc : n ≤ c) (hcm : c ≤ maxLen) (h : Ints w A zs) (hi : i ≤ 9223372036854775807) (hL : AtR ⟨W, t, k⟩ zs i L) :
    Calls Try.prog 18 #[.agg #[.int .i64 W, .int .i64 t, .int .i64 k], .slice A n c, .int .i64 i] w fun e w' => ∃ v, e = .returned (.tuple #[v, .bool (atB ⟨W, t, k⟩ zs i)]) ∧ Own w' w.heap.size v L ∧ Below w.heap.size w w' := by
  have C := fun (w : World) (hI : Ints w A zs) => stOk_any W t k A n c zs w hn (Nat.le_trans hc hcm) hI
  obtain ⟨g, hg⟩ : ∃ g, w.heap.size = g := ⟨_, rfl⟩
  obtain ⟨x1, hx1⟩ : ∃ v, w.alloc (.cells #[.int .i64 W, .int .i64 t, .int .i64 k] 24) = v := ⟨_, rfl⟩
  have e1 : Below g w x1 := by rw [← hx1, ← hg]; exact below_new _ _
  have z1 : x1.heap.size = g + 1 := by rw [← hx1]; simp [hg]
  have k1 : Blk x1 g #[.int .i64 W, .int .i64 t, .int .i64 k] 24 := by rw [← hx1, ← hg]; exact Blk.new _ _ _
  obtain ⟨x2, hx2⟩ : ∃ v, x1.alloc (.cells #[.int .i64 i] 3) = v := ⟨_, rfl⟩
  have e2 : Below (g + 1) x1 x2 := by rw [← hx2, ← z1]; exact below_new _ _
  have z2 : x2.heap.size = g + 2 := by rw [← hx2]; simp [z1]
  have k2 : Blk x2 (g + 1) #[.int .i64 i] 3 := by rw [← hx2, ← z1]; exact Blk.new _ _ _
  obtain ⟨x3, hx3⟩ : ∃ v, x2.alloc (.cells #[.int .i64 W, .int .i64 t, .int .i64 k, .slice A n c] 59) = v := ⟨_, rfl⟩
  have e3 : Below (g + 2) x2 x3 := by rw [← hx3, ← z2]; exact below_new _ _
  have z3 : x3.heap.size = g + 3 := by rw [← hx3]; simp [z2]
  have k3 : Blk x3 (g + 2) #[.int .i64 W, .int .i64 t, .int .i64 k, .slice A n c] 59 := by rw [← hx3, ← z2]; exact Blk.new _ _ _
  have hk2 := k2.below e3 (by omega)
  have hk1 := (k1.below e2 (by omega)).below e3 (by omega)
  have T3 := Lib.hid ((e1.trans (e2.mono (by omega))).trans (e3.mono (B' := g) (by omega)))
  have I3 := Lib.hid ((show IntsB w g A zs by rw [← hg]; exact IntsB.of h).keep (Nat.le_refl _) T3.out)
  have K1 := Lib.hid hk1; have K2 := Lib.hid hk2; have K3 := Lib.hid k3
  have CC := Lib.hid C; have Hn := Lib.hid hn; have Hc := Lib.hid hc; have Hcm := Lib.hid hcm; have HG := Lib.hid hg; have HL := Lib.hid hL
  obtain ⟨p0, p1, p2⟩ := k1.three
  obtain ⟨i0, i1⟩ := hk2.one
  obtain ⟨s0, s1, s2, s3⟩ := (show x3.cell? ⟨g + 2, 0, none⟩ = some (.int .i64 W) ∧ x3.cell? ⟨g + 2, 1, none⟩ = some (.int .i64 t) ∧ x3.cell? ⟨g + 2, 2, none⟩ = some (.int .i64 k) ∧ x3.cell? ⟨g + 2, 3, none⟩ = some (.slice A n c) from k3.st)
  have m2 := (k1.below e2 (by omega)).three
  obtain ⟨q0, q1, q2⟩ := m2
  clear hn h C hc hcm hL e1 e2 e3 k1 k2 k3 hk1 hk2
  cases ho : okW ⟨W, t, k⟩ zs
  · have HB : Hid (atB ⟨W, t, k⟩ zs i = false) := by show _ = _; unfold atB; rw [ho]; rfl
    have HE : Hid (L = []) := by show L = []; have := HL.out; unfold AtR at this; rw [HB.out] at this; simpa using this
    have HO := Lib.hid ho
    clear ho
    rw [HB.out]
    go_enter Try.func18, Try.ntmps18
    go_wp2_with (go_at_call 46; refine (CC.out _ I3.out.ints).mono ?_; rintro e w2 ⟨he, hb2⟩; rw [show (msrB ⟨W, t, k⟩ && textB zs) = false from HO.out] at he; subst he; have T4 := Lib.hid (T3.out.trans (hb2.mono (B' := g) (by omega))); clear hb2)
    go_ret2
    exact ⟨_, rfl, by rw [HE.out]; exact World.ownsRow_nil _ _ _ _, by rw [HG.out]; exact T4.out⟩
  have HO := Lib.hid ho
  have HM := Lib.hid (okW_parts ho)
  obtain ⟨-, hl1, hl2⟩ := textB_parts HM.out.2
  have h40 : Hid (zs.length ≤ 40) := hl2
  rw [Hn.out] at hl1 hl2
  obtain ⟨ad, rfl⟩ := ints_some I3.out.ints (by rw [Hn.out]; exact hl1)
  by_cases hi0 : 0 ≤ i
  · have HR : Hid ((goE ⟨W, t, k⟩ zs (ldA ⟨W, t, k⟩ zs) (n + 1) [] 0 i).1 = if atB ⟨W, t, k⟩ zs i then some L else none) := by
      show _ = _
      by_cases hw : i < wayF ⟨W, t, k⟩ zs 0
      · have hb : atB ⟨W, t, k⟩ zs i = true := by unfold atB; rw [ho]; simp [hi0, hw]
        obtain ⟨r, s', g1, g2, g3⟩ := goE_index (m := ⟨W, t, k⟩) h40.out (n + 1) [] 0 i (by rw [Hn.out]; omega) (Nat.zero_le _) hi0 hw
        have h1 := HL.out
        unfold AtR at h1
        rw [hb] at h1 ⊢
        simp only [if_true] at h1 ⊢
        rw [g1, idxF_inj h40.out L r 0 (Nat.zero_le _) h1.1 g2 (by rw [h1.2, g3])]
        simp
      · have hb : atB ⟨W, t, k⟩ zs i = false := by unfold atB; rw [ho]; simp [hw]
        rw [hb, goE_beyond h40.out (by rw [Hn.out]; exact hl1) n i (by omega)]
        simp
    have HNil : Hid ((if atB ⟨W, t, k⟩ zs i then some L else none).getD [] = L ∧ (if atB ⟨W, t, k⟩ zs i then some L else none).isSome = atB ⟨W, t, k⟩ zs i) := by
      have h1 := HL.out
      unfold AtR at h1
      cases hb : atB ⟨W, t, k⟩ zs i
      · rw [hb] at h1; exact ⟨by simpa using h1.symm, by simp⟩
      · exact ⟨by simp, by simp⟩
    have hneg : decide (i < 0) = false := decide_eq_false (by omega)
    obtain ⟨o, hoo⟩ : ∃ o, (if atB ⟨W, t, k⟩ zs i then some L else none) = o := ⟨_, rfl⟩
    rw [hoo] at HR HNil
    rw [← HNil.out.2]
    clear ho hoo
    go_enter Try.func18, Try.ntmps18
    go_wp2_with (first
      | (go_at_call 46; refine (CC.out _ I3.out.ints).mono ?_; rintro e w2 ⟨he, hb2⟩; rw [show (msrB ⟨W, t, k⟩ && textB zs) = true from HO.out] at he; subst he; have T4 := Lib.hid (T3.out.trans (hb2.mono (B' := g) (by omega))); have I4 := Lib.hid (I3.out.keep (by omega) hb2); have K14 := Lib.hid (K1.out.below hb2 (by omega)); have K24 := Lib.hid (K2.out.below hb2 (by omega)); have K34 := Lib.hid (K3.out.below hb2 (by omega)); have zz4 : g + 3 ≤ w2.heap.size := (by have := hb2.size; omega); clear hb2 p0 p1 p2 q0 q1 q2 i0 i1 s0 s1 s2 s3 hx1 hx2 hx3; obtain ⟨i0, i1⟩ := K24.out.one)
      | (go_at_call 47; refine (counterOfG_any _ _ _ zs _).mono ?_; rintro e w5 ⟨r, rfl, hr, hCM, hb5⟩; have T5 := Lib.hid (T4.out.trans (hb5.mono (B' := g) (by omega))); have I5 := Lib.hid (I4.out.keep (by omega) hb5); have K15 := Lib.hid (K14.out.below hb5 (by omega)); have K25 := Lib.hid (K24.out.below hb5 (by omega)); have K35 := Lib.hid (K34.out.below hb5 (by omega)); have hr2 : r < w5.heap.size := hCM.lt; have CM5 := Lib.hid hCM; clear hb5 hCM i0 i1; obtain ⟨s0, s1, s2, s3⟩ := (K35.out.below (below_new w5 (.cells #[.slice (some ad) n c, .map (some r)] 63)) (by omega)).st)
      | (go_at_call 50; refine (firstBr2_any W t k ad n c zs Hn.out Hc.out Hcm.out HM.out.1 HM.out.2 g (fun j => j = g + 1 ∨ j = r) 51 _ (RAt W t k ad n c w5.heap.size g (g + 1) r g zs) (ldA ⟨W, t, k⟩ zs) i _ (by rw [World.size_alloc]; omega) (fun j hj => by rw [World.size_alloc]; omega) (fun g1 h => atLeads W t k ad n c w5.heap.size g (g + 1) r g g1 zs (by rw [World.size_alloc] at h; omega) (by rw [World.size_alloc] at h; omega) Hn.out Hc.out Hcm.out HM.out.1 HM.out.2)
          ⟨hi0, hi, Blk.new w5 _ _, K15.out.below (below_new _ _) (by omega), K25.out.below (below_new _ _) (by omega), (CM5.out.anti (fun j hj => by rcases hj with hj | hj; exact hj.elim; omega)).below (below_new _ _), I5.out.keep (by omega) (below_new _ _), ⟨by omega, by omega, by omega, by omega⟩, ⟨id, id, id⟩, ⟨by omega, by omega, by omega, by omega, by omega⟩, fun j hj => hj.elim⟩ (I5.out.keep (by omega) (below_new _ _)) _ HR.out).mono ?_; rintro e w7 ⟨v, rfl, hO, hb7⟩; have HO7 := Lib.hid hO; have T7 := Lib.hid ((T5.out.trans ((below_new w5 _).mono (by omega))).trans hb7); clear hO hb7))
    go_ret2
    refine ⟨_, rfl, ?_, ?_⟩
    · have h1 := HO7.out
      rw [HNil.out.1] at h1
      first | exact h1 | (rw [HG.out]; exact h1)
    · first | exact T7.out | (rw [HG.out]; exact T7.out)
  · have HB : Hid (atB ⟨W, t, k⟩ zs i = false) := by show _ = _; unfold atB; rw [ho]; simp [hi0]
    have HE : Hid (L = []) := by show L = []; have := HL.out; unfold AtR at this; rw [HB.out] at this; simpa using this
    have hneg : decide (i < 0) = true := decide_eq_true (by omega)
    clear ho hi0
    rw [HB.out]
    go_enter Try.func18, Try.ntmps18
    go_wp2_with (go_at_call 46; refine (CC.out _ I3.out.ints).mono ?_; rintro e w2 ⟨he, hb2⟩; rw [show (msrB ⟨W, t, k⟩ && textB zs) = true from HO.out] at he; subst he; have T4 := Lib.hid (T3.out.trans (hb2.mono (B' := g) (by omega))); have K24 := Lib.hid (K2.out.below hb2 (by omega)); clear hb2 p0 p1 p2 q0 q1 q2 i0 i1 s0 s1 s2 s3 hx1 hx2 hx3; obtain ⟨i0, i1⟩ := K24.out.one)
    go_ret2
    exact ⟨_, rfl, by rw [HE.out]; exact World.ownsRow_nil _ _ _ _, by rw [HG.out]; exact T4.out⟩
end Go.Proofs.Ytddkedinkgnboaa
