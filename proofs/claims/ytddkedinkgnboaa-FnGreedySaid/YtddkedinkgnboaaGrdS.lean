/-
  GreedyBreaking of the model by contract. Conditions: lengths and capacities within the reach of a slice.
-/
import Derived.Test.YtddkedinkgnboaaPkB
import Derived.Test.YtddkedinkgnboaaPkC
namespace Go.Proofs.Ytddkedinkgnboaa
open Go.RowKit
set_option linter.unusedVariables false

theorem lastE_is {m : Msr} {zs : List Int} {p q : Nat} (h1 : p < q) (h2 : q ≤ zs.length) (h3 : lineW m zs p q = true) (h4 : ∀ r, q < r → r ≤ zs.length → lineW m zs p r = false) : lastE m zs p = q := by
  rcases lastE_cases m zs p (by omega) with ⟨h5, h6⟩ | ⟨h5, h6, h7, h8⟩
  · have := mem_endsTo (m := m) (zs := zs) (a := p) (p := zs.length + 1) (q := q)
    rw [h6] at this
    exact absurd (this.2 ⟨by omega, h1, h3⟩) (by simp)
  · rcases Nat.lt_trichotomy (lastE m zs p) q with h | h | h
    · have := mem_endsTo (m := m) (zs := zs) (a := p) (p := zs.length + 1) (q := q)
      have h9 := this.2 ⟨by omega, h1, h3⟩
      rw [h8, List.mem_append, List.mem_singleton] at h9
      rcases h9 with h9 | h9
      · have := (mem_endsTo.1 h9).1; omega
      · exact h9.symm
    · exact h
    · rw [h4 _ h h6] at h7; cases h7
theorem lastE_none {m : Msr} {zs : List Int} {p : Nat} (hp : p ≤ zs.length) (h4 : ∀ r, p < r → r ≤ zs.length → lineW m zs p r = false) : lastE m zs p = p := by
  rcases lastE_cases m zs p hp with ⟨h5, h6⟩ | ⟨h5, h6, h7, h8⟩
  · exact h5
  · rw [h4 _ h5 h6] at h7; cases h7
theorem grdF_len {m : Msr} {zs : List Int} : ∀ (f p : Nat) (r : List Int), p ≤ zs.length → grdF m zs f p = some r → r.length ≤ zs.length - p
  | 0, p, r, hp, h => by simp [grdF] at h
  | f + 1, p, r, hp, h => by
    rw [grdF] at h
    split at h
    · injection h with h; subst h; simp
    · split at h
      · cases h
      · rename_i h1 h2
        rcases lastE_cases m zs p hp with ⟨h3, _⟩ | ⟨h3, h4, _, _⟩
        · exact absurd h3 h2
        · cases hg : grdF m zs f (lastE m zs p) with
          | none => rw [hg] at h; cases h
          | some t =>
            rw [hg] at h
            injection h with h
            subst h
            have := grdF_len f _ t h4 hg
            simp; omega
theorem grdA_len (m : Msr) (zs : List Int) : ((grdA m zs).getD []).length ≤ 1048576 := by
  unfold grdA
  split
  · rename_i ho
    obtain ⟨-, -, h40⟩ := textB_parts (okW_parts ho).2
    cases hg : grdF m zs (zs.length + 1) 0 with
    | none => simp
    | some r =>
      have := grdF_len _ 0 r (Nat.zero_le _) hg
      simp; omega
  · simp

set_option maxRecDepth 100000 in
set_option maxHeartbeats 6400000 in
theorem specGreedy_any (W t k : Int) (A : Option Addr) (n c : Nat) (zs : List Int) (w : World) (hn : zs.length = n) (hc : n ≤ c) (hcm : c ≤ maxLen) (h : Ints w A zs) :
    Calls Try.prog 25 #[.agg #[.int .i64 W, .int .i64 t, .int .i64 k], .slice A n c] w fun e w' => ∃ v, e = .returned (.tuple #[v, .bool (grdA ⟨W, t, k⟩ zs).isSome]) ∧ Own w' w.heap.size v ((grdA ⟨W, t, k⟩ zs).getD []) ∧ Below w.heap.size w w' := by
  have C := fun (w : World) (hI : Ints w A zs) => l4Ok_any W t k A n c zs w hn (Nat.le_trans hc hcm) hI
  obtain ⟨w0, hw0, hb0, hz0, P⟩ := msWorld w W t k
  have T0 := Lib.hid hb0; have P0 := Lib.hid P; have Z0 := Lib.hid hz0
  have I0 := Lib.hid ((IntsB.of h).keep (Nat.le_refl _) hb0)
  have CC := Lib.hid C; have Hn := Lib.hid hn; have Hc := Lib.hid hc; have Hcm := Lib.hid hcm
  obtain ⟨p0, p1, p2⟩ := P
  clear hb0 hz0 hn h C hc hcm
  cases ho : okW ⟨W, t, k⟩ zs
  · have HR : Hid (grdA ⟨W, t, k⟩ zs = none) := by show _ = _; unfold grdA; rw [ho]; rfl
    have HO := Lib.hid ho
    clear ho
    rw [HR.out]
    go_enter Try.func25, Try.ntmps25
    go_wp2_with fail
    clear hw0
    refine (CC.out _ I0.out.ints).mono ?_
    rintro e w1 ⟨he, hb1⟩
    rw [show (msrB ⟨W, t, k⟩ && textB zs) = false from HO.out] at he; subst he
    have T1 := Lib.hid (T0.out.trans (hb1.mono (B' := w.heap.size) (by have := Z0.out; omega)))
    clear hb1 p0 p1 p2
    go_wp2
    go_ret2
    exact ⟨_, rfl, World.ownsRow_nil _ _ _ _, T1.out⟩
  have HR : Hid (grdA ⟨W, t, k⟩ zs = grdF ⟨W, t, k⟩ zs (n + 1) 0) := by show _ = _; unfold grdA; rw [ho, Hn.out]; rfl
  have HO := Lib.hid ho
  have HM := Lib.hid (okW_parts ho)
  obtain ⟨-, hl1, hl2⟩ := textB_parts HM.out.2
  rw [Hn.out] at hl1 hl2
  obtain ⟨ad, rfl⟩ := ints_some I0.out.ints (by rw [Hn.out]; exact hl1)
  have CG := Lib.hid (fun (a q : Nat) (v : World) (hI : Ints v (some ad) zs) (hq : 1 ≤ q) (hb : a + q ≤ n) => l4Goes_any W t k ad n c zs a q v Hn.out Hc.out Hcm.out hI HM.out.1 HM.out.2 hq hb)
  clear ho
  rw [HR.out]
  go_enter Try.func25, Try.ntmps25
  go_wp2_with fail
  clear hw0
  refine (CC.out _ I0.out.ints).mono ?_
  rintro e w1 ⟨he, hb1⟩
  rw [show (msrB ⟨W, t, k⟩ && textB zs) = true from HO.out] at he; subst he
  have T1 := Lib.hid (T0.out.trans (hb1.mono (B' := w.heap.size) (by have := Z0.out; omega)))
  have JB := Lib.hid (I0.out.keep (by have := Z0.out; omega) hb1)
  have P1 := Lib.hid (hold3 hb1 (by have := Z0.out; omega) P0.out)
  have hz1 : w.heap.size < w1.heap.size := by have := Z0.out; have := hb1.size; omega
  clear p0 p1 p2 hb1 T0 I0 P0 Z0 CC
  go_wp2
  obtain ⟨B, hB⟩ : ∃ b, w1.heap.size = b := ⟨_, rfl⟩
  obtain ⟨w3, hw3⟩ : ∃ w3, w1.alloc (.cells #[] 3) = w3 := ⟨_, rfl⟩
  have hb3 : Below B w1 w3 := by rw [← hw3, ← hB]; exact below_new _ _
  have O3 : Hid (Own w3 B (.slice (some ⟨B, 0, none⟩) 0 0) []) := by show Own _ _ _ _; rw [← hw3, ← hB]; exact World.ownsRow_lit w1 #[] 0 (Nat.le_refl _) (Nat.zero_le _) rfl
  have HB3 := Lib.hid hb3; have HBz := Lib.hid hB
  have hzB : w.heap.size < B := by rw [← hB]; exact hz1
  rw [hw3, hB]
  clear hw3 hb3 hB hz1
  go_loopw [6, 7] (fun u i wr => ∃ (p f : Nat) (ls : List Int) (A : Option Addr) (m d : Nat), p ≤ n ∧ i = .int .i64 p ∧ u = .slice A m d ∧ ls.length ≤ p ∧ Own wr B (.slice A m d) ls ∧ Hid (n < f + p ∧ grdF ⟨W, t, k⟩ zs (n + 1) 0 = (grdF ⟨W, t, k⟩ zs f p).map (ls ++ ·)) ∧ Below B w1 wr) (fun _ i _ => n - (intOf i).toNat)
  case atStart => exact ⟨0, n + 1, [], _, 0, 0, Nat.zero_le _, rfl, rfl, Nat.le_refl _, O3.out, ⟨by omega, by simp⟩, HB3.out⟩
  case round =>
    clear O3 HB3
    obtain ⟨p, f, ls, A, m, d, hp, rfl, rfl, hlp, hO, hF, hb⟩ := hrel
    have HO1 := Lib.hid hO; have HB1 := Lib.hid hb
    have hzr : B ≤ wr.heap.size := by have := hb.size; have := HBz.out; omega
    clear hO hb
    by_cases hlt : p < n
    · have hsub : IntKind.i64.wrap ((n : Int) - (p : Int)) = ((n - p : Nat) : Int) := by rw [IntKind.wrap_i64]; omega
      obtain ⟨N0, hN0⟩ : ∃ N0, n - p = N0 := ⟨_, rfl⟩
      rw [hN0] at hsub
      have hnp : (n : Int) - (p : Int) = (N0 : Int) := by omega
      go_wp2
      rename_i wr1
      go_loopw [8] (fun i wr => ∃ j : Nat, i = .int .i64 j ∧ j ≤ N0 ∧ Hid (∀ r, p + j < r → r ≤ zs.length → lineW ⟨W, t, k⟩ zs p r = false) ∧ Own wr B (.slice A m d) ls ∧ Below B w1 wr) (fun i _ => (intOf i).toNat)
      case atStart => exact ⟨N0, rfl, Nat.le_refl _, fun r h1 h2 => by rw [Hn.out] at h2; omega, HO1.out, HB1.out⟩
      case round =>
        clear HO1 HB1 hzr
        obtain ⟨j, rfl, hj, HNo, hO, hb⟩ := hrel
        have HO2 := Lib.hid hO; have HB2 := Lib.hid hb
        have hzr : B ≤ wr.heap.size := by have := hb.size; have := HBz.out; omega
        have P2 := Lib.hid (hold3 hb hzB P1.out)
        have I2 := Lib.hid ((JB.out.keep (by omega) hb).ints)
        obtain ⟨p0, p1, p2⟩ := P2.out
        clear hO hb
        obtain ⟨f', rfl⟩ : ∃ f', f = f' + 1 := ⟨f - 1, by have := hF.out.1; omega⟩
        have HFs : Hid (grdF ⟨W, t, k⟩ zs (f' + 1) p = if lastE ⟨W, t, k⟩ zs p = p then none else (grdF ⟨W, t, k⟩ zs f' (lastE ⟨W, t, k⟩ zs p)).map (fun r => ((lastE ⟨W, t, k⟩ zs p : Int) - p) :: r)) := by show _ = _; rw [grdF, if_neg (by rw [Hn.out]; omega)]
        by_cases hj0 : 0 < j
        · have HC := Lib.hid (CG.out p j wr I2.out hj0 (by omega))
          have hj1 : (0 : Int) < (j : Int) := by omega
          cases hl : lineW ⟨W, t, k⟩ zs p (p + j)
          · have HL := Lib.hid hl
            have HNo2 : Hid (∀ r, p + (j - 1) < r → r ≤ zs.length → lineW ⟨W, t, k⟩ zs p r = false) := fun r h1 h2 => by
              rcases Nat.lt_or_ge (p + j) r with h | h
              · exact HNo.out r h h2
              · have : r = p + j := by omega
                rw [this]; exact HL.out
            have hd1 : IntKind.i64.wrap ((j : Int) - 1) = ((j - 1 : Nat) : Int) := by rw [IntKind.wrap_i64]; omega
            have hd2 : (j : Int) - 1 = ((j - 1 : Nat) : Int) := by omega
            have HD := Lib.hid hd2
            clear hl hd1 hd2
            go_wp2_with (go_at_call 59; refine HC.out.mono ?_; rintro e w5 ⟨he, hb5⟩; rw [HL.out] at he; subst he; have B5 := Lib.hid (HB2.out.trans (hb5.mono (B' := B) hzr)); have O5 := Lib.hid (HO2.out.below hb5); clear hb5)
            go_roundw
            case rel => exact ⟨j - 1, by rw [HD.out], by omega, HNo2.out, O5.out, B5.out⟩
            case measure => simp [intOf]; omega
          · have HL := Lib.hid hl
            have HLast := Lib.hid (lastE_is (m := ⟨W, t, k⟩) (zs := zs) (show p < p + j by omega) (by rw [Hn.out]; omega) hl HNo.out)
            have HF2 : Hid (grdF ⟨W, t, k⟩ zs (n + 1) 0 = (grdF ⟨W, t, k⟩ zs f' (p + j)).map ((ls ++ [(j : Int)]) ++ ·)) := by
              show _ = _
              rw [hF.out.2, HFs.out, HLast.out, if_neg (by omega), show ((p + j : Nat) : Int) - (p : Int) = (j : Int) by omega]
              cases grdF ⟨W, t, k⟩ zs f' (p + j) <;> simp
            obtain ⟨r, hr⟩ : ∃ r, p + j = r := ⟨_, rfl⟩
            have hcast : (p : Int) + (j : Int) = (r : Int) := by omega
            have er : IntKind.i64.wrap (r : Int) = (r : Int) := by rw [IntKind.wrap_i64]; omega
            rw [hr] at HF2
            obtain ⟨N5, hN5⟩ : ∃ N, (ls ++ [(j : Int)]).length = N := ⟨_, rfl⟩
            have HN5 := Lib.hid hN5
            have hN5b : N5 ≤ r := by rw [← hN5]; simp; omega
            have hne : ((j : Int) == 0) = false := by rw [beq_eq_false_iff_ne]; omega
            have hfr : n < f' + r := by have := hF.out.1; omega
            clear hl hr hN5
            go_wp2_with (first
              | (go_at_call 59; refine HC.out.mono ?_; rintro e w5 ⟨he, hb5⟩; rw [HL.out] at he; subst he; have B5 := Lib.hid (HB2.out.trans (hb5.mono (B' := B) hzr)); have O5 := Lib.hid (HO2.out.below hb5); have hz5 : B ≤ w5.heap.size := Nat.le_trans hzr hb5.size; clear hb5)
              | (at_builtin; refine wpl_push w5 rfl (.tmp 36) (.tmp 38) rfl B _ ls (j : Int) rfl rfl O5.out hz5 (by omega) ?_; intro v6 w6 hO6 hb6; have B6 := Lib.hid (B5.out.trans hb6); obtain ⟨A6, c6, hv6, _⟩ := hO6.form; rw [HN5.out] at hv6; subst hv6; have O6 := Lib.hid hO6; clear hO6 hb6 O5 B5))
            go_roundw
            case rel => exact ⟨r, f', ls ++ [(j : Int)], A6, N5, c6, by omega, rfl, rfl, by rw [HN5.out]; exact hN5b, O6.out, ⟨hfr, HF2.out⟩, B6.out⟩
            case measure => simp [intOf]; omega
        · obtain rfl : j = 0 := by omega
          have HNone : Hid (grdF ⟨W, t, k⟩ zs (n + 1) 0 = none) := by
            show _ = _
            rw [hF.out.2, HFs.out, if_pos (lastE_none (p := p) (by rw [Hn.out]; omega) (fun r h1 h2 => HNo.out r (by omega) h2))]; rfl
          go_wp2
          go_ret2
          exact ⟨.slice none 0 0, by rw [HNone.out]; rfl, by rw [HNone.out]; exact World.ownsRow_nil _ _ _ _, T1.out.trans (HB2.out.mono (by omega))⟩
    · obtain rfl : p = n := by omega
      obtain ⟨f', rfl⟩ : ∃ f', f = f' + 1 := ⟨f - 1, by have := hF.out.1; omega⟩
      have HSome : Hid (grdF ⟨W, t, k⟩ zs (p + 1) 0 = some ls) := by
        show _ = _
        rw [hF.out.2, grdF, if_pos Hn.out.symm]; simp
      go_wp2
      go_ret2
      exact ⟨.slice A m d, by rw [HSome.out]; rfl, by rw [HSome.out]; exact own_base2 HO1.out (by omega), T1.out.trans (HB1.out.mono (by omega))⟩
end Go.Proofs.Ytddkedinkgnboaa
