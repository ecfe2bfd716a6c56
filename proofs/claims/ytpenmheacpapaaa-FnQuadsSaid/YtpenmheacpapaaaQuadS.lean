/-
  l3Blank, QuadLine, CenterLine of the model by contract. Conditions: lengths of at most 2^20.
-/
import Derived.Test.YtpenmheacpapaaaQuadI
namespace Go.Proofs.Ytpenmheacpapaaa
open Go.RowKit
set_option linter.unusedVariables false

def boolN : Value → Nat
  | .bool true => 1
  | _ => 0

set_option maxRecDepth 100000 in
set_option maxHeartbeats 6400000 in
theorem l3BlankA_any (W t k : Int) (A : Option Addr) (n c : Nat) (zs : List Int) (A2 : Option Addr) (n2 c2 : Nat) (qs : List Int) (L : List Int) (w : World) (hms : msrB ⟨W, t, k⟩ = true) (hn : zs.length = n) (hm : n ≤ 120) (h : Ints w A zs) (hn2 : qs.length = n2) (hm2 : n2 ≤ 8) (h2 : Ints w A2 qs) (hR : Res ⟨W, t, k⟩ false qs zs L) :
    Calls Try.prog 106 #[.agg #[.int .i64 W, .int .i64 t, .int .i64 k], .slice A n c, .slice A2 n2 c2, .bool false] w fun e w' => ∃ v, e = .returned v ∧ Own w' w.heap.size v L ∧ Below w.heap.size w w' := by
  have Hn := Lib.hid hn; have Hn2 := Lib.hid hn2; have HR := Lib.hid hR; have HM := Lib.hid hms
  obtain ⟨w0, hw0, hb0, hz0, P⟩ := msWorld w W t k
  have T0 := Lib.hid hb0; have P0 := Lib.hid P
  have J0 := Lib.hid ((IntsB.of h2).keep (Nat.le_refl _) hb0)
  have z0 : w.heap.size < w0.heap.size := by omega
  obtain ⟨w1, hw1⟩ : ∃ w1, w0.alloc (.cells #[] 3) = w1 := ⟨_, rfl⟩
  have hb1 : Below w0.heap.size w0 w1 := by rw [← hw1]; exact below_new _ _
  have O1 : Hid (Own w1 w0.heap.size (.slice (some ⟨w0.heap.size, 0, none⟩) 0 0) []) := by show Own _ _ _ _; rw [← hw1]; exact World.ownsRow_lit w0 #[] 0 (Nat.le_refl _) (Nat.zero_le _) rfl
  have I1 := Lib.hid (((IntsB.of h).keep (Nat.le_refl _) hb0).keep (by omega) hb1).ints
  have z1 := hb1.size
  have B1 := Lib.hid hb1
  obtain ⟨p0, p1, p2⟩ := P0.out
  clear hb0 hz0 hn hn2 h h2 hR hms P hb1
  go_enter Try.func106, Try.ntmps106
  go_wp2_with (at_builtin; refine wpl_append_any _ rfl (.tmp 14) (.tmp 15) rfl w0.heap.size _ [] zs A n c rfl rfl Hn.out I1.out O1.out z1 (by simp; omega) ?_; intro v2 w2 hO2 hg2 _)
  clear hw0 hw1
  rw [List.nil_append] at hO2
  have B2 := Lib.hid (B1.out.trans ((Below.refl w0.heap.size w1).grown hg2 z1 (fun g hg => (World.ownsRow.lt O1.out g hg).1)))
  obtain ⟨A3, c3, hv3, _⟩ := hO2.form
  rw [Hn.out] at hv3
  subst hv3
  have O2 := Lib.hid hO2
  clear hg2 hO2 O1 I1 B1 p0 p1 p2
  go_loopw [9, 10] (fun u b wr => ∃ fs A5 n5 c5 ag, u = .slice A5 n5 c5 ∧ b = .bool ag ∧ fs.length = n5 ∧ n5 ≤ 120 ∧ Own wr w0.heap.size (.slice A5 n5 c5) fs ∧ Res ⟨W, t, k⟩ false qs fs L ∧ (ag = false → ∀ x, x ∈ qs → fitsB ⟨W, t, k⟩ (addQ false fs x) = false) ∧ Below w0.heap.size w0 wr) (fun u b _ => 2 * (200 - lenV u) + boolN b)
  case atStart => exact ⟨zs, A3, n, c3, true, rfl, rfl, Hn.out, hm, O2.out, HR.out, fun h => (by cases h), B2.out⟩
  case round =>
    clear O2 B2 HR
    obtain ⟨fs, A5, n5, c5, ag, rfl, rfl, hfl, hn5, hown, hres, hno, hb⟩ := hrel
    have HO := Lib.hid hown; have HB := Lib.hid hb; have HRs := Lib.hid hres; have HNO := Lib.hid hno; have HFl := Lib.hid hfl
    have hsz := hb.size
    clear hown hb hres hno hfl
    cases ag
    · have HS := Lib.hid (HRs.out.stop (HNO.out rfl))
      go_wp2
      go_ret
      exact ⟨_, rfl, by rw [HS.out]; exact own_down0 HO.out (by omega), T0.out.trans (HB.out.mono (by omega))⟩
    · clear HNO
      go_wp2
      go_loopw [9, 10, 20] (fun u b i wr => ∃ j : Nat, j ≤ n2 ∧ i = .int .i64 j ∧ u = .slice A5 n5 c5 ∧ b = .bool false ∧ Own wr w0.heap.size (.slice A5 n5 c5) fs ∧ (∀ (i : Nat) (x : Int), i < j → qs[i]? = some x → fitsB ⟨W, t, k⟩ (addQ false fs x) = false) ∧ Below w0.heap.size w0 wr) (fun _ _ i _ => n2 - (intOf i).toNat)
      case atStart => exact ⟨0, Nat.zero_le _, rfl, rfl, rfl, HO.out, fun i x hi => absurd hi (by omega), HB.out⟩
      case round =>
        clear HO HB hsz
        obtain ⟨j, hj, rfl, rfl, rfl, hown, hno, hb⟩ := hrel
        have HO := Lib.hid hown; have HB := Lib.hid hb; have HNO := Lib.hid hno
        have hsz := hb.size
        have Pr := Lib.hid (hold3 hb (by omega) P0.out)
        clear hown hb hno
        by_cases hlt : j < n2
        · obtain ⟨ad, q, rfl, hx, hc⟩ := (J0.out.keep (by omega) HB.out).ints.at_ (k := j) (by rw [Hn2.out]; exact hlt)
          obtain ⟨wa, hwa⟩ : ∃ wa, wr.alloc (.cells #[] 3) = wa := ⟨_, rfl⟩
          have hba : Below wr.heap.size wr wa := by rw [← hwa]; exact below_new _ _
          have OA : Hid (Own wa wr.heap.size (.slice (some ⟨wr.heap.size, 0, none⟩) 0 0) []) := by show Own _ _ _ _; rw [← hwa]; exact World.ownsRow_lit wr #[] 0 (Nat.le_refl _) (Nat.zero_le _) rfl
          have IA := Lib.hid ((own_ints0 HO.out).below hba)
          have zA : wr.heap.size ≤ wa.heap.size := hba.size
          have BA := Lib.hid hba
          have HN7 : Hid ((fs ++ [q]).length = n5 + 1) := by show _ = _; simp [HFl.out]
          clear hba
          go_wp2_with (first
            | (at_builtin; refine wpl_append_any _ rfl (.tmp 24) (.tmp 25) rfl wr.heap.size _ [] fs A5 n5 c5 rfl rfl HFl.out IA.out OA.out zA (by simp; omega) ?_; intro v5 w5 hO5 hg5 _; rw [List.nil_append] at hO5; obtain ⟨A6, c6, hv6, _⟩ := hO5.form; rw [HFl.out] at hv6; subst hv6; have hx5 : Below wr.heap.size wa w5 := (Below.refl wr.heap.size wa).grown hg5 zA (fun g hg => (World.ownsRow.lt OA.out g hg).1); have B5 := Lib.hid (BA.out.trans hx5); have O5 := Lib.hid hO5; have z5 := B5.out.size; clear hg5 hx5 hO5)
            | (at_builtin; refine wpl_push2 w5 rfl (.tmp 26) (.tmp 28) rfl wr.heap.size _ fs q rfl rfl O5.out z5 (by rw [HFl.out]; omega) ?_; intro v7 w7 hO7 hg7 _; have B7 := Lib.hid (B5.out.trans ((Below.refl wr.heap.size w5).grown hg7 z5 (fun g hg => (World.ownsRow.lt O5.out g hg).1))); obtain ⟨A7, c7, hv7, _⟩ := hO7.form; rw [HN7.out] at hv7; subst hv7; have O7 := Lib.hid hO7; have z7 := B7.out.size; have P7 := Lib.hid (hold3 B7.out (by omega) Pr.out); obtain ⟨p0, p1, p2⟩ := P7.out; clear hg7 hO7 B5 O5 OA IA BA))
          clear hwa
          have HAQ : Hid (addQ false fs q = fs ++ [q]) := by show _ = _; unfold addQ; simp
          cases hfit : fitsB ⟨W, t, k⟩ (addQ false fs q)
          · have HN2 := Lib.hid (pre_all hx.out (P := fun _ x => fitsB ⟨W, t, k⟩ (addQ false fs x) = false) hfit HNO.out)
            rw [HAQ.out] at hfit
            refine (l3Fits_any W t k A7 (n5 + 1) c7 (fs ++ [q]) _ HM.out HN7.out (by unfold maxLen; omega) (own_ints0 O7.out)).mono ?_
            rintro e' w8 ⟨he', hb8⟩
            rw [hfit] at he'; subst he'
            have B8 := Lib.hid (HB.out.trans ((B7.out.trans (hb8.mono z7)).mono hsz))
            have O8 := Lib.hid (HO.out.below (B7.out.trans (hb8.mono z7)))
            clear hb8
            go_wp2
            go_roundw
            case rel => exact ⟨j + 1, by omega, by go_num, rfl, rfl, O8.out, HN2.out, B8.out⟩
            case measure => simp [intOf]; omega
          · have HRn := Lib.hid (HRs.out.step ⟨j, hx.out, hfit, HNO.out⟩)
            have hn7 : n5 + 1 ≤ 120 := by have := fits_len hfit; rw [HAQ.out, HN7.out] at this; exact this
            rw [HAQ.out] at hfit HRn
            refine (l3Fits_any W t k A7 (n5 + 1) c7 (fs ++ [q]) _ HM.out HN7.out (by unfold maxLen; omega) (own_ints0 O7.out)).mono ?_
            rintro e' w8 ⟨he', hb8⟩
            rw [hfit] at he'; subst he'
            have B8 := Lib.hid (HB.out.trans ((B7.out.trans (hb8.mono z7)).mono hsz))
            have O8 := Lib.hid (own_down0 (O7.out.below hb8) hsz)
            clear hb8
            go_wp2
            go_roundw
            case rel => exact ⟨_, A7, n5 + 1, c7, true, rfl, rfl, HN7.out, hn7, O8.out, HRn.out, fun h => (by cases h), B8.out⟩
            case measure => simp [lenV, boolN]; omega
        · have hjn : j = n2 := by omega
          subst hjn
          have HN2 : Hid (∀ x, x ∈ qs → fitsB ⟨W, t, k⟩ (addQ false fs x) = false) := fun x hx => by
            obtain ⟨i, hi, rfl⟩ := List.mem_iff_getElem.1 hx
            exact HNO.out i _ (by rw [← Hn2.out]; exact hi) (List.getElem?_eq_getElem hi)
          go_wp2
          go_roundw
          case rel => exact ⟨fs, A5, n5, c5, false, rfl, rfl, HFl.out, hn5, HO.out, HRs.out, fun _ => HN2.out, HB.out⟩
          case measure => simp [lenV, boolN]

set_option maxRecDepth 100000 in
set_option maxHeartbeats 6400000 in
theorem l3BlankB_any (W t k : Int) (A : Option Addr) (n c : Nat) (zs : List Int) (A2 : Option Addr) (n2 c2 : Nat) (qs : List Int) (L : List Int) (w : World) (hms : msrB ⟨W, t, k⟩ = true) (hn : zs.length = n) (hm : n ≤ 120) (h : Ints w A zs) (hn2 : qs.length = n2) (hm2 : n2 ≤ 8) (h2 : Ints w A2 qs) (hR : Res ⟨W, t, k⟩ true qs zs L) :
    Calls Try.prog 106 #[.agg #[.int .i64 W, .int .i64 t, .int .i64 k], .slice A n c, .slice A2 n2 c2, .bool true] w fun e w' => ∃ v, e = .returned v ∧ Own w' w.heap.size v L ∧ Below w.heap.size w w' := by
  have Hn := Lib.hid hn; have Hn2 := Lib.hid hn2; have HR := Lib.hid hR; have HM := Lib.hid hms
  obtain ⟨w0, hw0, hb0, hz0, P⟩ := msWorld w W t k
  have T0 := Lib.hid hb0; have P0 := Lib.hid P
  have J0 := Lib.hid ((IntsB.of h2).keep (Nat.le_refl _) hb0)
  have z0 : w.heap.size < w0.heap.size := by omega
  obtain ⟨w1, hw1⟩ : ∃ w1, w0.alloc (.cells #[] 3) = w1 := ⟨_, rfl⟩
  have hb1 : Below w0.heap.size w0 w1 := by rw [← hw1]; exact below_new _ _
  have O1 : Hid (Own w1 w0.heap.size (.slice (some ⟨w0.heap.size, 0, none⟩) 0 0) []) := by show Own _ _ _ _; rw [← hw1]; exact World.ownsRow_lit w0 #[] 0 (Nat.le_refl _) (Nat.zero_le _) rfl
  have I1 := Lib.hid (((IntsB.of h).keep (Nat.le_refl _) hb0).keep (by omega) hb1).ints
  have z1 := hb1.size
  have B1 := Lib.hid hb1
  obtain ⟨p0, p1, p2⟩ := P0.out
  clear hb0 hz0 hn hn2 h h2 hR hms P hb1
  go_enter Try.func106, Try.ntmps106
  go_wp2_with (at_builtin; refine wpl_append_any _ rfl (.tmp 14) (.tmp 15) rfl w0.heap.size _ [] zs A n c rfl rfl Hn.out I1.out O1.out z1 (by simp; omega) ?_; intro v2 w2 hO2 hg2 _)
  clear hw0 hw1
  rw [List.nil_append] at hO2
  have B2 := Lib.hid (B1.out.trans ((Below.refl w0.heap.size w1).grown hg2 z1 (fun g hg => (World.ownsRow.lt O1.out g hg).1)))
  obtain ⟨A3, c3, hv3, _⟩ := hO2.form
  rw [Hn.out] at hv3
  subst hv3
  have O2 := Lib.hid hO2
  clear hg2 hO2 O1 I1 B1 p0 p1 p2
  go_loopw [9, 10] (fun u b wr => ∃ fs A5 n5 c5 ag, u = .slice A5 n5 c5 ∧ b = .bool ag ∧ fs.length = n5 ∧ n5 ≤ 120 ∧ Own wr w0.heap.size (.slice A5 n5 c5) fs ∧ Res ⟨W, t, k⟩ true qs fs L ∧ (ag = false → ∀ x, x ∈ qs → fitsB ⟨W, t, k⟩ (addQ true fs x) = false) ∧ Below w0.heap.size w0 wr) (fun u b _ => 2 * (200 - lenV u) + boolN b)
  case atStart => exact ⟨zs, A3, n, c3, true, rfl, rfl, Hn.out, hm, O2.out, HR.out, fun h => (by cases h), B2.out⟩
  case round =>
    clear O2 B2 HR
    obtain ⟨fs, A5, n5, c5, ag, rfl, rfl, hfl, hn5, hown, hres, hno, hb⟩ := hrel
    have HO := Lib.hid hown; have HB := Lib.hid hb; have HRs := Lib.hid hres; have HNO := Lib.hid hno; have HFl := Lib.hid hfl
    have hsz := hb.size
    clear hown hb hres hno hfl
    cases ag
    · have HS := Lib.hid (HRs.out.stop (HNO.out rfl))
      go_wp2
      go_ret
      exact ⟨_, rfl, by rw [HS.out]; exact own_down0 HO.out (by omega), T0.out.trans (HB.out.mono (by omega))⟩
    · clear HNO
      go_wp2
      go_loopw [9, 10, 20] (fun u b i wr => ∃ j : Nat, j ≤ n2 ∧ i = .int .i64 j ∧ u = .slice A5 n5 c5 ∧ b = .bool false ∧ Own wr w0.heap.size (.slice A5 n5 c5) fs ∧ (∀ (i : Nat) (x : Int), i < j → qs[i]? = some x → fitsB ⟨W, t, k⟩ (addQ true fs x) = false) ∧ Below w0.heap.size w0 wr) (fun _ _ i _ => n2 - (intOf i).toNat)
      case atStart => exact ⟨0, Nat.zero_le _, rfl, rfl, rfl, HO.out, fun i x hi => absurd hi (by omega), HB.out⟩
      case round =>
        clear HO HB hsz
        obtain ⟨j, hj, rfl, rfl, rfl, hown, hno, hb⟩ := hrel
        have HO := Lib.hid hown; have HB := Lib.hid hb; have HNO := Lib.hid hno
        have hsz := hb.size
        have Pr := Lib.hid (hold3 hb (by omega) P0.out)
        clear hown hb hno
        by_cases hlt : j < n2
        · obtain ⟨ad, q, rfl, hx, hc⟩ := (J0.out.keep (by omega) HB.out).ints.at_ (k := j) (by rw [Hn2.out]; exact hlt)
          obtain ⟨wa, hwa⟩ : ∃ wa, wr.alloc (.cells #[] 3) = wa := ⟨_, rfl⟩
          have hba : Below wr.heap.size wr wa := by rw [← hwa]; exact below_new _ _
          have OA : Hid (Own wa wr.heap.size (.slice (some ⟨wr.heap.size, 0, none⟩) 0 0) []) := by show Own _ _ _ _; rw [← hwa]; exact World.ownsRow_lit wr #[] 0 (Nat.le_refl _) (Nat.zero_le _) rfl
          have IA := Lib.hid ((own_ints0 HO.out).below hba)
          have zA : wr.heap.size ≤ wa.heap.size := hba.size
          have BA := Lib.hid hba
          have HN6 : Hid ((fs ++ [q]).length = n5 + 1) := by show _ = _; rw [List.length_append, HFl.out]; rfl
          have HN7 : Hid (([q] ++ (fs ++ [q])).length = n5 + 2) := by show _ = _; simp [HFl.out]
          clear hba
          go_wp2_with (first
            | (at_builtin; refine wpl_append_any _ rfl (.tmp 24) (.tmp 25) rfl wr.heap.size _ [] fs A5 n5 c5 rfl rfl HFl.out IA.out OA.out zA (by simp; omega) ?_; intro v5 w5 hO5 hg5 _; rw [List.nil_append] at hO5; obtain ⟨A6, c6, hv6, _⟩ := hO5.form; rw [HFl.out] at hv6; subst hv6; have hx5 : Below wr.heap.size wa w5 := (Below.refl wr.heap.size wa).grown hg5 zA (fun g hg => (World.ownsRow.lt OA.out g hg).1); have B5 := Lib.hid (BA.out.trans hx5); have O5 := Lib.hid hO5; have z5 := B5.out.size; clear hg5 hx5 hO5)
            | (at_builtin; refine wpl_push2 w5 rfl (.tmp 26) (.tmp 28) rfl wr.heap.size _ fs q rfl rfl O5.out z5 (by rw [HFl.out]; omega) ?_; intro v6 w6 hO6 hg6 _; have B6 := Lib.hid (B5.out.trans ((Below.refl wr.heap.size w5).grown hg6 z5 (fun g hg => (World.ownsRow.lt O5.out g hg).1))); obtain ⟨A8, c8, hv8, _⟩ := hO6.form; rw [HN6.out] at hv8; subst hv8; have O6 := Lib.hid hO6; have z6 := B6.out.size; clear hg6 hO6 B5 O5; obtain ⟨wb, hwb⟩ : ∃ wb, w6.alloc (.cells #[.int .i64 q] 3) = wb := ⟨_, rfl⟩; have hbb : Below w6.heap.size w6 wb := (by rw [← hwb]; exact below_new _ _); have OB : Hid (Own wb w6.heap.size (.slice (some ⟨w6.heap.size, 0, none⟩) 1 1) [q]) := (by show Own _ _ _ _; rw [← hwb]; exact World.ownsRow_lit w6 #[.int .i64 q] 1 (Nat.le_refl _) (by unfold maxLen; omega) rfl); have zB : w6.heap.size ≤ wb.heap.size := hbb.size; have BB := Lib.hid (B6.out.trans (hbb.mono z6)); have IB := Lib.hid ((own_ints0 O6.out).below hbb); clear hbb)
            | (at_builtin; refine wpl_append_any _ rfl (.tmp 32) (.tmp 33) rfl w6.heap.size _ [q] (fs ++ [q]) A8 (n5 + 1) c8 rfl rfl HN6.out IB.out OB.out zB (by simp; omega) ?_; intro v7 w7 hO7 hg7 _; have B7 := Lib.hid (BB.out.trans ((Below.refl wr.heap.size wb).grown hg7 (by omega) (fun g hg => by have := (World.ownsRow.lt OB.out g hg).1; omega))); obtain ⟨A7, c7, hv7, _⟩ := hO7.form; rw [HN7.out] at hv7; subst hv7; have O7 := Lib.hid (own_down0 hO7 z6); have z7 := B7.out.size; have P7 := Lib.hid (hold3 B7.out (by omega) Pr.out); obtain ⟨p0, p1, p2⟩ := P7.out; clear hg7 hO7 B6 O6 OB BB IB OA IA BA hwb))
          clear hwa
          have HAQ : Hid (addQ true fs q = [q] ++ (fs ++ [q])) := by show _ = _; unfold addQ; simp
          cases hfit : fitsB ⟨W, t, k⟩ (addQ true fs q)
          · have HN2 := Lib.hid (pre_all hx.out (P := fun _ x => fitsB ⟨W, t, k⟩ (addQ true fs x) = false) hfit HNO.out)
            rw [HAQ.out] at hfit
            refine (l3Fits_any W t k A7 (n5 + 2) c7 ([q] ++ (fs ++ [q])) _ HM.out HN7.out (by unfold maxLen; omega) (own_ints0 O7.out)).mono ?_
            rintro e' w8 ⟨he', hb8⟩
            rw [hfit] at he'; subst he'
            have B8 := Lib.hid (HB.out.trans ((B7.out.trans (hb8.mono z7)).mono hsz))
            have O8 := Lib.hid (HO.out.below (B7.out.trans (hb8.mono z7)))
            clear hb8
            go_wp2
            go_roundw
            case rel => exact ⟨j + 1, by omega, by go_num, rfl, rfl, O8.out, HN2.out, B8.out⟩
            case measure => simp [intOf]; omega
          · have HRn := Lib.hid (HRs.out.step ⟨j, hx.out, hfit, HNO.out⟩)
            have hn7 : n5 + 2 ≤ 120 := by have := fits_len hfit; rw [HAQ.out, HN7.out] at this; exact this
            rw [HAQ.out] at hfit HRn
            refine (l3Fits_any W t k A7 (n5 + 2) c7 ([q] ++ (fs ++ [q])) _ HM.out HN7.out (by unfold maxLen; omega) (own_ints0 O7.out)).mono ?_
            rintro e' w8 ⟨he', hb8⟩
            rw [hfit] at he'; subst he'
            have B8 := Lib.hid (HB.out.trans ((B7.out.trans (hb8.mono z7)).mono hsz))
            have O8 := Lib.hid (own_down0 (O7.out.below hb8) hsz)
            clear hb8
            go_wp2
            go_roundw
            case rel => exact ⟨_, A7, n5 + 2, c7, true, rfl, rfl, HN7.out, hn7, O8.out, HRn.out, fun h => (by cases h), B8.out⟩
            case measure => simp [lenV, boolN]; omega
        · have hjn : j = n2 := by omega
          subst hjn
          have HN2 : Hid (∀ x, x ∈ qs → fitsB ⟨W, t, k⟩ (addQ true fs x) = false) := fun x hx => by
            obtain ⟨i, hi, rfl⟩ := List.mem_iff_getElem.1 hx
            exact HNO.out i _ (by rw [← Hn2.out]; exact hi) (List.getElem?_eq_getElem hi)
          go_wp2
          go_roundw
          case rel => exact ⟨fs, A5, n5, c5, false, rfl, rfl, HFl.out, hn5, HO.out, HRs.out, fun _ => HN2.out, HB.out⟩
          case measure => simp [lenV, boolN]

set_option maxRecDepth 100000 in
set_option maxHeartbeats 1600000 in
theorem specQuad_any (W t k : Int) (A : Option Addr) (n c : Nat) (zs : List Int) (A2 : Option Addr) (n2 c2 : Nat) (qs : List Int) (L : List Int) (w : World) (hn : zs.length = n) (hm : n ≤ 1048576) (h : Ints w A zs) (hn2 : qs.length = n2) (hm2 : n2 ≤ 1048576) (h2 : Ints w A2 qs) (hR : QdRes ⟨W, t, k⟩ false zs qs L) :
    Calls Try.prog 59 #[.agg #[.int .i64 W, .int .i64 t, .int .i64 k], .slice A n c, .slice A2 n2 c2] w fun e w' => ∃ v, e = .returned (.tuple #[v, .bool (qdB ⟨W, t, k⟩ zs qs)]) ∧ Own w' w.heap.size v L ∧ Below w.heap.size w w' := by
  have Hn := Lib.hid hn; have Hn2 := Lib.hid hn2
  obtain ⟨w0, hw0, hb0, hz0, P⟩ := msWorld w W t k
  have T0 := Lib.hid hb0; have P0 := Lib.hid P
  have I0 := Lib.hid ((IntsB.of h).keep (Nat.le_refl _) hb0)
  have J0 := Lib.hid ((IntsB.of h2).keep (Nat.le_refl _) hb0)
  have z0 : w.heap.size < w0.heap.size := by omega
  have hm0 : n ≤ maxLen := by unfold maxLen; omega
  obtain ⟨hR1, hR2, _⟩ := hR
  obtain ⟨p0, p1, p2⟩ := P0.out
  clear hb0 hz0 hn hn2 h h2 P
  cases hms : msrB ⟨W, t, k⟩
  · have hq : qdB ⟨W, t, k⟩ zs qs = false := by unfold qdB; rw [good_no hms]; rfl
    rw [hR2 hq, hq]
    clear hR1 hR2 hq
    go_enter Try.func59, Try.ntmps59
    go_wp2_with fail
    clear hw0
    refine (specMeasureOk_any W t k _).mono ?_
    rintro e' w1 ⟨he', hb1⟩
    rw [hms] at he'; subst he'
    have T1 := Lib.hid (T0.out.trans (hb1.mono (by omega)))
    have P1 := Lib.hid (hold3 hb1 (by omega) P0.out)
    have I1 := Lib.hid (I0.out.keep (by omega) hb1); have J1 := Lib.hid (J0.out.keep (by omega) hb1)
    have z1 := hb1.size
    clear hb1 p0 p1 p2
    obtain ⟨p0, p1, p2⟩ := P1.out
    go_wp2
    go_ret2
    exact ⟨_, rfl, ⟨rfl, .inl ⟨rfl, rfl⟩⟩, T1.out⟩
  have HM := Lib.hid hms
  cases hfi : fitsB ⟨W, t, k⟩ zs
  · have hq : qdB ⟨W, t, k⟩ zs qs = false := by unfold qdB goodB; rw [hfi, Bool.and_false]; rfl
    rw [hR2 hq, hq]
    clear hR1 hR2 hq
    go_enter Try.func59, Try.ntmps59
    go_wp2_with fail
    clear hw0
    refine (specMeasureOk_any W t k _).mono ?_
    rintro e' w1 ⟨he', hb1⟩
    rw [hms] at he'; subst he'
    have T1 := Lib.hid (T0.out.trans (hb1.mono (by omega)))
    have P1 := Lib.hid (hold3 hb1 (by omega) P0.out)
    have I1 := Lib.hid (I0.out.keep (by omega) hb1); have J1 := Lib.hid (J0.out.keep (by omega) hb1)
    have z1 := hb1.size
    clear hb1 p0 p1 p2
    obtain ⟨p0, p1, p2⟩ := P1.out
    go_wp2_with fail
    refine (l3Fits_any W t k A n c zs _ HM.out Hn.out hm0 I1.out.ints).mono ?_
    rintro e' w2 ⟨he', hb2⟩
    rw [hfi] at he'; subst he'
    have T2 := Lib.hid (T1.out.trans (hb2.mono (by omega)))
    have P2 := Lib.hid (hold3 hb2 (by omega) P1.out)
    have I2 := Lib.hid (I1.out.keep (by omega) hb2); have J2 := Lib.hid (J1.out.keep (by omega) hb2)
    have z2 := hb2.size
    clear hb2 p0 p1 p2
    obtain ⟨p0, p1, p2⟩ := P2.out
    go_wp2
    go_ret2
    exact ⟨_, rfl, ⟨rfl, .inl ⟨rfl, rfl⟩⟩, T2.out⟩
  have hg : goodB ⟨W, t, k⟩ zs = true := by unfold goodB; rw [hfi, hms]; rfl
  cases hqd : quadsB qs
  · have hq : qdB ⟨W, t, k⟩ zs qs = false := by unfold qdB; rw [hqd, Bool.and_false]
    rw [hR2 hq, hq]
    clear hR1 hR2 hq
    go_enter Try.func59, Try.ntmps59
    go_wp2_with fail
    clear hw0
    refine (specMeasureOk_any W t k _).mono ?_
    rintro e' w1 ⟨he', hb1⟩
    rw [hms] at he'; subst he'
    have T1 := Lib.hid (T0.out.trans (hb1.mono (by omega)))
    have P1 := Lib.hid (hold3 hb1 (by omega) P0.out)
    have I1 := Lib.hid (I0.out.keep (by omega) hb1); have J1 := Lib.hid (J0.out.keep (by omega) hb1)
    have z1 := hb1.size
    clear hb1 p0 p1 p2
    obtain ⟨p0, p1, p2⟩ := P1.out
    go_wp2_with fail
    refine (l3Fits_any W t k A n c zs _ HM.out Hn.out hm0 I1.out.ints).mono ?_
    rintro e' w2 ⟨he', hb2⟩
    rw [hfi] at he'; subst he'
    have T2 := Lib.hid (T1.out.trans (hb2.mono (by omega)))
    have P2 := Lib.hid (hold3 hb2 (by omega) P1.out)
    have I2 := Lib.hid (I1.out.keep (by omega) hb2); have J2 := Lib.hid (J1.out.keep (by omega) hb2)
    have z2 := hb2.size
    clear hb2 p0 p1 p2
    obtain ⟨p0, p1, p2⟩ := P2.out
    go_wp2_with fail
    refine (l3Quads_any A2 n2 c2 qs _ Hn2.out hm2 J2.out.ints).mono ?_
    rintro e' w3 ⟨he', rfl⟩
    rw [hqd] at he'; subst he'
    go_wp2
    go_ret2
    exact ⟨_, rfl, ⟨rfl, .inl ⟨rfl, rfl⟩⟩, T2.out⟩
  have hq : qdB ⟨W, t, k⟩ zs qs = true := by unfold qdB; rw [hqd, hg]; rfl
  have HR := Lib.hid (hR1 hq)
  rw [hq]
  have hn120 : n ≤ 120 := by rw [← Hn.out]; exact fits_len hfi
  have hn28 : n2 ≤ 8 := by rw [← Hn2.out]; exact (quads_len hqd).2
  clear hR1 hR2 hq hg
  go_enter Try.func59, Try.ntmps59
  go_wp2_with fail
  clear hw0
  refine (specMeasureOk_any W t k _).mono ?_
  rintro e' w1 ⟨he', hb1⟩
  rw [hms] at he'; subst he'
  have T1 := Lib.hid (T0.out.trans (hb1.mono (by omega)))
  have P1 := Lib.hid (hold3 hb1 (by omega) P0.out)
  have I1 := Lib.hid (I0.out.keep (by omega) hb1); have J1 := Lib.hid (J0.out.keep (by omega) hb1)
  have z1 := hb1.size
  clear hb1 p0 p1 p2
  obtain ⟨p0, p1, p2⟩ := P1.out
  go_wp2_with fail
  refine (l3Fits_any W t k A n c zs _ HM.out Hn.out hm0 I1.out.ints).mono ?_
  rintro e' w2 ⟨he', hb2⟩
  rw [hfi] at he'; subst he'
  have T2 := Lib.hid (T1.out.trans (hb2.mono (by omega)))
  have P2 := Lib.hid (hold3 hb2 (by omega) P1.out)
  have I2 := Lib.hid (I1.out.keep (by omega) hb2); have J2 := Lib.hid (J1.out.keep (by omega) hb2)
  have z2 := hb2.size
  clear hb2 p0 p1 p2
  obtain ⟨p0, p1, p2⟩ := P2.out
  go_wp2_with fail
  refine (l3Quads_any A2 n2 c2 qs _ Hn2.out hm2 J2.out.ints).mono ?_
  rintro e' w3 ⟨he', rfl⟩
  rw [hqd] at he'; subst he'
  go_wp2_with fail
  refine (l3BlankA_any W t k A n c zs A2 n2 c2 qs L _ HM.out Hn.out hn120 I2.out.ints Hn2.out hn28 J2.out.ints HR.out).mono ?_
  rintro e' w4 ⟨v4, rfl, hO4, hb4⟩
  have O4 := Lib.hid (own_down0 hO4 (show w.heap.size ≤ w2.heap.size by omega)); have T4 := Lib.hid (T2.out.trans (hb4.mono (by omega)))
  clear hO4 hb4
  go_wp2
  go_ret2
  exact ⟨_, rfl, O4.out, T4.out⟩

end Go.Proofs.Ytpenmheacpapaaa
