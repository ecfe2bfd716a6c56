/-
  The draw of a bar: whatever the bytes, l1Draw returns from 1 to 11 numbers in memory of its own. Condition: the cursor is whole.
-/
import Derived.Test.YtpgokcilnejolaaDraw
namespace Go.Proofs.Ytpgokcilnejolaa
open Go.RowKit
set_option linter.unusedVariables false

theorem shl_or (a b c : Nat) (ha : (a : Int) < 5) (hb : (b : Int) < 5) (hc : (c : Int) < 5) :
    0 ≤ bits .or .i64 (bits .or .i64 (IntKind.i64.wrap (2 ^ a)) (IntKind.i64.wrap (2 ^ b))) (IntKind.i64.wrap (2 ^ c)) ∧ bits .or .i64 (bits .or .i64 (IntKind.i64.wrap (2 ^ a)) (IntKind.i64.wrap (2 ^ b))) (IntKind.i64.wrap (2 ^ c)) ≤ 127 := by
  have h : ∀ a b c : Fin 5, 0 ≤ bits .or .i64 (bits .or .i64 (IntKind.i64.wrap (2 ^ (a : Nat))) (IntKind.i64.wrap (2 ^ (b : Nat)))) (IntKind.i64.wrap (2 ^ (c : Nat))) ∧ bits .or .i64 (bits .or .i64 (IntKind.i64.wrap (2 ^ (a : Nat))) (IntKind.i64.wrap (2 ^ (b : Nat)))) (IntKind.i64.wrap (2 ^ (c : Nat))) ≤ 127 := by decide +kernel
  exact h ⟨a, by omega⟩ ⟨b, by omega⟩ ⟨c, by omega⟩

/-- what holds of the sets that a draw has so far: z of them, k rounds to come -/
def Drawn (kd n0 : Nat) (zs : List Int) (k : Nat) : Prop := zs.length + k ≤ 11 ∧ (zs.length = 0 → k = n0) ∧ (kd ≠ 4 → zs = [] ∨ setsB zs = true)
theorem sets_one {x : Int} (h0 : 0 ≤ x) (h1 : x ≤ 127) : setsB [x] = true := by
  have hs : setB x = true := (setB_iff x).2 ⟨h0, h1⟩
  unfold setsB distB isBar allSet
  simp [hs, inB]
theorem drawn_add {kd n0 k : Nat} {zs : List Int} {x : Int} (h : Drawn kd n0 zs (k + 1)) (hx : kd = 4 ∨ setsB (zs ++ [x]) = true) : Drawn kd n0 (zs ++ [x]) k := by
  obtain ⟨h1, h2, h3⟩ := h
  refine ⟨by simp; omega, by simp, fun hk => ?_⟩
  rcases hx with hx | hx
  · exact absurd hx hk
  · exact .inr hx
theorem drawn_skip {kd n0 k : Nat} {zs : List Int} {x : Int} (h : Drawn kd n0 zs (k + 1)) (h0 : 0 ≤ x) (h1 : x ≤ 127) (hx : setsB (zs ++ [x]) = false) : Drawn kd n0 zs k := by
  obtain ⟨a, b, c⟩ := h
  refine ⟨by omega, fun hz => ?_, c⟩
  have : zs = [] := List.eq_nil_of_length_eq_zero hz
  subst this
  rw [List.nil_append, sets_one h0 h1] at hx
  cases hx
theorem own_row2 {w : World} {B : Nat} {v : Value} {zs : List Int} (h : Own w B v zs) (hp : 0 < zs.length) :
    ∃ ad c, v = .slice (some ad) zs.length c ∧ Ints w (some ad) zs ∧ zs.length ≤ c ∧ c ≤ maxLen := by
  obtain ⟨A, c, rfl, hI, _, h1, h2⟩ := h.form
  obtain ⟨ad, rfl, _⟩ := hI hp
  exact ⟨ad, c, rfl, hI, h1, h2⟩

theorem own_ints {w : World} {B n c : Nat} {A : Option Addr} {zs : List Int} (h : Own w B (.slice A n c) zs) : Ints w A zs := by
  obtain ⟨A', c', hv, hI, _⟩ := h.form
  injection hv with h1 h2 h3
  subst h1
  exact hI
theorem own_row3 {w : World} {B m : Nat} {v : Value} {zs : List Int} {x : Int} (h : Own w B v (zs ++ [x])) (hm : zs.length = m) :
    ∃ ad c, v = .slice (some ad) (m + 1) c ∧ Own w B (.slice (some ad) (m + 1) c) (zs ++ [x]) ∧ Ints w (some ad) (zs ++ [x]) ∧ m + 1 ≤ c ∧ c ≤ maxLen := by
  obtain ⟨ad, c, rfl, hI, h1, h2⟩ := own_row2 h (by simp)
  have e : (zs ++ [x]).length = m + 1 := by rw [List.length_append, hm]; rfl
  rw [e] at h h1
  exact ⟨ad, c, by rw [e], h, hI, h1, h2⟩

set_option maxRecDepth 100000 in
set_option maxHeartbeats 1600000 in
theorem l1Draw_any (g : Nat) (w : World) (hc : Cur w g) :
    Calls Try.prog 79 #[.pointer (some ⟨g, 0, none⟩)] w fun e w' => ∃ v zs, e = .returned v ∧ Own w' w.heap.size v zs ∧ 1 ≤ zs.length ∧ zs.length ≤ 11 ∧ CM w w' g := by
  have hgw := hc.lt
  have HC := Lib.hid (CM.of hc); clear hc
  go_enter Try.func79, Try.ntmps79
  go_wp2_with fail
  refine (below_cm w g _ _ (by omega) HC.out).mono ?_
  rintro e w1 ⟨kd, rfl, hkd, hc1, -⟩
  have HC1 := Lib.hid (hc1.alloc (.cells #[] 3))
  have hsz1 := hc1.2.size
  clear hc1
  go_wp2_with fail
  refine (below_cm w g _ _ (by omega) HC1.out).mono ?_
  rintro e w2 ⟨x0, rfl, hx0, hc2, hm2⟩
  have hgw1 : g < w1.heap.size := by omega
  have hsz2 := hm2.size
  have hO2 : Own w2 w.heap.size (.slice (some ⟨w1.heap.size, 0, none⟩) 0 0) [] := by
    have h0 : Own (w1.alloc (.cells #[] 3)) w1.heap.size (.slice (some ⟨w1.heap.size, 0, none⟩) 0 0) [] := World.ownsRow_lit w1 #[] 0 (Nat.le_refl _) (Nat.zero_le _) rfl
    exact own_base (h0.grown_lt hm2 (fun k hk => by injection hk with hk; omega)) hsz1
  have HO2 := Lib.hid hO2; have HC2 := Lib.hid hc2
  clear hO2 hc2 hm2 HC1 HC
  go_wp2
  go_loopw [4, 5] (fun v q wr => ∃ (zs : List Int) (k : Nat) (ad : Addr) (c : Nat), v = .slice (some ad) zs.length c ∧ q = .int .i64 k ∧ Own wr w.heap.size (.slice (some ad) zs.length c) zs ∧ Drawn kd (1 + x0) zs k ∧ CM w wr g) (fun _ q _ => (intOf q).toNat)
  case atStart => exact ⟨[], 1 + x0, _, _, rfl, by go_num, HO2.out, ⟨by simp; omega, fun _ => rfl, fun _ => .inl rfl⟩, HC2.out⟩
  case round =>
    clear HO2 HC2
    obtain ⟨zs, k, ad, c, rfl, rfl, hO, hD, hcm⟩ := hrel
    have HD := Lib.hid hD; have HCM := Lib.hid hcm
    have hzl : zs.length + k ≤ 11 := hD.1
    obtain ⟨m, hm⟩ : ∃ m, zs.length = m := ⟨_, rfl⟩
    have HO : Hid (Own wr w.heap.size (.slice (some ad) m c) zs) := by rw [← hm]; exact hO
    have Hm := Lib.hid hm
    rw [hm] at hzl ⊢
    clear hO hD hcm hm
    by_cases hk : 0 < k
    · obtain ⟨k', rfl⟩ : ∃ k', k = k' + 1 := ⟨k - 1, by omega⟩
      have hcr := Lib.hid (CM.of HCM.out.1)
      have hszr := HCM.out.2.size
      by_cases h2 : kd < 2
      · go_wp2_with (go_at_call 65; refine (below_cm wr g _ _ (by omega) hcr.out).mono ?_; rintro e w3 ⟨x1, rfl, hx1, hc3, -⟩)
        have tok1 : True := trivial
        have tok2 : True := trivial
        have tok3 : True := trivial
        go_region_with ((first
          | (clear tok1; go_at_call 65; refine (below_cm wr g _ _ (by omega) (by first | assumption | exact CM.drew (by assumption))).mono ?_; rintro e wa ⟨xa, rfl, hxa, hca, -⟩)
          | (clear tok2; go_at_call 65; refine (below_cm wr g _ _ (by omega) (by first | assumption | exact CM.drew (by assumption))).mono ?_; rintro e wb ⟨xb, rfl, hxb, hcb, -⟩)
          | (clear tok3; go_at_call 65; refine (below_cm wr g _ _ (by omega) (by first | assumption | exact CM.drew (by assumption))).mono ?_; rintro e W ⟨xc, rfl, hxc, hW, -⟩)))
        obtain ⟨S, hS⟩ : ∃ S, bits .or .i64 (bits .or .i64 (IntKind.i64.wrap (2 ^ xa)) (IntKind.i64.wrap (2 ^ xb))) (IntKind.i64.wrap (2 ^ xc)) = S := ⟨_, rfl⟩
        have HSb := Lib.hid (shl_or xa xb xc hxa hxb hxc)
        rw [hS] at HSb
        have HW := Lib.hid hW
        have HOW := Lib.hid (HO.out.grown_lt hW.2 (fun k hk => by injection hk with hk; omega))
        have hszW := hW.2.size
        have HIW := Lib.hid (own_ints HOW.out)
        have hmx : 12 ≤ maxLen := by unfold maxLen; omega
        clear hW
        cases hs : setsB (zs ++ [S])
        · have Hs := Lib.hid hs
          go_wp2_with (first
            | (at_builtin; refine wpl_copyof _ rfl (.tmp 37) (.tmp 38) rfl zs ad m c rfl rfl Hm.out HIW.out (by omega) ?_; intro v1 w4 hO4 hb4)
            | (at_builtin; refine wpl_push _ rfl (.tmp 39) (.tmp 41) rfl W.heap.size _ zs S rfl rfl hO4 hb4.size (by rw [Hm.out]; omega) ?_; intro v2 w5 hO5 hb5; obtain ⟨ad5, c5, rfl, hO5', hI5, hl5, hm5⟩ := own_row3 hO5 Hm.out)
            | (go_at_call 75; refine (l1Sets_any _ _ _ (zs ++ [S]) _ (by rw [List.length_append, Hm.out]; rfl) (by omega) hl5 hm5 hI5).mono ?_; rintro e w' ⟨rfl, rfl⟩))
          have hb5m : W.heap.size ≤ W.heap.size := Nat.le_refl _
          go_roundw
          case rel => exact ⟨zs, k', ad, c, by rw [Hm.out], by go_num, by rw [Hm.out]; exact HOW.out.below (hb4.trans (hb5.mono hb5m)), drawn_skip HD.out HSb.out.1 HSb.out.2 Hs.out, ⟨(HW.out.1.below (hb4.trans (hb5.mono hb5m))), HCM.out.2.trans (HW.out.2.trans (moved_below (hb4.trans (hb5.mono hb5m))))⟩⟩
          case measure => simp [intOf]
        · have Hs := Lib.hid hs
          go_wp2_with (first
            | (at_builtin; refine wpl_copyof _ rfl (.tmp 37) (.tmp 38) rfl zs ad m c rfl rfl Hm.out HIW.out (by omega) ?_; intro v1 w4 hO4 hb4)
            | (at_builtin; refine wpl_push _ rfl (.tmp 39) (.tmp 41) rfl W.heap.size _ zs S rfl rfl hO4 hb4.size (by rw [Hm.out]; omega) ?_; intro v2 w5 hO5 hb5; obtain ⟨ad5, c5, rfl, hO5', hI5, hl5, hm5⟩ := own_row3 hO5 Hm.out)
            | (go_at_call 75; refine (l1Sets_any _ _ _ (zs ++ [S]) _ (by rw [List.length_append, Hm.out]; rfl) (by omega) hl5 hm5 hI5).mono ?_; rintro e w' ⟨rfl, rfl⟩))
          have hb5m : W.heap.size ≤ W.heap.size := Nat.le_refl _
          go_roundw
          case rel => exact ⟨zs ++ [S], k', ad5, c5, by rw [List.length_append, Hm.out]; rfl, by go_num, by rw [List.length_append, Hm.out]; exact own_base hO5' (by omega), drawn_add HD.out (.inr Hs.out), ⟨(HW.out.1.below (hb4.trans (hb5.mono hb5m))), HCM.out.2.trans (HW.out.2.trans (moved_below (hb4.trans (hb5.mono hb5m))))⟩⟩
          case measure => simp [intOf]
      · have hk4or : kd = 2 ∨ kd = 3 ∨ kd = 4 := by omega
        rcases hk4or with hkk | hkk | hkk
        · have hk2 : ((kd : Int) == 2) = true := by simp; omega
          have hk4 : ((kd : Int) == 4) = false := by simp; omega
          clear hkk
          go_wp2_with fail
          refine (below_cm wr g _ _ (by omega) hcr.out).mono ?_
          rintro e w3 ⟨x1, rfl, hx1, hc3, -⟩
          go_wp2_with fail
          refine (below_cm wr g _ _ (by omega) hc3).mono ?_
          rintro e W ⟨x2, rfl, hx2, hW, -⟩
          obtain ⟨S, hS⟩ : ∃ S, (x2 : Int) = S := ⟨_, rfl⟩
          have HSb : Hid (0 ≤ S ∧ S ≤ 127) := ⟨by omega, by omega⟩
          clear hc3
          have HW := Lib.hid hW
          have HOW := Lib.hid (HO.out.grown_lt hW.2 (fun k hk => by injection hk with hk; omega))
          have hszW := hW.2.size
          have HIW := Lib.hid (own_ints HOW.out)
          have hmx : 12 ≤ maxLen := by unfold maxLen; omega
          clear hW
          cases hs : setsB (zs ++ [S])
          · have Hs := Lib.hid hs
            go_wp2_with (first
              | (at_builtin; refine wpl_copyof _ rfl (.tmp 37) (.tmp 38) rfl zs ad m c rfl rfl Hm.out HIW.out (by omega) ?_; intro v1 w4 hO4 hb4)
              | (at_builtin; refine wpl_push _ rfl (.tmp 39) (.tmp 41) rfl W.heap.size _ zs S rfl rfl hO4 hb4.size (by rw [Hm.out]; omega) ?_; intro v2 w5 hO5 hb5; obtain ⟨ad5, c5, rfl, hO5', hI5, hl5, hm5⟩ := own_row3 hO5 Hm.out)
              | (go_at_call 75; refine (l1Sets_any _ _ _ (zs ++ [S]) _ (by rw [List.length_append, Hm.out]; rfl) (by omega) hl5 hm5 hI5).mono ?_; rintro e w' ⟨rfl, rfl⟩))
            have hb5m : W.heap.size ≤ W.heap.size := Nat.le_refl _
            go_roundw
            case rel => exact ⟨zs, k', ad, c, by rw [Hm.out], by go_num, by rw [Hm.out]; exact HOW.out.below (hb4.trans (hb5.mono hb5m)), drawn_skip HD.out HSb.out.1 HSb.out.2 Hs.out, ⟨(HW.out.1.below (hb4.trans (hb5.mono hb5m))), HCM.out.2.trans (HW.out.2.trans (moved_below (hb4.trans (hb5.mono hb5m))))⟩⟩
            case measure => simp [intOf]
          · have Hs := Lib.hid hs
            go_wp2_with (first
              | (at_builtin; refine wpl_copyof _ rfl (.tmp 37) (.tmp 38) rfl zs ad m c rfl rfl Hm.out HIW.out (by omega) ?_; intro v1 w4 hO4 hb4)
              | (at_builtin; refine wpl_push _ rfl (.tmp 39) (.tmp 41) rfl W.heap.size _ zs S rfl rfl hO4 hb4.size (by rw [Hm.out]; omega) ?_; intro v2 w5 hO5 hb5; obtain ⟨ad5, c5, rfl, hO5', hI5, hl5, hm5⟩ := own_row3 hO5 Hm.out)
              | (go_at_call 75; refine (l1Sets_any _ _ _ (zs ++ [S]) _ (by rw [List.length_append, Hm.out]; rfl) (by omega) hl5 hm5 hI5).mono ?_; rintro e w' ⟨rfl, rfl⟩))
            have hb5m : W.heap.size ≤ W.heap.size := Nat.le_refl _
            go_roundw
            case rel => exact ⟨zs ++ [S], k', ad5, c5, by rw [List.length_append, Hm.out]; rfl, by go_num, by rw [List.length_append, Hm.out]; exact own_base hO5' (by omega), drawn_add HD.out (.inr Hs.out), ⟨(HW.out.1.below (hb4.trans (hb5.mono hb5m))), HCM.out.2.trans (HW.out.2.trans (moved_below (hb4.trans (hb5.mono hb5m))))⟩⟩
            case measure => simp [intOf]
        · have hk2 : ((kd : Int) == 2) = false := by simp; omega
          have hk4 : ((kd : Int) == 4) = false := by simp; omega
          clear hkk
          go_wp2_with fail
          refine (below_cm wr g _ _ (by omega) hcr.out).mono ?_
          rintro e W ⟨x1, rfl, hx1, hW, -⟩
          obtain ⟨S, hS⟩ : ∃ S, (x1 : Int) = S := ⟨_, rfl⟩
          have HSb : Hid (0 ≤ S ∧ S ≤ 127) := ⟨by omega, by omega⟩
          have HW := Lib.hid hW
          have HOW := Lib.hid (HO.out.grown_lt hW.2 (fun k hk => by injection hk with hk; omega))
          have hszW := hW.2.size
          have HIW := Lib.hid (own_ints HOW.out)
          have hmx : 12 ≤ maxLen := by unfold maxLen; omega
          clear hW
          cases hs : setsB (zs ++ [S])
          · have Hs := Lib.hid hs
            go_wp2_with (first
              | (at_builtin; refine wpl_copyof _ rfl (.tmp 37) (.tmp 38) rfl zs ad m c rfl rfl Hm.out HIW.out (by omega) ?_; intro v1 w4 hO4 hb4)
              | (at_builtin; refine wpl_push _ rfl (.tmp 39) (.tmp 41) rfl W.heap.size _ zs S rfl rfl hO4 hb4.size (by rw [Hm.out]; omega) ?_; intro v2 w5 hO5 hb5; obtain ⟨ad5, c5, rfl, hO5', hI5, hl5, hm5⟩ := own_row3 hO5 Hm.out)
              | (go_at_call 75; refine (l1Sets_any _ _ _ (zs ++ [S]) _ (by rw [List.length_append, Hm.out]; rfl) (by omega) hl5 hm5 hI5).mono ?_; rintro e w' ⟨rfl, rfl⟩))
            have hb5m : W.heap.size ≤ W.heap.size := Nat.le_refl _
            go_roundw
            case rel => exact ⟨zs, k', ad, c, by rw [Hm.out], by go_num, by rw [Hm.out]; exact HOW.out.below (hb4.trans (hb5.mono hb5m)), drawn_skip HD.out HSb.out.1 HSb.out.2 Hs.out, ⟨(HW.out.1.below (hb4.trans (hb5.mono hb5m))), HCM.out.2.trans (HW.out.2.trans (moved_below (hb4.trans (hb5.mono hb5m))))⟩⟩
            case measure => simp [intOf]
          · have Hs := Lib.hid hs
            go_wp2_with (first
              | (at_builtin; refine wpl_copyof _ rfl (.tmp 37) (.tmp 38) rfl zs ad m c rfl rfl Hm.out HIW.out (by omega) ?_; intro v1 w4 hO4 hb4)
              | (at_builtin; refine wpl_push _ rfl (.tmp 39) (.tmp 41) rfl W.heap.size _ zs S rfl rfl hO4 hb4.size (by rw [Hm.out]; omega) ?_; intro v2 w5 hO5 hb5; obtain ⟨ad5, c5, rfl, hO5', hI5, hl5, hm5⟩ := own_row3 hO5 Hm.out)
              | (go_at_call 75; refine (l1Sets_any _ _ _ (zs ++ [S]) _ (by rw [List.length_append, Hm.out]; rfl) (by omega) hl5 hm5 hI5).mono ?_; rintro e w' ⟨rfl, rfl⟩))
            have hb5m : W.heap.size ≤ W.heap.size := Nat.le_refl _
            go_roundw
            case rel => exact ⟨zs ++ [S], k', ad5, c5, by rw [List.length_append, Hm.out]; rfl, by go_num, by rw [List.length_append, Hm.out]; exact own_base hO5' (by omega), drawn_add HD.out (.inr Hs.out), ⟨(HW.out.1.below (hb4.trans (hb5.mono hb5m))), HCM.out.2.trans (HW.out.2.trans (moved_below (hb4.trans (hb5.mono hb5m))))⟩⟩
            case measure => simp [intOf]
        · have Hk4 := Lib.hid hkk
          have hk2 : ((kd : Int) == 2) = false := by simp; omega
          have hk4 : ((kd : Int) == 4) = true := by simp; omega
          clear hkk
          go_wp2_with fail
          refine (below_cm wr g _ _ (by omega) hcr.out).mono ?_
          rintro e W ⟨x1, rfl, hx1, hW, -⟩
          obtain ⟨S, hS⟩ : ∃ S, (x1 : Int) = S := ⟨_, rfl⟩
          have HW := Lib.hid hW
          have HOW := Lib.hid (HO.out.grown_lt hW.2 (fun k hk => by injection hk with hk; omega))
          have hszW := hW.2.size
          have HIW := Lib.hid (own_ints HOW.out)
          have hmx : 12 ≤ maxLen := by unfold maxLen; omega
          clear hW
          go_wp2_with (first
            | (at_builtin; refine wpl_copyof _ rfl (.tmp 37) (.tmp 38) rfl zs ad m c rfl rfl Hm.out HIW.out (by omega) ?_; intro v1 w4 hO4 hb4)
            | (at_builtin; refine wpl_push _ rfl (.tmp 39) (.tmp 41) rfl W.heap.size _ zs S rfl rfl hO4 hb4.size (by rw [Hm.out]; omega) ?_; intro v2 w5 hO5 hb5; obtain ⟨ad5, c5, rfl, hO5', hI5, hl5, hm5⟩ := own_row3 hO5 Hm.out)
            | (go_at_call 75; refine (l1Sets_any _ _ _ (zs ++ [S]) _ (by rw [List.length_append, Hm.out]; rfl) (by omega) hl5 hm5 hI5).mono ?_; rintro e w' ⟨rfl, rfl⟩))
          have hb5m : W.heap.size ≤ W.heap.size := Nat.le_refl _
          go_roundw
          case rel => exact ⟨zs ++ [S], k', ad5, c5, by rw [List.length_append, Hm.out]; rfl, by go_num, by rw [List.length_append, Hm.out]; exact own_base hO5' (by omega), drawn_add HD.out (.inl Hk4.out), ⟨(HW.out.1.below (hb4.trans (hb5.mono hb5m))), HCM.out.2.trans (HW.out.2.trans (moved_below (hb4.trans (hb5.mono hb5m))))⟩⟩
          case measure => simp [intOf]
    · have hk0 : k = 0 := by omega
      subst hk0
      have hm1 : 1 ≤ m := by
        have := HD.out.2.1
        rw [Hm.out] at this
        omega
      have HI := Lib.hid (own_ints HO.out)
      obtain ⟨hmc, hcm⟩ : m ≤ c ∧ c ≤ maxLen := by
        obtain ⟨A', c', hv, _, _, h1, h2⟩ := HO.out.form
        injection hv with e1 e2 e3
        subst e3
        rw [Hm.out] at h1
        exact ⟨h1, h2⟩
      have hszr := HCM.out.2.size
      by_cases h4 : kd < 4
      · have Hset : Hid (setsB zs = true) := by
          rcases HD.out.2.2 (by omega) with h | h
          · have := Hm.out; rw [h] at this; simp at this; omega
          · exact h
        go_wp2_with fail
        refine (specOrder_any _ _ _ zs _ Hm.out (by omega) hmc hcm HI.out).mono ?_
        rintro e w5 ⟨v5, rfl, hO5, hb5⟩
        have hL : Hid (ordL zs = ordAt zs m) := by show _ = _; unfold ordL; rw [Hset.out, Hm.out]; rfl
        go_wp2
        go_ret
        refine ⟨_, ordL zs, rfl, own_base hO5 hszr, ?_, ?_, HCM.out.step hb5⟩
        · rw [hL.out, ordAt_len]; exact hm1
        · rw [hL.out, ordAt_len]; omega
      · go_wp2
        go_ret
        exact ⟨_, zs, rfl, HO.out, by rw [Hm.out]; exact hm1, by rw [Hm.out]; omega, HCM.out⟩
end Go.Proofs.Ytpgokcilnejolaa
