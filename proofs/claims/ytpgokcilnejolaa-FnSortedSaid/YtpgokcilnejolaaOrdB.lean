/-
  OrderBar of the program by contract. Conditions of the contracts: a length of at most 2^20, which is at most the capacity.
-/
import Derived.Test.YtpgokcilnejolaaParts
namespace Go.Proofs.Ytpgokcilnejolaa
open Go.RowKit
set_option linter.unusedVariables false

set_option maxHeartbeats 800000 in
theorem mayFollow_any (g n c D P i : Nat) (w : World) (hi : i < n) (hi64 : i < 64) (hD : D < 2 ^ 64) (hP : P < 2 ^ 64) (hc : w.cell? ⟨g, i, none⟩ = some (.int .u64 (P : Int))) (hm : n ≤ 1048576) :
    Calls Try.prog 58 #[.slice (some ⟨g, 0, none⟩) n c, .int .u64 D, .int .i64 i] w fun e w' => e = .returned (.bool (!D.testBit i && partN P D)) ∧ w = w' := by
  have HD := Lib.hid hD; have HP := Lib.hid hP; clear hD hP
  cases hb : D.testBit i
  · go_enter Try.func58, Try.ntmps58
    go_wp2_with (first
      | (go_at_call 77; refine (plHas_any D i HD.out hi64 _).mono ?_; rintro e w' ⟨rfl, rfl⟩)
      | (go_at_call 78; refine (plPart_any P D HP.out HD.out _).mono ?_; rintro e w' ⟨rfl, rfl⟩))
    go_ret
    exact ⟨rfl, rfl⟩
  · go_enter Try.func58, Try.ntmps58
    go_wp2_with (go_at_call 77; refine (plHas_any D i HD.out hi64 _).mono ?_; rintro e w' ⟨rfl, rfl⟩)
    go_ret
    exact ⟨rfl, rfl⟩

/-- what is done after k steps, as bits -/
def dm (zs : List Int) (k : Nat) : Nat := maskN (fun t => !leftAt zs k t) zs.length
theorem maskN_zero {f : Nat → Bool} : ∀ n, (∀ t, t < n → f t = false) → maskN f n = 0
  | 0, _ => rfl
  | n + 1, h => by unfold maskN; rw [h n (by omega)]; simp; exact maskN_zero n fun t ht => h t (by omega)
theorem dm_zero (zs : List Int) : dm zs 0 = 0 := maskN_zero _ fun t _ => rfl
theorem dm_bit (zs : List Int) (k t : Nat) (ht : t < zs.length) : (dm zs k).testBit t = !leftAt zs k t := by
  unfold dm; rw [mask_bit]; simp [ht]
theorem dm_succ {zs : List Int} {k i : Nat} (hn : nextOf zs (leftAt zs k) = i) (hi : i < zs.length) : dm zs k ||| 2 ^ i = dm zs (k + 1) := by
  have hla : leftAt zs (k + 1) = drop1 (leftAt zs k) i := by show drop1 (leftAt zs k) (nextOf zs (leftAt zs k)) = _; rw [hn]
  apply Nat.eq_of_testBit_eq
  intro t
  unfold dm
  rw [Nat.testBit_or, mask_bit, mask_bit, Nat.testBit_two_pow, hla]
  unfold drop1
  by_cases e : i = t
  · subst e; simp [hi]
  · have : (t != i) = true := by rw [bne_iff_ne]; exact fun h => e h.symm
    simp [e, this]
theorem free_part {zs : List Int} {k i : Nat} : partN (mk zs i zs.length) (dm zs k) = freeB zs (leftAt zs k) i := by
  rw [Bool.eq_iff_iff, partN_iff]
  unfold freeB
  rw [List.all_eq_true]
  constructor
  · intro h t ht
    rw [List.mem_range] at ht
    have h1 := h t
    unfold mk at h1
    rw [mask_bit, dm_bit zs k t ht] at h1
    unfold fOf at h1
    cases h2 : (t != i) <;> cases h3 : partB (zs.getD t 0) (zs.getD i 0) <;> cases h4 : leftAt zs k t <;> simp_all
  · intro h t hb
    unfold mk at hb
    rw [mask_bit, Bool.and_eq_true, decide_eq_true_eq] at hb
    obtain ⟨ht, hf⟩ := hb
    have h1 := h t (List.mem_range.2 ht)
    rw [dm_bit zs k t ht]
    unfold fOf at hf
    cases h2 : (t != i) <;> cases h3 : partB (zs.getD t 0) (zs.getD i 0) <;> cases h4 : leftAt zs k t <;> simp_all

set_option maxHeartbeats 3200000 in
theorem implOrder_yes (A : Option Addr) (n c : Nat) (zs : List Int) (w : World) (hn : zs.length = n) (h : Ints w A zs) (hs : setsB zs = true) :
    Calls Try.prog 22 #[.slice A n c] w fun e w' => ∃ v, e = .returned (.tuple #[v, .bool true]) ∧ Own w' w.heap.size v (ordAt zs n) ∧ Below w.heap.size w w' := by
  have hbar : isBar zs = true := by unfold setsB at hs; rw [Bool.and_eq_true] at hs; exact hs.2
  have hm : n ≤ 40 := by have := bar_len hbar; omega
  have hm0 : n ≤ maxLen := by unfold maxLen; omega
  have hdist : distinct zs := by unfold setsB at hs; rw [Bool.and_eq_true] at hs; exact (distB_iff zs).1 hs.1
  have HN := Lib.hid (fun k hk => next_at (bar_set hbar) hdist (k := k) hk)
  clear hdist
  have Hn := Lib.hid hn; clear hn
  have H := Lib.hid (IntsB.of h); clear h
  go_enter Try.func22, Try.ntmps22
  go_wp2_with fail
  refine (areOrd_any _ _ _ zs _ Hn.out hm0 H.out.ints).mono ?_
  rintro e w1 ⟨rfl, hb1⟩
  have H1 := Lib.hid (H.out.keep (Nat.le_refl _) hb1)
  have s1 := hb1.size
  go_wp2_with fail
  refine (partsIn_any _ _ _ zs _ Hn.out hm H1.out.ints).mono ?_
  rintro e w2 ⟨rfl, hown2, hb2⟩
  have H2 := Lib.hid (H1.out.keep s1 hb2)
  have s2 := hb2.size
  have T2 := Lib.hid (hb1.trans (hb2.mono s1))
  have hlt2 : w1.heap.size < w2.heap.size := (World.ownsRow.lt hown2 w1.heap.size rfl).2
  have HP := Lib.hid hown2
  clear hb1 hb2 hown2 H H1
  go_wp2_with (at_make; refine wpl_room_int _ rfl (.const (.int .i64 0)) (.tmp 15) rfl n _ rfl rfl rfl (by omega) ?_; intro w3 hown3 hb3)
  have HO3 := Lib.hid hown3
  have HB3 := Lib.hid hb3
  clear hown3 hb3
  go_loopw [5, 6, 19] (fun v d q wr => ∃ k : Nat, ∃ (A2 : Option Addr) (c2 : Nat), k ≤ n ∧ q = .int .i64 k ∧ v = .slice A2 k c2 ∧ d = .int .u64 (dm zs k : Int) ∧ Own wr w2.heap.size (.slice A2 k c2) (ordAt zs k) ∧ Below w2.heap.size w2 wr) (fun _ _ q _ => n - (intOf q).toNat)
  case atStart => exact ⟨0, _, _, Nat.zero_le _, rfl, rfl, by rw [dm_zero]; rfl, HO3.out, HB3.out⟩
  case round =>
    clear HO3 HB3
    obtain ⟨k, A2, c2, hk, rfl, rfl, rfl, hO, hB⟩ := hrel
    have hsz := hB.size
    have hI : Ints wr A zs := (H2.out.keep (by omega) hB).ints
    have HR := Lib.hid (row_below HP.out (b := w2.heap.size) (fun g hg => by injection hg with hg; subst hg; exact hlt2) hB)
    have HBr := Lib.hid hB
    clear hB
    by_cases hkn : k < n
    · obtain ⟨hx1, hx2, hx3⟩ := HN.out k (by rw [Hn.out]; exact hkn)
      have HX1 := Lib.hid hx1; have HX2 := Lib.hid hx2; have HX3 := Lib.hid hx3
      clear hx1 hx2 hx3
      have HD : Hid (dm zs k < 2 ^ 64) := mask_lt64 _ (by rw [Hn.out]; exact hm)
      obtain ⟨D, hD⟩ : ∃ D, dm zs k = D := ⟨_, rfl⟩
      have HDe := Lib.hid hD
      rw [hD] at HD ⊢
      clear hD
      have HO := Lib.hid hO
      clear hO
      go_wp2
      go_loop [5, 6, 23] (fun v d q => ∃ j : Nat, j ≤ n ∧ v = .slice A2 k c2 ∧ d = .int .u64 (D : Int) ∧ q = .int .i64 j ∧ ∀ t, t < j → (leftAt zs k t && freeB zs (leftAt zs k) t) = false) (fun _ _ q => n - (intOf q).toNat)
      case atStart => exact ⟨0, Nat.zero_le _, rfl, rfl, rfl, fun t ht => absurd ht (by omega)⟩
      case round =>
        obtain ⟨j, hj, rfl, rfl, rfl, hno⟩ := hrel
        have Hno := Lib.hid hno; clear hno
        by_cases hjn : j < n
        · obtain ⟨ad, x, hade, hx, hcx⟩ := hI.at_ (k := j) (by rw [Hn.out]; exact hjn)
          subst hade
          have hcj := Lib.hid ((HR.out.cellAt j (by omega)).trans (rowP_full hjn))
          have HPl : Hid (mk zs j n < 2 ^ 64) := mask_lt64 _ hm
          have hval : Hid ((!D.testBit j && partN (mk zs j n) D) = (leftAt zs k j && freeB zs (leftAt zs k) j)) := by
            show _ = _
            rw [← HDe.out, dm_bit zs k j (by rw [Hn.out]; exact hjn), ← free_part, Hn.out]
            simp
          cases hf : (leftAt zs k j && freeB zs (leftAt zs k) j)
          · have Hs : Hid (∀ t, t < j + 1 → (leftAt zs k t && freeB zs (leftAt zs k) t) = false) := fun t ht => by
              by_cases e : t = j
              · subst e; exact hf
              · exact Hno.out t (by omega)
            have Hf := Lib.hid hf
            clear hf
            go_wp2_with (go_at_call 58; refine (mayFollow_any _ n _ D (mk zs j n) j _ hjn (by omega) HD.out HPl.out hcj.out (by omega)).mono ?_; rintro e w' ⟨rfl, rfl⟩; rw [hval.out, Hf.out])
            go_round
            case rel => exact ⟨j + 1, by omega, rfl, rfl, by go_num, Hs.out⟩
            case measure => simp [intOf]; omega
          · have hfb := hf
            rw [Bool.and_eq_true] at hfb
            have HNX : Hid (nextOf zs (leftAt zs k) = j) := nextOf_is (by rw [Hn.out]; exact hjn) hfb.1 hfb.2 Hno.out
            have Hf := Lib.hid hf
            clear hf hfb
            go_wp2_with (first
              | (go_at_call 58; refine (mayFollow_any _ n _ D (mk zs j n) j _ hjn (by omega) HD.out HPl.out hcj.out (by omega)).mono ?_; rintro e w' ⟨rfl, rfl⟩; rw [hval.out, Hf.out])
              | (at_builtin; refine wpl_push _ rfl (.tmp 32) (.tmp 34) rfl w2.heap.size _ (ordAt zs k) x rfl rfl HO.out hsz (by rw [ordAt_len]; omega) ?_; intro v' w4 hO4 hB4)
              | (go_at_call 59; refine (plWith_any D j HD.out (by omega) _).mono ?_; rintro e w' ⟨rfl, rfl⟩))
            have HO3 := ordAt_push HNX.out hx.out hO4
            obtain ⟨A3, c3, rfl, _⟩ := HO3.form
            rw [ordAt_len] at HO3 hO4 ⊢
            go_roundw
            case rel => exact ⟨k + 1, A3, c3, by omega, by go_num, rfl, by rw [← dm_succ HNX.out (by rw [Hn.out]; exact hjn), HDe.out], HO3, HBr.out.trans hB4⟩
            case measure => simp [intOf]; omega
        · have hx1 := HX1.out
          rw [Hn.out] at hx1
          exact absurd (Hno.out (nextOf zs (leftAt zs k)) (by omega)) (by rw [HX2.out, HX3.out]; simp)
    · have hkn2 : k = n := by omega
      subst hkn2
      go_wp2
      go_ret2
      exact ⟨_, rfl, own_base hO (by omega), T2.out.trans (HBr.out.mono (by omega))⟩

theorem implOrder_no (A : Option Addr) (n c : Nat) (zs : List Int) (w : World) (hn : zs.length = n) (hm0 : n ≤ maxLen) (h : Ints w A zs) (hs : setsB zs = false) :
    Calls Try.prog 22 #[.slice A n c] w fun e w' => e = .returned (.tuple #[.slice none 0 0, .bool false]) ∧ Below w.heap.size w w' := by
  have Hn := Lib.hid hn; clear hn
  go_enter Try.func22, Try.ntmps22
  go_wp2_with (go_at_call 56; refine (areOrd_any _ _ _ zs _ Hn.out hm0 h).mono ?_; rintro e w1 ⟨rfl, hb1⟩)
  go_ret2
  exact ⟨rfl, hb1⟩

theorem implOrder_any (A : Option Addr) (n c : Nat) (zs : List Int) (w : World) (hn : zs.length = n) (hm : n ≤ 1048576) (hcap : n ≤ c) (hcm : c ≤ maxLen) (h : Ints w A zs) :
    Calls Try.prog 22 #[.slice A n c] w fun e w' => ∃ v, e = .returned (.tuple #[v, .bool (setsB zs)]) ∧ Own w' w.heap.size v (ordL zs) ∧ Below w.heap.size w w' := by
  cases hy : setsB zs
  · have hL : ordL zs = [] := by unfold ordL; rw [hy]; rfl
    rw [hL]
    refine (implOrder_no A n c zs w hn (by unfold maxLen; omega) h hy).mono ?_
    rintro e w' ⟨rfl, hb⟩
    exact ⟨_, rfl, World.ownsRow_nil _ _ _ _, hb⟩
  · have hL : ordL zs = ordAt zs n := by unfold ordL; rw [hy, hn]; rfl
    rw [hL]
    exact implOrder_yes A n c zs w hn h hy
end Go.Proofs.Ytpgokcilnejolaa
