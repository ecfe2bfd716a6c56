/-
  FnLoss: its walk. No condition.
-/
import Derived.Test.YtpgokcilnejolaaLighter
import Derived.Test.YtpgokcilnejolaaLoss
import Derived.Outline
namespace Go.Proofs.Ytpgokcilnejolaa
open Go.RowKit
set_option linter.unusedVariables false

set_option maxHeartbeats 1600000 in
theorem drawLoss_any (A : Option Addr) (n c : Nat) (bs : List Int) (w : World) (hn : bs.length = n) (hm : n ≤ maxLen) (h : Bytes w A bs) (wf : ∀ z ∈ bs, (Lit.int .u8 z).wf = true) :
    Calls Try.prog 33 #[.slice A n c] w fun e w' => ∃ (A' : Option Addr) (n' c' : Nat) (zs : List Int) (s : Int), e = .returned (.tuple #[.slice A' n' c', .int .i64 s]) ∧ Own w' w.heap.size (.slice A' n' c') zs ∧ zs.length = n' ∧ n' ≤ 42 ∧ n' ≤ c' ∧ c' ≤ maxLen ∧ Below w.heap.size w w' := by
  have H := Lib.hid h; have Hn := Lib.hid hn; have Hwf := Lib.hid wf
  clear h hn wf
  go_enter Try.func33, Try.ntmps33
  go_wp2_with fail
  refine (l01New_any _ _ _ bs _ Hn.out hm H.out Hwf.out).mono ?_
  rintro e w1 ⟨rfl, hc1, hb1, hs1⟩
  have HB1 := Lib.hid hb1; have HS1 := Lib.hid hs1; have HC1 := Lib.hid hc1
  have hsz1 : w.heap.size < w1.heap.size := by omega
  clear hc1 hb1 hs1
  go_wp2_with fail
  refine (l1Any_any _ _ HC1.out).mono ?_
  rintro e w2 ⟨v, zs, rfl, hO2, hz, hc2⟩
  obtain ⟨A2, n2, c2, rfl, hn2, hO2', hnc2, hcm2⟩ := own_form3 hO2
  have hn42 : n2 ≤ 42 := by omega
  have HN2 := Lib.hid hn2; have HO2 := Lib.hid hO2'; have HC2 := Lib.hid hc2
  clear hO2 hO2' hn2 hz hc2
  go_wp2_with fail
  refine (below_cm w2 _ _ _ (by omega) (CM.of HC2.out.1)).mono ?_
  rintro e w3 ⟨x, rfl, hx, hc3, -⟩
  have HO3 := Lib.hid (HO2.out.grown_lt hc3.2 (fun k hk => by injection hk with hk; omega))
  have HC3 : Hid (CM w1 w3 w.heap.size) := ⟨hc3.1, HC2.out.2.trans hc3.2⟩
  clear hc3 HC2
  go_wp2
  go_ret2
  exact ⟨_, _, _, zs, _, rfl, own_base HO3.out (by omega), HN2.out, hn42, hnc2, hcm2, cm_below HB1.out HS1.out HC3.out⟩

/-- the least loss among the parts below q -/
def leastTo (zs : List Int) (x : Int) (p : Nat) : Nat → Int
  | 0 => 8
  | q + 1 => if partB (q : Int) x = true ∧ fallI zs (q : Int) < (p : Int) then mn (leastTo zs x p q) (cnt x - cnt (q : Int)) else leastTo zs x p q

theorem leastTo_yes {zs : List Int} {x : Int} {p q : Nat} (h1 : partB (q : Int) x = true) (h2 : fallI zs (q : Int) < (p : Int)) : leastTo zs x p (q + 1) = mn (leastTo zs x p q) (cnt x - cnt (q : Int)) := by
  show (if _ then _ else _) = _
  rw [if_pos ⟨h1, h2⟩]
theorem b2_split (a b : Bool) : b2 a = b2 (a && b) + b2 (a && !b) := by cases a <;> cases b <;> rfl
theorem cnt_split {s t : Int} (h0 : 0 ≤ s) (h1 : s ≤ 127) (g0 : 0 ≤ t) (g1 : t ≤ 127) : cnt s = cnt (both s t) + cnt (less s t) := by
  rw [cnt_bt s h0, cnt_bt _ (both_bd h0 h1 g0 g1).1, cnt_bt _ (less_bd h0 h1 g0 g1).1]
  simp only [bt_both h0 h1 g0 g1, bt_less h0 h1 g0 g1]
  have e0 := b2_split (bt s 0) (bt t 0); have e1 := b2_split (bt s 1) (bt t 1); have e2 := b2_split (bt s 2) (bt t 2); have e3 := b2_split (bt s 3) (bt t 3)
  have e4 := b2_split (bt s 4) (bt t 4); have e5 := b2_split (bt s 5) (bt t 5); have e6 := b2_split (bt s 6) (bt t 6)
  omega
theorem both_part {s t : Int} (h0 : 0 ≤ s) (h1 : s ≤ 127) (g0 : 0 ≤ t) (g1 : t ≤ 127) (hp : partB t s = true) : both s t = t := by
  have hb := both_bd h0 h1 g0 g1
  refine bt_ext hb.1 g0 fun i => ?_
  rw [bt_both h0 h1 g0 g1]
  cases ht : bt t i
  · simp
  · rw [(partB_iff g0 g1 h0 h1).1 hp i ht]; rfl
theorem mn_le (a b : Int) : mn a b ≤ a ∧ mn a b ≤ b ∧ (mn a b = a ∨ mn a b = b) := by unfold mn; split <;> omega
theorem leastTo_le {zs : List Int} {x : Int} {p : Nat}   : ∀ (Q q : Nat), q < Q → partB (q : Int) x = true → fallI zs (q : Int) < (p : Int) → leastTo zs x p Q ≤ cnt x - cnt (q : Int)
  | 0, q, h, _, _ => absurd h (by omega)
  | Q + 1, q, h, h1, h2 => by
    unfold leastTo
    by_cases e : q = Q
    · subst e
      rw [if_pos ⟨h1, h2⟩]
      exact (mn_le _ _).2.1
    · have ih := leastTo_le Q q (by omega) h1 h2
      split
      · have := (mn_le (leastTo zs x p Q) (cnt x - cnt (Q : Int))).1
        omega
      · exact ih
theorem leastTo_ge {zs : List Int} {x : Int} {p : Nat} {L : Int} (h8 : L ≤ 8) (h : ∀ q : Nat, (q : Int) ≤ x → partB (q : Int) x = true → fallI zs (q : Int) < (p : Int) → L ≤ cnt x - cnt (q : Int)) : ∀ Q : Nat, (Q : Int) ≤ x + 1 → L ≤ leastTo zs x p Q
  | 0, _ => h8
  | Q + 1, hQ => by
    have ih := leastTo_ge h8 h Q (by omega)
    unfold leastTo
    split
    · rename_i hc
      have := h Q (by omega) hc.1 hc.2
      rcases (mn_le (leastTo zs x p Q) (cnt x - cnt (Q : Int))).2.2 with e | e <;> rw [e] <;> assumption
    · exact ih
theorem lossTo_le (x : Int) : ∀ (l : List Int) (m0 : Int), lossTo x m0 l ≤ m0 ∧ ∀ b ∈ l, lossTo x m0 l ≤ cnt (less x b)
  | [], m0 => ⟨Int.le_refl _, fun b hb => by cases hb⟩
  | b :: l, m0 => by
    obtain ⟨h1, h2⟩ := lossTo_le x l (mn m0 (cnt (less x b)))
    have h3 := mn_le m0 (cnt (less x b))
    show lossTo x (mn m0 (cnt (less x b))) l ≤ m0 ∧ ∀ c ∈ b :: l, lossTo x (mn m0 (cnt (less x b))) l ≤ cnt (less x c)
    refine ⟨by omega, fun c hc => ?_⟩
    rcases List.mem_cons.1 hc with rfl | hc
    · omega
    · exact h2 c hc
theorem lossTo_mem (x : Int) : ∀ (l : List Int) (m0 : Int), lossTo x m0 l = m0 ∨ ∃ b ∈ l, lossTo x m0 l = cnt (less x b)
  | [], m0 => .inl rfl
  | b :: l, m0 => by
    show lossTo x (mn m0 (cnt (less x b))) l = m0 ∨ ∃ c ∈ b :: l, lossTo x (mn m0 (cnt (less x b))) l = cnt (less x c)
    rcases lossTo_mem x l (mn m0 (cnt (less x b))) with h | ⟨c, hc, h⟩
    · rcases (mn_le m0 (cnt (less x b))).2.2 with e | e
      · left; rw [h, e]
      · right; exact ⟨b, by simp, by rw [h, e]⟩
    · right; exact ⟨c, by simp [hc], h⟩

theorem loss_least {zs : List Int} {x : Int} {p : Nat} (hbar : isBar zs = true) (hp1 : 1 ≤ p) (hx : zs[p]? = some x) : lossI zs (p : Int) = leastTo zs x p (x.toNat + 1) := by
  have hset := bar_set hbar
  obtain ⟨hx0, hx1⟩ := hset x (mem_at hx)
  have hpl := lt_at hx
  have hL : lossI zs (p : Int) = lossTo x 7 (zs.take p) := by
    unfold lossI
    rw [if_pos ⟨hbar, by omega, by omega⟩, Int.toNat_natCast, getD_at hx]
  rw [hL]
  have hle := lossTo_le x (zs.take p) 7
  have hz : ∀ j, j < zs.length → 0 ≤ zs.getD j 0 ∧ zs.getD j 0 ≤ 127 := fun j hj => by
    simp only [List.getD, List.getElem?_eq_getElem hj, Option.getD_some]
    exact hset _ (List.getElem_mem hj)
  -- a part that falls before p loses no less
  have h1 : lossTo x 7 (zs.take p) ≤ leastTo zs x p (x.toNat + 1) := by
    refine leastTo_ge (by have := hle.1; omega) (fun q hq hpart hfall => ?_) _ (by omega)
    have q1 : (q : Int) ≤ 127 := by omega
    rw [fallI_good hbar ((setB_iff _).2 ⟨by omega, q1⟩)] at hfall
    obtain ⟨j, hj⟩ : ∃ j, fallOf zs (q : Int) = j := ⟨_, rfl⟩
    rw [hj] at hfall
    have hjl : j < zs.length := by omega
    have hpj := ((fallOf_spec hjl).1 hj).1
    have hzj := hz j hjl
    have hmem : zs.getD j 0 ∈ zs.take p := by
      simp only [List.getD, List.getElem?_eq_getElem hjl, Option.getD_some]
      exact List.mem_iff_getElem.2 ⟨j, by rw [List.length_take]; omega, by rw [List.getElem_take]⟩
    have hle2 := hle.2 _ hmem
    have hs := cnt_split hx0 hx1 (show 0 ≤ (q : Int) by omega) q1
    rw [both_part hx0 hx1 (by omega) q1 hpart] at hs
    have hmono : cnt (less x (zs.getD j 0)) ≤ cnt (less x (q : Int)) := cnt_mono (less_bd hx0 hx1 hzj.1 hzj.2).1 (less_bd hx0 hx1 (by omega) q1).1 fun i hi => by
      rw [bt_less hx0 hx1 hzj.1 hzj.2] at hi
      rw [bt_less hx0 hx1 (by omega) q1]
      cases hqi : bt (q : Int) i
      · simp at hi; simp [hi.1]
      · rw [(partB_iff (by omega) q1 hzj.1 hzj.2).1 hpj i hqi] at hi; simp at hi
    omega
  -- and each loss is that of a part
  have h2 : leastTo zs x p (x.toNat + 1) ≤ lossTo x 7 (zs.take p) := by
    have hone : ∀ b ∈ zs.take p, leastTo zs x p (x.toNat + 1) ≤ cnt (less x b) := fun b hb => by
      obtain ⟨j, hj, hbj⟩ := List.mem_iff_getElem.1 hb
      rw [List.length_take] at hj
      rw [List.getElem_take] at hbj
      have hb2 := hset b (List.mem_of_mem_take hb)
      have hbd := both_bd hx0 hx1 hb2.1 hb2.2
      have hpb := partB_both hx0 hx1 hb2.1 hb2.2
      have hle3 := partB_le hbd.1 hbd.2 hx0 hx1 hpb.1
      have hfall : fallI zs (both x b) < (p : Int) := by
        rw [fallI_good hbar ((setB_iff _).2 hbd)]
        have : fallOf zs (both x b) ≤ j := by
          rcases Nat.lt_or_ge j (fallOf zs (both x b)) with hc | hc
          · have h3 : partB (both x b) (zs[j]'(by omega)) = false := by
              have := List.not_of_lt_findIdx (p := partB (both x b)) (xs := zs) hc
              simpa using this
            rw [hbj, hpb.2] at h3; cases h3
          · exact hc
        omega
      have hq := leastTo_le (zs := zs) (x := x) (p := p) (x.toNat + 1) (both x b).toNat (by omega) (by rw [Int.toNat_of_nonneg hbd.1]; exact hpb.1) (by rw [Int.toNat_of_nonneg hbd.1]; exact hfall)
      rw [Int.toNat_of_nonneg hbd.1] at hq
      have := cnt_split hx0 hx1 hb2.1 hb2.2
      omega
    rcases lossTo_mem x (zs.take p) 7 with h | ⟨b, hb, h⟩
    · rw [h]
      have h0 : zs[0]'(by omega) ∈ zs.take p := List.mem_iff_getElem.2 ⟨0, by rw [List.length_take]; omega, by rw [List.getElem_take]⟩
      have := hone _ h0
      have := (cnt_bd (less x (zs[0]'(by omega)))).2
      omega
    · rw [h]; exact hone b hb
  omega

set_option maxHeartbeats 3200000 in
theorem fnLoss_walk (A : Option Addr) (n c : Nat) (bs : List Int) (w : World) (hn : bs.length = n) (hm : n ≤ maxLen) (h : Bytes w A bs) (wf : ∀ z ∈ bs, (Lit.int .u8 z).wf = true) :
    Calls Try.prog 6 #[.slice A n c] w fun e w' => e = .returned (.bool true) ∧ Below w.heap.size w w' := by
  have H := Lib.hid h; have Hn := Lib.hid hn; have Hwf := Lib.hid wf
  clear h hn wf
  have hm0 := hm
  unfold maxLen at hm
  by_cases hbig : 1048576 < n
  · go_enter Try.func6, Try.ntmps6
    go_wp2
    go_ret
    exact ⟨rfl, Below.refl _ _⟩
  · go_enter Try.func6, Try.ntmps6
    go_wp2_with fail
    refine (drawLoss_any _ _ _ bs _ Hn.out hm0 H.out Hwf.out).mono ?_
    rintro e w1 ⟨A1, n1, c1, zs, s, rfl, hO1, hn1, hn42, hnc1, hcm1, hb1⟩
    have HI := Lib.hid (own_ints hO1); have HN := Lib.hid hn1; have HB := Lib.hid hb1
    have hm1 : n1 ≤ maxLen := by unfold maxLen; omega
    clear hO1 hn1 hb1
    cases hbar : isBar zs
    · have hli : lossI zs s = -1 := by unfold lossI; rw [if_neg (by rw [hbar]; simp)]
      go_wp2_with (first
        | (go_at_call 34; refine (implLoss_any _ _ _ zs s _ HN.out hm1 hnc1 hcm1 HI.out).mono ?_; rintro e w' ⟨rfl, rfl⟩)
        | (go_at_call 20; refine (specIsBar_any _ _ _ zs _ HN.out hm1 HI.out).mono ?_; rintro e w' ⟨rfl, rfl⟩))
      go_ret
      exact ⟨rfl, HB.out⟩
    by_cases hlo : s < 1
    · have hli : lossI zs s = -1 := by unfold lossI; rw [if_neg (by omega)]
      go_wp2_with (first
        | (go_at_call 34; refine (implLoss_any _ _ _ zs s _ HN.out hm1 hnc1 hcm1 HI.out).mono ?_; rintro e w' ⟨rfl, rfl⟩)
        | (go_at_call 20; refine (specIsBar_any _ _ _ zs _ HN.out hm1 HI.out).mono ?_; rintro e w' ⟨rfl, rfl⟩))
      go_ret
      exact ⟨rfl, HB.out⟩
    by_cases hhi : (n1 : Int) ≤ s
    · have hli : lossI zs s = -1 := by unfold lossI; rw [if_neg (by rw [HN.out]; omega)]
      go_wp2_with (first
        | (go_at_call 34; refine (implLoss_any _ _ _ zs s _ HN.out hm1 hnc1 hcm1 HI.out).mono ?_; rintro e w' ⟨rfl, rfl⟩)
        | (go_at_call 20; refine (specIsBar_any _ _ _ zs _ HN.out hm1 HI.out).mono ?_; rintro e w' ⟨rfl, rfl⟩))
      go_ret
      exact ⟨rfl, HB.out⟩
    obtain ⟨p, rfl⟩ := Int.eq_ofNat_of_zero_le (show 0 ≤ s by omega)
    have hp1 : 1 ≤ p := by omega
    have hpn : p < n1 := by omega
    clear hlo hhi
    obtain ⟨ad, x, hade, hx, hcx⟩ := HI.out.at_ (k := p) (by rw [HN.out]; exact hpn)
    subst hade
    obtain ⟨hx0, hx1⟩ := bar_set hbar x (mem_at hx.out)
    have HL := Lib.hid (loss_least hbar hp1 hx.out)
    have hb0 : decide ((1048576 : Int) < (n : Int)) = false := by simp; omega
    have hb1 : decide ((p : Int) < 1) = false := by simp; omega
    have hb2 : decide (n1 ≤ p) = false := by simp; omega
    go_wp2_with (first
      | (go_at_call 34; refine (implLoss_any _ _ _ zs p _ HN.out hm1 hnc1 hcm1 HI.out).mono ?_; rintro e w' ⟨rfl, rfl⟩)
      | (go_at_call 20; refine (specIsBar_any _ _ _ zs _ HN.out hm1 HI.out).mono ?_; rintro e w' ⟨rfl, rfl⟩))
    go_loop [6, 7] (fun m q => ∃ (k : Nat) (L : Int), (k : Int) ≤ x + 1 ∧ q = .int .i64 k ∧ m = .int .i64 L ∧ -8 ≤ L ∧ L ≤ 8 ∧ L = leastTo zs x p k) (fun _ q => (x + 1 - intOf q).toNat)
    case atStart => exact ⟨0, 8, by omega, rfl, rfl, by omega, by omega, rfl⟩
    case round =>
      obtain ⟨k, L, hk, rfl, rfl, hL0, hL1, hL⟩ := hrel
      have HLk := Lib.hid hL; clear hL
      by_cases hkx : (k : Int) ≤ x
      · have hk127 : (k : Int) ≤ 127 := by omega
        obtain ⟨ck0, ck1⟩ := cnt_bd (k : Int)
        obtain ⟨cx0, cx1⟩ := cnt_bd x
        cases hp : (bits .andNot .i64 (k : Int) x == 0)
        · have HS : Hid (L = leastTo zs x p (k + 1)) := by
            show _ = _
            unfold leastTo
            rw [if_neg (by unfold partB; rw [hp]; simp)]; exact HLk.out
          go_wp2
          go_round
          case rel => exact ⟨k + 1, L, by omega, by go_num, rfl, hL0, hL1, HS.out⟩
          case measure => simp [intOf]; omega
        · by_cases hf : fallI zs (k : Int) < (p : Int)
          · have HS0 := Lib.hid (leastTo_yes (zs := zs) (x := x) (p := p) (q := k) (by unfold partB; exact hp) hf)
            by_cases hmin : cnt x - cnt (k : Int) < L
            · have HS : Hid (cnt x - cnt (k : Int) = leastTo zs x p (k + 1)) := by
                show _ = _
                rw [HS0.out, ← HLk.out]; unfold mn; rw [if_pos hmin]
              go_wp2_with (first
                | (go_at_call 27; refine (implFallOf_any _ _ _ zs _ _ HN.out hm1 HI.out).mono ?_; rintro e w' ⟨rfl, rfl⟩)
                | (go_at_call_of 30 (.int .i64 x); refine (lawTeeth_any x _ hx0 hx1).mono ?_; rintro e w' ⟨rfl, rfl⟩)
                | (go_at_call 30; refine (lawTeeth_any _ _ (by omega) (by omega)).mono ?_; rintro e w' ⟨rfl, rfl⟩))
              go_round
              case rel => exact ⟨k + 1, _, by omega, by go_num, rfl, by omega, by omega, HS.out⟩
              case measure => simp [intOf]; omega
            · have HS : Hid (L = leastTo zs x p (k + 1)) := by
                show _ = _
                rw [HS0.out, ← HLk.out]; unfold mn; rw [if_neg hmin]
              go_wp2_with (first
                | (go_at_call 27; refine (implFallOf_any _ _ _ zs _ _ HN.out hm1 HI.out).mono ?_; rintro e w' ⟨rfl, rfl⟩)
                | (go_at_call_of 30 (.int .i64 x); refine (lawTeeth_any x _ hx0 hx1).mono ?_; rintro e w' ⟨rfl, rfl⟩)
                | (go_at_call 30; refine (lawTeeth_any _ _ (by omega) (by omega)).mono ?_; rintro e w' ⟨rfl, rfl⟩))
              go_round
              case rel => exact ⟨k + 1, _, by omega, by go_num, rfl, hL0, hL1, HS.out⟩
              case measure => simp [intOf]; omega
          · have HS : Hid (L = leastTo zs x p (k + 1)) := by
              show _ = _
              unfold leastTo
              rw [if_neg (fun h => hf h.2)]; exact HLk.out
            go_wp2_with (go_at_call 27; refine (implFallOf_any _ _ _ zs _ _ HN.out hm1 HI.out).mono ?_; rintro e w' ⟨rfl, rfl⟩)
            go_round
            case rel => exact ⟨k + 1, L, by omega, by go_num, rfl, hL0, hL1, HS.out⟩
            case measure => simp [intOf]; omega
      · have hk2 : k = x.toNat + 1 := by omega
        subst hk2
        have heq : lossI zs (p : Int) = L := by rw [HL.out, HLk.out]
        go_wp2
        go_ret
        exact ⟨rfl, HB.out⟩
end Go.Proofs.Ytpgokcilnejolaa
