/-
  FnBroken: its walk. No condition.
-/
import Derived.Test.YtpgokcilnejolaaLighter
import Derived.Test.YtpgokcilnejolaaBreak
import Derived.OwnWalk
import Derived.Outline
namespace Go.Proofs.Ytpgokcilnejolaa
open Go.RowKit
set_option linter.unusedVariables false

set_option maxHeartbeats 1600000 in
theorem drawBreak_any (A : Option Addr) (n c : Nat) (bs : List Int) (w : World) (hn : bs.length = n) (hm : n ≤ maxLen) (h : Bytes w A bs) (wf : ∀ z ∈ bs, (Lit.int .u8 z).wf = true) :
    Calls Try.prog 31 #[.slice A n c] w fun e w' => ∃ (A' : Option Addr) (n' c' : Nat) (zs : List Int) (s t : Int), e = .returned (.tuple #[.slice A' n' c', .int .i64 s, .int .i64 t]) ∧ Own w' w.heap.size (.slice A' n' c') zs ∧ zs.length = n' ∧ n' ≤ 42 ∧ n' ≤ c' ∧ c' ≤ maxLen ∧ Below w.heap.size w w' := by
  have H := Lib.hid h; have Hn := Lib.hid hn; have Hwf := Lib.hid wf
  clear h hn wf
  go_enter Try.func31, Try.ntmps31
  go_wp2_with fail
  refine (l01New_any _ _ _ bs _ Hn.out hm H.out Hwf.out).mono ?_
  rintro e w1 ⟨rfl, hc1, hb1, hs1⟩
  have HB1 := Lib.hid hb1; have HS1 := Lib.hid hs1; have HC1 := Lib.hid hc1
  have hsz1 : w.heap.size < w1.heap.size := by omega
  clear hc1 hb1 hs1
  go_wp2_with fail
  refine (l1Any_any _ _ HC1.out).mono ?_
  rintro e w2 ⟨v, zs, rfl, hO2, hz, hc2⟩
  obtain ⟨A2, n2, c2, rfl, hn2, hO2', hnc2, hcm2⟩ := own_form3 hO2
  have hn42 : n2 ≤ 42 := by omega
  have HN2 := Lib.hid hn2; have HO2 := Lib.hid hO2'; have HC2 := Lib.hid hc2
  clear hO2 hO2' hn2 hz hc2
  go_wp2_with fail
  refine (below_cm w2 _ _ _ (by omega) (CM.of HC2.out.1)).mono ?_
  rintro e w3 ⟨x, rfl, hx, hc3, -⟩
  have HO3 := Lib.hid (HO2.out.grown_lt hc3.2 (fun k hk => by injection hk with hk; omega))
  have HC3 : Hid (CM w1 w3 w.heap.size) := ⟨hc3.1, HC2.out.2.trans hc3.2⟩
  have HCU : Hid (Cur w3 w.heap.size) := hc3.1
  clear hc3 HC2
  go_wp2_with fail
  refine (l01Int_any w.heap.size _ 9 9 (w3.heap.size + 1) [0, 1, 2, 3, 4, 5, 6, 7, -1] _ (HCU.out.alloc _) rfl (by unfold maxLen; omega) (by omega) (lit_ints w3 _) (fun ad had => by injection had with had; subst had; have := HCU.out.lt; simp; omega)).mono ?_
  rintro e w4 ⟨y, rfl, hy, hc4, ht4⟩
  have HO4 := Lib.hid (Own.grown_lt (HO3.out.below ((Below.refl _ _).alloc (Nat.le_refl _) _)) ht4.1 (fun k hk => by injection hk with hk; omega))
  have HC4 : Hid (CM w1 w4 w.heap.size) := ⟨hc4, (HC3.out.2.trans (Moved.alloc _ _ _)).trans ht4.moved⟩
  clear hc4 ht4
  go_wp2
  go_ret3
  exact ⟨_, _, _, zs, _, _, rfl, own_base HO4.out (by omega), HN2.out, hn42, hnc2, hcm2, cm_below HB1.out HS1.out HC4.out⟩

theorem set_getD {zs : List Int} {p j : Nat} {y : Int} (hp : p < zs.length) : (zs.set p y).getD j 0 = if j = p then y else zs.getD j 0 := by
  simp only [List.getD, List.getElem?_set]
  by_cases e : p = j
  · subst e; simp [hp]
  · rw [if_neg e, if_neg (fun h => e h.symm)]
theorem fall_broken {zs : List Int} {p : Nat} {x y s : Int} (hset : ∀ z ∈ zs, 0 ≤ z ∧ z ≤ 127) (hx : zs[p]? = some x) (hy0 : 0 ≤ y) (hy1 : y ≤ 127) (hxy : partB x y = true) (hs0 : 0 ≤ s) (hs1 : s ≤ 127) :
    fallOf (zs.set p y) s = fallOf zs s ∨ (fallOf (zs.set p y) s = p ∧ p ≤ fallOf zs s) := by
  have hp := lt_at hx
  obtain ⟨hx0, hx1⟩ := hset x (mem_at hx)
  have hl : (zs.set p y).length = zs.length := by simp
  have hbefore : ∀ j, j < fallOf zs s → j < zs.length → partB s (zs.getD j 0) = false := fun j hj hjl => by
    have := List.not_of_lt_findIdx (p := partB s) (xs := zs) hj
    simp only [List.getD, List.getElem?_eq_getElem hjl, Option.getD_some]
    simpa using this
  rcases Nat.lt_or_ge (fallOf zs s) p with hlt | hge
  · left
    have h1 := (fallOf_spec (show fallOf zs s < zs.length by omega)).1 rfl
    refine (fallOf_spec (by rw [hl]; omega)).2 ⟨?_, fun j hj => ?_⟩
    · rw [set_getD hp, if_neg (by omega)]; exact h1.1
    · rw [set_getD hp, if_neg (by omega)]; exact h1.2 j hj
  · cases hpy : partB s y
    · left
      have hpx : partB s x = false := by
        cases h : partB s x
        · rfl
        · have := partB_trans hs0 hs1 hx0 hx1 hy0 hy1 h hxy
          rw [hpy] at this; cases this
      rcases Nat.lt_or_ge (fallOf zs s) zs.length with hF | hF
      · have h1 := (fallOf_spec hF).1 rfl
        have hne : fallOf zs s ≠ p := fun e => by rw [e, getD_at hx, hpx] at h1; cases h1.1
        refine (fallOf_spec (by rw [hl]; exact hF)).2 ⟨?_, fun j hj => ?_⟩
        · rw [set_getD hp, if_neg hne]; exact h1.1
        · rw [set_getD hp]
          split
          · exact hpy
          · exact h1.2 j hj
      · have hFe : fallOf zs s = zs.length := Nat.le_antisymm (fallOf_le zs s) hF
        rw [hFe, ← hl]
        refine fallOf_end_iff.2 fun j hj => ?_
        rw [set_getD hp]
        split
        · exact hpy
        · exact hbefore j (by omega) (by omega)
    · right
      refine ⟨(fallOf_spec (by rw [hl]; exact hp)).2 ⟨?_, fun j hj => ?_⟩, hge⟩
      · rw [set_getD hp, if_pos rfl]; exact hpy
      · rw [set_getD hp, if_neg (by omega)]; exact hbefore j (by omega) (by omega)

theorem join_facts (t : Int) (h0 : 0 ≤ t) (h1 : t ≤ 6) (x : Int) (hx0 : 0 ≤ x) (hx1 : x ≤ 127) : bt x t.toNat = false → 0 ≤ join x (one t) ∧ join x (one t) ≤ 127 ∧ cnt (join x (one t)) = cnt x + 1 ∧ partB x (join x (one t)) = true := by
  rcases tooth_cases h0 h1 with rfl | rfl | rfl | rfl | rfl | rfl | rfl
  all_goals (revert x; exact all128 _ (by decide +kernel))
theorem bar_broken {zs : List Int} {p : Nat} {y : Int} (hb : isBar zs = true) (hy0 : 0 ≤ y) (hy1 : y ≤ 127) : isBar (zs.set p y) = true := by
  have hs := bar_set hb
  have hl := bar_len hb
  unfold isBar allSet
  rw [Bool.and_eq_true, List.all_eq_true]
  refine ⟨fun z hz => (setB_iff z).2 ?_, by simp [inB]; omega⟩
  rcases List.mem_or_eq_of_mem_set hz with h | h
  · exact hs z h
  · subst h; exact ⟨hy0, hy1⟩

set_option maxHeartbeats 800000 in
theorem fnBroken_walk (A : Option Addr) (n c : Nat) (bs : List Int) (w : World) (hn : bs.length = n) (hm : n ≤ maxLen) (h : Bytes w A bs) (wf : ∀ z ∈ bs, (Lit.int .u8 z).wf = true) :
    Calls Try.prog 5 #[.slice A n c] w fun e w' => e = .returned (.bool true) ∧ Below w.heap.size w w' := by
  have H := Lib.hid h; have Hn := Lib.hid hn; have Hwf := Lib.hid wf
  clear h hn wf
  have hm0 := hm
  unfold maxLen at hm
  by_cases hbig : 1048576 < n
  · go_enter Try.func5, Try.ntmps5
    go_wp2
    go_ret
    exact ⟨rfl, Below.refl _ _⟩
  · have hb00 : decide ((1048576 : Int) < (n : Int)) = false := by simp; omega
    go_enter Try.func5, Try.ntmps5
    go_wp2_with fail
    refine (drawBreak_any _ _ _ bs _ Hn.out hm0 H.out Hwf.out).mono ?_
    rintro e w1 ⟨A1, n1, c1, zs, s, t, rfl, hO1, hn1, hn42, hnc1, hcm1, hb1⟩
    have HI := Lib.hid (own_ints hO1); have HN := Lib.hid hn1; have HB := Lib.hid hb1
    have hm1 : n1 ≤ maxLen := by unfold maxLen; omega
    have s1 := hb1.size
    clear hO1 hn1 hb1
    go_wp2_with fail
    refine (implBreak_any _ _ _ zs s t _ HN.out (by omega) hnc1 hcm1 HI.out).mono ?_
    rintro e w2 ⟨v2, rfl, hO2, hb2⟩
    obtain ⟨A2, n2, c2, rfl, hn2, hO2', hnc2, hcm2⟩ := own_form3 hO2
    have HI2 := Lib.hid (own_ints hO2'); have HN2 := Lib.hid hn2; have HB2 := Lib.hid (HB.out.trans (hb2.mono s1))
    have HIb := Lib.hid (HI.out.below hb2)
    clear hO2 hO2' hn2 hb2 HI HB
    cases hok : brkOk zs s t
    · have Hok := Lib.hid hok
      cases hbar : isBar zs
      · go_wp2_with (go_at_call 20; refine (specIsBar_any _ _ _ zs _ HN.out hm1 HIb.out).mono ?_; rintro e w' ⟨rfl, rfl⟩)
        go_ret
        exact ⟨rfl, HB2.out⟩
      by_cases hs0 : s < 0
      · go_wp2_with (go_at_call 20; refine (specIsBar_any _ _ _ zs _ HN.out hm1 HIb.out).mono ?_; rintro e w' ⟨rfl, rfl⟩)
        go_ret
        exact ⟨rfl, HB2.out⟩
      by_cases hs1 : (n1 : Int) ≤ s
      · go_wp2_with (go_at_call 20; refine (specIsBar_any _ _ _ zs _ HN.out hm1 HIb.out).mono ?_; rintro e w' ⟨rfl, rfl⟩)
        go_ret
        exact ⟨rfl, HB2.out⟩
      by_cases ht0 : t < 0
      · go_wp2_with (go_at_call 20; refine (specIsBar_any _ _ _ zs _ HN.out hm1 HIb.out).mono ?_; rintro e w' ⟨rfl, rfl⟩)
        go_ret
        exact ⟨rfl, HB2.out⟩
      by_cases ht1 : 6 < t
      · go_wp2_with (go_at_call 20; refine (specIsBar_any _ _ _ zs _ HN.out hm1 HIb.out).mono ?_; rintro e w' ⟨rfl, rfl⟩)
        go_ret
        exact ⟨rfl, HB2.out⟩
      obtain ⟨p, rfl⟩ := Int.eq_ofNat_of_zero_le (show 0 ≤ s by omega)
      have hpn : p < n1 := by omega
      obtain ⟨ad, x, hade, hx, hcx⟩ := HIb.out.at_ (k := p) (by rw [HN.out]; exact hpn)
      subst hade
      obtain ⟨hx0, hx1⟩ := bar_set hbar x (mem_at hx.out)
      have hshr : (bits .and .i64 (x / 2 ^ t.toNat) 1 == 1) = true := by
        rw [shr_one t (by omega) (by omega) x hx0 hx1]
        have := Hok.out
        unfold brkOk at this
        rw [hbar, Int.toNat_natCast, getD_at hx.out, HN.out] at this
        have h1 : inB (p : Int) 0 ((n1 : Int) - 1) = true := by simp [inB]; omega
        have h2 : inB t 0 6 = true := by simp [inB]; omega
        rw [h1, h2] at this
        simpa using this
      have ht0' : 0 ≤ t := by omega
      have ht1' : t ≤ 6 := by omega
      have hq1 : decide ((p : Int) < 0) = false := by simp
      have hq2 : decide (n1 ≤ p) = false := by simp; omega
      clear hs0 hs1 ht0 ht1 Hok hok
      rcases tooth_cases ht0' ht1' with rfl | rfl | rfl | rfl | rfl | rfl | rfl
      all_goals
        simp only [Int.reduceToNat, Int.reducePow, Int.ediv_one] at hshr
        go_wp2_with (go_at_call 20; refine (specIsBar_any _ _ _ zs _ HN.out hm1 HIb.out).mono ?_; rintro e w' ⟨rfl, rfl⟩)
        go_ret
        exact ⟨rfl, HB2.out⟩
    · obtain ⟨p, rfl, hpn, hbar, ht0, ht1, hbt⟩ := brk_parts HN.out hok
      obtain ⟨ad, x, hade, hx, hcx⟩ := HIb.out.at_ (k := p) (by rw [HN.out]; exact hpn)
      subst hade
      rw [getD_at hx.out] at hbt
      obtain ⟨hx0, hx1⟩ := bar_set hbar x (mem_at hx.out)
      obtain ⟨hy0, hy1, hyc, hyp⟩ := join_facts t ht0 ht1 x hx0 hx1 hbt
      have hL : brkL zs (p : Int) t = zs.set p (join x (one t)) := by unfold brkL; rw [hok, Int.toNat_natCast, getD_at hx.out]; rfl
      obtain ⟨y, hy⟩ : ∃ y, join x (one t) = y := ⟨_, rfl⟩
      rw [hy] at hL hy0 hy1 hyc hyp
      have hnn : n2 = n1 := by rw [← HN2.out, hL, List.length_set, HN.out]
      subst hnn
      have HI3 : Hid (Ints w2 A2 (zs.set p y)) := by rw [← hL]; exact HI2.out
      have HN3 : Hid ((zs.set p y).length = n2) := by rw [← hL]; exact HN2.out
      have hbar2 := bar_broken (p := p) hbar hy0 hy1
      have HF := Lib.hid (fun (q : Nat) (hq : q ≤ 127) => fall_broken (s := (q : Int)) (bar_set hbar) hx.out hy0 hy1 hyp (by omega) (by omega))
      have hci : countI y = countI x + 1 := by unfold countI; rw [(setB_iff y).2 ⟨hy0, hy1⟩, (setB_iff x).2 ⟨hx0, hx1⟩]; exact hyc
      have hcb := cnt_bd x
      have hcx1 : 0 ≤ countI x := by unfold countI; rw [(setB_iff x).2 ⟨hx0, hx1⟩]; exact hcb.1
      have hcx2 : countI x ≤ 7 := by unfold countI; rw [(setB_iff x).2 ⟨hx0, hx1⟩]; exact hcb.2
      obtain ⟨ad2, y', hade2, hy', hcy⟩ := HI3.out.at_ (k := p) (by rw [HN3.out]; exact hpn)
      subst hade2
      obtain rfl : y' = y := by have := hy'.out; rw [List.getElem?_set_self (by rw [HN.out]; exact hpn)] at this; injection this with e; exact e.symm
      clear hok hL hbt hyc hyp hy HI2 HN2 hcb
      go_wp2_with (go_at_call 21; refine (implIsBar_any _ _ _ (zs.set p y') _ HN3.out hm1 HI3.out).mono ?_; rintro e w' ⟨rfl, rfl⟩)
      go_loop [8] (fun q => ∃ k : Nat, k ≤ 128 ∧ q = .int .i64 k) (fun q => 128 - (intOf q).toNat)
      case atStart => exact ⟨0, by omega, rfl⟩
      case round =>
        obtain ⟨k, hk, rfl⟩ := hrel
        by_cases hk7 : k ≤ 127
        · have hks : setB (k : Int) = true := (setB_iff _).2 ⟨by omega, by omega⟩
          have hf1 : fallI zs (k : Int) = ((fallOf zs (k : Int) : Nat) : Int) := fallI_good hbar hks
          have hf2 : fallI (zs.set p y') (k : Int) = ((fallOf (zs.set p y') (k : Int) : Nat) : Int) := fallI_good hbar2 hks
          have hff := HF.out k hk7
          obtain ⟨F, hF⟩ : ∃ F, fallOf zs (k : Int) = F := ⟨_, rfl⟩
          obtain ⟨G, hG⟩ : ∃ G, fallOf (zs.set p y') (k : Int) = G := ⟨_, rfl⟩
          rw [hF, hG] at hff
          rw [hF] at hf1
          rw [hG] at hf2
          clear hF hG hks
          by_cases hGF : G = F
          · have hb1 : ((G : Int) != (F : Int)) = false := by simp; omega
            clear hff
            go_wp2_with fail
            refine (implFallOf_any _ _ _ zs _ _ HN.out hm1 HIb.out).mono ?_
            rintro e w' ⟨rfl, rfl⟩
            go_wp2_with fail
            refine (implFallOf_any _ _ _ _ _ _ HN3.out hm1 HI3.out).mono ?_
            rintro e w' ⟨rfl, rfl⟩
            go_wp2
            go_round
            case rel => exact ⟨k + 1, by omega, by go_num⟩
            case measure => simp [intOf]; omega
          · have hGp : G = p ∧ p ≤ F := by rcases hff with h | h; · exact absurd h hGF
                                           · exact h
            obtain ⟨rfl, hpF⟩ := hGp
            have hb1 : ((G : Int) != (F : Int)) = true := by rw [bne_iff_ne]; omega
            have hb2 : ((G : Int) != (G : Int)) = false := by simp
            have hb3 : decide (F < G) = false := by simp; omega
            clear hff hGF
            go_wp2_with fail
            refine (implFallOf_any _ _ _ zs _ _ HN.out hm1 HIb.out).mono ?_
            rintro e w' ⟨rfl, rfl⟩
            go_wp2_with fail
            refine (implFallOf_any _ _ _ _ _ _ HN3.out hm1 HI3.out).mono ?_
            rintro e w' ⟨rfl, rfl⟩
            go_wp2
            go_round
            case rel => exact ⟨k + 1, by omega, by go_num⟩
            case measure => simp [intOf]; omega
        · have hk2 : k = 128 := by omega
          subst hk2
          go_wp2
          go_quiet ((go_at_call 29; exact Calls.quiet_of_same ((implCount_any _ _).mono fun _ _ hh => ⟨hh.1, hh.2.symm⟩)))
          go_wp2
          go_ret
          exact ⟨rfl, below_drewN HB2.out _⟩
end Go.Proofs.Ytpgokcilnejolaa
