/-
  FnReached: its walk. No condition.
-/
import Derived.Test.YtpgokcilnejolaaLighter
namespace Go.Proofs.Ytpgokcilnejolaa
open Go.RowKit
set_option linter.unusedVariables false

theorem drawReach_any (A : Option Addr) (n c : Nat) (bs : List Int) (w : World) (hn : bs.length = n) (hm : n ≤ maxLen) (h : Bytes w A bs) (wf : ∀ z ∈ bs, (Lit.int .u8 z).wf = true) :
    Calls Try.prog 35 #[.slice A n c] w fun e w' => ∃ (A' : Option Addr) (n' c' : Nat) (zs : List Int) (s : Int), e = .returned (.tuple #[.slice A' n' c', .int .i64 s]) ∧ Own w' w.heap.size (.slice A' n' c') zs ∧ zs.length = n' ∧ n' ≤ 42 ∧ n' ≤ c' ∧ c' ≤ maxLen ∧ Below w.heap.size w w' := by
  have H := Lib.hid h; have Hn := Lib.hid hn; have Hwf := Lib.hid wf
  clear h hn wf
  go_enter Try.func35, Try.ntmps35
  go_wp2_with fail
  refine (drawFall_any _ _ _ bs _ Hn.out hm H.out Hwf.out).mono ?_
  rintro e w1 ⟨A1, n1, c1, zs, s, rfl, hO1, hn1, hn42, hnc1, hcm1, hb1⟩
  have HO := Lib.hid hO1; have HN := Lib.hid hn1; have HB := Lib.hid hb1
  clear hO1 hn1 hb1
  go_wp2
  go_ret2
  exact ⟨_, _, _, zs, s, rfl, HO.out, HN.out, hn42, hnc1, hcm1, HB.out⟩

set_option maxHeartbeats 800000 in
theorem ints_same (A B : Option Addr) (n c d : Nat) (zs : List Int) (w : World) (hn : zs.length = n) (hl : n ≤ 1048576) (h : Ints w A zs) (h2 : Ints w B zs) :
    Calls Try.prog 23 #[.slice A n c, .slice B n d] w fun e w' => e = .returned (.bool true) ∧ Below w.heap.size w w' := by
  have Hn := Lib.hid hn; clear hn
  go_enter Try.func23, Try.ntmps23
  go_wp2
  go_loopw [13] (fun i wr => ∃ k : Nat, k ≤ n ∧ i = .int .i64 k ∧ (∃ q, wr = w.drewN q)) (fun i _ => n - (intOf i).toNat)
  case atStart => exact ⟨0, Nat.zero_le _, rfl, ⟨0, rfl⟩⟩
  case round =>
    obtain ⟨k, hk, rfl, ⟨q, rfl⟩⟩ := hrel
    by_cases hlt : k < n
    · obtain ⟨ad, x, rfl, hx, hc⟩ := h.at_ (k := k) (by rw [Hn.out]; exact hlt)
      obtain ⟨bd, y, rfl, hy, hd⟩ := h2.at_ (k := k) (by rw [Hn.out]; exact hlt)
      obtain rfl : y = x := by have := hx.out; rw [hy.out] at this; injection this
      go_wp2
      go_quiet (fail)
      go_wp2
      go_roundw
      case rel => exact ⟨k + 1, by omega, by go_num, ⟨_, rfl⟩⟩
      case measure => simp [intOf]; omega
    · have hkn : k = n := by omega
      subst hkn
      go_wp2
      go_ret
      exact ⟨rfl, below_drewN (Below.refl _ _) _⟩

/-- how many sets below q fall at place i -/
def hitN (zs : List Int) (s : Int) (q i : Nat) : Nat := ((List.range q).filter (fun (t : Nat) => partB (t : Int) s && fallOf zs (t : Int) == i)).length
theorem hitN_le (zs : List Int) (s : Int) (q i : Nat) : hitN zs s q i ≤ q := by
  unfold hitN; exact Nat.le_trans (List.length_filter_le _ _) (by simp)
theorem hitN_pos (zs : List Int) (s : Int) (q i : Nat) : decide (0 < hitN zs s q i) = hitB zs s q i := by
  rw [Bool.eq_iff_iff, decide_eq_true_eq]
  unfold hitN hitB
  rw [List.length_pos_iff_exists_mem, List.any_eq_true]
  constructor
  · rintro ⟨t, ht⟩
    rw [List.mem_filter] at ht
    exact ⟨t, ht.1, ht.2⟩
  · rintro ⟨t, h1, h2⟩
    exact ⟨t, List.mem_filter.2 ⟨h1, h2⟩⟩
def hitRow (zs : List Int) (s : Int) (n q : Nat) : List Value := (List.range (n + 1)).map (fun i => Value.int .i64 (hitN zs s q i : Int))
theorem hitRow_zero (zs : List Int) (s : Int) (n : Nat) : List.replicate (n + 1) (Value.int .i64 0) = hitRow zs s n 0 := by
  unfold hitRow
  apply List.ext_getElem
  · simp
  · intro i h1 h2; simp [hitN]
theorem hitN_no {zs : List Int} {s : Int} {q i : Nat} (h : (partB (q : Int) s && fallOf zs (q : Int) == i) = false) : hitN zs s (q + 1) i = hitN zs s q i := by
  unfold hitN
  rw [List.range_succ, List.filter_append]; simp [h]
theorem hitN_yes {zs : List Int} {s : Int} {q i : Nat} (h : (partB (q : Int) s && fallOf zs (q : Int) == i) = true) : hitN zs s (q + 1) i = hitN zs s q i + 1 := by
  unfold hitN
  rw [List.range_succ, List.filter_append]; simp [h]
theorem hitRow_no {zs : List Int} {s : Int} {n q : Nat} (h : partB (q : Int) s = false) : hitRow zs s n (q + 1) = hitRow zs s n q := by
  unfold hitRow
  apply List.map_congr_left
  intro i _
  rw [hitN_no (by rw [h]; rfl)]
theorem hitRow_yes {zs : List Int} {s : Int} {n q F : Nat} (hF : fallOf zs (q : Int) = F) (h : partB (q : Int) s = true) :
    (hitRow zs s n q).set F (.int .i64 ((hitN zs s q F : Int) + 1)) = hitRow zs s n (q + 1) := by
  unfold hitRow
  apply List.ext_getElem
  · simp
  · intro i h1 h2
    rw [List.getElem_set]
    simp only [List.getElem_map, List.getElem_range]
    split
    · rename_i e
      subst e
      rw [hitN_yes (by rw [h, hF]; simp)]
      rfl
    · rename_i e
      rw [hitN_no (by rw [h, hF]; simpa using e)]
theorem reach_pick {zs : List Int} {s : Int} {n : Nat} (hn : zs.length = n) (hbar : isBar zs = true) (hs0 : 0 ≤ s) (hs1 : s ≤ 127) : reachL zs s = pick (fun i => decide (0 < hitN zs s (s.toNat + 1) i)) (n + 1) := by
  unfold reachL
  rw [hbar, (setB_iff s).2 ⟨hs0, hs1⟩, hn]
  show pick _ _ = _
  exact pick_congr fun i hi => by rw [hitN_pos, reach_same hbar hs0 hs1 i (by rw [hn]; exact hi)]

set_option maxHeartbeats 3200000 in
theorem fnReached_walk (A : Option Addr) (n c : Nat) (bs : List Int) (w : World) (hn : bs.length = n) (hm : n ≤ maxLen) (h : Bytes w A bs) (wf : ∀ z ∈ bs, (Lit.int .u8 z).wf = true) :
    Calls Try.prog 7 #[.slice A n c] w fun e w' => e = .returned (.bool true) ∧ Below w.heap.size w w' := by
  have H := Lib.hid h; have Hn := Lib.hid hn; have Hwf := Lib.hid wf
  clear h hn wf
  have hm0 := hm
  unfold maxLen at hm
  by_cases hbig : 1048576 < n
  · go_enter Try.func7, Try.ntmps7
    go_wp2
    go_ret
    exact ⟨rfl, Below.refl _ _⟩
  · go_enter Try.func7, Try.ntmps7
    go_wp2_with fail
    refine (drawReach_any _ _ _ bs _ Hn.out hm0 H.out Hwf.out).mono ?_
    rintro e w1 ⟨A1, n1, c1, zs, s, rfl, hO1, hn1, hn42, hnc1, hcm1, hb1⟩
    have HI := Lib.hid (own_ints hO1); have HN := Lib.hid hn1; have HB := Lib.hid hb1
    have hm1 : n1 ≤ maxLen := by unfold maxLen; omega
    have s1 := hb1.size
    clear hO1 hn1 hb1
    go_wp2_with fail
    refine (implReach_any _ _ _ zs s _ HN.out (by omega) hnc1 hcm1 HI.out).mono ?_
    rintro e w2 ⟨v2, rfl, hO2, hb2⟩
    obtain ⟨A2, n2, c2, rfl, hn2, hO2', hnc2, hcm2⟩ := own_form3 hO2
    have HL := Lib.hid hO2'; have HL2 := Lib.hid hn2; have HB2 := Lib.hid hb2
    have HI2 := Lib.hid (HI.out.below hb2)
    have s2 := hb2.size
    clear hO2 hO2' hn2 hb2
    cases hbar : isBar zs
    · have hz : n2 = 0 := by rw [← HL2.out]; unfold reachL; rw [hbar]; rfl
      have HZ := Lib.hid hz
      subst hz
      go_wp2_with (go_at_call 20; refine (specIsBar_any _ _ _ zs _ HN.out hm1 HI2.out).mono ?_; rintro e w' ⟨rfl, rfl⟩)
      go_ret
      exact ⟨rfl, HB.out.trans (HB2.out.mono s1)⟩
    cases hset : setB s
    · have hz : n2 = 0 := by rw [← HL2.out]; unfold reachL; rw [hset]; simp
      subst hz
      have hci : countI s = -1 := by unfold countI; rw [hset]; rfl
      go_wp2_with (first
        | (go_at_call 20; refine (specIsBar_any _ _ _ zs _ HN.out hm1 HI2.out).mono ?_; rintro e w' ⟨rfl, rfl⟩)
        | (go_at_call 28; refine (specCount_any s _).mono ?_; rintro e w' ⟨rfl, rfl⟩))
      go_ret
      exact ⟨rfl, HB.out.trans (HB2.out.mono s1)⟩
    obtain ⟨hs0, hs1⟩ := (setB_iff s).1 hset
    have hci : countI s = cnt s := by unfold countI; rw [hset]; rfl
    have hcn := (cnt_bd s).1
    have hb0 : decide (cnt s < 0) = false := by simp; omega
    have hb00 : decide ((1048576 : Int) < (n : Int)) = false := by simp; omega
    have HR := Lib.hid (reach_pick HN.out hbar hs0 hs1)
    go_wp2_with (first
      | (go_at_call 20; refine (specIsBar_any _ _ _ zs _ HN.out hm1 HI2.out).mono ?_; rintro e w' ⟨rfl, rfl⟩)
      | (go_at_call 28; refine (specCount_any s _).mono ?_; rintro e w' ⟨rfl, rfl⟩)
      | (at_make; refine wpl_make_int _ rfl (.tmp 36) rfl (n1 + 1) _ rfl (by omega) (by omega) ?_; intro w3 hown3 hb3; rw [hitRow_zero zs s n1] at hown3))
    have HO3 := Lib.hid hown3; have HB3 := Lib.hid hb3
    clear hown3 hb3
    go_loopw [7] (fun q wr => ∃ t : Nat, (t : Int) ≤ s + 1 ∧ q = .int .i64 t ∧ wr.ownsRow w2.heap.size 3 1 (.slice (some ⟨w2.heap.size, 0, none⟩) (n1 + 1) (n1 + 1)) (n1 + 1) (hitRow zs s n1 t) ∧ Below w2.heap.size w2 wr) (fun q _ => (s + 1 - intOf q).toNat)
    case atStart => exact ⟨0, by omega, rfl, HO3.out, HB3.out⟩
    case round =>
      clear HO3 HB3
      obtain ⟨t, ht, rfl, hown, hb⟩ := hrel
      have HIr := Lib.hid (HI2.out.below hb)
      have HOw := Lib.hid hown; have HBr := Lib.hid hb
      clear hown hb
      by_cases hts : (t : Int) ≤ s
      · have ht127 : (t : Int) ≤ 127 := by omega
        obtain ⟨F, hF⟩ : ∃ F, fallOf zs (t : Int) = F := ⟨_, rfl⟩
        have hfi : fallI zs (t : Int) = (F : Int) := by rw [fallI_good hbar ((setB_iff _).2 ⟨by omega, ht127⟩), hF]
        have hFl : F ≤ n1 := by rw [← hF, ← HN.out]; exact fallOf_le zs _
        have HF := Lib.hid hF
        clear hF
        cases hp : (bits .andNot .i64 (t : Int) s == 0)
        · have HS : Hid (wr.ownsRow w2.heap.size 3 1 (.slice (some ⟨w2.heap.size, 0, none⟩) (n1 + 1) (n1 + 1)) (n1 + 1) (hitRow zs s n1 (t + 1))) := by
            rw [hitRow_no (by unfold partB; exact hp)]; exact HOw.out
          go_wp2_with (go_at_call 27; refine (implFallOf_any _ _ _ zs _ _ HN.out hm1 HIr.out).mono ?_; rintro e w' ⟨rfl, rfl⟩)
          go_roundw
          case rel => exact ⟨t + 1, by omega, by go_num, HS.out, HBr.out⟩
          case measure => simp [intOf]; omega
        · have hd : wr.cell? ⟨w2.heap.size, F, none⟩ = some (.int .i64 (hitN zs s t F : Int)) := (HOw.out.cellAt F (by omega)).trans (range_get _ (by omega))
          have hfz := HOw.out.frozenAt F
          have hhl := hitN_le zs s t F
          have hst := (HOw.out.stored F (.int .i64 ((hitN zs s t F : Int) + 1))).1
          rw [hitRow_yes HF.out (by unfold partB; exact hp)] at hst
          have HS := Lib.hid hst
          have HB4 := Lib.hid (HBr.out.setCell (p := ⟨w2.heap.size, F, none⟩) (Nat.le_refl _) (.int .i64 ((hitN zs s t F : Int) + 1)))
          clear hst
          go_wp2_with (go_at_call 27; refine (implFallOf_any _ _ _ zs _ _ HN.out hm1 HIr.out).mono ?_; rintro e w' ⟨rfl, rfl⟩)
          go_roundw
          case rel => exact ⟨t + 1, by omega, by go_num, HS.out, HB4.out⟩
          case measure => simp [intOf]; omega
      · have ht2 : t = s.toNat + 1 := by omega
        subst ht2
        have hlt2 : w2.heap.size < wr.heap.size := (World.ownsRow.lt HOw.out w2.heap.size rfl).2
        obtain ⟨wo, rfl⟩ : ∃ wo : World, wo = wr := ⟨_, rfl⟩
        go_wp2
        go_loopw [9, 69] (fun v i wr => ∃ k : Nat, k ≤ n1 + 1 ∧ i = .int .i64 k ∧ Own wr wo.heap.size v (pick (fun i => decide (0 < hitN zs s (s.toNat + 1) i)) k) ∧ Below wo.heap.size wo wr) (fun _ i _ => n1 + 1 - (intOf i).toNat)
        case atStart => exact ⟨0, by omega, rfl, World.ownsRow_lit wo #[] 0 (Nat.le_refl _) (Nat.zero_le _) rfl, (Below.refl _ _).alloc (Nat.le_refl _) _⟩
        case round =>
          obtain ⟨k, hk, rfl, hO, hB⟩ := hrel
          have HOk := Lib.hid hO; have HBk := Lib.hid hB
          have hszk := hB.size
          have hrow' := row_below HOw.out (b := wo.heap.size) (fun g hg => by injection hg with hg; subst hg; exact hlt2) hB
          have hkl := pick_len (fun i => decide (0 < hitN zs s (s.toNat + 1) i)) k
          clear hO hB
          by_cases hkn : k < n1 + 1
          · have hd : wr.cell? ⟨w2.heap.size, k, none⟩ = some (.int .i64 (hitN zs s (s.toNat + 1) k : Int)) := (hrow'.cellAt k (by omega)).trans (range_get _ (by omega))
            clear hrow'
            by_cases hpos : 0 < hitN zs s (s.toNat + 1) k
            · go_wp2_with (at_builtin; refine wpl_push _ rfl (.tmp 76) (.tmp 78) rfl wo.heap.size _ (pick (fun i => decide (0 < hitN zs s (s.toNat + 1) i)) k) (k : Int) rfl rfl HOk.out hszk (by omega) ?_; intro v' w5 hO5 hB5)
              have HO := Lib.hid (pick_push (f := fun i => decide (0 < hitN zs s (s.toNat + 1) i)) (by simpa using hpos) hO5)
              have HB := Lib.hid (HBk.out.trans hB5)
              clear hO5 hB5
              go_wp2
              go_roundw
              case rel => exact ⟨k + 1, by omega, by go_num, HO.out, HB.out⟩
              case measure => simp [intOf]; omega
            · have HO := Lib.hid (pick_stay (f := fun i => decide (0 < hitN zs s (s.toNat + 1) i)) (by simpa using hpos) HOk.out)
              have hp0 : hitN zs s (s.toNat + 1) k = 0 := by omega
              rw [hp0] at hd
              clear hp0 hpos
              go_wp2
              go_roundw
              case rel => exact ⟨k + 1, by omega, by go_num, HO.out, HBk.out⟩
              case measure => simp [intOf]; omega
          · have hk2 : k = n1 + 1 := by omega
            subst hk2
            clear hrow'
            obtain ⟨A5, n5, c5, rfl, hn5, hO5, _, _⟩ := own_form3 HOk.out
            have hnn : n5 = n2 := by rw [← hn5, ← HL2.out, HR.out]
            subst hnn
            have HO5 := Lib.hid (own_ints hO5); have HN5 := Lib.hid hn5
            have HIl : Hid (Ints wr A2 (pick (fun i => decide (0 < hitN zs s (s.toNat + 1) i)) (n1 + 1))) := by
              rw [← HR.out]
              exact ((own_ints HL.out).below HBr.out).below HBk.out
            clear hO5 hn5
            go_wp2_with (go_at_call 23; refine (ints_same _ _ _ _ _ _ _ HN5.out (by rw [← HN5.out]; omega) HIl.out HO5.out).mono ?_; rintro e w6 ⟨rfl, hb6⟩)
            go_ret
            exact ⟨rfl, ((HB.out.trans (HB2.out.mono s1)).trans (HBr.out.mono (by omega))).trans ((HBk.out.trans (hb6.mono hszk)).mono (by omega))⟩
end Go.Proofs.Ytpgokcilnejolaa
