/-
  FnLighter: its walk. No condition.
-/
import Derived.Test.YtpgokcilnejolaaAny
import Derived.Test.YtpgokcilnejolaaReach
namespace Go.Proofs.Ytpgokcilnejolaa
open Go.RowKit
set_option linter.unusedVariables false

set_option maxHeartbeats 400000 in
theorem lawTeeth_any (s : Int) (w : World) (h0 : 0 ≤ s) (h1 : s ≤ 127) : Calls Try.prog 30 #[.int .i64 s] w fun e w' => e = .returned (.int .i64 (cnt s)) ∧ w = w' := by
  go_enter Try.func30, Try.ntmps30
  go_wp2
  go_loop [0, 3] (fun x m => ∃ a b : Int, 0 ≤ a ∧ a ≤ 127 ∧ 0 ≤ b ∧ b ≤ 7 ∧ x = .int .i64 a ∧ m = .int .i64 b ∧ b + cnt a = cnt s) (fun x _ => (intOf x).toNat)
  case atStart => exact ⟨s, 0, h0, h1, by omega, by omega, rfl, rfl, by simp⟩
  case round =>
    obtain ⟨a, b, ha0, ha1, hb0, hb1, rfl, rfl, hs⟩ := hrel
    have Hs := Lib.hid hs; clear hs h0 h1
    by_cases hp : 0 < a
    · have Hh : Hid (b + a % 2 + cnt (a / 2) = cnt s) := by show _ = _; rw [← Hs.out, cnt_half a ha0 ha1]; omega
      have hbb := (cnt_bd s).2
      have hcc := (cnt_bd (a / 2)).1
      have hlim : b + a % 2 ≤ 7 := by have := Hh.out; omega
      clear hbb hcc
      go_wp2
      go_round
      case rel => exact ⟨a / 2, b + a % 2, by omega, by omega, by omega, hlim, rfl, rfl, Hh.out⟩
      case measure => simp [intOf]; omega
    · have ha : a = 0 := by omega
      subst ha
      go_wp2
      go_ret
      exact ⟨ret_int (by have := Hs.out; rw [cnt_zero] at this; omega), rfl⟩

theorem fall_mono {zs : List Int} {s t : Int} (hset : ∀ z ∈ zs, 0 ≤ z ∧ z ≤ 127) (hs0 : 0 ≤ s) (hs1 : s ≤ 127) (ht0 : 0 ≤ t) (ht1 : t ≤ 127) (h : partB t s = true) : fallOf zs t ≤ fallOf zs s := by
  rcases Nat.lt_or_ge (fallOf zs s) zs.length with hlt | hge
  · rcases Nat.lt_or_ge (fallOf zs s) (fallOf zs t) with hc | hc
    · have h1 := (fallOf_spec hlt).1 rfl
      have hz : 0 ≤ zs.getD (fallOf zs s) 0 ∧ zs.getD (fallOf zs s) 0 ≤ 127 := by
        simp only [List.getD, List.getElem?_eq_getElem hlt, Option.getD_some]
        exact hset _ (List.getElem_mem hlt)
      have h2 := partB_trans ht0 ht1 hs0 hs1 hz.1 hz.2 h h1.1
      have h3 : partB t (zs[fallOf zs s]) = false := by
        have := List.not_of_lt_findIdx (p := partB t) (xs := zs) hc
        simpa using this
      simp only [List.getD, List.getElem?_eq_getElem hlt, Option.getD_some] at h2
      rw [h2] at h3; cases h3
    · exact hc
  · exact Nat.le_trans (fallOf_le zs t) hge
theorem pow7 {k : Nat} (hk : k < 7) : 0 ≤ IntKind.i64.wrap (2 ^ k) ∧ IntKind.i64.wrap (2 ^ k) ≤ 127 := by
  have h : ∀ k : Fin 7, 0 ≤ IntKind.i64.wrap (2 ^ (k : Nat)) ∧ IntKind.i64.wrap (2 ^ (k : Nat)) ≤ 127 := by decide +kernel
  exact h ⟨k, hk⟩
theorem part_less {s t : Int} (h0 : 0 ≤ s) (h1 : s ≤ 127) (g0 : 0 ≤ t) (g1 : t ≤ 127) : partB (less s t) s = true := by
  obtain ⟨l0, l1⟩ := less_bd h0 h1 g0 g1
  rw [partB_iff l0 l1 h0 h1]
  intro i hi
  rw [bt_less h0 h1 g0 g1] at hi
  simp at hi; exact hi.1
theorem fallI_good {zs : List Int} {s : Int} (hb : isBar zs = true) (hs : setB s = true) : fallI zs s = fallOf zs s := by unfold fallI; rw [hb, hs]; rfl
theorem fallI_bad {zs : List Int} {s : Int} (h : (isBar zs && setB s) = false) : fallI zs s = -1 := by unfold fallI; rw [h]; rfl
theorem fall_zero {zs : List Int} (hb : isBar zs = true) : fallI zs 0 = 0 := by
  rw [fallI_good hb (by decide)]
  have hl := (bar_len hb).1
  have : fallOf zs 0 = 0 := (fallOf_spec (show 0 < zs.length by omega)).2 ⟨(by
    have hz : 0 ≤ zs.getD 0 0 ∧ zs.getD 0 0 ≤ 127 := by
      simp only [List.getD, List.getElem?_eq_getElem (show 0 < zs.length by omega), Option.getD_some]
      exact bar_set hb _ (List.getElem_mem _)
    rw [partB_iff (by omega) (by omega) hz.1 hz.2]
    intro i hi
    rw [bt_zero] at hi; cases hi), fun j hj => absurd hj (by omega)⟩
  rw [this]; rfl

set_option maxHeartbeats 3200000 in
theorem fnLighter_walk (A : Option Addr) (n c : Nat) (bs : List Int) (w : World) (hn : bs.length = n) (hm : n ≤ maxLen) (h : Bytes w A bs) (wf : ∀ z ∈ bs, (Lit.int .u8 z).wf = true) :
    Calls Try.prog 4 #[.slice A n c] w fun e w' => e = .returned (.bool true) ∧ Below w.heap.size w w' := by
  have H := Lib.hid h; have Hn := Lib.hid hn; have Hwf := Lib.hid wf
  clear h hn wf
  have hm0 := hm
  unfold maxLen at hm
  by_cases hbig : 1048576 < n
  · go_enter Try.func4, Try.ntmps4
    go_wp2
    go_ret
    exact ⟨rfl, Below.refl _ _⟩
  · go_enter Try.func4, Try.ntmps4
    go_wp2_with fail
    refine (drawFall_any _ _ _ bs _ Hn.out hm0 H.out Hwf.out).mono ?_
    rintro e w1 ⟨A1, n1, c1, zs, s, rfl, hO1, hn1, hn42, hnc1, hcm1, hb1⟩
    have HI := Lib.hid (own_ints hO1); have HN := Lib.hid hn1; have HB := Lib.hid hb1
    have hm1 : n1 ≤ maxLen := by unfold maxLen; omega
    clear hO1 hn1 hb1 hcm1
    cases hbar : isBar zs
    · have hfi := fallI_bad (zs := zs) (s := s) (by rw [hbar]; rfl)
      go_wp2_with (first
        | (go_at_call 27; refine (implFallOf_any _ _ _ zs s _ HN.out hm1 HI.out).mono ?_; rintro e w' ⟨rfl, rfl⟩)
        | (go_at_call 20; refine (specIsBar_any _ _ _ zs _ HN.out hm1 HI.out).mono ?_; rintro e w' ⟨rfl, rfl⟩))
      go_ret
      exact ⟨rfl, HB.out⟩
    cases hset : setB s
    · have hfi := fallI_bad (zs := zs) (s := s) (by rw [hset]; simp)
      have hci : countI s = -1 := by unfold countI; rw [hset]; rfl
      go_wp2_with (first
        | (go_at_call 27; refine (implFallOf_any _ _ _ zs s _ HN.out hm1 HI.out).mono ?_; rintro e w' ⟨rfl, rfl⟩)
        | (go_at_call 20; refine (specIsBar_any _ _ _ zs _ HN.out hm1 HI.out).mono ?_; rintro e w' ⟨rfl, rfl⟩)
        | (go_at_call 28; refine (specCount_any s _).mono ?_; rintro e w' ⟨rfl, rfl⟩))
      go_ret
      exact ⟨rfl, HB.out⟩
    obtain ⟨hs0, hs1⟩ := (setB_iff s).1 hset
    have hci : countI s = cnt s := by unfold countI; rw [hset]; rfl
    have hcn := (cnt_bd s).1
    have hf0 := fall_zero hbar
    obtain ⟨F, hF⟩ : ∃ F, fallOf zs s = F := ⟨_, rfl⟩
    have hfi : fallI zs s = (F : Int) := by rw [fallI_good hbar hset, hF]
    have hFl : F ≤ n1 := by rw [← hF, ← HN.out]; exact fallOf_le zs s
    have HK : Hid (∀ k : Nat, k < 7 → 0 ≤ fallI zs (bits .andNot .i64 s (wrap64 (2 ^ k))) ∧ fallI zs (bits .andNot .i64 s (wrap64 (2 ^ k))) ≤ F) := fun k hk => by
      rw [show wrap64 (2 ^ k) = IntKind.i64.wrap (2 ^ k) from by unfold wrap64; exact (IntKind.wrap_i64 _).symm]
      obtain ⟨p0, p1⟩ := pow7 hk
      obtain ⟨l0, l1⟩ := less_bd hs0 hs1 p0 p1
      have e := fallI_good hbar ((setB_iff _).2 ⟨l0, l1⟩)
      unfold less at e
      rw [e]
      have := fall_mono (bar_set hbar) hs0 hs1 l0 l1 (part_less hs0 hs1 p0 p1)
      rw [hF] at this
      unfold less at this
      omega
    clear hF
    go_wp2_with (first
      | (go_at_call 27; refine (implFallOf_any _ _ _ zs s _ HN.out hm1 HI.out).mono ?_; rintro e w' ⟨rfl, rfl⟩)
      | (go_at_call 20; refine (specIsBar_any _ _ _ zs _ HN.out hm1 HI.out).mono ?_; rintro e w' ⟨rfl, rfl⟩)
      | (go_at_call 28; refine (specCount_any s _).mono ?_; rintro e w' ⟨rfl, rfl⟩))
    go_loop [6] (fun q => ∃ k : Nat, k ≤ 7 ∧ q = .int .i64 k) (fun q => 7 - (intOf q).toNat)
    case atStart => exact ⟨0, by omega, rfl⟩
    case round =>
      obtain ⟨k, hk, rfl⟩ := hrel
      by_cases hk7 : k < 7
      · obtain ⟨q0, q1⟩ := HK.out k hk7
        go_wp2_with (go_at_call 27; refine (implFallOf_any _ _ _ zs _ _ HN.out hm1 HI.out).mono ?_; rintro e w' ⟨rfl, rfl⟩)
        go_round
        case rel => exact ⟨k + 1, by omega, by go_num⟩
        case measure => simp [intOf]; omega
      · have hk2 : k = 7 := by omega
        subst hk2
        go_wp2_with (first
          | (go_at_call 27; refine (implFallOf_any _ _ _ zs _ _ HN.out hm1 HI.out).mono ?_; rintro e w' ⟨rfl, rfl⟩)
          | (go_at_call 29; refine (implCount_any s _).mono ?_; rintro e w' ⟨rfl, rfl⟩)
          | (go_at_call 30; refine (lawTeeth_any s _ hs0 hs1).mono ?_; rintro e w' ⟨rfl, rfl⟩))
        go_ret
        exact ⟨rfl, HB.out⟩
end Go.Proofs.Ytpgokcilnejolaa
