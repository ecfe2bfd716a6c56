/-
  LossBefore by contract, model and program. Condition of the contracts: the slice's length is at most its capacity.
-/
import Derived.Test.YtpgokcilnejolaaSets
import Derived.WalkLawsBesides
import Derived.Outline
namespace Go.Proofs.Ytpgokcilnejolaa
open Go.RowKit
set_option linter.unusedVariables false

def mn (a b : Int) : Int := if b < a then b else a
def lossTo (x m0 : Int) (l : List Int) : Int := l.foldl (fun m b => mn m (cnt (less x b))) m0
theorem lossTo_snoc {x m0 q b : Int} {zs : List Int} {k : Nat} (hb : zs[k]? = some b) (hq : q = lossTo x m0 (zs.take k)) :
    (if cnt (less x b) < q then cnt (less x b) else q) = lossTo x m0 (zs.take (k + 1)) := by
  rw [take_at hb]
  unfold lossTo at *
  rw [List.foldl_append, ← hq]
  rfl
theorem mn_bd {a b : Int} (h : 0 ≤ a) (h2 : a ≤ 7) (hb : 0 ≤ b ∧ b ≤ 7) : 0 ≤ (if b < a then b else a) ∧ (if b < a then b else a) ≤ 7 := by split <;> omega
theorem bar_set {zs : List Int} (hbar : isBar zs = true) : ∀ z ∈ zs, 0 ≤ z ∧ z ≤ 127 := by
  intro z hz
  have : allSet zs = true := by unfold isBar at hbar; simp at hbar; exact hbar.1
  exact (setB_iff z).1 (List.all_eq_true.1 this z hz)
theorem bar_len {zs : List Int} (hbar : isBar zs = true) : 1 ≤ zs.length ∧ zs.length ≤ 40 := by
  unfold isBar inB at hbar; simp at hbar; omega

/-- starting from 7 or from all teeth is the same once one set was looked at -/
theorem lossTo_start (x m0 m1 : Int) (l : List Int) (h : ∀ b ∈ l, cnt (less x b) ≤ m0 ∧ cnt (less x b) ≤ m1) (hl : l ≠ []) : lossTo x m0 l = lossTo x m1 l := by
  cases l with
  | nil => exact absurd rfl hl
  | cons b l =>
    have hb := h b (by simp)
    unfold lossTo
    simp only [List.foldl_cons]
    have e0 : mn m0 (cnt (less x b)) = cnt (less x b) := by unfold mn; split <;> omega
    have e1 : mn m1 (cnt (less x b)) = cnt (less x b) := by unfold mn; split <;> omega
    rw [e0, e1]

set_option maxHeartbeats 400000 in
theorem specLoss_yes (ad : Addr) (n c p : Nat) (x : Int) (zs : List Int) (w : World) (hn : zs.length = n) (hm : n ≤ maxLen) (hcap : n ≤ c) (hcm : c ≤ maxLen) (h : Ints w (some ad) zs)
    (hbar : isBar zs = true) (hp1 : 1 ≤ p) (hp2 : p < n) (hx : zs[p]? = some x) :
    Calls Try.prog 48 #[.slice (some ad) n c, .int .i64 p] w fun e w' => e = .returned (.int .i64 (lossTo x (cnt x) (zs.take p))) ∧ w = w' := by
  have Hn := Lib.hid hn; clear hn
  have hm0 := hm
  unfold maxLen at hm hcm
  have hset := bar_set hbar
  obtain ⟨hx0, hx1⟩ := hset x (mem_at hx)
  have Hset := Lib.hid hset; clear hset
  have hin : inB (p : Int) 1 ((n : Int) - 1) = true := by simp [inB]; omega
  have hp0 : ((p : Int) == 0) = false := by simp; omega
  obtain ⟨ad', x', hade, hx', hcx⟩ := h.at_ (k := p) (by rw [Hn.out]; exact hp2)
  have e1 : ad' = ad := by injection hade with e; exact e.symm
  have e2 : x' = x := by have := hx'.out; rw [hx] at this; injection this with e; exact e.symm
  subst e1; subst e2
  have Hx := Lib.hid hx; clear hx hx' hade
  go_enter Try.func48, Try.ntmps48
  go_wp2_with (first
    | (go_at_call 20; refine (specIsBar_any _ _ _ zs _ Hn.out hm0 h).mono ?_; rintro e w' ⟨rfl, rfl⟩)
    | (go_at_call 52; refine (l1In_any _ _ _ _).mono ?_; rintro e w' ⟨rfl, rfl⟩)
    | (go_at_call 66; refine (l1Count_any _ _ hx0 hx1).mono ?_; rintro e w' ⟨rfl, rfl⟩))
  go_loop [5, 28] (fun m i => ∃ k : Nat, ∃ q : Int, k ≤ p ∧ i = .int .i64 k ∧ m = .int .i64 q ∧ 0 ≤ q ∧ q ≤ 7 ∧ q = lossTo x' (cnt x') (zs.take k)) (fun _ i => p - (intOf i).toNat)
  case atStart => exact ⟨0, _, Nat.zero_le _, rfl, rfl, (cnt_bd x').1, (cnt_bd x').2, rfl⟩
  case round =>
    obtain ⟨k, q, hk, rfl, rfl, hq0, hq1, hq⟩ := hrel
    have Hq := Lib.hid hq; clear hq
    by_cases hlt : k < p
    · obtain ⟨ad2, b, hade, hb, hcb⟩ := h.at_ (k := k) (by rw [Hn.out]; omega)
      have e1 : ad2 = ad' := by injection hade with e; exact e.symm
      subst e1
      clear hade
      obtain ⟨hb0, hb1⟩ := Hset.out b (mem_at hb.out)
      obtain ⟨hl0, hl1⟩ := less_bd hx0 hx1 hb0 hb1
      have HS := Lib.hid (lossTo_snoc hb.out Hq.out)
      have HB := Lib.hid (mn_bd hq0 hq1 (cnt_bd (less x' b)))
      go_wp2_with (first
        | (go_at_call 73; refine (without_any _ _ _).mono ?_; rintro e w' ⟨rfl, rfl⟩)
        | (go_at_call 67; refine (count_any _ _ hl0 hl1).mono ?_; rintro e w' ⟨rfl, rfl⟩)
        | (go_at_call 66; refine (l1Count_any _ _ hl0 hl1).mono ?_; rintro e w' ⟨rfl, rfl⟩))
      go_round
      case rel => exact ⟨k + 1, _, by omega, by go_num, rfl, HB.out.1, HB.out.2, HS.out⟩
      case measure => simp [intOf]; omega
    · have hkp : k = p := by omega
      subst hkp
      go_wp2
      go_ret
      exact ⟨ret_int Hq.out, rfl⟩

theorem hasPlace_any (A : Option Addr) (n c : Nat) (p : Int) (w : World) (hm : n ≤ maxLen) : Calls Try.prog 70 #[.slice A n c, .int .i64 p] w fun e w' => e = .returned (.bool (inB p 0 ((n : Int) - 1))) ∧ w = w' := by
  unfold maxLen at hm
  by_cases h1 : 0 ≤ p
  · by_cases h2 : p < n
    · have hr : inB p 0 ((n : Int) - 1) = true := by simp [inB]; omega
      rw [hr]; clear hr
      go_enter Try.func70, Try.ntmps70
      go_wp2
      go_ret
      exact ⟨rfl, rfl⟩
    · have hr : inB p 0 ((n : Int) - 1) = false := by simp [inB]; omega
      rw [hr]; clear hr
      go_enter Try.func70, Try.ntmps70
      go_wp2
      go_ret
      exact ⟨rfl, rfl⟩
  · have hr : inB p 0 ((n : Int) - 1) = false := by simp [inB]; omega
    rw [hr]; clear hr
    go_enter Try.func70, Try.ntmps70
    go_wp2
    go_ret
    exact ⟨rfl, rfl⟩

set_option maxHeartbeats 400000 in
theorem implLoss_yes (ad : Addr) (n c p : Nat) (x : Int) (zs : List Int) (w : World) (hn : zs.length = n) (hm : n ≤ maxLen) (hcap : n ≤ c) (hcm : c ≤ maxLen) (h : Ints w (some ad) zs)
    (hbar : isBar zs = true) (hp1 : 1 ≤ p) (hp2 : p < n) (hx : zs[p]? = some x) :
    Calls Try.prog 34 #[.slice (some ad) n c, .int .i64 p] w fun e w' => e = .returned (.int .i64 (lossTo x 7 (zs.take p))) ∧ w = w' := by
  have Hn := Lib.hid hn; clear hn
  have hm0 := hm
  unfold maxLen at hm hcm
  have hset := bar_set hbar
  obtain ⟨hx0, hx1⟩ := hset x (mem_at hx)
  have Hset := Lib.hid hset; clear hset
  have hin : inB (p : Int) 0 ((n : Int) - 1) = true := by simp [inB]; omega
  have hp0 : ((p : Int) == 0) = false := by simp; omega
  obtain ⟨ad', x', hade, hx', hcx⟩ := h.at_ (k := p) (by rw [Hn.out]; exact hp2)
  have e1 : ad' = ad := by injection hade with e; exact e.symm
  have e2 : x' = x := by have := hx'.out; rw [hx] at this; injection this with e; exact e.symm
  subst e1; subst e2
  have Hx := Lib.hid hx; clear hx hx' hade
  go_enter Try.func34, Try.ntmps34
  go_wp2_with (first
    | (go_at_call 21; refine (implIsBar_any _ _ _ zs _ Hn.out hm0 h).mono ?_; rintro e w' ⟨rfl, rfl⟩)
    | (go_at_call 70; refine (hasPlace_any _ _ _ _ _ hm0).mono ?_; rintro e w' ⟨rfl, rfl⟩))
  go_loop [5, 25] (fun m i => ∃ k : Nat, ∃ q : Int, k ≤ p ∧ i = .int .i64 k ∧ m = .int .i64 q ∧ 0 ≤ q ∧ q ≤ 7 ∧ q = lossTo x' 7 (zs.take k)) (fun _ i => p - (intOf i).toNat)
  case atStart => exact ⟨0, _, Nat.zero_le _, rfl, rfl, by omega, by omega, rfl⟩
  case round =>
    obtain ⟨k, q, hk, rfl, rfl, hq0, hq1, hq⟩ := hrel
    have Hq := Lib.hid hq; clear hq
    by_cases hlt : k < p
    · obtain ⟨ad2, b, hade, hb, hcb⟩ := h.at_ (k := k) (by rw [Hn.out]; omega)
      have e1 : ad2 = ad' := by injection hade with e; exact e.symm
      subst e1
      clear hade
      obtain ⟨hb0, hb1⟩ := Hset.out b (mem_at hb.out)
      obtain ⟨hl0, hl1⟩ := less_bd hx0 hx1 hb0 hb1
      have HS := Lib.hid (lossTo_snoc hb.out Hq.out)
      have HB := Lib.hid (mn_bd hq0 hq1 (cnt_bd (less x' b)))
      go_wp2_with (first
        | (go_at_call 73; refine (without_any _ _ _).mono ?_; rintro e w' ⟨rfl, rfl⟩)
        | (go_at_call 67; refine (count_any _ _ hl0 hl1).mono ?_; rintro e w' ⟨rfl, rfl⟩)
        | (go_at_call 66; refine (l1Count_any _ _ hl0 hl1).mono ?_; rintro e w' ⟨rfl, rfl⟩))
      go_round
      case rel => exact ⟨k + 1, _, by omega, by go_num, rfl, HB.out.1, HB.out.2, HS.out⟩
      case measure => simp [intOf]; omega
    · have hkp : k = p := by omega
      subst hkp
      go_wp2
      go_ret
      exact ⟨ret_int Hq.out, rfl⟩


set_option maxHeartbeats 400000 in
theorem specLoss_no (A : Option Addr) (n c : Nat) (p : Int) (zs : List Int) (w : World) (hn : zs.length = n) (hm : n ≤ maxLen) (h : Ints w A zs)
    (hno : isBar zs = false ∨ p < 1 ∨ n ≤ p) :
    Calls Try.prog 48 #[.slice A n c, .int .i64 p] w fun e w' => e = .returned (.int .i64 (-1)) ∧ w = w' := by
  have Hn := Lib.hid hn; clear hn
  have hm0 := hm
  unfold maxLen at hm
  cases hb : isBar zs
  · go_enter Try.func48, Try.ntmps48
    go_wp2_with (go_at_call 20; refine (specIsBar_any _ _ _ zs _ Hn.out hm0 h).mono ?_; rintro e w' ⟨rfl, rfl⟩)
    go_ret
    exact ⟨rfl, rfl⟩
  · have hp : p < 1 ∨ n ≤ p := by rcases hno with h | h; · rw [hb] at h; cases h
                                  · exact h
    clear hno
    have hin : inB p 1 ((n : Int) - 1) = false := by simp [inB]; omega
    clear hp
    go_enter Try.func48, Try.ntmps48
    go_wp2_with (first
      | (go_at_call 20; refine (specIsBar_any _ _ _ zs _ Hn.out hm0 h).mono ?_; rintro e w' ⟨rfl, rfl⟩)
      | (go_at_call 52; refine (l1In_any _ _ _ _).mono ?_; rintro e w' ⟨rfl, rfl⟩))
    go_ret
    exact ⟨rfl, rfl⟩

set_option maxHeartbeats 400000 in
theorem implLoss_no (A : Option Addr) (n c : Nat) (p : Int) (zs : List Int) (w : World) (hn : zs.length = n) (hm : n ≤ maxLen) (h : Ints w A zs)
    (hno : isBar zs = false ∨ p < 1 ∨ n ≤ p) :
    Calls Try.prog 34 #[.slice A n c, .int .i64 p] w fun e w' => e = .returned (.int .i64 (-1)) ∧ w = w' := by
  have Hn := Lib.hid hn; clear hn
  have hm0 := hm
  unfold maxLen at hm
  cases hb : isBar zs
  · go_enter Try.func34, Try.ntmps34
    go_wp2_with (go_at_call 21; refine (implIsBar_any _ _ _ zs _ Hn.out hm0 h).mono ?_; rintro e w' ⟨rfl, rfl⟩)
    go_ret
    exact ⟨rfl, rfl⟩
  · have hp : p < 1 ∨ n ≤ p := by rcases hno with h | h; · rw [hb] at h; cases h
                                  · exact h
    clear hno
    by_cases hz : p = 0
    · subst hz
      have hl := (bar_len hb).1
      have hin : inB 0 0 ((n : Int) - 1) = true := by rw [Hn.out] at hl; simp [inB]; omega
      clear hp hl
      go_enter Try.func34, Try.ntmps34
      go_wp2_with (first
        | (go_at_call 21; refine (implIsBar_any _ _ _ zs _ Hn.out hm0 h).mono ?_; rintro e w' ⟨rfl, rfl⟩)
        | (go_at_call 70; refine (hasPlace_any _ _ _ _ _ hm0).mono ?_; rintro e w' ⟨rfl, rfl⟩))
      go_ret
      exact ⟨rfl, rfl⟩
    · have hin : inB p 0 ((n : Int) - 1) = false := by simp [inB]; omega
      clear hp hz
      go_enter Try.func34, Try.ntmps34
      go_wp2_with (first
        | (go_at_call 21; refine (implIsBar_any _ _ _ zs _ Hn.out hm0 h).mono ?_; rintro e w' ⟨rfl, rfl⟩)
        | (go_at_call 70; refine (hasPlace_any _ _ _ _ _ hm0).mono ?_; rintro e w' ⟨rfl, rfl⟩))
      go_ret
      exact ⟨rfl, rfl⟩

/-- what LossBefore answers -/
def lossI (zs : List Int) (p : Int) : Int := if isBar zs = true ∧ 1 ≤ p ∧ p < zs.length then lossTo (zs.getD p.toNat 0) 7 (zs.take p.toNat) else -1
theorem specLoss_any (A : Option Addr) (n c : Nat) (zs : List Int) (p : Int) (w : World) (hn : zs.length = n) (hm : n ≤ maxLen) (hcap : n ≤ c) (hcm : c ≤ maxLen) (h : Ints w A zs) :
    Calls Try.prog 48 #[.slice A n c, .int .i64 p] w fun e w' => e = .returned (.int .i64 (lossI zs p)) ∧ w = w' := by
  by_cases hy : isBar zs = true ∧ 1 ≤ p ∧ p < zs.length
  · obtain ⟨q, rfl⟩ := Int.eq_ofNat_of_zero_le (show 0 ≤ p by omega)
    obtain ⟨ad, x, rfl, hx, _⟩ := h.at_ (k := q) (by omega)
    have hf : lossI zs (q : Int) = lossTo x (cnt x) (zs.take q) := by
      unfold lossI
      rw [if_pos hy, Int.toNat_natCast, getD_at hx.out]
      have hs := bar_set hy.1
      obtain ⟨hx0, hx1⟩ := hs x (mem_at hx.out)
      refine lossTo_start _ _ _ _ (fun b hb => ?_) (fun e => ?_)
      · obtain ⟨hb0, hb1⟩ := hs b (List.mem_of_mem_take hb)
        exact ⟨(cnt_bd _).2, cnt_less_le hx0 hx1 hb0 hb1⟩
      · have := congrArg List.length e
        rw [List.length_take, List.length_nil] at this
        omega
    rw [hf]
    exact specLoss_yes ad n c q x zs w hn hm hcap hcm h hy.1 (by omega) (by omega) hx.out
  · have hf : lossI zs p = -1 := by unfold lossI; rw [if_neg hy]
    rw [hf]
    refine specLoss_no A n c p zs w hn hm h ?_
    cases hb : isBar zs
    · exact .inl rfl
    · right; rw [hb] at hy; simp at hy; omega
theorem implLoss_any (A : Option Addr) (n c : Nat) (zs : List Int) (p : Int) (w : World) (hn : zs.length = n) (hm : n ≤ maxLen) (hcap : n ≤ c) (hcm : c ≤ maxLen) (h : Ints w A zs) :
    Calls Try.prog 34 #[.slice A n c, .int .i64 p] w fun e w' => e = .returned (.int .i64 (lossI zs p)) ∧ w = w' := by
  by_cases hy : isBar zs = true ∧ 1 ≤ p ∧ p < zs.length
  · obtain ⟨q, rfl⟩ := Int.eq_ofNat_of_zero_le (show 0 ≤ p by omega)
    obtain ⟨ad, x, rfl, hx, _⟩ := h.at_ (k := q) (by omega)
    have hf : lossI zs (q : Int) = lossTo x 7 (zs.take q) := by
      unfold lossI
      rw [if_pos hy, Int.toNat_natCast, getD_at hx.out]
    rw [hf]
    exact implLoss_yes ad n c q x zs w hn hm hcap hcm h hy.1 (by omega) (by omega) hx.out
  · have hf : lossI zs p = -1 := by unfold lossI; rw [if_neg hy]
    rw [hf]
    refine implLoss_no A n c p zs w hn hm h ?_
    cases hb : isBar zs
    · exact .inl rfl
    · right; rw [hb] at hy; simp at hy; omega
end Go.Proofs.Ytpgokcilnejolaa
