/-
  CountOrders of the program by contract. Conditions of the contracts: a length of at most 2^20, which is at most the capacity.
-/
import Derived.Test.YtpgokcilnejolaaCntS
namespace Go.Proofs.Ytpgokcilnejolaa
open Go.RowKit
set_option linter.unusedVariables false

/-- is the last step to x by j counted, when D is at work and the first k are through? -/
def seen (zs : List Int) (D k x j : Nat) : Bool := lastOk zs x j && (decide (x - 2 ^ j < D) || (decide (x - 2 ^ j = D) && decide (j < k)))
def st (zs : List Int) (D k x : Nat) : Nat := (if 0 = x then 1 else 0) + sumN (fun j => if seen zs D k x j then paths zs 0 (x - 2 ^ j) else 0) zs.length
theorem st_next (zs : List Int) (D x : Nat) : st zs D zs.length x = st zs (D + 1) 0 x := by
  unfold st
  congr 1
  apply sumN_congr
  intro j hj
  have : seen zs D zs.length x j = seen zs (D + 1) 0 x j := by
    unfold seen
    congr 1
    rw [Bool.eq_iff_iff]
    simp [hj]; omega
  rw [this]
theorem st_done (zs : List Int) {D k x : Nat} (hx : x ≤ D) : st zs D k x = paths zs 0 x := by
  rw [paths_eq]
  unfold st
  congr 1
  apply sumN_congr
  intro j _
  have : seen zs D k x j = lastOk zs x j := by
    unfold seen
    cases hl : lastOk zs x j
    · rfl
    · have := (lastOk_lt hl).1
      have h1 : decide (x - 2 ^ j < D) = true := by simp; omega
      rw [h1]; rfl
  rw [this]
theorem st_zero (zs : List Int) (x : Nat) : st zs 0 0 x = if 0 = x then 1 else 0 := by
  unfold st
  rw [sumN_zero]
  · rfl
  · intro j _
    have : seen zs 0 0 x j = false := by unfold seen; simp
    rw [this]; rfl
theorem sumN_one (E k : Nat) : ∀ n, k < n → sumN (fun j => if j = k then E else 0) n = E
  | 0, h => absurd h (by omega)
  | n + 1, h => by
    unfold sumN
    by_cases e : n = k
    · subst e
      rw [if_pos rfl, sumN_zero]
      · omega
      · intro i hi; rw [if_neg (by omega)]
    · rw [if_neg e, sumN_one E k n (by omega)]; rfl
theorem st_step (zs : List Int) {D k x : Nat} (hk : k < zs.length) : st zs D (k + 1) x = st zs D k x + (if edge zs D k = true ∧ D + 2 ^ k = x then paths zs 0 D else 0) := by
  unfold st
  rw [Nat.add_assoc]
  congr 1
  have hsum : (if edge zs D k = true ∧ D + 2 ^ k = x then paths zs 0 D else 0) = sumN (fun j => if j = k then (if edge zs D k = true ∧ D + 2 ^ k = x then paths zs 0 D else 0) else 0) zs.length := (sumN_one _ k _ hk).symm
  rw [hsum, ← sumN_add]
  apply sumN_congr
  intro j _
  by_cases e : j = k
  · subst e
    rw [if_pos rfl]
    have he := edge_step (zs := zs) (D := D) (E := x) (i := j)
    by_cases h1 : edge zs D j = true ∧ D + 2 ^ j = x
    · obtain ⟨h2, h3⟩ := he.1 h1
      have s1 : seen zs D (j + 1) x j = true := by unfold seen; rw [h2, h3]; simp
      have s0 : seen zs D j x j = false := by unfold seen; rw [h2, h3]; simp
      rw [if_pos h1, s1, s0, h3]; simp
    · rw [if_neg h1]
      have hse : seen zs D (j + 1) x j = seen zs D j x j := by
        unfold seen
        cases hl : lastOk zs x j
        · rfl
        · have h3 : ¬ (x - 2 ^ j = D) := fun h => h1 (he.2 ⟨hl, h⟩)
          simp [h3]
      rw [hse]; rfl
  · rw [if_neg e]
    have hse : seen zs D (k + 1) x j = seen zs D k x j := by
      unfold seen
      congr 1
      have : decide (j < k + 1) = decide (j < k) := by rw [Bool.eq_iff_iff]; simp; omega
      rw [this]
    rw [hse]; rfl
/-- the table of the program -/
def stRow (zs : List Int) (P D k : Nat) : List Value := (List.range P).map (fun x => Value.int .i64 (wrap64 ((st zs D k x : Nat) : Int)))
theorem stRow_get {zs : List Int} {P D k x : Nat} (h : x < P) : (stRow zs P D k)[x]? = some (.int .i64 (wrap64 ((st zs D k x : Nat) : Int))) := range_get (fun x => Value.int .i64 (wrap64 ((st zs D k x : Nat) : Int))) h
theorem stRow_start (zs : List Int) {P : Nat} (hP : 1 ≤ P) : (List.replicate P (Value.int .i64 0)).set 0 (.int .i64 1) = stRow zs P 0 0 := by
  unfold stRow
  apply List.ext_getElem
  · simp
  · intro x h1 h2
    rw [List.getElem_set]
    simp only [List.getElem_map, List.getElem_range, st_zero]
    split
    · rename_i e
      subst e
      rw [wrap64_small (by decide) (by decide)]; rfl
    · rename_i e
      rw [wrap64_small (by decide) (by decide)]; simp
theorem stRow_next (zs : List Int) (P D : Nat) : stRow zs P D zs.length = stRow zs P (D + 1) 0 := by
  unfold stRow
  apply List.map_congr_left
  intro x _
  rw [st_next]
theorem stRow_no {zs : List Int} {P D k : Nat} (hk : k < zs.length) (h : edge zs D k = false) : stRow zs P D (k + 1) = stRow zs P D k := by
  unfold stRow
  apply List.map_congr_left
  intro x _
  rw [st_step zs hk, h]; rfl
theorem stRow_yes {zs : List Int} {P D k X : Nat} {V : Int} (hk : k < zs.length) (h : edge zs D k = true) (hX : D + 2 ^ k = X)
    (hV : V = wrap64 (wrap64 ((st zs D k X : Nat) : Int) + wrap64 ((paths zs 0 D : Nat) : Int))) : (stRow zs P D k).set X (.int .i64 V) = stRow zs P D (k + 1) := by
  unfold stRow
  apply List.ext_getElem
  · simp
  · intro x h1 h2
    rw [List.getElem_set]
    simp only [List.getElem_map, List.getElem_range]
    split
    · rename_i e
      subst e
      rw [hV, wrap64_add, st_step zs hk, if_pos ⟨h, hX⟩, Int.natCast_add]
    · rename_i e
      rw [st_step zs hk, if_neg (fun hc => e (by omega))]; rfl

theorem edge_follow (zs : List Int) (D i : Nat) : (!D.testBit i && partN (mk zs i zs.length) D) = edge zs D i := rfl

set_option maxHeartbeats 1600000 in
theorem implCnt_yes (A : Option Addr) (n c : Nat) (zs : List Int) (w : World) (hn : zs.length = n) (hm : n ≤ 8) (h : Ints w A zs) (hs : setsB zs = true) :
    Calls Try.prog 38 #[.slice A n c] w fun e w' => e = .returned (.int .i64 (wrap64 ((paths zs 0 (2 ^ n - 1) : Nat) : Int))) ∧ Below w.heap.size w w' := by
  have hm0 : n ≤ maxLen := by unfold maxLen; omega
  have Hn := Lib.hid hn; clear hn
  have HI := Lib.hid (IntsB.of h); clear h
  obtain ⟨hpw1, hpw2, hP256⟩ := pow_small (i := n) (by omega)
  obtain ⟨P, hP⟩ : ∃ P, 2 ^ n = P := ⟨_, rfl⟩
  have hP1 : 1 ≤ P := by rw [← hP]; exact Nat.two_pow_pos n
  rw [hP] at hpw1 hpw2 hP256 ⊢
  have HP := Lib.hid hP
  have hb8 : decide ((8 : Int) < (n : Int)) = false := by simp; omega
  clear hP hpw2
  go_enter Try.func38, Try.ntmps38
  go_wp2_with fail
  refine (areOrd_any _ _ _ zs _ Hn.out hm0 HI.out.ints).mono ?_
  rintro e w1 ⟨rfl, hb1⟩
  have H1 := Lib.hid (HI.out.keep (Nat.le_refl _) hb1)
  have s1 := hb1.size
  go_wp2_with fail
  refine (partsIn_any _ _ _ zs _ Hn.out (by omega) H1.out.ints).mono ?_
  rintro e w2 ⟨rfl, hown2, hb2⟩
  have H2 := Lib.hid (H1.out.keep s1 hb2)
  have s2 := hb2.size
  have T2 := Lib.hid (hb1.trans (hb2.mono s1))
  have hlt2 : w1.heap.size < w2.heap.size := (World.ownsRow.lt hown2 w1.heap.size rfl).2
  have HPA := Lib.hid hown2
  clear hb1 hb2 hown2 HI H1
  go_wp2_with (at_make; refine wpl_make_int _ rfl (.tmp 19) rfl P _ rfl rfl (by omega) ?_; intro w3 hown3 hb3; have hd3 := (hown3.cellAt 0 (by omega)).trans (show (List.replicate P (Value.int .i64 0))[0]? = some (.int .i64 0) from by rw [List.getElem?_replicate, if_pos (by omega)]); have hf3 := hown3.frozenAt 0)
  have hst3 := (hown3.stored 0 (.int .i64 1)).1
  rw [stRow_start zs hP1] at hst3
  have HO3 := Lib.hid hst3
  have HB3 := Lib.hid (hb3.setCell (p := ⟨w2.heap.size, 0, none⟩) (Nat.le_refl _) (.int .i64 1))
  clear hst3 hown3 hb3 hd3 hf3
  go_loopw [25] (fun q wr => ∃ D : Nat, D ≤ P ∧ q = .int .i64 D ∧ wr.ownsRow w2.heap.size 3 1 (.slice (some ⟨w2.heap.size, 0, none⟩) P P) P (stRow zs P D 0) ∧ Below w2.heap.size w2 wr) (fun q _ => P - (intOf q).toNat)
  case atStart => exact ⟨0, Nat.zero_le _, rfl, HO3.out, HB3.out⟩
  case round =>
    clear HO3 HB3
    obtain ⟨D, hD, rfl, hown, hb⟩ := hrel
    have HO := Lib.hid hown; have HB := Lib.hid hb
    clear hown hb
    by_cases hlt : D < P
    · go_wp2
      go_loopw [30] (fun q wr => ∃ k : Nat, k ≤ n ∧ q = .int .i64 k ∧ wr.ownsRow w2.heap.size 3 1 (.slice (some ⟨w2.heap.size, 0, none⟩) P P) P (stRow zs P D k) ∧ Below w2.heap.size w2 wr) (fun q _ => n - (intOf q).toNat)
      case atStart => exact ⟨0, Nat.zero_le _, rfl, HO.out, HB.out⟩
      case round =>
        clear HO HB
        obtain ⟨k, hk, rfl, hown, hb⟩ := hrel
        have HO := Lib.hid hown; have HB := Lib.hid hb
        have HPr := Lib.hid (row_below HPA.out (b := w2.heap.size) (fun g hg => by injection hg with hg; subst hg; exact hlt2) hb)
        clear hown hb
        by_cases hkn : k < n
        · have hcj := Lib.hid ((HPr.out.cellAt k (by omega)).trans (rowP_full hkn))
          have HPl : Hid (mk zs k n < 2 ^ 64) := mask_lt64 _ (by omega)
          have HD64 : Hid (D < 2 ^ 64) := Nat.lt_of_lt_of_le (show D < 256 by omega) (by decide)
          have hval : Hid ((!D.testBit k && partN (mk zs k n) D) = edge zs D k) := by
            show _ = _
            rw [← Hn.out]; rfl
          cases he : edge zs D k
          · have HS : Hid (wr.ownsRow w2.heap.size 3 1 (.slice (some ⟨w2.heap.size, 0, none⟩) P P) P (stRow zs P D (k + 1))) := by
              rw [stRow_no (by rw [Hn.out]; exact hkn) he]; exact HO.out
            have He := Lib.hid he
            clear he
            go_wp2_with (go_at_call 58; refine (mayFollow_any _ n _ D (mk zs k n) k _ hkn (by omega) HD64.out HPl.out hcj.out (by omega)).mono ?_; rintro e w' ⟨rfl, rfl⟩; rw [hval.out, He.out])
            go_roundw
            case rel => exact ⟨k + 1, by omega, by go_num, HS.out, HB.out⟩
            case measure => simp [intOf]; omega
          · have hbt : D.testBit k = false := by unfold edge at he; rw [Bool.and_eq_true] at he; simpa using he.1
            have HX0 := bit_add hbt
            have hXP : D ||| 2 ^ k < P := by
              rw [← HP.out]
              exact Nat.or_lt_two_pow (by rw [HP.out]; exact hlt) (Nat.pow_lt_pow_right (by omega) hkn)
            obtain ⟨X, hX⟩ : ∃ X, D ||| 2 ^ k = X := ⟨_, rfl⟩
            rw [hX] at HX0 hXP
            have HXe := Lib.hid hX
            have hdX := (HO.out.cellAt X (by omega)).trans (stRow_get hXP)
            have hdD := (HO.out.cellAt D (by omega)).trans (stRow_get hlt)
            rw [st_done zs (Nat.le_refl D)] at hdD
            have hfz := HO.out.frozenAt X
            obtain ⟨a, ha⟩ : ∃ a, wrap64 ((st zs D k X : Nat) : Int) = a := ⟨_, rfl⟩
            obtain ⟨b, hb⟩ : ∃ b, wrap64 ((paths zs 0 D : Nat) : Int) = b := ⟨_, rfl⟩
            rw [ha] at hdX
            rw [hb] at hdD
            obtain ⟨V, hV⟩ : ∃ V, IntKind.i64.wrap (a + b) = V := ⟨_, rfl⟩
            have hst := (HO.out.stored X (.int .i64 V)).1
            rw [stRow_yes (by rw [Hn.out]; exact hkn) he HX0 (by rw [← hV, ha, hb, wrap64_i64])] at hst
            have HS := Lib.hid hst
            have HBs := Lib.hid (HB.out.setCell (p := ⟨w2.heap.size, X, none⟩) (Nat.le_refl _) (.int .i64 V))
            have hwD : IntKind.u64.wrap (D : Int) = (D : Int) := wrap_small D HD64.out
            have He := Lib.hid he
            clear he hbt HX0 hX ha hb hst
            go_wp2_with (go_at_call 58; refine (mayFollow_any _ n _ D (mk zs k n) k _ hkn (by omega) HD64.out HPl.out hcj.out (by omega)).mono ?_; rintro e w' ⟨rfl, rfl⟩; rw [hval.out, He.out])
            go_region_with ((go_at_call 59; refine (plWith_any D k HD64.out (by omega) _).mono ?_; rintro e w' ⟨rfl, rfl⟩; rw [HXe.out]))
            all_goals
              go_wp2
              go_roundw
              case rel => exact ⟨k + 1, by omega, by go_num, HS.out, HBs.out.drew⟩
              case measure => simp [intOf]; omega
        · have hkn2 : k = n := by omega
          subst hkn2
          have HS : Hid (wr.ownsRow w2.heap.size 3 1 (.slice (some ⟨w2.heap.size, 0, none⟩) P P) P (stRow zs P (D + 1) 0)) := by
            rw [← stRow_next, Hn.out]; exact HO.out
          go_wp2
          go_roundw
          case rel => exact ⟨D + 1, by omega, by go_num, HS.out, HB.out⟩
          case measure => simp [intOf]; omega
    · have hDP : D = P := by omega
      subst hDP
      obtain ⟨R, rfl⟩ : ∃ R, D = R + 1 := ⟨D - 1, by omega⟩
      have hcw := (HO.out.cellAt R (by omega)).trans (stRow_get (show R < R + 1 by omega))
      rw [st_done zs (Nat.le_succ R)] at hcw
      go_wp2
      go_ret
      exact ⟨rfl, T2.out.trans (HB.out.mono (by omega))⟩

theorem implCnt_no (A : Option Addr) (n c : Nat) (zs : List Int) (w : World) (hn : zs.length = n) (hm0 : n ≤ maxLen) (h : Ints w A zs) (hs : setsB zs = false ∨ 8 < n) :
    Calls Try.prog 38 #[.slice A n c] w fun e w' => e = .returned (.int .i64 (-1)) ∧ Below w.heap.size w w' := by
  have Hn := Lib.hid hn; clear hn
  cases hb : setsB zs
  · clear hs
    go_enter Try.func38, Try.ntmps38
    go_wp2_with (go_at_call 56; refine (areOrd_any _ _ _ zs _ Hn.out hm0 h).mono ?_; rintro e w1 ⟨rfl, hb1⟩)
    go_ret
    exact ⟨rfl, hb1⟩
  · have h8 : 8 < n := by rcases hs with h1 | h1; · rw [hb] at h1; cases h1
                          · exact h1
    clear hs
    go_enter Try.func38, Try.ntmps38
    go_wp2_with (go_at_call 56; refine (areOrd_any _ _ _ zs _ Hn.out hm0 h).mono ?_; rintro e w1 ⟨rfl, hb1⟩)
    go_ret
    exact ⟨rfl, hb1⟩

theorem implCnt_any (A : Option Addr) (n c : Nat) (zs : List Int) (w : World) (hn : zs.length = n) (hm0 : n ≤ maxLen) (hcap : n ≤ c) (hcm : c ≤ maxLen) (h : Ints w A zs) :
    Calls Try.prog 38 #[.slice A n c] w fun e w' => e = .returned (.int .i64 (cntI zs)) ∧ Below w.heap.size w w' := by
  by_cases hy : setsB zs = true ∧ zs.length ≤ 8
  · have hf : cntI zs = wrap64 ((paths zs 0 (2 ^ n - 1) : Nat) : Int) := by unfold cntI; rw [if_pos hy, ← orders_same, hn]
    rw [hf]
    exact implCnt_yes A n c zs w hn (by omega) h hy.1
  · have hf : cntI zs = -1 := by unfold cntI; rw [if_neg hy]
    rw [hf]
    refine implCnt_no A n c zs w hn hm0 h ?_
    cases hb : setsB zs
    · exact .inl rfl
    · right; rw [hb] at hy; simp at hy; omega
end Go.Proofs.Ytpgokcilnejolaa
