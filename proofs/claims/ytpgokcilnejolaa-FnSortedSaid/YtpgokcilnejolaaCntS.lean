/-
  CountOrders of the model by contract. Conditions of the contracts: a length of at most 2^20, which is at most the capacity.
-/
import Derived.Test.YtpgokcilnejolaaPaths
import Derived.Test.YtpgokcilnejolaaAny
namespace Go.Proofs.Ytpgokcilnejolaa
open Go.RowKit
set_option linter.unusedVariables false

theorem wrap64_add (a b : Int) : wrap64 (wrap64 a + wrap64 b) = wrap64 (a + b) := by unfold wrap64; omega
theorem wrap64_small {a : Int} (h0 : 0 ≤ a) (h1 : a ≤ 1000000) : wrap64 a = a := by unfold wrap64; omega
theorem wrap64_i64 (a : Int) : IntKind.i64.wrap a = wrap64 a := by unfold wrap64; exact IntKind.wrap_i64 a
theorem pow_small {i : Nat} (hi : i ≤ 8) : IntKind.i64.wrap (2 ^ i) = ((2 ^ i : Nat) : Int) ∧ wrap64 (2 ^ i) = ((2 ^ i : Nat) : Int) ∧ 2 ^ i ≤ 256 := by
  have h : 2 ^ i ≤ 2 ^ 8 := Nat.pow_le_pow_right (by omega) hi
  have h2 : wrap64 (2 ^ i) = ((2 ^ i : Nat) : Int) := by rw [pow_cast]; exact wrap64_small (Int.natCast_nonneg _) (by omega)
  exact ⟨by rw [wrap64_i64, h2], h2, by omega⟩
theorem bit_i64 {m i : Nat} (hm : m ≤ 256) : (bits .and .i64 ((m : Int) / 2 ^ i) 1 == 1) = m.testBit i := by
  have e : (m : Int) / 2 ^ i = ((m / 2 ^ i : Nat) : Int) := by rw [pow_cast]; simp
  have hlt : m / 2 ^ i ≤ 256 := Nat.le_trans (Nat.div_le_self _ _) hm
  have h1 : bits .and .i64 ((m / 2 ^ i : Nat) : Int) 1 = ((m / 2 ^ i &&& 1 : Nat) : Int) := by
    show IntKind.i64.wrap ((BitVec.ofInt 64 ((m / 2 ^ i : Nat) : Int) &&& BitVec.ofInt 64 1).toNat : Int) = _
    have h2 : (BitVec.ofInt 64 1).toNat = 1 := by decide
    rw [BitVec.toNat_and, ofInt_i64 _ (by omega), h2, wrap64_i64]
    have := @Nat.and_le_right (m / 2 ^ i) 1
    exact wrap64_small (by omega) (by omega)
  rw [e, h1, Nat.and_one_is_mod, Nat.testBit_eq_decide_div_mod_eq, Bool.eq_iff_iff]
  simp only [beq_iff_eq, decide_eq_true_eq]
  omega

/-- the table of the model: orders of the masks below k -/
def wl (zs : List Int) (k : Nat) : List Int := (List.range k).map (fun M => wrap64 ((ways zs M : Nat) : Int))
theorem wl_len (zs : List Int) (k : Nat) : (wl zs k).length = k := by simp [wl]
theorem wl_get (zs : List Int) {k M : Nat} (h : M < k) : (wl zs k)[M]? = some (wrap64 ((ways zs M : Nat) : Int)) := by
  unfold wl; rw [List.getElem?_map, List.getElem?_range h]; rfl
theorem wl_one (zs : List Int) : wl zs 1 = [1] := by
  unfold wl
  rw [List.range_one]
  show [wrap64 ((ways zs 0 : Nat) : Int)] = [1]
  rw [ways, if_pos rfl, wrap64_small (by decide) (by decide)]; rfl
theorem wl_succ (zs : List Int) (k : Nat) : wl zs (k + 1) = wl zs k ++ [wrap64 ((ways zs k : Nat) : Int)] := by
  unfold wl; rw [List.range_succ, List.map_append]; rfl
/-- the orders of M that begin with one of the first i sets -/
def part (zs : List Int) (M i : Nat) : Nat := sumN (fun j => if outOk zs M j then ways zs (M - 2 ^ j) else 0) i
theorem part_full {zs : List Int} {M n : Nat} (hn : zs.length = n) (h0 : M ≠ 0) : part zs M n = ways zs M := by unfold part; rw [ways_eq _ _ h0, hn]
theorem part_yes {zs : List Int} {M i : Nat} (h : outOk zs M i = true) : part zs M (i + 1) = part zs M i + ways zs (M - 2 ^ i) := by
  show part zs M i + (if outOk zs M i then _ else _) = _
  rw [if_pos h]
theorem part_no {zs : List Int} {M i : Nat} (h : outOk zs M i = false) : part zs M (i + 1) = part zs M i := by
  show part zs M i + (if outOk zs M i then _ else _) = _
  rw [h]; rfl
/-- a row of bools that holds the mask up to i -/
def maskTo (M i : Nat) : Nat → Bool := fun j => decide (j < i) && M.testBit j
theorem maskTo_none (M n : Nat) : List.replicate n (Value.bool false) = lfRow (maskTo M 0) n := by
  unfold lfRow
  apply List.ext_getElem
  · simp
  · intro j h1 h2; simp [maskTo]
theorem maskTo_set {M i n : Nat} (hi : i < n) : (lfRow (maskTo M i) n).set i (.bool (M.testBit i)) = lfRow (maskTo M (i + 1)) n := by
  unfold lfRow
  apply List.ext_getElem
  · simp
  · intro j h1 h2
    rw [List.getElem_set]
    simp only [List.getElem_map, List.getElem_range, maskTo]
    split
    · rename_i e
      subst e; simp
    · rename_i e
      have : decide (j < i) = decide (j < i + 1) := by rw [Bool.eq_iff_iff]; simp; omega
      rw [this]
theorem maskTo_full (M n : Nat) : lfRow (maskTo M n) n = lfRow (fun k => M.testBit k) n := by
  unfold lfRow
  apply List.map_congr_left
  intro k hk
  rw [List.mem_range] at hk
  simp [maskTo, hk]

theorem cell_wl {zs : List Int} {w : World} {gw k c' R B : Nat} (hO : Own w B (.slice (some ⟨gw, 0, none⟩) k c') (wl zs k)) (hR : R < k) : w.cell? ⟨gw, R, none⟩ = some (.int .i64 (wrap64 ((ways zs R : Nat) : Int))) := by
  unfold Own at hO
  rw [wl_len] at hO
  rw [hO.cellAt R (by omega), List.getElem?_map, wl_get zs hR]
  rfl
theorem take_facts {zs : List Int} {w : World} {gw k c' i B : Nat} {S : Int} (hO : Own w B (.slice (some ⟨gw, 0, none⟩) k c') (wl zs k)) (hi : i ≤ 8) (hbt : k.testBit i = true) (ho : outOk zs k i = true)
    (hS : S = wrap64 ((part zs k i : Nat) : Int)) :
    ∃ (Q R : Nat) (Y : Int), IntKind.i64.wrap (2 ^ i) = (Q : Int) ∧ wrap64 (2 ^ i) = (Q : Int) ∧ Q ≤ 256 ∧ 1 ≤ Q ∧ R < k ∧ (k : Int) - (Q : Int) = (R : Int) ∧ w.cell? ⟨gw, R, none⟩ = some (.int .i64 Y) ∧ Hid (wrap64 (S + Y) = wrap64 ((part zs k (i + 1) : Nat) : Int)) := by
  obtain ⟨hp1, hp2, hp3⟩ := pow_small hi
  have hle := bit_le hbt
  have hpos := Nat.two_pow_pos i
  refine ⟨2 ^ i, k - 2 ^ i, wrap64 ((ways zs (k - 2 ^ i) : Nat) : Int), hp1, hp2, hp3, hpos, by omega, by omega, cell_wl hO (by omega), ?_⟩
  show _ = _
  rw [part_yes ho, hS, wrap64_add, Int.natCast_add]

set_option maxHeartbeats 1600000 in
theorem specCnt_yes (A : Option Addr) (n c : Nat) (zs : List Int) (w : World) (hn : zs.length = n) (hm : n ≤ 8) (hcap : n ≤ c) (hcm : c ≤ maxLen) (h : Ints w A zs) (hs : setsB zs = true) :
    Calls Try.prog 46 #[.slice A n c] w fun e w' => e = .returned (.int .i64 (wrap64 ((ways zs (2 ^ n - 1) : Nat) : Int))) ∧ Below w.heap.size w w' := by
  have hm0 : n ≤ maxLen := by unfold maxLen; omega
  have Hn := Lib.hid hn; clear hn
  have HI := Lib.hid (IntsB.of h)
  obtain ⟨hpw1, hpw2, hP256⟩ := pow_small (i := n) (by omega)
  obtain ⟨P, hP⟩ : ∃ P, 2 ^ n = P := ⟨_, rfl⟩
  have hP1 : 1 ≤ P := by rw [← hP]; exact Nat.two_pow_pos n
  rw [hP] at hpw1 hpw2 hP256 ⊢
  have HP := Lib.hid hP
  have hb8 : decide ((8 : Int) < (n : Int)) = false := by simp; omega
  clear hP
  go_enter Try.func46, Try.ntmps46
  go_wp2_with (go_at_call 75; refine (l1Sets_any _ _ _ zs _ Hn.out hm0 hcap hcm h).mono ?_; rintro e w' ⟨rfl, rfl⟩)
  clear h
  have hlw : w.heap.size < (w.alloc (.cells #[.int .i64 1] 3)).heap.size := by simp
  go_loopw [3, 4] (fun v q wr => ∃ (k gw c' : Nat), 1 ≤ k ∧ k ≤ P ∧ q = .int .i64 k ∧ v = .slice (some ⟨gw, 0, none⟩) k c' ∧ Own wr w.heap.size (.slice (some ⟨gw, 0, none⟩) k c') (wl zs k) ∧ Below w.heap.size w wr) (fun _ q _ => P - (intOf q).toNat)
  case atStart =>
    refine ⟨1, w.heap.size, 1, by omega, hP1, rfl, rfl, ?_, (Below.refl _ _).alloc (Nat.le_refl _) _⟩
    rw [wl_one]
    exact World.ownsRow_lit w #[.int .i64 1] 1 (Nat.le_refl _) (by unfold maxLen; omega) rfl
  case round =>
    obtain ⟨k, gw, c', hk1, hkP, rfl, rfl, hO, hB⟩ := hrel
    have HO := Lib.hid hO; have HB := Lib.hid hB
    have hsz := hB.size
    have hgw : gw < wr.heap.size := (World.ownsRow.lt hO gw rfl).2
    clear hO hB
    by_cases hlt : k < P
    · go_wp2_with (at_make; refine wpl_make_bool _ rfl (.tmp 26) rfl n _ rfl rfl (by omega) ?_; intro w1 hown1 hb1 hlt1; rw [maskTo_none k n] at hown1)
      have HR1 := Lib.hid hown1; have HB1 := Lib.hid hb1
      clear hown1 hb1
      obtain ⟨wo, rfl⟩ : ∃ wo : World, wo = wr := ⟨_, rfl⟩
      go_loopw [30] (fun q wr => ∃ i : Nat, i ≤ n ∧ q = .int .i64 i ∧ wr.ownsRow wo.heap.size 4 1 (.slice (some ⟨wo.heap.size, 0, none⟩) n n) n (lfRow (maskTo k i) n) ∧ Below wo.heap.size wo wr) (fun q _ => n - (intOf q).toNat)
      case atStart => exact ⟨0, Nat.zero_le _, rfl, HR1.out, HB1.out⟩
      case round =>
        clear HR1 HB1 hlt1
        obtain ⟨i, hi, rfl, hrow, hb⟩ := hrel
        by_cases hin : i < n
        · have hd := (hrow.cellAt i (by omega)).trans (lfRow_get hin)
          have hfz := hrow.frozenAt i
          have hbit := bit_i64 (m := k) (i := i) (by omega)
          have hst := (hrow.stored i (.bool (k.testBit i))).1
          rw [maskTo_set hin] at hst
          have HS := Lib.hid hst
          have HBs := Lib.hid (hb.setCell (p := ⟨wo.heap.size, i, none⟩) (Nat.le_refl _) (.bool (k.testBit i)))
          clear hst hrow hb
          go_wp2
          go_roundw
          case rel => exact ⟨i + 1, by omega, by go_num, HS.out, HBs.out⟩
          case measure => simp [intOf]; omega
        · have hin2 : i = n := by omega
          subst hin2
          rw [maskTo_full] at hrow
          have HR := Lib.hid hrow; have HB2 := Lib.hid hb
          have HIr := Lib.hid ((HI.out.keep (Nat.le_refl _) (HB.out.trans (hb.mono hsz))).ints)
          have HOr := Lib.hid (HO.out.below hb)
          have HC := Lib.hid (fun t (ht : t < i) => (hrow.cellAt t (by omega)).trans (lfRow_get (lf := fun k' => k.testBit k') ht))
          clear hrow hb
          obtain ⟨n, rfl⟩ : ∃ n : Nat, n = i := ⟨_, rfl⟩
          go_wp2
          go_loop [7, 44] (fun v q => ∃ (i : Nat) (S : Int), i ≤ n ∧ q = .int .i64 i ∧ v = .int .i64 S ∧ S = wrap64 ((part zs k i : Nat) : Int)) (fun _ q => n - (intOf q).toNat)
          case atStart => exact ⟨0, 0, Nat.zero_le _, rfl, rfl, (wrap64_small (by decide) (by decide)).symm⟩
          case round =>
            obtain ⟨i, S, hi, rfl, rfl, hS⟩ := hrel
            have HSi := Lib.hid hS; clear hS
            by_cases hin : i < n
            · obtain ⟨ad, x, hade, hx, hcx⟩ := HIr.out.at_ (k := i) (by rw [Hn.out]; exact hin)
              subst hade
              have hci := HC.out i hin
              have hoe : outOk zs k i = (k.testBit i && freeB zs (fun k' => k.testBit k') i) := rfl
              cases hbt : k.testBit i
              · rw [hbt] at hci
                have HP1 : Hid (S = wrap64 ((part zs k (i + 1) : Nat) : Int)) := by
                  show _ = _
                  rw [part_no (by rw [hoe, hbt]; rfl)]; exact HSi.out
                clear hoe hbt
                go_wp2
                go_round
                case rel => exact ⟨i + 1, S, by omega, by go_num, rfl, HP1.out⟩
                case measure => simp [intOf]; omega
              · rw [hbt] at hci
                cases hfb : freeB zs (fun k' => k.testBit k') i
                · have HP1 : Hid (S = wrap64 ((part zs k (i + 1) : Nat) : Int)) := by
                    show _ = _
                    rw [part_no (by rw [hoe, hbt, hfb]; rfl)]; exact HSi.out
                  have Hfb := Lib.hid hfb
                  clear hoe hbt hfb
                  go_wp2_with (go_at_call 76; refine (l1Free_any _ _ _ _ _ _ _ _ zs (fun k' => k.testBit k') _ Hn.out (by omega) HIr.out hin hx.out HC.out (Nat.le_refl _)).mono ?_; rintro e w' ⟨rfl, rfl⟩; rw [Hfb.out])
                  go_round
                  case rel => exact ⟨i + 1, S, by omega, by go_num, rfl, HP1.out⟩
                  case measure => simp [intOf]; omega
                · have Hfb := Lib.hid hfb
                  obtain ⟨Q, R, Y, hp1, hp2, hQ256, hQ1, hRk, hsub, hcw, HPn⟩ := take_facts HOr.out (show i ≤ 8 by omega) hbt (by rw [hoe, hbt, hfb]; rfl) HSi.out
                  clear hoe hbt hfb hp2
                  go_wp2_with (go_at_call 76; refine (l1Free_any _ _ _ _ _ _ _ _ zs (fun k' => k.testBit k') _ Hn.out (by omega) HIr.out hin hx.out HC.out (Nat.le_refl _)).mono ?_; rintro e w' ⟨rfl, rfl⟩; rw [Hfb.out])
                  go_round
                  case rel => exact ⟨i + 1, _, by omega, by go_num, rfl, HPn.out⟩
                  case measure => simp [intOf]; omega
            · have hin3 : i = n := by omega
              subst hin3
              have hszr : w.heap.size ≤ wr.heap.size := Nat.le_trans hsz HB2.out.size
              go_wp2_with (at_builtin; refine wpl_push _ rfl (.tmp 67) (.tmp 69) rfl w.heap.size _ (wl zs k) S rfl rfl HOr.out hszr (by rw [wl_len]; omega) ?_; intro v' w5 hO5 hb5)
              have HW : wl zs k ++ [S] = wl zs (k + 1) := by rw [wl_succ, HSi.out, part_full Hn.out (by omega)]
              rw [HW] at hO5
              obtain ⟨g5, m5, c5, rfl, hm5, hg5, _, _, hO5', _⟩ := own_form2 hO5 (by rw [wl_len]; omega)
              rw [wl_len] at hm5
              subst hm5
              go_roundw
              case rel => exact ⟨k + 1, g5, c5, by omega, by omega, by go_num, rfl, hO5', (HB.out.trans (HB2.out.mono hsz)).trans hb5⟩
              case measure => simp [intOf]; omega
    · have hkP2 : k = P := by omega
      subst hkP2
      obtain ⟨R, rfl⟩ : ∃ R, k = R + 1 := ⟨k - 1, by omega⟩
      have hcw := cell_wl HO.out (show R < R + 1 by omega)
      clear hpw2
      go_wp2
      go_ret
      exact ⟨rfl, HB.out⟩

theorem specCnt_no (A : Option Addr) (n c : Nat) (zs : List Int) (w : World) (hn : zs.length = n) (hm0 : n ≤ maxLen) (hcap : n ≤ c) (hcm : c ≤ maxLen) (h : Ints w A zs) (hs : setsB zs = false ∨ 8 < n) :
    Calls Try.prog 46 #[.slice A n c] w fun e w' => e = .returned (.int .i64 (-1)) ∧ w = w' := by
  have Hn := Lib.hid hn; clear hn
  cases hb : setsB zs
  · clear hs
    go_enter Try.func46, Try.ntmps46
    go_wp2_with (go_at_call 75; refine (l1Sets_any _ _ _ zs _ Hn.out hm0 hcap hcm h).mono ?_; rintro e w' ⟨rfl, rfl⟩)
    go_ret
    exact ⟨rfl, rfl⟩
  · have h8 : 8 < n := by rcases hs with h1 | h1; · rw [hb] at h1; cases h1
                          · exact h1
    clear hs
    go_enter Try.func46, Try.ntmps46
    go_wp2_with (go_at_call 75; refine (l1Sets_any _ _ _ zs _ Hn.out hm0 hcap hcm h).mono ?_; rintro e w' ⟨rfl, rfl⟩)
    go_ret
    exact ⟨rfl, rfl⟩

/-- what CountOrders answers -/
def cntI (zs : List Int) : Int := if setsB zs = true ∧ zs.length ≤ 8 then wrap64 ((ways zs (2 ^ zs.length - 1) : Nat) : Int) else -1
theorem specCnt_any (A : Option Addr) (n c : Nat) (zs : List Int) (w : World) (hn : zs.length = n) (hm0 : n ≤ maxLen) (hcap : n ≤ c) (hcm : c ≤ maxLen) (h : Ints w A zs) :
    Calls Try.prog 46 #[.slice A n c] w fun e w' => e = .returned (.int .i64 (cntI zs)) ∧ Below w.heap.size w w' := by
  by_cases hy : setsB zs = true ∧ zs.length ≤ 8
  · have hf : cntI zs = wrap64 ((ways zs (2 ^ n - 1) : Nat) : Int) := by unfold cntI; rw [if_pos hy, hn]
    rw [hf]
    exact specCnt_yes A n c zs w hn (by omega) hcap hcm h hy.1
  · have hf : cntI zs = -1 := by unfold cntI; rw [if_neg hy]
    rw [hf]
    refine (specCnt_no A n c zs w hn hm0 hcap hcm h ?_).mono fun e w' ⟨he, hw⟩ => ⟨he, by subst hw; exact Below.refl _ _⟩
    cases hb : setsB zs
    · exact .inl rfl
    · right; rw [hb] at hy; simp at hy; omega
end Go.Proofs.Ytpgokcilnejolaa
