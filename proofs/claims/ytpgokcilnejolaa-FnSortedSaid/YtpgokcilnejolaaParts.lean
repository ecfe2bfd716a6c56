/-
  The table of parts that the program makes, and whether a set may follow, by contract. Condition: at most 40 sets.
-/
import Derived.Test.YtpgokcilnejolaaOrdI
namespace Go.Proofs.Ytpgokcilnejolaa
open Go.RowKit
set_option linter.unusedVariables false

theorem plInfo : (Try.prog.info? 51).map (fun i => (i.zero, i.size, i.bytes)) = some (some (.int .u64 0), 1, 8) := by kernel_rfl

/-- the other sets below j that are part of set t, as bits -/
def fOf (zs : List Int) (t q : Nat) : Bool := q != t && partB (zs.getD q 0) (zs.getD t 0)
def mk (zs : List Int) (t j : Nat) : Nat := maskN (fOf zs t) j
def rowP (zs : List Int) (n i j : Nat) : List Value := (List.range n).map (fun t => Value.int .u64 ((if t < i then mk zs t n else if t = i then mk zs t j else 0 : Nat) : Int))
theorem rowP_zero (zs : List Int) (n : Nat) : List.replicate n (Value.int .u64 0) = rowP zs n 0 0 := by
  apply List.ext_getElem
  · simp [rowP]
  · intro t h1 h2
    simp [rowP, mk, maskN]
theorem rowP_next (zs : List Int) (n i : Nat) : rowP zs n i n = rowP zs n (i + 1) 0 := by
  unfold rowP
  apply List.map_congr_left
  intro t _
  congr 2
  by_cases h1 : t < i
  · rw [if_pos h1, if_pos (by omega)]
  · by_cases h2 : t = i
    · rw [if_neg h1, if_pos h2, if_pos (by omega)]
    · rw [if_neg h1, if_neg h2, if_neg (by omega)]
      split
      · simp [mk, maskN]
      · rfl
theorem rowP_get {zs : List Int} {n i j : Nat} (hi : i < n) : (rowP zs n i j)[i]? = some (.int .u64 (mk zs i j : Int)) := by
  unfold rowP
  rw [range_get _ hi, if_neg (by omega), if_pos rfl]
theorem rowP_set {zs : List Int} {n i j : Nat} (hi : i < n) : (rowP zs n i j).set i (.int .u64 (mk zs i (j + 1) : Int)) = rowP zs n i (j + 1) := by
  unfold rowP
  apply List.ext_getElem
  · simp
  · intro t h1 h2
    rw [List.getElem_set]
    simp only [List.getElem_map, List.getElem_range]
    split
    · rename_i e
      subst e
      rw [if_neg (by omega), if_pos rfl]
    · rename_i e
      by_cases h1 : t < i
      · rw [if_pos h1, if_pos h1]
      · rw [if_neg h1, if_neg h1, if_neg (fun h => e h.symm), if_neg (fun h => e h.symm)]
theorem mk_no {zs : List Int} {i j : Nat} (h : fOf zs i j = false) : mk zs i (j + 1) = mk zs i j := by
  show (if fOf zs i j then _ else _) = _
  rw [h]; rfl
theorem mk_yes {zs : List Int} {i j : Nat} (h : fOf zs i j = true) : mk zs i (j + 1) = mk zs i j ||| 2 ^ j := by
  show (if fOf zs i j then _ else _) = _
  rw [h]; rfl
theorem rowP_stay {zs : List Int} {n i j : Nat} (h : fOf zs i j = false) : rowP zs n i (j + 1) = rowP zs n i j := by
  unfold rowP
  apply List.map_congr_left
  intro t _
  by_cases h1 : t < i
  · rw [if_pos h1, if_pos h1]
  · by_cases h2 : t = i
    · subst h2
      rw [if_neg h1, if_pos rfl, if_neg h1, if_pos rfl, mk_no h]
    · rw [if_neg h1, if_neg h2, if_neg h1, if_neg h2]
theorem rowP_full {zs : List Int} {n i : Nat} (hi : i < n) : (rowP zs n n 0)[i]? = some (.int .u64 (mk zs i n : Int)) := by
  unfold rowP
  rw [range_get _ hi, if_pos hi]

set_option maxHeartbeats 3200000 in
theorem partsIn_any (A : Option Addr) (n c : Nat) (zs : List Int) (w : World) (hn : zs.length = n) (hm : n ≤ 40) (h : Ints w A zs) :
    Calls Try.prog 57 #[.slice A n c] w fun e w' => e = .returned (.slice (some ⟨w.heap.size, 0, none⟩) n n) ∧ w'.ownsRow w.heap.size 51 1 (.slice (some ⟨w.heap.size, 0, none⟩) n n) n (rowP zs n n 0) ∧ Below w.heap.size w w' := by
  have Hn := Lib.hid hn; clear hn
  obtain ⟨i0, hi, hz0, hz1, hz2⟩ := info_parts plInfo
  go_enter Try.func57, Try.ntmps57
  go_wp2_with (at_make; refine wpList_make_full _ rfl (.tmp 9) (.tmp 9) 48 rfl w.heap.size 51 i0 (.int .u64 0) 1 Try.underlying48 hi hz0 hz1 .i64 .i64 (n : Int) (n : Int) n rfl rfl rfl rfl (by rw [hz2]; omega) (by unfold maxLen; omega) (Nat.le_refl _) ?_; intro w1 hown1 hg1; rw [made_rep _ rfl, rowP_zero zs n] at hown1)
  have hb1 : Below w.heap.size w w1 := (Below.refl _ _).grown hg1 (Nat.le_refl _) (fun k hk => by cases hk)
  clear hg1 hi hz0 hz1 hz2
  have HO1 := Lib.hid hown1
  clear hown1
  go_loopw [13] (fun q wr => ∃ i : Nat, i ≤ n ∧ q = .int .i64 i ∧ wr.ownsRow w.heap.size 51 1 (.slice (some ⟨w.heap.size, 0, none⟩) n n) n (rowP zs n i 0) ∧ Below w.heap.size w wr) (fun q _ => n - (intOf q).toNat)
  case atStart => exact ⟨0, Nat.zero_le _, rfl, HO1.out, hb1⟩
  case round =>
    clear HO1 hb1
    obtain ⟨i, hin, rfl, hown, hb⟩ := hrel
    by_cases hlt : i < n
    · obtain ⟨ad, x, hade, hx, hcx⟩ := (h.below hb).at_ (k := i) (by rw [Hn.out]; exact hlt)
      subst hade
      have HO := Lib.hid hown
      clear hown
      go_wp2
      obtain ⟨wo, rfl⟩ : ∃ wo : World, wo = wr := ⟨_, rfl⟩
      go_loopw [20] (fun q wr => ∃ j : Nat, j ≤ n ∧ q = .int .i64 j ∧ wr.ownsRow w.heap.size 51 1 (.slice (some ⟨w.heap.size, 0, none⟩) n n) n (rowP zs n i j) ∧ Below w.heap.size w wr) (fun q _ => n - (intOf q).toNat)
      case atStart => exact ⟨0, Nat.zero_le _, rfl, HO.out, hb⟩
      case round =>
        clear HO hb hcx
        obtain ⟨j, hjn, rfl, hown, hb⟩ := hrel
        by_cases hj : j < n
        · obtain ⟨ad2, y, hade, hy, hcy⟩ := (h.below hb).at_ (k := j) (by rw [Hn.out]; exact hj)
          obtain rfl : ad2 = ad := by injection hade with e; exact e.symm
          clear hade
          have hf : fOf zs i j = (j != i && partB y x) := by unfold fOf; rw [getD_at hx.out, getD_at hy.out]
          by_cases hji : j = i
          · subst hji
            have HR : Hid (wr.ownsRow w.heap.size 51 1 (.slice (some ⟨w.heap.size, 0, none⟩) n n) n (rowP zs n j (j + 1))) := by rw [rowP_stay (by rw [hf]; simp)]; exact hown
            have hbe : ((j : Int) != (j : Int)) = false := by simp
            clear hown hf
            go_wp2
            go_roundw
            case rel => exact ⟨j + 1, by omega, by go_num, HR.out, hb⟩
            case measure => simp [intOf]; omega
          · have hbe : ((j : Int) != (i : Int)) = true := by rw [bne_iff_ne]; omega
            have hbn : (j != i) = true := by rw [bne_iff_ne]; exact hji
            rw [hbn, Bool.true_and] at hf
            clear hbn
            cases hp : partB y x
            · have HR : Hid (wr.ownsRow w.heap.size 51 1 (.slice (some ⟨w.heap.size, 0, none⟩) n n) n (rowP zs n i (j + 1))) := by rw [rowP_stay (by rw [hf]; exact hp)]; exact hown
              clear hown hf
              go_wp2_with (go_at_call 71; refine (isPartOf_any _ _ _).mono ?_; rintro e w' ⟨rfl, rfl⟩)
              go_roundw
              case rel => exact ⟨j + 1, by omega, by go_num, HR.out, hb⟩
              case measure => simp [intOf]; omega
            · have hd := (hown.cellAt i (by omega)).trans (rowP_get hlt)
              have hfz := hown.frozenAt i
              have hst := (hown.stored i (.int .u64 (mk zs i (j + 1) : Int))).1
              rw [rowP_set hlt, mk_yes (hf.trans hp)] at hst
              have HR := Lib.hid hst
              have HB := Lib.hid (hb.setCell (p := ⟨w.heap.size, i, none⟩) (Nat.le_refl _) (.int .u64 ((mk zs i j ||| 2 ^ j : Nat) : Int)))
              have Hlt := Lib.hid (mask_lt64 (fOf zs i) (k := j) (by omega))
              obtain ⟨mm, hmm⟩ : ∃ mm, mk zs i j = mm := ⟨_, rfl⟩
              rw [hmm] at hd HR HB
              have Hlt2 : Hid (mm < 2 ^ 64) := by rw [← hmm]; exact Hlt.out
              clear hst hown hf Hlt hmm
              go_wp2_with (first
                | (go_at_call 71; refine (isPartOf_any _ _ _).mono ?_; rintro e w' ⟨rfl, rfl⟩)
                | (go_at_call 59; refine (plWith_any mm j Hlt2.out (by omega) _).mono ?_; rintro e w' ⟨rfl, rfl⟩))
              go_roundw
              case rel => exact ⟨j + 1, by omega, by go_num, HR.out, HB.out⟩
              case measure => simp [intOf]; omega
        · have hjn2 : j = n := by omega
          subst hjn2
          rw [rowP_next] at hown
          have HO := Lib.hid hown
          clear hown
          go_wp2
          go_roundw
          case rel => exact ⟨i + 1, by omega, by go_num, HO.out, hb⟩
          case measure => simp [intOf]; omega
    · have hin2 : i = n := by omega
      subst hin2
      go_wp2
      go_ret
      exact ⟨rfl, hown, hb⟩
end Go.Proofs.Ytpgokcilnejolaa
