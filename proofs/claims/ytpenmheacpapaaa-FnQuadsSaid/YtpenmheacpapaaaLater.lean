/-
  Calls in a region that draws its order and makes memory: one walk over the class of the later worlds (only new blocks differ). BandWidths and PlacesOf where the line does not fit; total over wide bands.
-/
import Derived.Test.YtpenmheacpapaaaWider
import Derived.Test.YtpenmheacpapaaaPlaces
import Derived.Test.YtpenmheacpapaaaFullI
import Derived.Outline
namespace Go.Proofs.Ytpenmheacpapaaa
open Go.RowKit
set_option linter.unusedVariables false


theorem full_later {W t k : Int} {A : Option Addr} {n c g : Nat} {zs : List Int} {b : Bool} {w0 : World} (hn : zs.length = n) (hm : n ≤ maxLen) (hI : IntsB w0 g A zs) (hg : g ≤ w0.heap.size) (h : fullB ⟨W, t, k⟩ zs = b) (x : Later w0) :
    Calls Try.prog 40 #[.agg #[.int .i64 W, .int .i64 t, .int .i64 k], .slice A n c] x.at_ fun e w' => e = .returned (.bool b) ∧ ∃ y : Later w0, w' = y.at_ := by
  refine (implIsFull_any W t k A n c zs _ hn hm (hI.keep hg x.bel).ints).mono ?_
  rintro e w3 ⟨rfl, hb⟩
  exact ⟨by rw [h], ⟨_, x.bel.trans (hb.mono x.bel.size)⟩, rfl⟩
theorem total_later {A : Option Addr} {n c g : Nat} {zs : List Int} {w0 : World} (hn : zs.length = n) (hI : IntsB w0 g A zs) (hg : g ≤ w0.heap.size) (hl : lineB zs = true) (x : Later w0) :
    Calls Try.prog 27 #[.slice A n c] x.at_ fun e w' => e = .returned (.int .i64 (sumL zs)) ∧ ∃ y : Later w0, w' = y.at_ := by
  refine (lawTotal_any A n c zs _ hn (hI.keep hg x.bel).ints hl).mono ?_
  rintro e w3 ⟨rfl, rfl⟩
  exact ⟨rfl, x, rfl⟩
theorem count_later {A : Option Addr} {n c g : Nat} {zs : List Int} {w0 : World} (hn : zs.length = n) (hm : n ≤ maxLen) (hI : IntsB w0 g A zs) (hg : g ≤ w0.heap.size) (x : Later w0) :
    Calls Try.prog 62 #[.slice A n c, .int .i64 0] x.at_ fun e w' => e = .returned (.int .i64 (bandsN zs : Int)) ∧ ∃ y : Later w0, w' = y.at_ := by
  refine (lawCount_any A n c zs 0 _ hn hm (hI.keep hg x.bel).ints).mono ?_
  rintro e w3 ⟨rfl, rfl⟩
  exact ⟨by rw [cntOf_bands], x, rfl⟩

/-- total over numbers of which each sum from the first on is small -/
theorem lawTotalB_any (A : Option Addr) (n c : Nat) (zs : List Int) (w : World) (hn : zs.length = n) (hm : n ≤ 122) (h : Ints w A zs) (hz : ∀ x ∈ zs, 0 ≤ x ∧ x ≤ 101) (hs : ∀ k, 0 ≤ sumL (zs.take k) ∧ sumL (zs.take k) ≤ 1000000) :
    Calls Try.prog 27 #[.slice A n c] w fun e w' => e = .returned (.int .i64 (sumL zs)) ∧ w = w' := by
  have HZ := Lib.hid hz
  have HL := Lib.hid hs
  have Hn := Lib.hid hn
  clear hz hs hn
  go_enter Try.func27, Try.ntmps27
  go_wp2
  go_loop [3, 8] (fun s i => ∃ k : Nat, k ≤ n ∧ i = .int .i64 k ∧ s = .int .i64 (sumL (zs.take k))) (fun _ i => n - (intOf i).toNat)
  case atStart => exact ⟨0, Nat.zero_le _, rfl, rfl⟩
  case round =>
    obtain ⟨k, hk, rfl, rfl⟩ := hrel
    by_cases hlt : k < n
    · obtain ⟨ad, x, rfl, hx, hc⟩ := h.at_ (k := k) (by rw [Hn.out]; exact hlt)
      have HS := Lib.hid (sumL_at hx.out)
      have hb1 := HL.out k
      have hx2 := HZ.out x (mem_at hx.out)
      obtain ⟨sm, hsm⟩ : ∃ s, sumL (zs.take k) = s := ⟨_, rfl⟩
      rw [hsm] at HS hb1 ⊢
      clear hsm
      go_wp2
      go_round
      case rel => exact ⟨k + 1, by omega, by go_num, by rw [HS.out]⟩
      case measure => simp [intOf]; omega
    · have hkn : k = n := by omega
      subst hkn
      rw [take_all Hn.out]
      go_wp2
      go_ret
      exact ⟨rfl, rfl⟩
theorem bandL_take (a e : Int) (n k : Nat) : (bandL a e n).take k = bandL a e (min k n) := by
  unfold bandL; rw [← List.map_take, List.take_range]
theorem bandL_sum {a e : Int} (he : 0 ≤ e) : ∀ n : Nat, sumL (bandL a e n) = (n : Int) * a + min e (n : Int)
  | 0 => by simp [bandL, sumL]; omega
  | n + 1 => by
    rw [bandL_succ, sumL_append, bandL_sum he n]
    have h3 : ((n + 1 : Nat) : Int) * a = (n : Int) * a + a := by rw [Int.natCast_add, Int.add_mul]; simp
    rw [h3]
    unfold bandW
    simp only [sumL]
    generalize (n : Int) * a = y
    split <;> omega
theorem bandL_items {a e : Int} (h0 : 0 ≤ a) (h1 : a ≤ 100) (n : Nat) : ∀ x ∈ bandL a e n, 0 ≤ x ∧ x ≤ 101 := fun x hx => by
  unfold bandL at hx
  obtain ⟨j, _, rfl⟩ := List.mem_map.1 hx
  exact bandW_bound h0 h1
theorem bandL_small {a e : Int} (h0 : 0 ≤ a) (h1 : a ≤ 100) (he : 0 ≤ e) {n : Nat} (hn : n ≤ 122) (k : Nat) : 0 ≤ sumL ((bandL a e n).take k) ∧ sumL ((bandL a e n).take k) ≤ 1000000 := by
  rw [bandL_take, bandL_sum he]
  have m1 : 0 ≤ ((min k n : Nat) : Int) * a := Int.mul_nonneg (by omega) h0
  have m2 : ((min k n : Nat) : Int) * a ≤ 122 * 100 := Int.mul_le_mul (by omega) h1 h0 (by omega)
  omega
theorem totalB_quiet {A : Option Addr} {n c k : Nat} {a e : Int} {w : World} (hm : n ≤ 122) (h0 : 0 ≤ a) (h1 : a ≤ 100) (he : 0 ≤ e) (h : Ints w A (bandL a e n)) :
    Calls Try.prog 27 #[.slice A n c] (w.drewN k) fun e' w'' => e' = .returned (.int .i64 (sumL (bandL a e n))) ∧ ∃ m, w'' = w.drewN m := by
  have h' : Ints (w.drewN k) A (bandL a e n) := h
  refine (lawTotalB_any A n c _ _ (bandL_len _ _ _) hm h' (bandL_items h0 h1 n) (bandL_small h0 h1 he hm)).mono ?_
  rintro e' w' ⟨rfl, rfl⟩
  exact ⟨rfl, k, rfl⟩
theorem total_quiet {A : Option Addr} {n c k : Nat} {zs : List Int} {w : World} (hn : zs.length = n) (hl : lineB zs = true) (h : Ints w A zs) :
    Calls Try.prog 27 #[.slice A n c] (w.drewN k) fun e' w'' => e' = .returned (.int .i64 (sumL zs)) ∧ ∃ m, w'' = w.drewN m := by
  have h' : Ints (w.drewN k) A zs := h
  refine (lawTotal_any A n c _ _ hn h' hl).mono ?_
  rintro e' w' ⟨rfl, rfl⟩
  exact ⟨rfl, k, rfl⟩
end Go.Proofs.Ytpenmheacpapaaa
