/-
  Contracts and plain mathematics (In, List, LineM, LineA, Box, Load, Rise, WordM, Cut, SetM, SetL, BrkM, EndsM, Ends, Cur, Cm, EachM), each with its conditions in its own statement.
-/
import Derived.Test.YtimhnkpccbcohaaGreatDoorRows
import Derived.WalkKit
import Derived.WalkSpells
import Derived.BigQuiet
import Derived.Test.YtimhnkpccbcohaaGreatDoorPkA
import Derived.Outline
import Derived.Deep.RegionHeld3
import Derived.Deep.RegionWith
import Derived.RangeFuncNested
import Derived.RangeFuncBound
import Derived.RangeFuncCalls
import Derived.RangeFuncLeaves
import Derived.Shelf.Abstract
import Derived.Shelf.RegionOpen
import Derived.OwnWalkIn
import Derived.TacticsInMore
import Derived.LoopNIn
import Derived.LoopIn
namespace Go.Proofs.YtimhnkpccbcohaaGreatDoor
open Go.RowKit

def inB (x a b : Int) : Bool := decide (a ≤ x ∧ x ≤ b)

theorem l1In_any (x a b : Int) (w : World) : Calls Tryz.prog 64 #[.int .i64 x, .int .i64 a, .int .i64 b] w fun e w' => e = .returned (.bool (inB x a b)) ∧ w = w' := by
  by_cases h1 : a ≤ x
  · by_cases h2 : x ≤ b
    · have hr : inB x a b = true := by simp [inB, h1, h2]
      rw [hr]; clear hr
      go_enter Tryz.func64, Tryz.ntmps64
      go_wp2
      go_ret
      exact ⟨rfl, rfl⟩
    · have hr : inB x a b = false := by simp [inB, h2]
      rw [hr]; clear hr
      go_enter Tryz.func64, Tryz.ntmps64
      go_wp2
      go_ret
      exact ⟨rfl, rfl⟩
  · have hr : inB x a b = false := by simp [inB, h1]
    rw [hr]; clear hr
    go_enter Tryz.func64, Tryz.ntmps64
    go_wp2
    go_ret
    exact ⟨rfl, rfl⟩
end Go.Proofs.YtimhnkpccbcohaaGreatDoor

namespace Go.Proofs.YtimhnkpccbcohaaGreatDoor
open Go.RowKit
set_option linter.unusedVariables false

theorem all_take {p : Int → Bool} {zs : List Int} {k : Nat} {x : Int} (h : zs[k]? = some x) : (zs.take (k + 1)).all p = ((zs.take k).all p && p x) := by
  rw [take_at h]; simp
theorem all_bad {p : Int → Bool} {zs : List Int} {k : Nat} {x : Int} (h : zs[k]? = some x) (hb : p x = false) : zs.all p = false := by
  rw [List.all_eq_false]
  exact ⟨x, mem_at h, by rw [hb]; simp⟩

set_option maxHeartbeats 800000 in
theorem isListOf_any (F : Nat) (hF : ∀ (args : Array Value) (w : World), Sem.run Tryz.prog (callFunc F args) w = .ok (.enter F args) w) (p : Int → Bool) (hp : ∀ (x : Int) (w : World), Calls Tryz.prog F #[.int .i64 x] w fun e w' => e = .returned (.bool (p x)) ∧ w = w')
    (A : Option Addr) (n c : Nat) (zs : List Int) (lo hi : Int) (w : World) (hn : zs.length = n) (hm : n ≤ maxLen) (h : Ints w A zs) :
    Calls Tryz.prog 132 #[.slice A n c, .int .i64 lo, .int .i64 hi, .func (.func F) #[] #[]] w fun e w' => e = .returned (.bool (inB n lo hi && zs.all p)) ∧ w = w' := by
  unfold maxLen at hm
  have Hn := Lib.hid hn; clear hn
  by_cases hlo : (n : Int) < lo
  · have H0 : Hid (inB n lo hi = false) := by show _ = _; unfold inB; rw [decide_eq_false_iff_not]; omega
    go_enter Tryz.func132, Tryz.ntmps132
    go_wp2
    go_ret
    exact ⟨ret_bool (by rw [H0.out]; rfl), rfl⟩
  by_cases hhi : hi < (n : Int)
  · have H0 : Hid (inB n lo hi = false) := by show _ = _; unfold inB; rw [decide_eq_false_iff_not]; omega
    go_enter Tryz.func132, Tryz.ntmps132
    go_wp2
    go_ret
    exact ⟨ret_bool (by rw [H0.out]; rfl), rfl⟩
  have H1 : Hid (inB n lo hi = true) := by show _ = _; unfold inB; rw [decide_eq_true_eq]; omega
  go_enter Tryz.func132, Tryz.ntmps132
  go_wp2
  go_loop [23] (fun i => ∃ k : Nat, k ≤ n ∧ i = .int .i64 k ∧ (zs.take k).all p = true) (fun i => n - (intOf i).toNat)
  case atStart => exact ⟨0, Nat.zero_le _, rfl, rfl⟩
  case round =>
    obtain ⟨k, hk, rfl, hall⟩ := hrel
    have Hall := Lib.hid hall; clear hall
    by_cases hlt : k < n
    · obtain ⟨ad, x, rfl, hx, hc⟩ := h.at_ (k := k) (by rw [Hn.out]; exact hlt)
      cases hs : p x
      · have Hb := Lib.hid (all_bad hx.out hs)
        go_wp2_with fail
        refine (hp _ _).mono ?_
        rintro e w' ⟨rfl, rfl⟩
        rw [hs]
        go_wp2
        go_ret
        exact ⟨ret_bool (by rw [Hb.out]; simp), rfl⟩
      · have Hs := Lib.hid (all_take (p := p) hx.out)
        go_wp2_with fail
        refine (hp _ _).mono ?_
        rintro e w' ⟨rfl, rfl⟩
        rw [hs]
        go_wp2
        go_round
        case rel => exact ⟨k + 1, by omega, by go_num, by rw [Hs.out, Hall.out, hs]; rfl⟩
        case measure => simp [intOf]; omega
    · have hkn : k = n := by omega
      subst hkn
      go_wp2
      go_ret
      refine ⟨ret_bool ?_, rfl⟩
      have := Hall.out
      rw [take_all Hn.out] at this
      rw [this, H1.out]; rfl

theorem isWidth_any (x : Int) (w : World) : Calls Tryz.prog 133 #[.int .i64 x] w fun e w' => e = .returned (.bool (inB x 1 60)) ∧ w = w' := by
  by_cases h1 : 1 ≤ x
  · by_cases h2 : x ≤ 60
    · have hr : inB x 1 60 = true := by simp [inB, h1, h2]
      rw [hr]; clear hr
      go_enter Tryz.func133, Tryz.ntmps133
      go_wp2
      go_ret
      exact ⟨rfl, rfl⟩
    · have hr : inB x 1 60 = false := by simp [inB, h2]
      rw [hr]; clear hr
      go_enter Tryz.func133, Tryz.ntmps133
      go_wp2
      go_ret
      exact ⟨rfl, rfl⟩
  · have hr : inB x 1 60 = false := by simp [inB, h1]
    rw [hr]; clear hr
    go_enter Tryz.func133, Tryz.ntmps133
    go_wp2
    go_ret
    exact ⟨rfl, rfl⟩
end Go.Proofs.YtimhnkpccbcohaaGreatDoor

namespace Go.Proofs.YtimhnkpccbcohaaGreatDoor
open Go.RowKit
set_option linter.unusedVariables false

def sumL : List Int → Int
  | [] => 0
  | x :: xs => x + sumL xs
def bandsN : List Int → Nat
  | [] => 0
  | x :: xs => (if x = 0 then 1 else 0) + bandsN xs
theorem sumL_append (xs ys : List Int) : sumL (xs ++ ys) = sumL xs + sumL ys := by
  induction xs with
  | nil => simp [sumL]
  | cons x xs ih => simp only [List.cons_append, sumL, ih]; omega
theorem bandsN_append (xs ys : List Int) : bandsN (xs ++ ys) = bandsN xs + bandsN ys := by
  induction xs with
  | nil => simp [bandsN]
  | cons x xs ih => simp only [List.cons_append, bandsN, ih]; omega
theorem bandsN_le (xs : List Int) : bandsN xs ≤ xs.length := by
  induction xs with
  | nil => simp [bandsN]
  | cons x xs ih => simp only [bandsN, List.length_cons]; split <;> omega
theorem sumL_at {zs : List Int} {k : Nat} {x : Int} (h : zs[k]? = some x) : sumL (zs.take (k + 1)) = sumL (zs.take k) + x := by
  rw [take_at h, sumL_append]; simp [sumL]
theorem bandsN_at {zs : List Int} {k : Nat} {x : Int} (h : zs[k]? = some x) : bandsN (zs.take (k + 1)) = bandsN (zs.take k) + (if x = 0 then 1 else 0) := by
  rw [take_at h, bandsN_append]; simp [bandsN]
theorem bandsN_take (zs : List Int) (k : Nat) : bandsN (zs.take k) ≤ bandsN zs := by
  have := bandsN_append (zs.take k) (zs.drop k)
  rw [List.take_append_drop] at this; omega
theorem sumL_bound {zs : List Int} (h : ∀ x ∈ zs, 0 ≤ x ∧ x ≤ 60) : 0 ≤ sumL zs ∧ sumL zs ≤ 60 * (zs.length : Int) := by
  induction zs with
  | nil => simp [sumL]
  | cons x xs ih =>
    have h1 := h x (List.mem_cons_self)
    have h2 := ih (fun y hy => h y (List.mem_cons_of_mem _ hy))
    simp only [sumL, List.length_cons]; omega

/-- a measure: width, thin, thick -/
structure Msr where
  w : Int
  t : Int
  k : Int
def msrB (m : Msr) : Bool := inB m.w 1 2000 && (inB m.t 1 100 && inB m.k m.t 100)
theorem inB_true {x a b : Int} (h : inB x a b = true) : a ≤ x ∧ x ≤ b := by unfold inB at h; exact of_decide_eq_true h
theorem inB_false {x a b : Int} (h : inB x a b = false) : ¬ (a ≤ x ∧ x ≤ b) := by unfold inB at h; exact of_decide_eq_false h
theorem msrB_iff {m : Msr} : msrB m = true ↔ 1 ≤ m.w ∧ m.w ≤ 2000 ∧ 1 ≤ m.t ∧ m.t ≤ m.k ∧ m.k ≤ 100 := by
  unfold msrB
  constructor
  · intro h
    rw [Bool.and_eq_true, Bool.and_eq_true] at h
    have h1 := inB_true h.1; have h2 := inB_true h.2.1; have h3 := inB_true h.2.2
    omega
  · intro h
    rw [Bool.and_eq_true, Bool.and_eq_true]
    unfold inB
    exact ⟨decide_eq_true (by omega), decide_eq_true (by omega), decide_eq_true (by omega)⟩
def itemB (x : Int) : Bool := inB x 0 60
def itemsB (zs : List Int) : Bool := zs.all itemB
def lineB (zs : List Int) : Bool := itemsB zs && decide (zs.length ≤ 120)
theorem itemsB_mem {zs : List Int} (h : itemsB zs = true) : ∀ x ∈ zs, 0 ≤ x ∧ x ≤ 60 := fun x hx => by
  unfold itemsB at h
  rw [List.all_eq_true] at h
  exact inB_true (h x hx)
theorem lineB_parts {zs : List Int} (h : lineB zs = true) : (∀ x ∈ zs, 0 ≤ x ∧ x ≤ 60) ∧ zs.length ≤ 120 := by
  unfold lineB at h
  rw [Bool.and_eq_true] at h
  exact ⟨itemsB_mem h.1, of_decide_eq_true h.2⟩
theorem lineB_take {zs : List Int} (h : lineB zs = true) (k : Nat) : 0 ≤ sumL (zs.take k) ∧ sumL (zs.take k) ≤ 7200 ∧ bandsN (zs.take k) ≤ 120 := by
  obtain ⟨h1, h2⟩ := lineB_parts h
  have h3 := sumL_bound (zs := zs.take k) (fun x hx => h1 x (List.mem_of_mem_take hx))
  have h4 := bandsN_le (zs.take k)
  rw [List.length_take] at h3 h4
  omega
theorem lineB_sum {zs : List Int} (h : lineB zs = true) : 0 ≤ sumL zs ∧ sumL zs ≤ 7200 ∧ bandsN zs ≤ 120 := by
  have := lineB_take h zs.length
  rwa [List.take_length] at this
theorem itemsB_take {zs : List Int} {k : Nat} {x : Int} (h : zs[k]? = some x) : itemsB (zs.take (k + 1)) = (itemsB (zs.take k) && itemB x) := by
  unfold itemsB; rw [take_at h]; simp
theorem itemsB_bad {zs : List Int} {k : Nat} {x : Int} (h : zs[k]? = some x) (hb : itemB x = false) : itemsB zs = false := by
  unfold itemsB
  rw [List.all_eq_false]
  exact ⟨x, mem_at h, by rw [hb]; simp⟩

/-- what a load asks: L for the letters, B bands, e for each -/
def widF (L : Int) (B : Nat) (e : Int) : Int := L + B * e
def riseF (m : Msr) (L : Int) (B : Nat) : Int := if B = 0 then 0 else min (m.k - m.t) ((m.w - widF L B m.t).tdiv B)
def restF (m : Msr) (L : Int) (B : Nat) : Int := m.w - widF L B (m.t + riseF m L B)
def fullF (m : Msr) (L : Int) (B : Nat) : Bool := restF m L B == 0 || decide (restF m L B < B)
/-- the rise of a load that fits: the greatest that has room -/
theorem riseF_spec {m : Msr} {L : Int} {B : Nat} (hm : msrB m = true) (hf : widF L B m.t ≤ m.w) : 0 ≤ riseF m L B ∧ riseF m L B ≤ m.k - m.t ∧ 0 ≤ restF m L B ∧ (B = 0 → riseF m L B = 0) ∧ (0 < B → riseF m L B < m.k - m.t → restF m L B < B) := by
  rw [msrB_iff] at hm
  unfold restF riseF
  by_cases hb : B = 0
  · have hb0 : (B : Int) = 0 := by omega
    rw [if_pos hb]
    simp only [widF, hb0, Int.zero_mul, Int.add_zero] at hf ⊢
    exact ⟨by omega, by omega, by omega, fun _ => trivial, fun h => by omega⟩
  · rw [if_neg hb]
    obtain ⟨R, hR⟩ : ∃ R, m.w - widF L B m.t = R := ⟨_, rfl⟩
    have hR0 : 0 ≤ R := by omega
    have hbp : (0 : Int) < (B : Int) := by omega
    rw [hR, Int.tdiv_eq_ediv_of_nonneg hR0]
    have hq0 : 0 ≤ R / (B : Int) := Int.ediv_nonneg hR0 (by omega)
    have hq1 : (B : Int) * (R / (B : Int)) ≤ R := Int.mul_ediv_self_le (by omega)
    have hq2 : R < (B : Int) * (R / (B : Int)) + (B : Int) := Int.lt_mul_ediv_self_add hbp
    have hW : ∀ r : Int, m.w - widF L B (m.t + r) = R - (B : Int) * r := fun r => by
      unfold widF at *
      rw [Int.mul_add]; omega
    rw [hW]
    generalize R / (B : Int) = q at *
    by_cases hle : m.k - m.t ≤ q
    · rw [Int.min_eq_left hle]
      have : (B : Int) * (m.k - m.t) ≤ (B : Int) * q := Int.mul_le_mul_of_nonneg_left hle (by omega)
      exact ⟨by omega, by omega, by omega, fun h => absurd h hb, fun _ h => by omega⟩
    · rw [Int.min_eq_right (by omega)]
      exact ⟨by omega, by omega, by omega, fun h => absurd h hb, fun _ _ => by omega⟩
theorem riseF_is {m : Msr} {L : Int} {B : Nat} (hm : msrB m = true) (hf : widF L B m.t ≤ m.w) {r : Int} (h0 : 0 ≤ r) (h1 : r ≤ m.k - m.t) (h2 : 0 ≤ m.w - widF L B (m.t + r)) (h3 : B = 0 → r = 0) (h4 : 0 < B → r < m.k - m.t → m.w - widF L B (m.t + r) < B) : riseF m L B = r := by
  obtain ⟨p0, p1, p2, p3, p4⟩ := riseF_spec hm hf
  unfold restF at p2 p4
  by_cases hb : B = 0
  · rw [p3 hb, h3 hb]
  · have hbp : (0 : Int) < (B : Int) := by omega
    have hlin : ∀ a b : Int, a < b → widF L B (m.t + a) + B ≤ widF L B (m.t + b) := fun a b hab => by
      unfold widF
      have e1 : (B : Int) * (m.t + b) = (B : Int) * (m.t + a) + (B : Int) * (b - a) := by rw [← Int.mul_add]; congr 1; omega
      have e2 : (B : Int) * 1 ≤ (B : Int) * (b - a) := Int.mul_le_mul_of_nonneg_left (by omega) (by omega)
      omega
    rcases Int.lt_trichotomy (riseF m L B) r with hlt | he | hgt
    · have := hlin _ _ hlt
      have := p4 (by omega) (by omega)
      omega
    · exact he
    · have := hlin _ _ hgt
      have := h4 (by omega) (by omega)
      omega

/-- the width of all items with e for each band -/
def widL (zs : List Int) (e : Int) : Int := widF (sumL zs) (bandsN zs) e
def fitL (m : Msr) (zs : List Int) : Bool := decide (widL zs m.t ≤ m.w)
/-- a line that fits -/
def fitsB (m : Msr) (zs : List Int) : Bool := lineB zs && fitL m zs
def goodB (m : Msr) (zs : List Int) : Bool := msrB m && fitsB m zs
def riseL (m : Msr) (zs : List Int) : Int := riseF m (sumL zs) (bandsN zs)
def restL (m : Msr) (zs : List Int) : Int := restF m (sumL zs) (bandsN zs)
def fullL (m : Msr) (zs : List Int) : Bool := fullF m (sumL zs) (bandsN zs)
def fullB (m : Msr) (zs : List Int) : Bool := goodB m zs && fullL m zs

theorem goodB_parts {m : Msr} {zs : List Int} (h : goodB m zs = true) : msrB m = true ∧ lineB zs = true ∧ widL zs m.t ≤ m.w := by
  unfold goodB fitsB fitL at h
  simp only [Bool.and_eq_true, decide_eq_true_eq] at h
  exact ⟨h.1, h.2.1, h.2.2⟩
theorem rise_spec {m : Msr} {zs : List Int} (h : goodB m zs = true) : 0 ≤ riseL m zs ∧ riseL m zs ≤ m.k - m.t ∧ 0 ≤ restL m zs ∧ (bandsN zs = 0 → riseL m zs = 0) ∧ (0 < bandsN zs → riseL m zs < m.k - m.t → restL m zs < bandsN zs) := by
  obtain ⟨hm, hl, hf⟩ := goodB_parts h
  exact riseF_spec hm hf
/-- bands of at most 120 at a width of at most 101 -/
theorem mul_small {B e : Int} (h0 : 0 ≤ B) (h1 : B ≤ 120) (h2 : 0 ≤ e) (h3 : e ≤ 101) : 0 ≤ B * e ∧ B * e ≤ 12120 := by
  refine ⟨Int.mul_nonneg h0 h2, ?_⟩
  have : B * e ≤ 120 * 101 := Int.mul_le_mul h1 h3 h2 (by omega)
  omega

theorem mul_wide {B e : Int} (h0 : 0 ≤ B) (h1 : B ≤ 120) (h2 : -2000100 ≤ e) (h3 : e ≤ 101) : -240012000 ≤ B * e ∧ B * e ≤ 12120 := by
  by_cases he : 0 ≤ e
  · have := mul_small h0 h1 he h3
    omega
  · obtain ⟨y, rfl⟩ : ∃ y, e = -y := ⟨-e, by omega⟩
    have e1 : B * y ≤ 120 * 2000100 := Int.mul_le_mul h1 (by omega) (by omega) (by omega)
    have e2 : 0 ≤ B * y := Int.mul_nonneg h0 (by omega)
    rw [Int.mul_neg]; omega

/-- the width of band j if e of them are wider by 1 -/
def bandW (a e : Int) (j : Nat) : Int := a + (if (j : Int) < e then 1 else 0)
def bandL (a e : Int) (n : Nat) : List Int := (List.range n).map (bandW a e)
theorem bandL_len (a e : Int) (n : Nat) : (bandL a e n).length = n := by simp [bandL]
theorem bandL_succ (a e : Int) (n : Nat) : bandL a e (n + 1) = bandL a e n ++ [bandW a e n] := by simp [bandL, List.range_succ]
theorem bandL_get (a e : Int) {n j : Nat} (h : j < n) : (bandL a e n)[j]? = some (bandW a e j) := by simp [bandL, h]
/-- how many bands are wider by 1 -/
def moreL (m : Msr) (zs : List Int) : Int := if fullL m zs then restL m zs else 0
def bandsL (m : Msr) (zs : List Int) : List Int := if goodB m zs then bandL (m.t + riseL m zs) (moreL m zs) (bandsN zs) else []
/-- the width of item k -/
def wideW (a e : Int) (zs : List Int) (k : Nat) : Int := if zs.getD k 0 = 0 then bandW a e (bandsN (zs.take k)) else zs.getD k 0
def wideL (a e : Int) (zs : List Int) (k : Nat) : List Int := (List.range k).map (wideW a e zs)
theorem wideL_len (a e : Int) (zs : List Int) (k : Nat) : (wideL a e zs k).length = k := by simp [wideL]
theorem wideL_succ (a e : Int) (zs : List Int) (k : Nat) : wideL a e zs (k + 1) = wideL a e zs k ++ [wideW a e zs k] := by simp [wideL, List.range_succ]
theorem wideL_get (a e : Int) (zs : List Int) {n j : Nat} (h : j < n) : (wideL a e zs n)[j]? = some (wideW a e zs j) := by simp [wideL, h]
theorem wideW_band {a e : Int} {zs : List Int} {k : Nat} (h : zs[k]? = some 0) : wideW a e zs k = bandW a e (bandsN (zs.take k)) := by
  unfold wideW; rw [getD_at h, if_pos rfl]
theorem wideW_item {a e : Int} {zs : List Int} {k : Nat} {x : Int} (h : zs[k]? = some x) (hx : x ≠ 0) : wideW a e zs k = x := by
  unfold wideW; rw [getD_at h, if_neg hx]
/-- how far the left side of item k is from the left side of the line -/
def leftW (a e : Int) (zs : List Int) (k : Nat) : Int := sumL (wideL a e zs k)
theorem leftW_succ (a e : Int) (zs : List Int) (k : Nat) : leftW a e zs (k + 1) = leftW a e zs k + wideW a e zs k := by
  unfold leftW; rw [wideL_succ, sumL_append]; simp [sumL]
def leftL (a e : Int) (zs : List Int) (k : Nat) : List Int := (List.range k).map (leftW a e zs)
theorem leftL_len (a e : Int) (zs : List Int) (k : Nat) : (leftL a e zs k).length = k := by simp [leftL]
theorem leftL_succ (a e : Int) (zs : List Int) (k : Nat) : leftL a e zs (k + 1) = leftL a e zs k ++ [leftW a e zs k] := by simp [leftL, List.range_succ]
def placesL (m : Msr) (zs : List Int) : List Int := if goodB m zs then leftL (m.t + riseL m zs) (moreL m zs) zs zs.length else []
theorem placesL_len (m : Msr) (zs : List Int) : (placesL m zs).length ≤ zs.length := by
  unfold placesL; split
  · rw [leftL_len]; exact Nat.le_refl _
  · simp
theorem bandsL_len (m : Msr) (zs : List Int) : (bandsL m zs).length ≤ zs.length := by
  unfold bandsL; split
  · rw [bandL_len]; exact bandsN_le zs
  · simp
theorem more_bound {m : Msr} {zs : List Int} (h : goodB m zs = true) : 0 ≤ moreL m zs ∧ moreL m zs ≤ 2000 := by
  obtain ⟨hm, hl, hf⟩ := goodB_parts h
  obtain ⟨p0, p1, p2, p3, p4⟩ := rise_spec h
  have hs := lineB_sum hl
  rw [msrB_iff] at hm
  unfold moreL
  split
  · refine ⟨p2, ?_⟩
    unfold restL restF widF
    have : 0 ≤ (bandsN zs : Int) * (m.t + riseF m (sumL zs) (bandsN zs)) := Int.mul_nonneg (by omega) (by unfold riseL at p0; omega)
    omega
  · omega
theorem bandW_bound {a e : Int} {j : Nat} (h0 : 0 ≤ a) (h1 : a ≤ 100) : 0 ≤ bandW a e j ∧ bandW a e j ≤ 101 := by
  unfold bandW; split <;> omega
theorem wideW_bound {a e : Int} {zs : List Int} (h0 : 0 ≤ a) (h1 : a ≤ 100) (hz : ∀ x ∈ zs, 0 ≤ x ∧ x ≤ 60) (k : Nat) : 0 ≤ wideW a e zs k ∧ wideW a e zs k ≤ 101 := by
  unfold wideW
  split
  · exact bandW_bound h0 h1
  · rename_i hne
    by_cases hk : k < zs.length
    · have := hz zs[k] (List.getElem_mem hk)
      have e : zs.getD k 0 = zs[k] := by simp [List.getD, hk]
      rw [e]; omega
    · exact absurd (by simp [List.getD, List.getElem?_eq_none (Nat.le_of_not_lt hk)]) hne
theorem leftW_bound {a e : Int} {zs : List Int} (h0 : 0 ≤ a) (h1 : a ≤ 100) (hz : ∀ x ∈ zs, 0 ≤ x ∧ x ≤ 60) : ∀ k : Nat, 0 ≤ leftW a e zs k ∧ leftW a e zs k ≤ 101 * (k : Int)
  | 0 => by simp [leftW, wideL, sumL]
  | k + 1 => by
    have h2 := leftW_bound (e := e) h0 h1 hz k
    have h3 := wideW_bound (e := e) h0 h1 hz k
    rw [leftW_succ]; omega
theorem riseThin {m : Msr} {zs : List Int} (h : goodB m zs = true) : 0 ≤ m.t + riseL m zs ∧ m.t + riseL m zs ≤ 100 := by
  obtain ⟨hm, _, _⟩ := goodB_parts h
  obtain ⟨p0, p1, _⟩ := rise_spec h
  rw [msrB_iff] at hm
  omega

/-- what WidthsOf and SpreadLine return -/
def okB (m : Msr) (zs : List Int) : Bool := msrB m && lineB zs
def wid1 (m : Msr) (zs : List Int) : Int := if okB m zs then widL zs m.t else 0
def wid2 (m : Msr) (zs : List Int) : Int := if okB m zs then widL zs m.k else 0
def rise1 (m : Msr) (zs : List Int) : Int := if goodB m zs then riseL m zs else 0
def rest1 (m : Msr) (zs : List Int) : Int := if goodB m zs then restL m zs else 0
theorem wid_no {m : Msr} {zs : List Int} (h : msrB m = false ∨ lineB zs = false) : wid1 m zs = 0 ∧ wid2 m zs = 0 ∧ okB m zs = false := by
  have : okB m zs = false := by unfold okB; rcases h with h | h <;> rw [h] <;> simp
  unfold wid1 wid2
  rw [this]; simp
theorem wid_is {m : Msr} {zs : List Int} (h : msrB m = true) (h2 : lineB zs = true) : wid1 m zs = widL zs m.t ∧ wid2 m zs = widL zs m.k ∧ okB m zs = true := by
  have : okB m zs = true := by unfold okB; rw [h, h2]; rfl
  unfold wid1 wid2
  rw [this]; simp
theorem spr_no {m : Msr} {zs : List Int} (h : goodB m zs = false) : rise1 m zs = 0 ∧ rest1 m zs = 0 := by
  unfold rise1 rest1; rw [h]; simp
theorem spr_is {m : Msr} {zs : List Int} (h : goodB m zs = true) : rise1 m zs = riseL m zs ∧ rest1 m zs = restL m zs := by
  unfold rise1 rest1; rw [h]; simp
end Go.Proofs.YtimhnkpccbcohaaGreatDoor

namespace Go.Proofs.YtimhnkpccbcohaaGreatDoor
open Go.RowKit
set_option linter.unusedVariables false

theorem isFrom_any (a x b : Int) (w : World) : Calls Tryz.prog 77 #[.int .i64 a, .int .i64 x, .int .i64 b] w fun e w' => e = .returned (.bool (inB x a b)) ∧ w = w' := by
  by_cases h1 : a ≤ x
  · by_cases h2 : x ≤ b
    · have hr : inB x a b = true := by simp [inB, h1, h2]
      rw [hr]; clear hr
      go_enter Tryz.func77, Tryz.ntmps77
      go_wp2
      go_ret
      exact ⟨rfl, rfl⟩
    · have hr : inB x a b = false := by simp [inB, h2]
      rw [hr]; clear hr
      go_enter Tryz.func77, Tryz.ntmps77
      go_wp2
      go_ret
      exact ⟨rfl, rfl⟩
  · have hr : inB x a b = false := by simp [inB, h1]
    rw [hr]; clear hr
    go_enter Tryz.func77, Tryz.ntmps77
    go_wp2
    go_ret
    exact ⟨rfl, rfl⟩

theorem isItem_any (x : Int) (w : World) : Calls Tryz.prog 134 #[.int .i64 x] w fun e w' => e = .returned (.bool (itemB x)) ∧ w = w' := by
  by_cases h0 : x = 0
  · subst h0
    go_enter Tryz.func134, Tryz.ntmps134
    go_wp2
    go_ret
    exact ⟨rfl, rfl⟩
  · have hr : Hid (itemB x = inB x 1 60) := by
      show _ = _
      unfold itemB inB
      congr 1
      apply propext
      omega
    have h1 : (x == 0) = false := by simpa using h0
    clear h0
    go_enter Tryz.func134, Tryz.ntmps134
    go_wp2_with (go_at_call 133; refine (isWidth_any _ _).mono ?_; rintro e w' ⟨rfl, rfl⟩)
    go_ret
    exact ⟨ret_bool hr.out.symm, rfl⟩

theorem isItem_enter (args : Array Value) (w : World) : Sem.run Tryz.prog (callFunc 134 args) w = .ok (.enter 134 args) w := by kernel_rfl
theorem lineB_is {zs : List Int} {n : Nat} (hn : zs.length = n) : lineB zs = (inB n 0 120 && zs.all itemB) := by
  unfold lineB itemsB inB
  rw [hn, Bool.and_comm]
  congr 1
  rw [Bool.eq_iff_iff, decide_eq_true_eq, decide_eq_true_eq]
  omega

theorem implLineOk_any (A : Option Addr) (n c : Nat) (zs : List Int) (w : World) (hn : zs.length = n) (hm : n ≤ maxLen) (h : Ints w A zs) :
    Calls Tryz.prog 112 #[.slice A n c] w fun e w' => e = .returned (.bool (lineB zs)) ∧ w = w' := by
  have Hn := Lib.hid hn; clear hn
  go_enter Tryz.func112, Tryz.ntmps112
  go_wp2_with fail
  refine (isListOf_any 134 isItem_enter itemB isItem_any _ _ _ zs _ _ _ Hn.out hm h).mono ?_
  rintro e w' ⟨rfl, rfl⟩
  go_wp2
  go_ret
  exact ⟨ret_bool (lineB_is Hn.out).symm, rfl⟩

set_option maxHeartbeats 400000 in
theorem specLineOk_any (A : Option Addr) (n c : Nat) (zs : List Int) (w : World) (hn : zs.length = n) (hm : n ≤ maxLen) (h : Ints w A zs) :
    Calls Tryz.prog 106 #[.slice A n c] w fun e w' => e = .returned (.bool (lineB zs)) ∧ w = w' := by
  unfold maxLen at hm
  have Hn := Lib.hid hn; clear hn
  go_enter Tryz.func106, Tryz.ntmps106
  go_wp2
  go_loop [7] (fun i => ∃ k : Nat, k ≤ n ∧ i = .int .i64 k ∧ itemsB (zs.take k) = true) (fun i => n - (intOf i).toNat)
  case atStart => exact ⟨0, Nat.zero_le _, rfl, rfl⟩
  case round =>
    obtain ⟨k, hk, rfl, hall⟩ := hrel
    have Hall := Lib.hid hall; clear hall
    by_cases hlt : k < n
    · obtain ⟨ad, x, rfl, hx, hc⟩ := h.at_ (k := k) (by rw [Hn.out]; exact hlt)
      cases hs : inB x 0 60
      · have Hb := Lib.hid (itemsB_bad hx.out hs)
        go_wp2_with (go_at_call 64; refine (l1In_any _ _ _ _).mono ?_; rintro e w' ⟨rfl, rfl⟩)
        go_ret
        exact ⟨ret_bool (by unfold lineB; rw [Hb.out]; rfl), rfl⟩
      · have Hs := Lib.hid (itemsB_take hx.out)
        have HX : Hid (itemB x = true) := hs
        go_wp2_with (go_at_call 64; refine (l1In_any _ _ _ _).mono ?_; rintro e w' ⟨rfl, rfl⟩)
        go_round
        case rel => exact ⟨k + 1, by omega, by go_num, by rw [Hs.out, Hall.out, HX.out]; rfl⟩
        case measure => simp [intOf]; omega
    · have hkn : k = n := by omega
      subst hkn
      go_wp2
      go_ret
      refine ⟨ret_bool ?_, rfl⟩
      have := Hall.out
      rw [take_all Hn.out] at this
      unfold lineB
      rw [this, Hn.out]
      simp only [Bool.true_and]
      rw [Bool.eq_iff_iff]
      simp only [decide_eq_true_eq]
      omega

set_option maxHeartbeats 800000 in
theorem specMeasureOk_any (W t k : Int) (w : World) : Calls Tryz.prog 65 #[.agg #[.int .i64 W, .int .i64 t, .int .i64 k]] w fun e w' => e = .returned (.bool (msrB ⟨W, t, k⟩)) ∧ Below w.heap.size w w' := by
  have HW := Lib.hid (show Below w.heap.size w (w.alloc (.cells #[.int .i64 W, .int .i64 t, .int .i64 k] 34)) from (Below.refl _ _).alloc (Nat.le_refl _) _)
  cases h1 : inB W 1 2000
  · have HR : Hid (msrB ⟨W, t, k⟩ = false) := by show _ = _; unfold msrB; rw [h1]; rfl
    go_enter Tryz.func65, Tryz.ntmps65
    go_wp2_with (go_at_call 64; refine (l1In_any _ _ _ _).mono ?_; rintro e w' ⟨rfl, rfl⟩)
    go_ret
    exact ⟨ret_bool HR.out.symm, HW.out⟩
  cases h2 : inB t 1 100
  · have HR : Hid (msrB ⟨W, t, k⟩ = false) := by show _ = _; unfold msrB; rw [h1, h2]; rfl
    go_enter Tryz.func65, Tryz.ntmps65
    go_wp2_with (go_at_call 64; refine (l1In_any _ _ _ _).mono ?_; rintro e w' ⟨rfl, rfl⟩)
    go_ret
    exact ⟨ret_bool HR.out.symm, HW.out⟩
  have HR : Hid (msrB ⟨W, t, k⟩ = inB k t 100) := by show _ = _; unfold msrB; rw [h1, h2]; rfl
  go_enter Tryz.func65, Tryz.ntmps65
  go_wp2_with (go_at_call 64; refine (l1In_any _ _ _ _).mono ?_; rintro e w' ⟨rfl, rfl⟩)
  go_ret
  exact ⟨ret_bool HR.out.symm, HW.out⟩

set_option maxHeartbeats 800000 in
theorem implMeasureOk_any (W t k : Int) (w : World) : Calls Tryz.prog 111 #[.agg #[.int .i64 W, .int .i64 t, .int .i64 k]] w fun e w' => e = .returned (.bool (msrB ⟨W, t, k⟩)) ∧ Below w.heap.size w w' := by
  have HW := Lib.hid (show Below w.heap.size w (w.alloc (.cells #[.int .i64 W, .int .i64 t, .int .i64 k] 34)) from (Below.refl _ _).alloc (Nat.le_refl _) _)
  cases h1 : inB W 1 2000
  · have HR : Hid (msrB ⟨W, t, k⟩ = false) := by show _ = _; unfold msrB; rw [h1]; rfl
    go_enter Tryz.func111, Tryz.ntmps111
    go_wp2_with (go_at_call 77; refine (isFrom_any _ _ _ _).mono ?_; rintro e w' ⟨rfl, rfl⟩)
    go_ret
    exact ⟨ret_bool HR.out.symm, HW.out⟩
  cases h2 : inB t 1 100
  · have HR : Hid (msrB ⟨W, t, k⟩ = false) := by show _ = _; unfold msrB; rw [h1, h2]; rfl
    go_enter Tryz.func111, Tryz.ntmps111
    go_wp2_with (go_at_call 77; refine (isFrom_any _ _ _ _).mono ?_; rintro e w' ⟨rfl, rfl⟩)
    go_ret
    exact ⟨ret_bool HR.out.symm, HW.out⟩
  have HR : Hid (msrB ⟨W, t, k⟩ = inB k t 100) := by show _ = _; unfold msrB; rw [h1, h2]; rfl
  go_enter Tryz.func111, Tryz.ntmps111
  go_wp2_with (go_at_call 77; refine (isFrom_any _ _ _ _).mono ?_; rintro e w' ⟨rfl, rfl⟩)
  go_ret
  exact ⟨ret_bool HR.out.symm, HW.out⟩
end Go.Proofs.YtimhnkpccbcohaaGreatDoor

namespace Go.Proofs.YtimhnkpccbcohaaGreatDoor
open Go.RowKit
theorem lay2 (w : World) (a b : Value) (T : TypeId) : (w.alloc (.cells #[a, b] T)).cell? ⟨w.heap.size, 0, none⟩ = some a ∧ (w.alloc (.cells #[a, b] T)).cell? ⟨w.heap.size, 1, none⟩ = some b := by
  constructor <;> (rw [World.cell?_alloc_at _ _ _ _ rfl]; rfl)
theorem hold2 {w w' : World} {B g : Nat} {a b : Value} (hb : Below B w w') (hg : g < B) (h : w.cell? ⟨g, 0, none⟩ = some a ∧ w.cell? ⟨g, 1, none⟩ = some b) : w'.cell? ⟨g, 0, none⟩ = some a ∧ w'.cell? ⟨g, 1, none⟩ = some b :=
  ⟨(hb.cell (p := ⟨g, 0, none⟩) hg).trans h.1, (hb.cell (p := ⟨g, 1, none⟩) hg).trans h.2⟩
theorem lay3 (w : World) (a b c : Value) (T : TypeId) : (w.alloc (.cells #[a, b, c] T)).cell? ⟨w.heap.size, 0, none⟩ = some a ∧ (w.alloc (.cells #[a, b, c] T)).cell? ⟨w.heap.size, 1, none⟩ = some b ∧ (w.alloc (.cells #[a, b, c] T)).cell? ⟨w.heap.size, 2, none⟩ = some c := by
  refine ⟨?_, ?_, ?_⟩ <;> (rw [World.cell?_alloc_at _ _ _ _ rfl]; rfl)
theorem hold3 {w w' : World} {B g : Nat} {a b c : Value} (hb : Below B w w') (hg : g < B) (h : w.cell? ⟨g, 0, none⟩ = some a ∧ w.cell? ⟨g, 1, none⟩ = some b ∧ w.cell? ⟨g, 2, none⟩ = some c) : w'.cell? ⟨g, 0, none⟩ = some a ∧ w'.cell? ⟨g, 1, none⟩ = some b ∧ w'.cell? ⟨g, 2, none⟩ = some c :=
  ⟨(hb.cell (p := ⟨g, 0, none⟩) hg).trans h.1, (hb.cell (p := ⟨g, 1, none⟩) hg).trans h.2.1, (hb.cell (p := ⟨g, 2, none⟩) hg).trans h.2.2⟩
theorem undrew {w w1 : World} (h : Below w.drew.heap.size w.drew w1) : Below w.heap.size w w1 := ((Below.refl _ w).drew).trans h
theorem undrewN {w w1 : World} {n : Nat} (h : Below (w.drewN n).heap.size (w.drewN n) w1) : Below w.heap.size w w1 := (below_drewN (Below.refl _ w) n).trans h
theorem below_new (w : World) (o : Obj) : Below w.heap.size w (w.alloc o) := (Below.refl _ _).alloc (Nat.le_refl _) _
end Go.Proofs.YtimhnkpccbcohaaGreatDoor

namespace Go.Proofs.YtimhnkpccbcohaaGreatDoor
open Go.RowKit
set_option linter.unusedVariables false


set_option maxHeartbeats 400000 in
theorem ldWidth_any (L B e : Int) (w : World) (h0 : 0 ≤ L) (h1 : L ≤ 1000000) (h2 : 0 ≤ B) (h3 : B ≤ 120) (h4 : -2000100 ≤ e) (h5 : e ≤ 101) :
    Calls Tryz.prog 135 #[.agg #[.int .i64 L, .int .i64 B], .int .i64 e] w fun r w' => r = .returned (.int .i64 (L + B * e)) ∧ Below w.heap.size w w' := by
  obtain ⟨m0, m1⟩ := mul_wide h2 h3 h4 h5
  have HT := Lib.hid (below_new w (.cells #[.int .i64 L, .int .i64 B] 155))
  go_enter Tryz.func135, Tryz.ntmps135
  go_wp2
  go_ret
  exact ⟨rfl, HT.out⟩

def ldCells (w : World) (g : Nat) (a b : Int) : Prop := w.heap[g]? = some (.cells #[.int .i64 a, .int .i64 b] 155 (0, 0))
theorem ldCells.cell {w : World} {g : Nat} {a b : Int} (h : ldCells w g a b) : w.cell? ⟨g, 0, none⟩ = some (.int .i64 a) ∧ w.cell? ⟨g, 1, none⟩ = some (.int .i64 b) ∧ w.frozen? ⟨g, 0, none⟩ = false ∧ w.frozen? ⟨g, 1, none⟩ = false :=
  ⟨by rw [cell_of_row w g 0 _ _ (0, 0) h]; rfl, by rw [cell_of_row w g 1 _ _ (0, 0) h]; rfl, frozen_of_row w g 0 _ _ h, frozen_of_row w g 1 _ _ h⟩
theorem ldCells.set0 {w : World} {g : Nat} {a b : Int} (h : ldCells w g a b) (x : Int) : ldCells (w.setCell ⟨g, 0, none⟩ (.int .i64 x)) g x b := by
  unfold ldCells; rw [heap_setCell_same w g 0 _ _ _ h]; rfl
theorem ldCells.set1 {w : World} {g : Nat} {a b : Int} (h : ldCells w g a b) (x : Int) : ldCells (w.setCell ⟨g, 1, none⟩ (.int .i64 x)) g a x := by
  unfold ldCells; rw [heap_setCell_same w g 1 _ _ _ h]; rfl
theorem ldCells.other {w : World} {g : Nat} {a b : Int} (h : ldCells w g a b) (p : Addr) (u : Value) (hne : g ≠ p.block) : ldCells (w.setCell p u) g a b := by
  unfold ldCells; rw [Below.heap_setCell w p u g hne]; exact h

set_option maxRecDepth 100000 in
set_option maxHeartbeats 1600000 in
theorem loadOf_any (A : Option Addr) (n c : Nat) (zs : List Int) (w : World) (hn : zs.length = n) (h : Ints w A zs) (hl : lineB zs = true) :
    Calls Tryz.prog 113 #[.slice A n c] w fun e w' => e = .returned (.agg #[.int .i64 (sumL zs), .int .i64 (bandsN zs)]) ∧ Below w.heap.size w w' := by
  obtain ⟨hz, hlen⟩ := lineB_parts hl
  have HZ := Lib.hid hz
  have HL := Lib.hid (lineB_take hl)
  have Hn := Lib.hid hn
  have hm : n ≤ 120 := by omega
  have H := Lib.hid h
  clear hz hlen hn hl h
  go_enter Tryz.func113, Tryz.ntmps113
  go_wp2
  go_loopw [8] (fun i wr => ∃ k : Nat, k ≤ n ∧ i = .int .i64 k ∧ ldCells wr (w.heap.size + 1) (sumL (zs.take k)) (bandsN (zs.take k)) ∧ ldCells wr w.heap.size 0 0 ∧ Below w.heap.size w wr) (fun i _ => n - (intOf i).toNat)
  case atStart =>
    refine ⟨0, Nat.zero_le _, rfl, ?_, ?_, ?_⟩
    · unfold ldCells
      have := heap_alloc_new (w.alloc (.cells #[.int .i64 0, .int .i64 0] 155)) (.cells #[.int .i64 0, .int .i64 0] 155)
      rw [World.size_alloc] at this
      exact this
    · unfold ldCells
      rw [Below.heap_alloc _ _ _ (by simp)]
      exact heap_alloc_new w _
    · exact ((Below.refl _ _).alloc (Nat.le_refl _) _).alloc (by simp) _
  case round =>
    obtain ⟨k, hk, rfl, hc1, hc0, hb⟩ := hrel
    have HC1 := Lib.hid hc1; have HC0 := Lib.hid hc0; have HB := Lib.hid hb
    clear hc1 hc0 hb
    obtain ⟨d0, d1, f0, f1⟩ := HC1.out.cell
    by_cases hlt : k < n
    · obtain ⟨ad, x, rfl, hx, hc⟩ := (H.out.below HB.out).at_ (k := k) (by rw [Hn.out]; exact hlt)
      have HS := Lib.hid (sumL_at hx.out)
      have HN := Lib.hid (bandsN_at hx.out)
      have hb1 := HL.out k
      have hx2 := HZ.out x (mem_at hx.out)
      obtain ⟨sm, hsm⟩ : ∃ s, sumL (zs.take k) = s := ⟨_, rfl⟩
      obtain ⟨bn, hbn⟩ : ∃ b, bandsN (zs.take k) = b := ⟨_, rfl⟩
      rw [hsm] at HS HC1 d0 hb1
      rw [hbn] at HN HC1 d1 hb1
      have Hsm := Lib.hid hsm; have Hbn := Lib.hid hbn
      clear hsm hbn
      by_cases h0 : x = 0
      · subst h0
        have HX := Lib.hid ((HC1.out.set1 ((bn : Int) + 1)))
        have HY := Lib.hid (HC0.out.other ⟨w.heap.size + 1, 1, none⟩ (.int .i64 ((bn : Int) + 1)) (by simp))
        have HT := Lib.hid (HB.out.setCell (p := ⟨w.heap.size + 1, 1, none⟩) (by simp) (.int .i64 ((bn : Int) + 1)))
        go_wp2
        go_roundw
        case rel => exact ⟨k + 1, by omega, by go_num, by rw [HS.out, HN.out, Int.add_zero]; simpa using HX.out, HY.out, HT.out⟩
        case measure => simp [intOf]; omega
      · have h0' : (x == 0) = false := by simpa using h0
        have HX := Lib.hid ((HC1.out.set0 (sm + x)))
        have HY := Lib.hid (HC0.out.other ⟨w.heap.size + 1, 0, none⟩ (.int .i64 (sm + x)) (by simp))
        have HT := Lib.hid (HB.out.setCell (p := ⟨w.heap.size + 1, 0, none⟩) (by simp) (.int .i64 (sm + x)))
        have HN2 : Hid (bandsN (zs.take (k + 1)) = bn) := by show _ = _; rw [HN.out, if_neg h0]; rfl
        clear h0
        go_wp2
        go_roundw
        case rel => exact ⟨k + 1, by omega, by go_num, by rw [HS.out, HN2.out]; exact HX.out, HY.out, HT.out⟩
        case measure => simp [intOf]; omega
    · have hkn : k = n := by omega
      subst hkn
      rw [take_all Hn.out] at HC1 d0 d1
      obtain ⟨e0, e1, g0, g1⟩ := HC0.out.cell
      have HT := Lib.hid ((HB.out.setCell (p := ⟨w.heap.size, 0, none⟩) (Nat.le_refl _) (.int .i64 (sumL zs))).setCell (p := ⟨w.heap.size, 1, none⟩) (Nat.le_refl _) (.int .i64 (bandsN zs)))
      obtain ⟨r0, r1, _, _⟩ := ((HC0.out.set0 (sumL zs)).set1 (bandsN zs)).cell
      go_wp2
      refine bodyPost_ret (v := .agg #[.int .i64 (sumL zs), .int .i64 (bandsN zs)]) (by simp [results, Tryz.results113, go_sem, r0, r1]) rfl ⟨rfl, HT.out⟩
end Go.Proofs.YtimhnkpccbcohaaGreatDoor

namespace Go.Proofs.YtimhnkpccbcohaaGreatDoor
open Go.RowKit
set_option linter.unusedVariables false

/-- the world in which a method of load begins -/
theorem ldWorld (w : World) (L B W t k : Int) : ∃ w0, (w.alloc (.cells #[.int .i64 L, .int .i64 B] 155)).alloc (.cells #[.int .i64 W, .int .i64 t, .int .i64 k] 34) = w0 ∧ Below w.heap.size w w0 ∧ w0.heap.size = w.heap.size + 2 ∧
    (w0.cell? ⟨w.heap.size, 0, none⟩ = some (.int .i64 L) ∧ w0.cell? ⟨w.heap.size, 1, none⟩ = some (.int .i64 B)) ∧
    (w0.cell? ⟨w.heap.size + 1, 0, none⟩ = some (.int .i64 W) ∧ w0.cell? ⟨w.heap.size + 1, 1, none⟩ = some (.int .i64 t) ∧ w0.cell? ⟨w.heap.size + 1, 2, none⟩ = some (.int .i64 k)) := by
  refine ⟨_, rfl, (below_new _ _).trans ((below_new _ _).mono (by simp)), by simp, ?_, ?_⟩
  · exact hold2 (below_new _ _) (by simp) (lay2 w (.int .i64 L) (.int .i64 B) 155)
  · have := lay3 (w.alloc (.cells #[.int .i64 L, .int .i64 B] 155)) (.int .i64 W) (.int .i64 t) (.int .i64 k) 34
    rw [World.size_alloc] at this
    exact this

set_option maxRecDepth 100000 in
set_option maxHeartbeats 1600000 in
theorem ldFits_any (L : Int) (B : Nat) (W t k : Int) (w : World) (h0 : 0 ≤ L) (h1 : L ≤ 1000000) (h3 : B ≤ 120) (hm : msrB ⟨W, t, k⟩ = true) :
    Calls Tryz.prog 114 #[.agg #[.int .i64 L, .int .i64 B], .agg #[.int .i64 W, .int .i64 t, .int .i64 k]] w fun e w' => e = .returned (.bool (decide (widF L B t ≤ W))) ∧ Below w.heap.size w w' := by
  have hM := msrB_iff.1 hm
  simp only at hM
  obtain ⟨w0, hw0, hb0, hz0, X, P⟩ := ldWorld w L B W t k
  have T0 := Lib.hid hb0; have X0 := Lib.hid X; have P0 := Lib.hid P; have Z0 := Lib.hid hz0
  clear hb0 hz0 X P
  go_enter Tryz.func114, Tryz.ntmps114
  go_wp2_with fail
  clear hw0
  obtain ⟨q0, q1⟩ := X0.out
  obtain ⟨p0, p1, p2⟩ := P0.out
  have hz := Z0.out
  go_region_held3 (fun w' => (w'.cell? ⟨w.heap.size, 0, none⟩ = some (.int .i64 L) ∧ w'.cell? ⟨w.heap.size, 1, none⟩ = some (.int .i64 B)) ∧ (w'.cell? ⟨w.heap.size + 1, 0, none⟩ = some (.int .i64 W) ∧ w'.cell? ⟨w.heap.size + 1, 1, none⟩ = some (.int .i64 t) ∧ w'.cell? ⟨w.heap.size + 1, 2, none⟩ = some (.int .i64 k)))
    (first | go_keep | exact ⟨X1.out, P1.out⟩)
    (first
      | (go_at_call 135; refine (ldWidth_any L B t _ h0 h1 (by omega) (by omega) (by omega) (by omega)).mono ?_; rintro e w1 ⟨rfl, hb1⟩; have hb01 : Below w0.heap.size w0 w1 := undrew hb1; have X1 := Lib.hid (hold2 hb01 (by omega) X0.out); have P1 := Lib.hid (hold3 hb01 (by omega) P0.out); have T1 := Lib.hid (T0.out.trans (hb01.mono (B' := w.heap.size) (by omega))); clear hb1 hb01))
  go_wp2
  go_ret
  exact ⟨rfl, T1.out⟩

theorem tdiv_small {x b : Int} (h0 : -4000000 ≤ x) (h1 : x ≤ 4000000) (hb : 0 < b) : -4000000 ≤ x.tdiv b ∧ x.tdiv b ≤ 4000000 := by
  by_cases hx : 0 ≤ x
  · rw [Int.tdiv_eq_ediv_of_nonneg hx]
    have e1 : 0 ≤ x / b := Int.ediv_nonneg hx (by omega)
    have e2 : x / b ≤ x := Int.ediv_le_self b hx
    omega
  · obtain ⟨y, rfl⟩ : ∃ y, x = -y := ⟨-x, by omega⟩
    rw [Int.neg_tdiv, Int.tdiv_eq_ediv_of_nonneg (by omega)]
    have e1 : 0 ≤ y / b := Int.ediv_nonneg (by omega) (by omega)
    have e2 : y / b ≤ y := Int.ediv_le_self b (by omega)
    omega
theorem widF_small {L : Int} {B : Nat} {e : Int} (h0 : 0 ≤ L) (h1 : L ≤ 1000000) (h3 : B ≤ 120) (h4 : 0 ≤ e) (h5 : e ≤ 101) : 0 ≤ widF L B e ∧ widF L B e ≤ 1012120 := by
  have := mul_small (B := B) (by omega) (by omega) h4 h5
  unfold widF; omega
theorem riseF_bound {m : Msr} {L : Int} {B : Nat} (h0 : 0 ≤ L) (h1 : L ≤ 1000000) (h3 : B ≤ 120) (hm : msrB m = true) : -2000000 ≤ riseF m L B ∧ riseF m L B ≤ 100 := by
  have hM := msrB_iff.1 hm
  have hw := widF_small (e := m.t) h0 h1 h3 (by omega) (by omega)
  unfold riseF
  split
  · omega
  · have hx0 : -1100000 ≤ m.w - widF L B m.t := by omega
    have : -1100000 ≤ (m.w - widF L B m.t).tdiv (B : Int) := by
      by_cases hx : 0 ≤ m.w - widF L B m.t
      · rw [Int.tdiv_eq_ediv_of_nonneg hx]
        have : 0 ≤ (m.w - widF L B m.t) / (B : Int) := Int.ediv_nonneg hx (by omega)
        omega
      · obtain ⟨y, hy⟩ : ∃ y, m.w - widF L B m.t = -y := ⟨-(m.w - widF L B m.t), by omega⟩
        rw [hy, Int.neg_tdiv, Int.tdiv_eq_ediv_of_nonneg (by omega)]
        have : y / (B : Int) ≤ y := Int.ediv_le_self _ (by omega)
        omega
    omega

set_option maxRecDepth 100000 in
set_option maxHeartbeats 1600000 in
theorem ldRise_any (L : Int) (B : Nat) (W t k : Int) (w : World) (h0 : 0 ≤ L) (h1 : L ≤ 1000000) (h3 : B ≤ 120) (hm : msrB ⟨W, t, k⟩ = true) :
    Calls Tryz.prog 138 #[.agg #[.int .i64 L, .int .i64 B], .agg #[.int .i64 W, .int .i64 t, .int .i64 k]] w fun e w' => e = .returned (.int .i64 (riseF ⟨W, t, k⟩ L B)) ∧ Below w.heap.size w w' := by
  have hM := msrB_iff.1 hm
  simp only at hM
  obtain ⟨w0, hw0, hb0, hz0, X, P⟩ := ldWorld w L B W t k
  have T0 := Lib.hid hb0; have X0 := Lib.hid X; have P0 := Lib.hid P; have Z0 := Lib.hid hz0
  clear hb0 hz0 X P
  by_cases hB : B = 0
  · subst hB
    have HR : Hid (riseF ⟨W, t, k⟩ L 0 = 0) := by show _ = _; unfold riseF; rw [if_pos rfl]
    obtain ⟨q0, q1⟩ := X0.out
    go_enter Tryz.func138, Tryz.ntmps138
    go_wp2
    go_ret
    exact ⟨ret_int HR.out.symm, by have := T0.out; rw [← hw0] at this; exact this⟩
  have hw := widF_small (e := t) h0 h1 h3 (by omega) (by omega)
  have hd := tdiv_small (x := W - widF L B t) (b := B) (by omega) (by omega) (by omega)
  have HR : Hid (riseF ⟨W, t, k⟩ L B = min (k - t) ((W - widF L B t).tdiv B)) := by show _ = _; unfold riseF; rw [if_neg hB]
  obtain ⟨q, hq⟩ : ∃ q, (W - (L + B * t)).tdiv (B : Int) = q := ⟨_, rfl⟩
  have HQ : Hid ((W - widF L B t).tdiv (B : Int) = q) := hq
  rw [HQ.out] at hd HR
  have hb0 : ((B : Int) == 0) = false := by rw [beq_eq_false_iff_ne]; omega
  have hbx : ¬ ((B : Int) = 0) := by omega
  have hwx := mul_small (B := B) (e := t) (by omega) (by omega) (by omega) (by omega)
  go_enter Tryz.func138, Tryz.ntmps138
  obtain ⟨q0, q1⟩ := X0.out
  obtain ⟨p0, p1, p2⟩ := P0.out
  go_wp2_with fail
  clear hw0
  have hz := Z0.out
  go_region_held3 (fun w' => (w'.cell? ⟨w.heap.size, 0, none⟩ = some (.int .i64 L) ∧ w'.cell? ⟨w.heap.size, 1, none⟩ = some (.int .i64 B)) ∧ (w'.cell? ⟨w.heap.size + 1, 0, none⟩ = some (.int .i64 W) ∧ w'.cell? ⟨w.heap.size + 1, 1, none⟩ = some (.int .i64 t) ∧ w'.cell? ⟨w.heap.size + 1, 2, none⟩ = some (.int .i64 k)))
    (first | go_keep | exact ⟨X1.out, P1.out⟩)
    (first
      | (go_at_call 135; refine (ldWidth_any L B t _ h0 h1 (by omega) (by omega) (by omega) (by omega)).mono ?_; rintro e w1 ⟨rfl, hb1⟩; have hc1 : Below w0.heap.size w0 w1 := undrew hb1; have X1 := Lib.hid (hold2 hc1 (by omega) X0.out); have P1 := Lib.hid (hold3 hc1 (by omega) P0.out); have T1 := Lib.hid (T0.out.trans (hc1.mono (B' := w.heap.size) (by omega))); have z1 := hc1.size; clear hb1 hc1))
  have e1 : IntKind.i64.wrap (k - t) = k - t := by rw [IntKind.wrap_i64]; omega
  have e2 : IntKind.i64.wrap (W - (L + B * t)) = W - (L + B * t) := by rw [IntKind.wrap_i64]; omega
  have e3 : IntKind.i64.wrap q = q := by rw [IntKind.wrap_i64]; omega
  go_wp2
  all_goals
    go_ret
    refine ⟨ret_int ?_, T1.out⟩
    rw [HR.out]
    omega

set_option maxRecDepth 100000 in
set_option maxHeartbeats 1600000 in
theorem ldRest_any (L : Int) (B : Nat) (W t k : Int) (w : World) (h0 : 0 ≤ L) (h1 : L ≤ 1000000) (h3 : B ≤ 120) (hm : msrB ⟨W, t, k⟩ = true) :
    Calls Tryz.prog 137 #[.agg #[.int .i64 L, .int .i64 B], .agg #[.int .i64 W, .int .i64 t, .int .i64 k]] w fun e w' => e = .returned (.int .i64 (restF ⟨W, t, k⟩ L B)) ∧ Below w.heap.size w w' := by
  have hM := msrB_iff.1 hm
  simp only at hM
  obtain ⟨w0, hw0, hb0, hz0, X, P⟩ := ldWorld w L B W t k
  have T0 := Lib.hid hb0; have X0 := Lib.hid X; have P0 := Lib.hid P; have Z0 := Lib.hid hz0
  clear hb0 hz0 X P
  have hr := riseF_bound h0 h1 h3 hm
  have hr1 : riseF ⟨W, t, k⟩ L B ≤ k - t := by
    unfold riseF; split
    · show (0 : Int) ≤ k - t; omega
    · exact Int.min_le_left _ _
  have HR : Hid (restF ⟨W, t, k⟩ L B = W - (L + B * (t + riseF ⟨W, t, k⟩ L B))) := rfl
  obtain ⟨r, hre⟩ : ∃ r, riseF ⟨W, t, k⟩ L B = r := ⟨_, rfl⟩
  have HRe := Lib.hid hre
  rw [hre] at hr hr1 HR
  clear hre
  have hwx := mul_wide (B := B) (e := t + r) (by omega) (by omega) (by omega) (by omega)
  have e1 : IntKind.i64.wrap (t + r) = t + r := by rw [IntKind.wrap_i64]; omega
  have e2 : IntKind.i64.wrap (W - (L + B * (t + r))) = W - (L + B * (t + r)) := by rw [IntKind.wrap_i64]; omega
  obtain ⟨q0, q1⟩ := X0.out
  obtain ⟨p0, p1, p2⟩ := P0.out
  go_enter Tryz.func137, Tryz.ntmps137
  go_wp2_with fail
  clear hw0
  have hz := Z0.out
  go_region_held3 (fun w' => (w'.cell? ⟨w.heap.size, 0, none⟩ = some (.int .i64 L) ∧ w'.cell? ⟨w.heap.size, 1, none⟩ = some (.int .i64 B)) ∧ (w'.cell? ⟨w.heap.size + 1, 0, none⟩ = some (.int .i64 W) ∧ w'.cell? ⟨w.heap.size + 1, 1, none⟩ = some (.int .i64 t) ∧ w'.cell? ⟨w.heap.size + 1, 2, none⟩ = some (.int .i64 k)))
    (first | go_keep | exact ⟨X1.out, P1.out⟩ | exact ⟨X2.out, P2.out⟩)
    (first
      | (go_at_call 138; refine (ldRise_any L B W t k _ h0 h1 h3 hm).mono ?_; rintro e w1 ⟨he, hb1⟩; rw [HRe.out] at he; subst he; have hc1 : Below w0.heap.size w0 w1 := undrew hb1; have X1 := Lib.hid (hold2 hc1 (by omega) X0.out); have P1 := Lib.hid (hold3 hc1 (by omega) P0.out); have T1 := Lib.hid (T0.out.trans (hc1.mono (B' := w.heap.size) (by omega))); have z1 := hc1.size; clear hb1 hc1)
      | (go_at_call 135; (try rw [e1]); refine (ldWidth_any L B (t + r) _ h0 h1 (by omega) (by omega) (by omega) (by omega)).mono ?_; rintro e w2 ⟨rfl, hb2⟩; have hc2 : Below w1.heap.size w1 w2 := hb2; have X2 := Lib.hid (hold2 hc2 (by omega) X1.out); have P2 := Lib.hid (hold3 hc2 (by omega) P1.out); have T2 := Lib.hid (T1.out.trans (hc2.mono (B' := w.heap.size) (by omega))); have z2 := hc2.size; clear hb2 hc2))
  go_wp2
  go_ret
  exact ⟨ret_int (by rw [HR.out]), T2.out⟩

set_option maxRecDepth 100000 in
set_option maxHeartbeats 1600000 in
theorem ldFull_any (L : Int) (B : Nat) (W t k : Int) (w : World) (h0 : 0 ≤ L) (h1 : L ≤ 1000000) (h3 : B ≤ 120) (hm : msrB ⟨W, t, k⟩ = true) :
    Calls Tryz.prog 136 #[.agg #[.int .i64 L, .int .i64 B], .agg #[.int .i64 W, .int .i64 t, .int .i64 k]] w fun e w' => e = .returned (.bool (decide (widF L B t ≤ W) && fullF ⟨W, t, k⟩ L B)) ∧ Below w.heap.size w w' := by
  obtain ⟨w0, hw0, hb0, hz0, X, P⟩ := ldWorld w L B W t k
  have T0 := Lib.hid hb0; have X0 := Lib.hid X; have P0 := Lib.hid P; have Z0 := Lib.hid hz0
  clear hb0 hz0 X P
  obtain ⟨r, hre⟩ : ∃ r, restF ⟨W, t, k⟩ L B = r := ⟨_, rfl⟩
  have HRe := Lib.hid hre
  clear hre
  obtain ⟨q0, q1⟩ := X0.out
  obtain ⟨p0, p1, p2⟩ := P0.out
  go_enter Tryz.func136, Tryz.ntmps136
  go_wp2_with fail
  clear hw0
  have hz := Z0.out
  refine (ldRest_any L B W t k _ h0 h1 h3 hm).mono ?_
  rintro e w1 ⟨rfl, hb1⟩
  rw [HRe.out]
  have X1 := Lib.hid (hold2 hb1 (by omega) X0.out); have P1 := Lib.hid (hold3 hb1 (by omega) P0.out); have T1 := Lib.hid (T0.out.trans (hb1.mono (B' := w.heap.size) (by omega))); have z1 := hb1.size
  clear hb1 q0 q1 p0 p1 p2
  obtain ⟨q0, q1⟩ := X1.out
  obtain ⟨p0, p1, p2⟩ := P1.out
  go_wp2_with fail
  refine (ldFits_any L B W t k _ h0 h1 h3 hm).mono ?_
  rintro e w2 ⟨rfl, hb2⟩
  have X2 := Lib.hid (hold2 hb2 (by omega) X1.out); have P2 := Lib.hid (hold3 hb2 (by omega) P1.out); have T2 := Lib.hid (T1.out.trans (hb2.mono (B' := w.heap.size) (by omega))); have z2 := hb2.size
  clear hb2 q0 q1 p0 p1 p2
  obtain ⟨q0, q1⟩ := X2.out
  obtain ⟨p0, p1, p2⟩ := P2.out
  have HF : Hid (fullF ⟨W, t, k⟩ L B = (r == 0 || decide (r < (B : Int)))) := by show _ = _; unfold fullF; rw [HRe.out]
  cases hd : decide (widF L B t ≤ W)
  · go_wp2
    go_ret
    exact ⟨ret_bool (by simp only [hd, Bool.false_and]), T2.out⟩
  · cases hr : (r == 0)
    · go_wp2
      go_ret
      exact ⟨ret_bool (by simp only [HF.out, hd, hr, Bool.true_and, Bool.false_or]), T2.out⟩
    · go_wp2
      go_ret
      exact ⟨ret_bool (by simp only [HF.out, hd, hr, Bool.true_and, Bool.true_or]), T2.out⟩
end Go.Proofs.YtimhnkpccbcohaaGreatDoor

namespace Go.Proofs.YtimhnkpccbcohaaGreatDoor
open Go.RowKit
set_option linter.unusedVariables false

def wordB (x : Int) : Bool := inB x 1 2000
def textB (zs : List Int) : Bool := inB (zs.length : Int) 1 40 && zs.all wordB
theorem textB_parts {zs : List Int} (h : textB zs = true) : (∀ x ∈ zs, 1 ≤ x ∧ x ≤ 2000) ∧ 1 ≤ zs.length ∧ zs.length ≤ 40 := by
  unfold textB at h
  rw [Bool.and_eq_true, List.all_eq_true] at h
  have h1 := inB_true h.1
  exact ⟨fun x hx => inB_true (h.2 x hx), by omega, by omega⟩
/-- the words from index a to index b - 1 -/
def seg (zs : List Int) (a b : Nat) : List Int := (zs.take b).drop a
theorem seg_len {zs : List Int} {a b : Nat} (hb : b ≤ zs.length) : (seg zs a b).length = b - a := by
  unfold seg; rw [List.length_drop, List.length_take]; omega
theorem seg_at {zs : List Int} {a b j : Nat} (hj : j < b - a) : (seg zs a b)[j]? = zs[a + j]? := by
  unfold seg; rw [List.getElem?_drop, List.getElem?_take, if_pos (by omega)]
theorem sumL_words {zs : List Int} (h : ∀ x ∈ zs, 1 ≤ x ∧ x ≤ 2000) : 0 ≤ sumL zs ∧ sumL zs ≤ 2000 * (zs.length : Int) := by
  induction zs with
  | nil => simp [sumL]
  | cons x xs ih =>
    have h1 := h x (List.mem_cons_self)
    have h2 := ih (fun y hy => h y (List.mem_cons_of_mem _ hy))
    simp only [sumL, List.length_cons]; omega
theorem seg_mem {zs : List Int} {a b : Nat} {x : Int} (h : x ∈ seg zs a b) : x ∈ zs := List.mem_of_mem_take (List.mem_of_mem_drop h)
theorem words_take {ys : List Int} (h : ∀ x ∈ ys, 1 ≤ x ∧ x ≤ 2000) (hl : ys.length ≤ 40) (k : Nat) : 0 ≤ sumL (ys.take k) ∧ sumL (ys.take k) ≤ 80000 := by
  have h3 := sumL_words (zs := ys.take k) (fun x hx => h x (List.mem_of_mem_take hx))
  rw [List.length_take] at h3
  omega
theorem words_sum {ys : List Int} (h : ∀ x ∈ ys, 1 ≤ x ∧ x ≤ 2000) (hl : ys.length ≤ 40) : 0 ≤ sumL ys ∧ sumL ys ≤ 80000 := by
  have := words_take h hl ys.length
  rwa [List.take_length] at this

/-- the kind of a load: 0 it does not fit, 1 it fits and is not full, 2 it is full -/
def kindF (m : Msr) (L : Int) (B : Nat) : Int := if decide (widF L B m.t ≤ m.w) && fullF m L B then 2 else if widF L B m.t ≤ m.w then 1 else 0
def kindW (m : Msr) (zs : List Int) (a b : Nat) : Int := kindF m (sumL (seg zs a b)) (b - a - 1)
def riseW (m : Msr) (zs : List Int) (a b : Nat) : Int := riseF m (sumL (seg zs a b)) (b - a - 1)
def lineW (m : Msr) (zs : List Int) (a b : Nat) : Bool := kindW m zs a b == 2 || (kindW m zs a b == 1 && decide (b = zs.length))
def costW (m : Msr) (zs : List Int) (a b : Nat) : Int := if b = zs.length then 0 else riseW m zs a b * riseW m zs a b
theorem kindF_cases (m : Msr) (L : Int) (B : Nat) : kindF m L B = 0 ∨ kindF m L B = 1 ∨ kindF m L B = 2 := by
  unfold kindF; split
  · exact .inr (.inr rfl)
  · split
    · exact .inr (.inl rfl)
    · exact .inl rfl
theorem kindF_full {m : Msr} {L : Int} {B : Nat} (h : (decide (widF L B m.t ≤ m.w) && fullF m L B) = true) : kindF m L B = 2 := by unfold kindF; rw [if_pos h]
theorem kindF_fits {m : Msr} {L : Int} {B : Nat} (h : (decide (widF L B m.t ≤ m.w) && fullF m L B) = false) (h2 : decide (widF L B m.t ≤ m.w) = true) : kindF m L B = 1 := by
  unfold kindF; rw [h, if_neg (by simp), if_pos (of_decide_eq_true h2)]
theorem kindF_no {m : Msr} {L : Int} {B : Nat} (h2 : decide (widF L B m.t ≤ m.w) = false) : kindF m L B = 0 := by
  unfold kindF; rw [h2, Bool.false_and, if_neg (by simp), if_neg (of_decide_eq_false h2)]
theorem lineW_fits {m : Msr} {zs : List Int} {a b : Nat} (h : lineW m zs a b = true) : widF (sumL (seg zs a b)) (b - a - 1) m.t ≤ m.w := by
  by_cases hf : widF (sumL (seg zs a b)) (b - a - 1) m.t ≤ m.w
  · exact hf
  · exfalso
    have : kindW m zs a b = 0 := kindF_no (decide_eq_false hf)
    unfold lineW at h
    rw [this] at h
    simp at h
end Go.Proofs.YtimhnkpccbcohaaGreatDoor

namespace Go.Proofs.YtimhnkpccbcohaaGreatDoor
open Go.RowKit
set_option linter.unusedVariables false
theorem add_add2 (ad : Addr) (l j : Nat) : (ad.add l).add j = ad.add (l + j) := by by_cases hq0 : l = 0 <;> by_cases hj0 : j = 0 <;> simp [Addr.add, hq0, hj0, Nat.add_assoc]
/-- the words from a to b - 1 -/
theorem ints_seg {w : World} {ad : Addr} {zs : List Int} {a b : Nat} (h : Ints w (some ad) zs) (hb : b ≤ zs.length) : Ints w (some (ad.add a)) (seg zs a b) := fun hn => by
  rw [seg_len hb] at hn
  obtain ⟨x, hx, hc⟩ := h (by omega)
  injection hx with hx; subst hx
  refine ⟨_, rfl, fun j hj => ?_⟩
  rw [seg_len hb] at hj
  rw [add_add2, hc (a + j) (by omega)]
  simp [List.getD, seg_at hj]
theorem ints_some {w : World} {A : Option Addr} {zs : List Int} (h : Ints w A zs) (hn : 1 ≤ zs.length) : ∃ ad, A = some ad := by
  obtain ⟨ad, e, _⟩ := h (by omega)
  exact ⟨ad, e⟩
end Go.Proofs.YtimhnkpccbcohaaGreatDoor

namespace Go.Proofs.YtimhnkpccbcohaaGreatDoor
open Go.RowKit
set_option linter.unusedVariables false

/-- a setting's value -/
abbrev stV (W t k : Int) (ad : Addr) (n c : Nat) : Value := .agg #[.int .i64 W, .int .i64 t, .int .i64 k, .slice (some ad) n c]
/-- a setting's cells at block g -/
def St (w : World) (g : Nat) (W t k : Int) (s : Value) : Prop :=
  w.cell? ⟨g, 0, none⟩ = some (.int .i64 W) ∧ w.cell? ⟨g, 1, none⟩ = some (.int .i64 t) ∧ w.cell? ⟨g, 2, none⟩ = some (.int .i64 k) ∧ w.cell? ⟨g, 3, none⟩ = some s
theorem St.hold {w w' : World} {B g : Nat} {W t k : Int} {s : Value} (hb : Below B w w') (hg : g < B) (h : St w g W t k s) : St w' g W t k s :=
  ⟨(hb.cell (p := ⟨g, 0, none⟩) hg).trans h.1, (hb.cell (p := ⟨g, 1, none⟩) hg).trans h.2.1, (hb.cell (p := ⟨g, 2, none⟩) hg).trans h.2.2.1, (hb.cell (p := ⟨g, 3, none⟩) hg).trans h.2.2.2⟩
end Go.Proofs.YtimhnkpccbcohaaGreatDoor

namespace Go.Proofs.YtimhnkpccbcohaaGreatDoor
open Go.RowKit
set_option linter.unusedVariables false

theorem lineW_rise {m : Msr} {zs : List Int} {a b : Nat} (hm : msrB m = true) (ht : textB zs = true) (hb : b ≤ zs.length) (hl : lineW m zs a b = true) : 0 ≤ riseW m zs a b ∧ riseW m zs a b ≤ 99 := by
  obtain ⟨hz, hl1, hl2⟩ := textB_parts ht
  have hf := lineW_fits hl
  have hM := msrB_iff.1 hm
  have := riseF_spec hm hf
  unfold riseW
  omega
theorem riseW_bound {m : Msr} {zs : List Int} {a b : Nat} (hm : msrB m = true) (ht : textB zs = true) (hb : b ≤ zs.length) : -2000000 ≤ riseW m zs a b ∧ riseW m zs a b ≤ 100 := by
  obtain ⟨hz, hl1, hl2⟩ := textB_parts ht
  obtain ⟨s0, s1⟩ := words_sum (ys := seg zs a b) (fun x hx => hz x (seg_mem hx)) (by rw [seg_len hb]; omega)
  exact riseF_bound s0 (by omega) (by omega) hm
theorem sq_bound {r : Int} (h0 : -2000000 ≤ r) (h1 : r ≤ 2000000) : 0 ≤ r * r ∧ r * r ≤ 4000000000000 := by
  by_cases h : 0 ≤ r
  · have := Int.mul_nonneg h h
    have h2 : r * r ≤ 2000000 * 2000000 := Int.mul_le_mul h1 h1 h (by omega)
    omega
  · obtain ⟨y, rfl⟩ : ∃ y, r = -y := ⟨-r, by omega⟩
    have := Int.mul_nonneg (a := y) (b := y) (by omega) (by omega)
    have h2 : y * y ≤ 2000000 * 2000000 := Int.mul_le_mul (by omega) (by omega) (by omega) (by omega)
    rw [Int.neg_mul_neg]
    omega

end Go.Proofs.YtimhnkpccbcohaaGreatDoor

namespace Go.Proofs.YtimhnkpccbcohaaGreatDoor
open Go.RowKit
set_option linter.unusedVariables false

def okW (m : Msr) (zs : List Int) : Bool := msrB m && textB zs
def kindA (m : Msr) (zs : List Int) (a b : Int) : Int := if okW m zs = true ∧ 0 ≤ a ∧ b ≤ (zs.length : Int) ∧ a < b then kindW m zs a.toNat b.toNat else -1
/-- lines that go on from word p to the end -/
def brkF (m : Msr) (zs : List Int) : Nat → List Int → Bool
  | p, [] => decide (p = zs.length)
  | p, x :: r => inB x 1 ((zs.length : Int) - p) && (lineW m zs p (p + x.toNat) && brkF m zs (p + x.toNat) r)
def costF (m : Msr) (zs : List Int) : Nat → List Int → Int
  | _, [] => 0
  | p, x :: r => costW m zs p (p + x.toNat) + costF m zs (p + x.toNat) r
def isBrk (m : Msr) (zs ls : List Int) : Bool := okW m zs && brkF m zs 0 ls
def costA (m : Msr) (zs ls : List Int) : Int := if isBrk m zs ls then costF m zs 0 ls else -1
theorem drop_at {zs : List Int} {k : Nat} {x : Int} (h : zs[k]? = some x) : zs.drop k = x :: zs.drop (k + 1) := by
  obtain ⟨hk, e⟩ := List.getElem?_eq_some_iff.1 h
  rw [List.drop_eq_getElem_cons hk, e]
theorem brkF_at {m : Msr} {zs ls : List Int} {p k : Nat} {x : Int} (h : ls[k]? = some x) : brkF m zs p (ls.drop k) = (inB x 1 ((zs.length : Int) - p) && (lineW m zs p (p + x.toNat) && brkF m zs (p + x.toNat) (ls.drop (k + 1)))) := by
  rw [drop_at h]; rfl
theorem brkF_end {m : Msr} {zs ls : List Int} {p k : Nat} (h : ls.length = k) : brkF m zs p (ls.drop k) = decide (p = zs.length) := by
  rw [List.drop_of_length_le (by omega)]; rfl
theorem costF_at {m : Msr} {zs ls : List Int} {p k : Nat} {x : Int} (h : ls[k]? = some x) : costF m zs p (ls.drop k) = costW m zs p (p + x.toNat) + costF m zs (p + x.toNat) (ls.drop (k + 1)) := by
  rw [drop_at h]; rfl
theorem costF_end {m : Msr} {zs ls : List Int} {p k : Nat} (h : ls.length = k) : costF m zs p (ls.drop k) = 0 := by
  rw [List.drop_of_length_le (by omega)]; rfl
theorem brkF_yes {m : Msr} {zs ls : List Int} {p k : Nat} {x : Int} (h : ls[k]? = some x) (hb : brkF m zs p (ls.drop k) = true) :
    ∃ q : Nat, x = (q : Int) ∧ 1 ≤ q ∧ p + q ≤ zs.length ∧ lineW m zs p (p + q) = true ∧ brkF m zs (p + q) (ls.drop (k + 1)) = true := by
  rw [brkF_at h, Bool.and_eq_true, Bool.and_eq_true] at hb
  have h1 := inB_true hb.1
  exact ⟨x.toNat, by omega, by omega, by omega, hb.2.1, hb.2.2⟩
theorem costW_bound {m : Msr} {zs : List Int} {a b : Nat} (ho : okW m zs = true) (hb : b ≤ zs.length) (hl : lineW m zs a b = true) : 0 ≤ costW m zs a b ∧ costW m zs a b ≤ 9801 := by
  unfold okW at ho
  rw [Bool.and_eq_true] at ho
  obtain ⟨h0, h1⟩ := lineW_rise ho.1 ho.2 hb hl
  unfold costW
  split
  · omega
  · have h2 := Int.mul_nonneg h0 h0
    have h3 : riseW m zs a b * riseW m zs a b ≤ 99 * 99 := Int.mul_le_mul h1 h1 h0 (by omega)
    omega
theorem okW_parts {m : Msr} {zs : List Int} (ho : okW m zs = true) : msrB m = true ∧ textB zs = true := by
  unfold okW at ho; rwa [Bool.and_eq_true] at ho
theorem okW_no {m : Msr} {zs : List Int} (h : (msrB m && textB zs) = false) : okW m zs = false := h
end Go.Proofs.YtimhnkpccbcohaaGreatDoor

namespace Go.Proofs.YtimhnkpccbcohaaGreatDoor
open Go.RowKit
set_option linter.unusedVariables false

/-- ends below p of lines that begin with word a -/
def endsTo (m : Msr) (zs : List Int) (a p : Nat) : List Nat := (List.range p).filter (fun q => decide (a < q) && lineW m zs a q)
theorem endsTo_yes {m : Msr} {zs : List Int} {a p : Nat} (h1 : a < p) (h2 : lineW m zs a p = true) : endsTo m zs a (p + 1) = endsTo m zs a p ++ [p] := by
  unfold endsTo; rw [List.range_succ, List.filter_append]; simp [h1, h2]
theorem endsTo_no {m : Msr} {zs : List Int} {a p : Nat} (h2 : (decide (a < p) && lineW m zs a p) = false) : endsTo m zs a (p + 1) = endsTo m zs a p := by
  unfold endsTo; rw [List.range_succ, List.filter_append]; simp [h2]
theorem endsTo_len (m : Msr) (zs : List Int) (a p : Nat) : (endsTo m zs a p).length ≤ p := by
  unfold endsTo
  have := List.length_filter_le (fun q => decide (a < q) && lineW m zs a q) (List.range p)
  rwa [List.length_range] at this
theorem endsTo_low {m : Msr} {zs : List Int} {a p : Nat} (h : p ≤ a + 1) : endsTo m zs a p = [] := by
  unfold endsTo
  rw [List.filter_eq_nil_iff]
  intro q hq
  rw [List.mem_range] at hq
  simp; intro h1; omega
theorem endsTo_lt {m : Msr} {zs : List Int} {a p q : Nat} (h : q ∈ endsTo m zs a p) : q < p := by
  unfold endsTo at h
  rw [List.mem_filter, List.mem_range] at h
  exact h.1
/-- an end, at most p -/
def EndT (m : Msr) (zs : List Int) (a n : Nat) : Type := { q : Nat // a < q ∧ q ≤ n ∧ lineW m zs a q = true }
end Go.Proofs.YtimhnkpccbcohaaGreatDoor

namespace Go.Proofs.YtimhnkpccbcohaaGreatDoor
open Go.RowKit Go.Shelf
set_option linter.unusedVariables false
attribute [local go_sem] Oper.semAt_some

theorem below_grown0 {w w' : World} (h : Below w.heap.size w w') : w.grownBy w' none := ⟨h.os, h.tape, h.output, h.size, fun k hk _ => h.block k hk⟩

/-- what a round keeps: the setting's and the word's box (blocks b, b + 1), and what lies below g -/
def KpE (b g : Nat) (w w' : World) : Prop := w.heap.size ≤ w'.heap.size ∧ ∀ p : Addr, (p.block = b ∨ p.block = b + 1 ∨ p.block < g) → p.block < w.heap.size → w'.cell? p = w.cell? p
theorem KpE.refl (b g : Nat) (w : World) : KpE b g w w := ⟨Nat.le_refl _, fun _ _ _ => rfl⟩
theorem KpE.trans {b g : Nat} {A B C : World} (h : KpE b g A B) (k : KpE b g B C) : KpE b g A C := ⟨Nat.le_trans h.1 k.1, fun p hp hb => (k.2 p hp (Nat.lt_of_lt_of_le hb h.1)).trans (h.2 p hp hb)⟩
theorem KpE.below {b g : Nat} {w w' : World} (h : Below w.heap.size w w') : KpE b g w w' := ⟨h.size, fun p _ hb => h.cell hb⟩
theorem KpE.st {b g : Nat} {w w' : World} {W t k : Int} {s : Value} (hb : b < w.heap.size) (h : KpE b g w w') (hs : St w b W t k s) : St w' b W t k s :=
  ⟨(h.2 ⟨b, 0, none⟩ (.inl rfl) hb).trans hs.1, (h.2 ⟨b, 1, none⟩ (.inl rfl) hb).trans hs.2.1, (h.2 ⟨b, 2, none⟩ (.inl rfl) hb).trans hs.2.2.1, (h.2 ⟨b, 3, none⟩ (.inl rfl) hb).trans hs.2.2.2⟩
theorem KpE.ints {b g : Nat} {w w' : World} {A : Option Addr} {zs : List Int} (h : KpE b g w w') (hs : IntsB w g A zs) : IntsB w' g A zs := fun hn => by
  obtain ⟨ad, e, hl, hc⟩ := hs hn
  exact ⟨ad, e, hl, fun j hj => (h.2 _ (.inr (.inr (by rw [block_add]; exact hl))) (World.block_lt_of_cell? _ _ (hc j hj))).trans (hc j hj)⟩

end Go.Proofs.YtimhnkpccbcohaaGreatDoor

namespace Go.Proofs.YtimhnkpccbcohaaGreatDoor
open Go.RowKit
set_option linter.unusedVariables false

/-- the bytes with the address A, below block b -/
def BytesB (w : World) (b : Nat) (A : Option Addr) (zs : List Int) : Prop :=
  0 < zs.length → ∃ ad, A = some ad ∧ ad.block < b ∧ ∀ j, j < zs.length → w.cell? (ad.add j) = some (.int .u8 (zs.getD j 0))
/-- only the cursor's block has turned, nothing is new -/
def Turned (w w' : World) (g : Nat) : Prop := w.grownBy w' (some g) ∧ w'.heap.size = w.heap.size
theorem Turned.refl (w : World) (g : Nat) : Turned w w g := ⟨World.grownBy.refl w _, rfl⟩
theorem Turned.trans {a b c : World} {g : Nat} (h : Turned a b g) (k : Turned b c g) : Turned a c g :=
  ⟨⟨k.1.os.trans h.1.os, k.1.tape.trans h.1.tape, k.1.output.trans h.1.output, Nat.le_trans h.1.size k.1.size, fun i hi hne => (k.1.block i (by rw [h.2]; exact hi) hne).trans (h.1.block i hi hne)⟩, k.2.trans h.2⟩

theorem cell3 {w : World} {g : Nat} {a b c : Value} {t : TypeId} (h : w.heap[g]? = some (.cells #[a, b, c] t (0, 0))) :
    w.cell? ⟨g, 0, none⟩ = some a ∧ w.cell? ⟨g, 1, none⟩ = some b ∧ w.cell? ⟨g, 2, none⟩ = some c ∧ ∀ i, w.frozen? ⟨g, i, none⟩ = false := by
  refine ⟨?_, ?_, ?_, fun i => ?_⟩
  · rw [cell_of_row w g 0 _ t (0, 0) h]; rfl
  · rw [cell_of_row w g 1 _ t (0, 0) h]; rfl
  · rw [cell_of_row w g 2 _ t (0, 0) h]; rfl
  · exact frozen_of_row w g i _ t h

theorem and255 (z : Int) : 0 ≤ bits .and .i64 z 255 ∧ bits .and .i64 z 255 ≤ 255 := by
  have h : (BitVec.ofInt 64 z &&& BitVec.ofInt 64 255).toNat ≤ 255 := by
    rw [BitVec.toNat_and]
    exact Nat.le_trans Nat.and_le_right (by decide)
  have e : bits .and .i64 z 255 = IntKind.i64.wrap ((BitVec.ofInt 64 z &&& BitVec.ofInt 64 255).toNat : Int) := rfl
  rw [e, IntKind.wrap_i64]
  omega

section
variable {w : World} {g n c : Nat} {A : Option Addr} {i h : Int} {bs : List Int}
theorem BytesB.keep {w w' : World} {b : Nat} {A : Option Addr} {zs : List Int} (h : BytesB w b A zs) (hk : ∀ p : Addr, p.block < b → w'.cell? p = w.cell? p) : BytesB w' b A zs := fun hn => by
  obtain ⟨ad, e, hl, hc⟩ := h hn
  exact ⟨ad, e, hl, fun j hj => (hk _ (by rw [block_add]; exact hl)).trans (hc j hj)⟩
theorem Turned.set (w : World) (g j : Nat) (u : Value) : Turned w (w.setCell ⟨g, j, none⟩ u) g :=
  ⟨grown_set (World.grownBy.refl w _) j u, by simp [World.setCell]⟩
theorem Turned.drewN {a : World} (ht : Turned a w g) (q : Nat) : Turned a (w.drewN q) g := ⟨⟨ht.1.os, ht.1.tape, ht.1.output, ht.1.size, ht.1.block⟩, ht.2⟩
end

/-- the slice of bytes with the address A reads as zs -/
def Bytes (w : World) (A : Option Addr) (zs : List Int) : Prop :=
  0 < zs.length → ∃ ad, A = some ad ∧ ∀ j, j < zs.length → w.cell? (ad.add j) = some (.int .u8 (zs.getD j 0))
theorem Bytes.nil (w : World) (A : Option Addr) : Bytes w A [] := fun h => absurd h (by simp)
theorem Bytes.of_row {w : World} {x : Addr} {zs : List Int} {n : Nat} (hn : n ≤ zs.length) (hc : ∀ i, i < zs.length → w.cell? (x.add i) = some (.int .u8 (zs.getD i 0))) : Bytes w (some x) (zs.take n) := by
  intro _
  refine ⟨x, rfl, fun j hj => ?_⟩
  rw [List.length_take] at hj
  rw [hc j (by omega)]
  simp only [List.getD, List.getElem?_take]
  rw [if_pos (by omega)]
theorem Bytes.toB {w : World} {A : Option Addr} {zs : List Int} (h : Bytes w A zs) : BytesB w w.heap.size A zs := fun hn => by
  obtain ⟨ad, e, hc⟩ := h hn
  exact ⟨ad, e, by have := World.block_lt_of_cell? _ _ (hc 0 hn); rwa [block_add] at this, hc⟩
theorem u8_bd {z : Int} (h : (Lit.int .u8 z).wf = true) : 0 ≤ z ∧ z ≤ 255 := by
  simp [Lit.wf, IntKind.min, IntKind.max, IntKind.signed, IntKind.bits] at h
  omega

end Go.Proofs.YtimhnkpccbcohaaGreatDoor

namespace Go.Proofs.YtimhnkpccbcohaaGreatDoor
open Go.RowKit
set_option linter.unusedVariables false

/-- the cursor's block has turned, and new ones may have come -/
def Moved (w w' : World) (g : Nat) : Prop := w.grownBy w' (some g)
theorem Turned.moved {w w' : World} {g : Nat} (h : Turned w w' g) : Moved w w' g := h.1
theorem Moved.trans {a b c : World} {g : Nat} (h : Moved a b g) (k : Moved b c g) : Moved a c g :=
  ⟨k.os.trans h.os, k.tape.trans h.tape, k.output.trans h.output, Nat.le_trans h.size k.size, fun i hi hne => (k.block i (Nat.lt_of_lt_of_le hi h.size) hne).trans (h.block i hi hne)⟩
theorem Moved.refl (w : World) (g : Nat) : Moved w w g := World.grownBy.refl w _
theorem Moved.alloc (w : World) (o : Obj) (g : Nat) : Moved w (w.alloc o) g := World.grownBy_alloc w o _
theorem Moved.drewN {a w : World} {g : Nat} (h : Moved a w g) (n : Nat) : Moved a (w.drewN n) g := ⟨h.os, h.tape, h.output, h.size, h.block⟩
theorem Moved.drew {a w : World} {g : Nat} (h : Moved a w g) : Moved a w.drew g := ⟨h.os, h.tape, h.output, h.size, h.block⟩
theorem Moved.below {a w : World} {g B : Nat} (h : Moved a w g) (hB : B ≤ g) (hg : g < a.heap.size) : Below B a w :=
  ⟨h.os, h.tape, h.output, h.size, fun k hk => h.block k (by omega) (fun e => by injection e with e; omega)⟩
theorem lit_ints (w : World) (zs : List Int) : IntsB (w.alloc (.cells (zs.map (Value.int .i64)).toArray 3)) (w.heap.size + 1) (some ⟨w.heap.size, 0, none⟩) zs := fun _ =>
  ⟨_, rfl, by simp, fun j hj => by
    rw [add_zero_at, World.cell?_alloc_at _ _ _ _ rfl, List.getElem?_toArray, List.getElem?_map, List.getElem?_eq_getElem hj]
    simp [List.getD, hj]⟩

theorem moved_below {w w' : World} {g : Nat} (hb : Below w.heap.size w w') : Moved w w' g := ⟨hb.os, hb.tape, hb.output, hb.size, fun i hi _ => hb.block i hi⟩
theorem own_take {w : World} {B n c k : Nat} {A : Option Addr} {zs : List Int} (h : Own w B (.slice A n c) zs) (hn : zs.length = n) (hk : k ≤ n) (hA : ∃ ad, A = some ad) : Own w B (.slice A k c) (zs.take k) := by
  obtain ⟨ad, rfl⟩ := hA
  rcases h.2 with ⟨hv, _⟩ | ⟨g, cap, cur, hv, hg, hh, hnc, hcm, hcs, ht⟩
  · cases hv
  · injection hv with h1 h2 h3
    subst h3
    injection h1 with h1
    subst h1
    rw [Nat.mul_one] at ht
    refine ⟨by simp, .inr ⟨g, c, cur, by rw [List.length_take, Nat.min_eq_left (by omega)], hg, hh, by rw [List.length_take]; omega, hcm, hcs, ?_⟩⟩
    rw [List.length_take, Nat.mul_one, List.map_take, Nat.min_eq_left (by omega), ← ht, List.take_take, Nat.min_eq_left (by omega)]
theorem own_form2 {w : World} {B : Nat} {v : Value} {zs : List Int} (h : Own w B v zs) (hp : 0 < zs.length) :
    ∃ g m c, v = .slice (some ⟨g, 0, none⟩) m c ∧ zs.length = m ∧ B ≤ g ∧ m ≤ c ∧ c ≤ maxLen ∧ Own w B (.slice (some ⟨g, 0, none⟩) m c) zs ∧ w.ownsRow B 3 1 (.slice (some ⟨g, 0, none⟩) m c) m (zs.map (Value.int .i64)) := by
  have h0 := h
  unfold Own at h0
  rcases h.2 with ⟨_, h2⟩ | ⟨g, cap, cur, rfl, hg, hh, hnc, hcm, _⟩
  · omega
  · exact ⟨g, zs.length, cap, rfl, rfl, hg, hnc, hcm, h, h0⟩

theorem Moved.set_new {a w : World} {g : Nat} (h : Moved a w g) {p : Addr} (hp : a.heap.size ≤ p.block) (u : Value) : Moved a (w.setCell p u) g :=
  ⟨h.os, h.tape, h.output, by simpa [World.setCell] using h.size, fun i hi hne => (Below.heap_setCell w p u i (by omega)).trans (h.block i hi hne)⟩
theorem Moved.below_base {a w w' : World} {g B : Nat} (h : Moved a w g) (hb : Below B w w') (hB : a.heap.size ≤ B) : Moved a w' g :=
  ⟨hb.os.trans h.os, hb.tape.trans h.tape, hb.output.trans h.output, Nat.le_trans h.size hb.size, fun i hi hne => (hb.block i (by omega)).trans (h.block i hi hne)⟩
/-- storing into a row of the call's own -/
theorem own_store {w : World} {B g j m c : Nat} {zs : List Int} (h : Own w B (.slice (some ⟨g, 0, none⟩) m c) zs) (hm : zs.length = m) (hj : j < m) :
    (∃ y, w.cell? ⟨g, j, none⟩ = some (.int .i64 y)) ∧ w.frozen? ⟨g, j, none⟩ = false ∧ ∀ x, Own (w.setCell ⟨g, j, none⟩ (.int .i64 x)) B (.slice (some ⟨g, 0, none⟩) m c) (zs.set j x) := by
  unfold Own at *
  rw [hm] at h
  refine ⟨⟨zs.getD j 0, (h.cellAt j (by omega)).trans ?_⟩, h.frozenAt j, fun x => ?_⟩
  · rw [List.getElem?_map, List.getElem?_eq_getElem (by omega)]
    simp [List.getD, show j < zs.length by omega]
  · rw [List.length_set, hm, List.map_set]
    exact (h.stored j _).1

end Go.Proofs.YtimhnkpccbcohaaGreatDoor

namespace Go.Proofs.YtimhnkpccbcohaaGreatDoor
open Go.RowKit
set_option linter.unusedVariables false

/-- the numbers for lines that begin with word i: none, and then add for each end in p, given the numbers r behind -/
def accE (add : Int → Nat → Nat → Int → Int) (z : Int) (i : Nat) (r : List Int) (es : List Nat) : Int := es.foldl (fun acc q => add acc i q (r.getD q 0)) z
theorem accE_snoc (add : Int → Nat → Nat → Int → Int) (z : Int) (i : Nat) (r : List Int) (es : List Nat) (q : Nat) : accE add z i r (es ++ [q]) = add (accE add z i r es) i q (r.getD q 0) := by
  unfold accE; rw [List.foldl_append]; rfl
/-- the row when the last d words are done -/
def rowE (m : Msr) (zs : List Int) (add : Int → Nat → Nat → Int → Int) (e z : Int) : Nat → List Int
  | 0 => List.replicate zs.length 0 ++ [e]
  | d + 1 => (rowE m zs add e z d).set (zs.length - 1 - d) (accE add z (zs.length - 1 - d) (rowE m zs add e z d) (endsTo m zs (zs.length - 1 - d) (zs.length + 1)))
theorem rowE_len (m : Msr) (zs : List Int) (add : Int → Nat → Nat → Int → Int) (e z : Int) (d : Nat) : (rowE m zs add e z d).length = zs.length + 1 := by
  induction d with
  | zero => simp [rowE]
  | succ d ih => simp [rowE, ih]
theorem set_set_same {l : List Int} {i : Nat} {x y : Int} : (l.set i x).set i y = l.set i y := by simp
theorem getD_set_ne {l : List Int} {i q : Nat} {x : Int} (h : i ≠ q) : (l.set i x).getD q 0 = l.getD q 0 := by
  simp [List.getD, List.getElem?_set_ne h]
theorem getD_set_eq {l : List Int} {i : Nat} {x : Int} (h : i < l.length) : (l.set i x).getD i 0 = x := by
  simp [List.getD, h]
theorem row_start (n : Nat) (e : Int) : (List.replicate (n + 1) (0 : Int)).set n e = List.replicate n 0 ++ [e] := by
  rw [List.replicate_succ']
  rw [List.set_append_right _ _ (by simp)]
  simp
/-- a block of cells -/
def Blk (w : World) (B : Nat) (cs : Array Value) (T : TypeId) : Prop := w.heap[B]? = some (.cells cs T (0, 0))
theorem Blk.new (w : World) (cs : Array Value) (T : TypeId) : Blk (w.alloc (.cells cs T)) w.heap.size cs T := heap_alloc_new w _
theorem Blk.lt {w : World} {B : Nat} {cs : Array Value} {T : TypeId} (h : Blk w B cs T) : B < w.heap.size := (Array.getElem?_eq_some_iff.1 h).1
theorem Blk.below {w w' : World} {B b : Nat} {cs : Array Value} {T : TypeId} (h : Blk w B cs T) (hb : Below b w w') (hB : B < b) : Blk w' B cs T := (hb.block B hB).trans h
theorem Blk.kept {w w' : World} {B : Nat} {cs : Array Value} {T : TypeId} {row : Option Nat} (h : Blk w B cs T) (hg : w.grownBy w' row) (hr : ∀ r, row = some r → ∃ o : Obj, w.heap[r]? = some o ∧ o.isCells = false) : Blk w' B cs T := by
  refine (hg.block B h.lt (fun e => ?_)).trans h
  obtain ⟨o, ho, hc⟩ := hr B e.symm
  rw [show w.heap[B]? = _ from h] at ho; cases ho; cases hc
theorem Blk.other {w : World} {B : Nat} {cs : Array Value} {T : TypeId} (h : Blk w B cs T) (p : Addr) (u : Value) (hne : B ≠ p.block) : Blk (w.setCell p u) B cs T := by
  unfold Blk; rw [Below.heap_setCell w p u B hne]; exact h
theorem Blk.set1 {w : World} {B : Nat} {v : Value} {T : TypeId} (h : Blk w B #[v] T) (u : Value) : Blk (w.setCell ⟨B, 0, none⟩ u) B #[u] T := by
  unfold Blk; rw [heap_setCell_same w B 0 _ _ _ h]; rfl
theorem Blk.one {w : World} {B : Nat} {v : Value} {T : TypeId} (h : Blk w B #[v] T) : w.cell? ⟨B, 0, none⟩ = some v ∧ w.frozen? ⟨B, 0, none⟩ = false :=
  ⟨by rw [cell_of_row w B 0 _ _ (0, 0) h]; rfl, frozen_of_row w B 0 _ _ h⟩
theorem Blk.st {w : World} {B : Nat} {W t k : Int} {s : Value} {T : TypeId} (h : Blk w B #[.int .i64 W, .int .i64 t, .int .i64 k, s] T) : St w B W t k s :=
  ⟨by rw [cell_of_row w B 0 _ _ (0, 0) h]; rfl, by rw [cell_of_row w B 1 _ _ (0, 0) h]; rfl, by rw [cell_of_row w B 2 _ _ (0, 0) h]; rfl, by rw [cell_of_row w B 3 _ _ (0, 0) h]; rfl⟩
theorem Own.keptC {w w' : World} {B : Nat} {v : Value} {zs : List Int} {row : Option Nat} (h : Own w B v zs) (hg : w.grownBy w' row) (hr : ∀ r, row = some r → ∃ o : Obj, w.heap[r]? = some o ∧ o.isCells = false) : Own w' B v zs := by
  refine ⟨h.1, ?_⟩
  rcases h.2 with hn | ⟨g, cap, cur, hv, hB, hh, rest⟩
  · exact .inl hn
  · refine .inr ⟨g, cap, cur, hv, hB, (hg.block g (Array.getElem?_eq_some_iff.1 hh).1 (fun e => ?_)).trans hh, rest⟩
    obtain ⟨o, ho, hc⟩ := hr g e.symm
    rw [hh] at ho; cases ho; cases hc
theorem Own.setOther {w : World} {B : Nat} {v : Value} {zs : List Int} (h : Own w B v zs) (p : Addr) (u : Value) (hne : ∀ g, v.ownBlock = some g → g ≠ p.block) : Own (w.setCell p u) B v zs := by
  refine ⟨h.1, ?_⟩
  rcases h.2 with hn | ⟨g, cap, cur, hv, hB, hh, rest⟩
  · exact .inl hn
  · refine .inr ⟨g, cap, cur, hv, hB, (Below.heap_setCell w p u g (hne g (by rw [hv]; rfl))).trans hh, rest⟩

/-- marks of loops over functions: each names a block for deferred calls that holds none -/
def Marks (w : World) (Ds : List Nat) : Prop := ∀ D ∈ Ds, w.heap[D]? = some (.deferred (some []))
def markOf (D : Nat) : Deferred := { target := .collected D, args := #[] }
theorem Marks.below {w w' : World} {Ds : List Nat} {b : Nat} (h : Marks w Ds) (hb : Below b w w') (hB : ∀ D ∈ Ds, D < b) : Marks w' Ds := fun D hD => (hb.block D (hB D hD)).trans (h D hD)
theorem Marks.kept {w w' : World} {Ds : List Nat} {row : Option Nat} (h : Marks w Ds) (hg : w.grownBy w' row) (hr : ∀ D ∈ Ds, row ≠ some D) : Marks w' Ds := fun D hD =>
  (hg.block D (Array.getElem?_eq_some_iff.1 (h D hD)).1 (fun e => hr D hD e.symm)).trans (h D hD)
theorem Marks.lt {w : World} {Ds : List Nat} (h : Marks w Ds) : ∀ D ∈ Ds, D < w.heap.size := fun D hD => (Array.getElem?_eq_some_iff.1 (h D hD)).1
theorem Marks.set {w : World} {Ds : List Nat} (h : Marks w Ds) {p : Addr} (u : Value) (hp : ∃ o : Obj, w.heap[p.block]? = some o ∧ o.isCells = true) : Marks (w.setCell p u) Ds := fun D hD => by
  refine (Below.heap_setCell w p u D (fun e => ?_)).trans (h D hD)
  obtain ⟨o, ho, hc⟩ := hp
  have := h D hD
  rw [e, ho] at this; cases this; cases hc
theorem leaves_marks {F : Fence} {n : Nat} {fn : Func} {tmps : Array Value} {R : Ending → World → Prop} (b : Nat) (Φ : World → Prop) (hΦ : ∀ w D, b ≤ D → Φ w → w.heap[D]? = some (.deferred (some [])) → Φ (w.putObj D (.deferred none)))
    (hfin : ∀ w, Φ w → LeavesIn F n Tryz.prog fn tmps R [] .returning w) : ∀ (Ds : List Nat) (w : World), Ds.Nodup → (∀ D ∈ Ds, b ≤ D) → Marks w Ds → Φ w → LeavesInM F n Tryz.prog fn tmps R (Ds.map markOf) .returning w := by
  intro Ds
  induction Ds with
  | nil => intro w _ _ _ h; exact hfin w h
  | cons D Ds ih =>
    intro w hnd hb hm h
    have hD := hm D List.mem_cons_self
    rw [List.nodup_cons] at hnd
    refine ⟨by simp, .inl ⟨D, _, rfl, run_takeDeferred hD, ih _ hnd.2 (fun D' hD' => hb D' (List.mem_cons_of_mem _ hD')) (fun D' hD' => ?_) (hΦ w D (hb D List.mem_cons_self) h hD)⟩⟩
    exact (World.putObj_heap_other (fun e => hnd.1 (by rw [← e]; exact hD'))).trans (hm D' (List.mem_cons_of_mem _ hD'))
theorem own_putObj {w : World} {B D : Nat} {v : Value} {zs : List Int} (h : Own w B v zs) (hD : w.heap[D]? = some (.deferred (some []))) : Own (w.putObj D (.deferred none)) B v zs :=
  h.keptC (grownBy_putObj' w D _) (fun r e => by cases e; exact ⟨_, hD, rfl⟩)
theorem below_putObj {b : Nat} {w0 w : World} {D : Nat} (h : Below b w0 w) (hD : w.heap[D]? = some (.deferred (some []))) (hb : b ≤ D) : Below b w0 (w.putObj D (.deferred none)) :=
  h.grown (grownBy_putObj' w D _) (by have := h.size; have := (Array.getElem?_eq_some_iff.1 hD).1; omega) (fun k e => by cases e; exact hb)
theorem KpE.putObj {b g l : Nat} {w w' : World} {o : Obj} (o' : Obj) (hb : b + 1 < w.heap.size) (hg : g ≤ w.heap.size) (hl : w.heap.size ≤ l) (h : w'.heap[l]? = some o) : KpE b g w' (w'.putObj l o') := by
  have hg2 := grownBy_putObj' w' l o'
  refine ⟨hg2.size, fun p hp hps => World.cell?_of_block (hg2.block p.block hps (fun e => ?_))⟩
  injection e with e
  omega
theorem KpE.store {b g : Nat} {w : World} {p : Addr} (u : Value) (h1 : g ≤ p.block) (h2 : p.block < b) : KpE b g w (w.setCell p u) := by
  refine ⟨Nat.le_of_eq (by simp [World.setCell]), fun q hq _ => World.cell?_of_block (Below.heap_setCell w p u q.block (fun e => ?_))⟩
  omega
theorem KpE.drewN {b g : Nat} {w w' : World} (h : KpE b g w w') (k : Nat) : KpE b g w (w'.drewN k) := h
section
variable {F : Fence} {n0 : Nat} {ops : Array Oper} {rest : List Oper} {o : Oper} {a : Act} {Q : Exit → Act → World → Prop}
theorem wplI_make_int (w : World) (hg : o.guard = none) (l : Operand) (hop : o.op = Op.makeSlice 22 l l) (n : Nat) (L : Int) (hl : a.eval l = .int .i64 L) (hL : L = (n : Int)) (hn : n ≤ 2097152)
    (hK : ∀ w', Own w' w.heap.size (.slice (some ⟨w.heap.size, 0, none⟩) n n) (List.replicate n 0) → Below w.heap.size w w' → wpListIn F n0 Tryz.prog ops Q rest (a.put o.dst (.slice (some ⟨w.heap.size, 0, none⟩) n n)) w') :
    wpListIn F n0 Tryz.prog ops Q (o :: rest) a w := by
  obtain ⟨i0, hi, hz0, hz1, hz2⟩ := info_parts intInfo
  refine wpListIn_plain hg fun K hK' => ?_
  obtain ⟨w', hrun, r1, r2⟩ := run_make_full (P := Tryz.prog) w w.heap.size 22 3 i0 (.int .i64 0) 1 Tryz.underlying22 hi hz0 hz1 .i64 .i64 n (by rw [hz2]; omega) (by unfold maxLen; omega) (Nat.le_refl _)
  subst hL
  unfold Oper.wpIn
  refine ⟨?_, ?_⟩
  · simp [Oper.about, hop]
  · rw [Oper.semAt_plain F _ _ (by rw [hop]; intro c hc'; cases hc')]
    simp [execOp, hop, hl, hrun, Result.andThen]
    refine hK' _ _ (hK w' ?_ ((Below.refl _ _).grown r2 (Nat.le_refl _) (fun k hk => by cases hk)))
    rw [made_rep _ rfl] at r1
    unfold Own
    rw [List.length_replicate, List.map_replicate]
    exact r1
end
end Go.Proofs.YtimhnkpccbcohaaGreatDoor
