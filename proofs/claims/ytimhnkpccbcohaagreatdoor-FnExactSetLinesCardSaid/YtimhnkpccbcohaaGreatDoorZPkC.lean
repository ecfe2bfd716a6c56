/-
  Contracts and plain mathematics (In, List, LineM, LineA, Box, Load, Rise, WordM, Cut, SetM, SetL, BrkM, EndsM, Ends, Cur, Cm, EachM), each with its conditions in its own statement.
-/
import Derived.Test.YtimhnkpccbcohaaGreatDoorRows
import Derived.WalkKit
import Derived.WalkSpells
import Derived.BigQuiet
import Derived.Test.YtimhnkpccbcohaaGreatDoorZPkA
import Derived.Outline
import Derived.Deep.RegionHeld3
import Derived.Deep.RegionWith
import Derived.RangeFuncNested
import Derived.RangeFuncBound
import Derived.RangeFuncCalls
import Derived.RangeFuncLeaves
import Derived.Shelf.Abstract
import Derived.Shelf.RegionOpen
import Derived.OwnWalkIn
import Derived.TacticsInMore
import Derived.LoopNIn
import Derived.LoopIn
namespace Go.Proofs.YtimhnkpccbcohaaGreatDoor
open Go.RowKit

def inB (x a b : Int) : Bool := decide (a ≤ x ∧ x ≤ b)

theorem l1In_any (x a b : Int) (w : World) : Calls Tryz.prog 64 #[.int .i64 x, .int .i64 a, .int .i64 b] w fun e w' => e = .returned (.bool (inB x a b)) ∧ w = w' := by
  by_cases h1 : a ≤ x
  · by_cases h2 : x ≤ b
    · have hr : inB x a b = true := by simp [inB, h1, h2]
      rw [hr]; clear hr
      go_enter Tryz.func64, Tryz.ntmps64
      go_wp2
      go_ret
      exact ⟨rfl, rfl⟩
    · have hr : inB x a b = false := by simp [inB, h2]
      rw [hr]; clear hr
      go_enter Tryz.func64, Tryz.ntmps64
      go_wp2
      go_ret
      exact ⟨rfl, rfl⟩
  · have hr : inB x a b = false := by simp [inB, h1]
    rw [hr]; clear hr
    go_enter Tryz.func64, Tryz.ntmps64
    go_wp2
    go_ret
    exact ⟨rfl, rfl⟩
end Go.Proofs.YtimhnkpccbcohaaGreatDoor

namespace Go.Proofs.YtimhnkpccbcohaaGreatDoor
open Go.RowKit
set_option linter.unusedVariables false

theorem all_take {p : Int → Bool} {zs : List Int} {k : Nat} {x : Int} (h : zs[k]? = some x) : (zs.take (k + 1)).all p = ((zs.take k).all p && p x) := by
  rw [take_at h]; simp
theorem all_bad {p : Int → Bool} {zs : List Int} {k : Nat} {x : Int} (h : zs[k]? = some x) (hb : p x = false) : zs.all p = false := by
  rw [List.all_eq_false]
  exact ⟨x, mem_at h, by rw [hb]; simp⟩

set_option maxHeartbeats 800000 in
theorem isListOf_any (F : Nat) (hF : ∀ (args : Array Value) (w : World), Sem.run Tryz.prog (callFunc F args) w = .ok (.enter F args) w) (p : Int → Bool) (hp : ∀ (x : Int) (w : World), Calls Tryz.prog F #[.int .i64 x] w fun e w' => e = .returned (.bool (p x)) ∧ w = w')
    (A : Option Addr) (n c : Nat) (zs : List Int) (lo hi : Int) (w : World) (hn : zs.length = n) (hm : n ≤ maxLen) (h : Ints w A zs) :
    Calls Tryz.prog 132 #[.slice A n c, .int .i64 lo, .int .i64 hi, .func (.func F) #[] #[]] w fun e w' => e = .returned (.bool (inB n lo hi && zs.all p)) ∧ w = w' := by
  unfold maxLen at hm
  have Hn := Lib.hid hn; clear hn
  by_cases hlo : (n : Int) < lo
  · have H0 : Hid (inB n lo hi = false) := by show _ = _; unfold inB; rw [decide_eq_false_iff_not]; omega
    go_enter Tryz.func132, Tryz.ntmps132
    go_wp2
    go_ret
    exact ⟨ret_bool (by rw [H0.out]; rfl), rfl⟩
  by_cases hhi : hi < (n : Int)
  · have H0 : Hid (inB n lo hi = false) := by show _ = _; unfold inB; rw [decide_eq_false_iff_not]; omega
    go_enter Tryz.func132, Tryz.ntmps132
    go_wp2
    go_ret
    exact ⟨ret_bool (by rw [H0.out]; rfl), rfl⟩
  have H1 : Hid (inB n lo hi = true) := by show _ = _; unfold inB; rw [decide_eq_true_eq]; omega
  go_enter Tryz.func132, Tryz.ntmps132
  go_wp2
  go_loop [23] (fun i => ∃ k : Nat, k ≤ n ∧ i = .int .i64 k ∧ (zs.take k).all p = true) (fun i => n - (intOf i).toNat)
  case atStart => exact ⟨0, Nat.zero_le _, rfl, rfl⟩
  case round =>
    obtain ⟨k, hk, rfl, hall⟩ := hrel
    have Hall := Lib.hid hall; clear hall
    by_cases hlt : k < n
    · obtain ⟨ad, x, rfl, hx, hc⟩ := h.at_ (k := k) (by rw [Hn.out]; exact hlt)
      cases hs : p x
      · have Hb := Lib.hid (all_bad hx.out hs)
        go_wp2_with fail
        refine (hp _ _).mono ?_
        rintro e w' ⟨rfl, rfl⟩
        rw [hs]
        go_wp2
        go_ret
        exact ⟨ret_bool (by rw [Hb.out]; simp), rfl⟩
      · have Hs := Lib.hid (all_take (p := p) hx.out)
        go_wp2_with fail
        refine (hp _ _).mono ?_
        rintro e w' ⟨rfl, rfl⟩
        rw [hs]
        go_wp2
        go_round
        case rel => exact ⟨k + 1, by omega, by go_num, by rw [Hs.out, Hall.out, hs]; rfl⟩
        case measure => simp [intOf]; omega
    · have hkn : k = n := by omega
      subst hkn
      go_wp2
      go_ret
      refine ⟨ret_bool ?_, rfl⟩
      have := Hall.out
      rw [take_all Hn.out] at this
      rw [this, H1.out]; rfl

theorem isWidth_any (x : Int) (w : World) : Calls Tryz.prog 133 #[.int .i64 x] w fun e w' => e = .returned (.bool (inB x 1 60)) ∧ w = w' := by
  by_cases h1 : 1 ≤ x
  · by_cases h2 : x ≤ 60
    · have hr : inB x 1 60 = true := by simp [inB, h1, h2]
      rw [hr]; clear hr
      go_enter Tryz.func133, Tryz.ntmps133
      go_wp2
      go_ret
      exact ⟨rfl, rfl⟩
    · have hr : inB x 1 60 = false := by simp [inB, h2]
      rw [hr]; clear hr
      go_enter Tryz.func133, Tryz.ntmps133
      go_wp2
      go_ret
      exact ⟨rfl, rfl⟩
  · have hr : inB x 1 60 = false := by simp [inB, h1]
    rw [hr]; clear hr
    go_enter Tryz.func133, Tryz.ntmps133
    go_wp2
    go_ret
    exact ⟨rfl, rfl⟩
end Go.Proofs.YtimhnkpccbcohaaGreatDoor

namespace Go.Proofs.YtimhnkpccbcohaaGreatDoor
open Go.RowKit
set_option linter.unusedVariables false

def sumL : List Int → Int
  | [] => 0
  | x :: xs => x + sumL xs
def bandsN : List Int → Nat
  | [] => 0
  | x :: xs => (if x = 0 then 1 else 0) + bandsN xs
theorem sumL_append (xs ys : List Int) : sumL (xs ++ ys) = sumL xs + sumL ys := by
  induction xs with
  | nil => simp [sumL]
  | cons x xs ih => simp only [List.cons_append, sumL, ih]; omega
theorem bandsN_append (xs ys : List Int) : bandsN (xs ++ ys) = bandsN xs + bandsN ys := by
  induction xs with
  | nil => simp [bandsN]
  | cons x xs ih => simp only [List.cons_append, bandsN, ih]; omega
theorem bandsN_le (xs : List Int) : bandsN xs ≤ xs.length := by
  induction xs with
  | nil => simp [bandsN]
  | cons x xs ih => simp only [bandsN, List.length_cons]; split <;> omega
theorem sumL_at {zs : List Int} {k : Nat} {x : Int} (h : zs[k]? = some x) : sumL (zs.take (k + 1)) = sumL (zs.take k) + x := by
  rw [take_at h, sumL_append]; simp [sumL]
theorem bandsN_at {zs : List Int} {k : Nat} {x : Int} (h : zs[k]? = some x) : bandsN (zs.take (k + 1)) = bandsN (zs.take k) + (if x = 0 then 1 else 0) := by
  rw [take_at h, bandsN_append]; simp [bandsN]
theorem bandsN_take (zs : List Int) (k : Nat) : bandsN (zs.take k) ≤ bandsN zs := by
  have := bandsN_append (zs.take k) (zs.drop k)
  rw [List.take_append_drop] at this; omega
theorem sumL_bound {zs : List Int} (h : ∀ x ∈ zs, 0 ≤ x ∧ x ≤ 60) : 0 ≤ sumL zs ∧ sumL zs ≤ 60 * (zs.length : Int) := by
  induction zs with
  | nil => simp [sumL]
  | cons x xs ih =>
    have h1 := h x (List.mem_cons_self)
    have h2 := ih (fun y hy => h y (List.mem_cons_of_mem _ hy))
    simp only [sumL, List.length_cons]; omega

/-- a measure: width, thin, thick -/
structure Msr where
  w : Int
  t : Int
  k : Int
def msrB (m : Msr) : Bool := inB m.w 1 2000 && (inB m.t 1 100 && inB m.k m.t 100)
theorem inB_true {x a b : Int} (h : inB x a b = true) : a ≤ x ∧ x ≤ b := by unfold inB at h; exact of_decide_eq_true h
theorem msrB_iff {m : Msr} : msrB m = true ↔ 1 ≤ m.w ∧ m.w ≤ 2000 ∧ 1 ≤ m.t ∧ m.t ≤ m.k ∧ m.k ≤ 100 := by
  unfold msrB
  constructor
  · intro h
    rw [Bool.and_eq_true, Bool.and_eq_true] at h
    have h1 := inB_true h.1; have h2 := inB_true h.2.1; have h3 := inB_true h.2.2
    omega
  · intro h
    rw [Bool.and_eq_true, Bool.and_eq_true]
    unfold inB
    exact ⟨decide_eq_true (by omega), decide_eq_true (by omega), decide_eq_true (by omega)⟩
def itemB (x : Int) : Bool := inB x 0 60
def itemsB (zs : List Int) : Bool := zs.all itemB
def lineB (zs : List Int) : Bool := itemsB zs && decide (zs.length ≤ 120)
theorem itemsB_mem {zs : List Int} (h : itemsB zs = true) : ∀ x ∈ zs, 0 ≤ x ∧ x ≤ 60 := fun x hx => by
  unfold itemsB at h
  rw [List.all_eq_true] at h
  exact inB_true (h x hx)
theorem lineB_parts {zs : List Int} (h : lineB zs = true) : (∀ x ∈ zs, 0 ≤ x ∧ x ≤ 60) ∧ zs.length ≤ 120 := by
  unfold lineB at h
  rw [Bool.and_eq_true] at h
  exact ⟨itemsB_mem h.1, of_decide_eq_true h.2⟩
theorem lineB_take {zs : List Int} (h : lineB zs = true) (k : Nat) : 0 ≤ sumL (zs.take k) ∧ sumL (zs.take k) ≤ 7200 ∧ bandsN (zs.take k) ≤ 120 := by
  obtain ⟨h1, h2⟩ := lineB_parts h
  have h3 := sumL_bound (zs := zs.take k) (fun x hx => h1 x (List.mem_of_mem_take hx))
  have h4 := bandsN_le (zs.take k)
  rw [List.length_take] at h3 h4
  omega
theorem lineB_sum {zs : List Int} (h : lineB zs = true) : 0 ≤ sumL zs ∧ sumL zs ≤ 7200 ∧ bandsN zs ≤ 120 := by
  have := lineB_take h zs.length
  rwa [List.take_length] at this
theorem itemsB_take {zs : List Int} {k : Nat} {x : Int} (h : zs[k]? = some x) : itemsB (zs.take (k + 1)) = (itemsB (zs.take k) && itemB x) := by
  unfold itemsB; rw [take_at h]; simp
theorem itemsB_bad {zs : List Int} {k : Nat} {x : Int} (h : zs[k]? = some x) (hb : itemB x = false) : itemsB zs = false := by
  unfold itemsB
  rw [List.all_eq_false]
  exact ⟨x, mem_at h, by rw [hb]; simp⟩

/-- what a load asks: L for the letters, B bands, e for each -/
def widF (L : Int) (B : Nat) (e : Int) : Int := L + B * e
def riseF (m : Msr) (L : Int) (B : Nat) : Int := if B = 0 then 0 else min (m.k - m.t) ((m.w - widF L B m.t).tdiv B)
def restF (m : Msr) (L : Int) (B : Nat) : Int := m.w - widF L B (m.t + riseF m L B)
def fullF (m : Msr) (L : Int) (B : Nat) : Bool := restF m L B == 0 || decide (restF m L B < B)
/-- the rise of a load that fits: the greatest that has room -/
theorem riseF_spec {m : Msr} {L : Int} {B : Nat} (hm : msrB m = true) (hf : widF L B m.t ≤ m.w) : 0 ≤ riseF m L B ∧ riseF m L B ≤ m.k - m.t ∧ 0 ≤ restF m L B ∧ (B = 0 → riseF m L B = 0) ∧ (0 < B → riseF m L B < m.k - m.t → restF m L B < B) := by
  rw [msrB_iff] at hm
  unfold restF riseF
  by_cases hb : B = 0
  · have hb0 : (B : Int) = 0 := by omega
    rw [if_pos hb]
    simp only [widF, hb0, Int.zero_mul, Int.add_zero] at hf ⊢
    exact ⟨by omega, by omega, by omega, fun _ => trivial, fun h => by omega⟩
  · rw [if_neg hb]
    obtain ⟨R, hR⟩ : ∃ R, m.w - widF L B m.t = R := ⟨_, rfl⟩
    have hR0 : 0 ≤ R := by omega
    have hbp : (0 : Int) < (B : Int) := by omega
    rw [hR, Int.tdiv_eq_ediv_of_nonneg hR0]
    have hq0 : 0 ≤ R / (B : Int) := Int.ediv_nonneg hR0 (by omega)
    have hq1 : (B : Int) * (R / (B : Int)) ≤ R := Int.mul_ediv_self_le (by omega)
    have hq2 : R < (B : Int) * (R / (B : Int)) + (B : Int) := Int.lt_mul_ediv_self_add hbp
    have hW : ∀ r : Int, m.w - widF L B (m.t + r) = R - (B : Int) * r := fun r => by
      unfold widF at *
      rw [Int.mul_add]; omega
    rw [hW]
    generalize R / (B : Int) = q at *
    by_cases hle : m.k - m.t ≤ q
    · rw [Int.min_eq_left hle]
      have : (B : Int) * (m.k - m.t) ≤ (B : Int) * q := Int.mul_le_mul_of_nonneg_left hle (by omega)
      exact ⟨by omega, by omega, by omega, fun h => absurd h hb, fun _ h => by omega⟩
    · rw [Int.min_eq_right (by omega)]
      exact ⟨by omega, by omega, by omega, fun h => absurd h hb, fun _ _ => by omega⟩
theorem riseF_is {m : Msr} {L : Int} {B : Nat} (hm : msrB m = true) (hf : widF L B m.t ≤ m.w) {r : Int} (h0 : 0 ≤ r) (h1 : r ≤ m.k - m.t) (h2 : 0 ≤ m.w - widF L B (m.t + r)) (h3 : B = 0 → r = 0) (h4 : 0 < B → r < m.k - m.t → m.w - widF L B (m.t + r) < B) : riseF m L B = r := by
  obtain ⟨p0, p1, p2, p3, p4⟩ := riseF_spec hm hf
  unfold restF at p2 p4
  by_cases hb : B = 0
  · rw [p3 hb, h3 hb]
  · have hbp : (0 : Int) < (B : Int) := by omega
    have hlin : ∀ a b : Int, a < b → widF L B (m.t + a) + B ≤ widF L B (m.t + b) := fun a b hab => by
      unfold widF
      have e1 : (B : Int) * (m.t + b) = (B : Int) * (m.t + a) + (B : Int) * (b - a) := by rw [← Int.mul_add]; congr 1; omega
      have e2 : (B : Int) * 1 ≤ (B : Int) * (b - a) := Int.mul_le_mul_of_nonneg_left (by omega) (by omega)
      omega
    rcases Int.lt_trichotomy (riseF m L B) r with hlt | he | hgt
    · have := hlin _ _ hlt
      have := p4 (by omega) (by omega)
      omega
    · exact he
    · have := hlin _ _ hgt
      have := h4 (by omega) (by omega)
      omega

/-- the width of all items with e for each band -/
def widL (zs : List Int) (e : Int) : Int := widF (sumL zs) (bandsN zs) e
def fitL (m : Msr) (zs : List Int) : Bool := decide (widL zs m.t ≤ m.w)
/-- a line that fits -/
def fitsB (m : Msr) (zs : List Int) : Bool := lineB zs && fitL m zs
def goodB (m : Msr) (zs : List Int) : Bool := msrB m && fitsB m zs
def riseL (m : Msr) (zs : List Int) : Int := riseF m (sumL zs) (bandsN zs)
def restL (m : Msr) (zs : List Int) : Int := restF m (sumL zs) (bandsN zs)
def fullL (m : Msr) (zs : List Int) : Bool := fullF m (sumL zs) (bandsN zs)
def fullB (m : Msr) (zs : List Int) : Bool := goodB m zs && fullL m zs

theorem goodB_parts {m : Msr} {zs : List Int} (h : goodB m zs = true) : msrB m = true ∧ lineB zs = true ∧ widL zs m.t ≤ m.w := by
  unfold goodB fitsB fitL at h
  simp only [Bool.and_eq_true, decide_eq_true_eq] at h
  exact ⟨h.1, h.2.1, h.2.2⟩
theorem rise_spec {m : Msr} {zs : List Int} (h : goodB m zs = true) : 0 ≤ riseL m zs ∧ riseL m zs ≤ m.k - m.t ∧ 0 ≤ restL m zs ∧ (bandsN zs = 0 → riseL m zs = 0) ∧ (0 < bandsN zs → riseL m zs < m.k - m.t → restL m zs < bandsN zs) := by
  obtain ⟨hm, hl, hf⟩ := goodB_parts h
  exact riseF_spec hm hf
/-- bands of at most 120 at a width of at most 101 -/
theorem mul_small {B e : Int} (h0 : 0 ≤ B) (h1 : B ≤ 120) (h2 : 0 ≤ e) (h3 : e ≤ 101) : 0 ≤ B * e ∧ B * e ≤ 12120 := by
  refine ⟨Int.mul_nonneg h0 h2, ?_⟩
  have : B * e ≤ 120 * 101 := Int.mul_le_mul h1 h3 h2 (by omega)
  omega

theorem mul_wide {B e : Int} (h0 : 0 ≤ B) (h1 : B ≤ 120) (h2 : -2000100 ≤ e) (h3 : e ≤ 101) : -240012000 ≤ B * e ∧ B * e ≤ 12120 := by
  by_cases he : 0 ≤ e
  · have := mul_small h0 h1 he h3
    omega
  · obtain ⟨y, rfl⟩ : ∃ y, e = -y := ⟨-e, by omega⟩
    have e1 : B * y ≤ 120 * 2000100 := Int.mul_le_mul h1 (by omega) (by omega) (by omega)
    have e2 : 0 ≤ B * y := Int.mul_nonneg h0 (by omega)
    rw [Int.mul_neg]; omega

/-- the width of band j if e of them are wider by 1 -/
def bandW (a e : Int) (j : Nat) : Int := a + (if (j : Int) < e then 1 else 0)
def bandL (a e : Int) (n : Nat) : List Int := (List.range n).map (bandW a e)
theorem bandL_len (a e : Int) (n : Nat) : (bandL a e n).length = n := by simp [bandL]
theorem bandL_get (a e : Int) {n j : Nat} (h : j < n) : (bandL a e n)[j]? = some (bandW a e j) := by simp [bandL, h]
/-- how many bands are wider by 1 -/
def moreL (m : Msr) (zs : List Int) : Int := if fullL m zs then restL m zs else 0
/-- the width of item k -/
def wideW (a e : Int) (zs : List Int) (k : Nat) : Int := if zs.getD k 0 = 0 then bandW a e (bandsN (zs.take k)) else zs.getD k 0
def wideL (a e : Int) (zs : List Int) (k : Nat) : List Int := (List.range k).map (wideW a e zs)
theorem wideL_len (a e : Int) (zs : List Int) (k : Nat) : (wideL a e zs k).length = k := by simp [wideL]
theorem wideL_succ (a e : Int) (zs : List Int) (k : Nat) : wideL a e zs (k + 1) = wideL a e zs k ++ [wideW a e zs k] := by simp [wideL, List.range_succ]
theorem wideL_get (a e : Int) (zs : List Int) {n j : Nat} (h : j < n) : (wideL a e zs n)[j]? = some (wideW a e zs j) := by simp [wideL, h]
theorem wideW_band {a e : Int} {zs : List Int} {k : Nat} (h : zs[k]? = some 0) : wideW a e zs k = bandW a e (bandsN (zs.take k)) := by
  unfold wideW; rw [getD_at h, if_pos rfl]
theorem wideW_item {a e : Int} {zs : List Int} {k : Nat} {x : Int} (h : zs[k]? = some x) (hx : x ≠ 0) : wideW a e zs k = x := by
  unfold wideW; rw [getD_at h, if_neg hx]
/-- how far the left side of item k is from the left side of the line -/
def leftW (a e : Int) (zs : List Int) (k : Nat) : Int := sumL (wideL a e zs k)
theorem leftW_succ (a e : Int) (zs : List Int) (k : Nat) : leftW a e zs (k + 1) = leftW a e zs k + wideW a e zs k := by
  unfold leftW; rw [wideL_succ, sumL_append]; simp [sumL]
def leftL (a e : Int) (zs : List Int) (k : Nat) : List Int := (List.range k).map (leftW a e zs)
theorem leftL_len (a e : Int) (zs : List Int) (k : Nat) : (leftL a e zs k).length = k := by simp [leftL]
theorem leftL_succ (a e : Int) (zs : List Int) (k : Nat) : leftL a e zs (k + 1) = leftL a e zs k ++ [leftW a e zs k] := by simp [leftL, List.range_succ]
def placesL (m : Msr) (zs : List Int) : List Int := if goodB m zs then leftL (m.t + riseL m zs) (moreL m zs) zs zs.length else []
theorem more_bound {m : Msr} {zs : List Int} (h : goodB m zs = true) : 0 ≤ moreL m zs ∧ moreL m zs ≤ 2000 := by
  obtain ⟨hm, hl, hf⟩ := goodB_parts h
  obtain ⟨p0, p1, p2, p3, p4⟩ := rise_spec h
  have hs := lineB_sum hl
  rw [msrB_iff] at hm
  unfold moreL
  split
  · refine ⟨p2, ?_⟩
    unfold restL restF widF
    have : 0 ≤ (bandsN zs : Int) * (m.t + riseF m (sumL zs) (bandsN zs)) := Int.mul_nonneg (by omega) (by unfold riseL at p0; omega)
    omega
  · omega
theorem bandW_bound {a e : Int} {j : Nat} (h0 : 0 ≤ a) (h1 : a ≤ 100) : 0 ≤ bandW a e j ∧ bandW a e j ≤ 101 := by
  unfold bandW; split <;> omega
theorem wideW_bound {a e : Int} {zs : List Int} (h0 : 0 ≤ a) (h1 : a ≤ 100) (hz : ∀ x ∈ zs, 0 ≤ x ∧ x ≤ 60) (k : Nat) : 0 ≤ wideW a e zs k ∧ wideW a e zs k ≤ 101 := by
  unfold wideW
  split
  · exact bandW_bound h0 h1
  · rename_i hne
    by_cases hk : k < zs.length
    · have := hz zs[k] (List.getElem_mem hk)
      have e : zs.getD k 0 = zs[k] := by simp [List.getD, hk]
      rw [e]; omega
    · exact absurd (by simp [List.getD, List.getElem?_eq_none (Nat.le_of_not_lt hk)]) hne
theorem leftW_bound {a e : Int} {zs : List Int} (h0 : 0 ≤ a) (h1 : a ≤ 100) (hz : ∀ x ∈ zs, 0 ≤ x ∧ x ≤ 60) : ∀ k : Nat, 0 ≤ leftW a e zs k ∧ leftW a e zs k ≤ 101 * (k : Int)
  | 0 => by simp [leftW, wideL, sumL]
  | k + 1 => by
    have h2 := leftW_bound (e := e) h0 h1 hz k
    have h3 := wideW_bound (e := e) h0 h1 hz k
    rw [leftW_succ]; omega
theorem riseThin {m : Msr} {zs : List Int} (h : goodB m zs = true) : 0 ≤ m.t + riseL m zs ∧ m.t + riseL m zs ≤ 100 := by
  obtain ⟨hm, _, _⟩ := goodB_parts h
  obtain ⟨p0, p1, _⟩ := rise_spec h
  rw [msrB_iff] at hm
  omega

def rise1 (m : Msr) (zs : List Int) : Int := if goodB m zs then riseL m zs else 0
def rest1 (m : Msr) (zs : List Int) : Int := if goodB m zs then restL m zs else 0
theorem spr_no {m : Msr} {zs : List Int} (h : goodB m zs = false) : rise1 m zs = 0 ∧ rest1 m zs = 0 := by
  unfold rise1 rest1; rw [h]; simp
theorem spr_is {m : Msr} {zs : List Int} (h : goodB m zs = true) : rise1 m zs = riseL m zs ∧ rest1 m zs = restL m zs := by
  unfold rise1 rest1; rw [h]; simp
end Go.Proofs.YtimhnkpccbcohaaGreatDoor

namespace Go.Proofs.YtimhnkpccbcohaaGreatDoor
open Go.RowKit
set_option linter.unusedVariables false

theorem isFrom_any (a x b : Int) (w : World) : Calls Tryz.prog 77 #[.int .i64 a, .int .i64 x, .int .i64 b] w fun e w' => e = .returned (.bool (inB x a b)) ∧ w = w' := by
  by_cases h1 : a ≤ x
  · by_cases h2 : x ≤ b
    · have hr : inB x a b = true := by simp [inB, h1, h2]
      rw [hr]; clear hr
      go_enter Tryz.func77, Tryz.ntmps77
      go_wp2
      go_ret
      exact ⟨rfl, rfl⟩
    · have hr : inB x a b = false := by simp [inB, h2]
      rw [hr]; clear hr
      go_enter Tryz.func77, Tryz.ntmps77
      go_wp2
      go_ret
      exact ⟨rfl, rfl⟩
  · have hr : inB x a b = false := by simp [inB, h1]
    rw [hr]; clear hr
    go_enter Tryz.func77, Tryz.ntmps77
    go_wp2
    go_ret
    exact ⟨rfl, rfl⟩

theorem isItem_any (x : Int) (w : World) : Calls Tryz.prog 134 #[.int .i64 x] w fun e w' => e = .returned (.bool (itemB x)) ∧ w = w' := by
  by_cases h0 : x = 0
  · subst h0
    go_enter Tryz.func134, Tryz.ntmps134
    go_wp2
    go_ret
    exact ⟨rfl, rfl⟩
  · have hr : Hid (itemB x = inB x 1 60) := by
      show _ = _
      unfold itemB inB
      congr 1
      apply propext
      omega
    have h1 : (x == 0) = false := by simpa using h0
    clear h0
    go_enter Tryz.func134, Tryz.ntmps134
    go_wp2_with (go_at_call 133; refine (isWidth_any _ _).mono ?_; rintro e w' ⟨rfl, rfl⟩)
    go_ret
    exact ⟨ret_bool hr.out.symm, rfl⟩

theorem isItem_enter (args : Array Value) (w : World) : Sem.run Tryz.prog (callFunc 134 args) w = .ok (.enter 134 args) w := by kernel_rfl
theorem lineB_is {zs : List Int} {n : Nat} (hn : zs.length = n) : lineB zs = (inB n 0 120 && zs.all itemB) := by
  unfold lineB itemsB inB
  rw [hn, Bool.and_comm]
  congr 1
  rw [Bool.eq_iff_iff, decide_eq_true_eq, decide_eq_true_eq]
  omega

theorem implLineOk_any (A : Option Addr) (n c : Nat) (zs : List Int) (w : World) (hn : zs.length = n) (hm : n ≤ maxLen) (h : Ints w A zs) :
    Calls Tryz.prog 112 #[.slice A n c] w fun e w' => e = .returned (.bool (lineB zs)) ∧ w = w' := by
  have Hn := Lib.hid hn; clear hn
  go_enter Tryz.func112, Tryz.ntmps112
  go_wp2_with fail
  refine (isListOf_any 134 isItem_enter itemB isItem_any _ _ _ zs _ _ _ Hn.out hm h).mono ?_
  rintro e w' ⟨rfl, rfl⟩
  go_wp2
  go_ret
  exact ⟨ret_bool (lineB_is Hn.out).symm, rfl⟩

set_option maxHeartbeats 400000 in
theorem specLineOk_any (A : Option Addr) (n c : Nat) (zs : List Int) (w : World) (hn : zs.length = n) (hm : n ≤ maxLen) (h : Ints w A zs) :
    Calls Tryz.prog 106 #[.slice A n c] w fun e w' => e = .returned (.bool (lineB zs)) ∧ w = w' := by
  unfold maxLen at hm
  have Hn := Lib.hid hn; clear hn
  go_enter Tryz.func106, Tryz.ntmps106
  go_wp2
  go_loop [7] (fun i => ∃ k : Nat, k ≤ n ∧ i = .int .i64 k ∧ itemsB (zs.take k) = true) (fun i => n - (intOf i).toNat)
  case atStart => exact ⟨0, Nat.zero_le _, rfl, rfl⟩
  case round =>
    obtain ⟨k, hk, rfl, hall⟩ := hrel
    have Hall := Lib.hid hall; clear hall
    by_cases hlt : k < n
    · obtain ⟨ad, x, rfl, hx, hc⟩ := h.at_ (k := k) (by rw [Hn.out]; exact hlt)
      cases hs : inB x 0 60
      · have Hb := Lib.hid (itemsB_bad hx.out hs)
        go_wp2_with (go_at_call 64; refine (l1In_any _ _ _ _).mono ?_; rintro e w' ⟨rfl, rfl⟩)
        go_ret
        exact ⟨ret_bool (by unfold lineB; rw [Hb.out]; rfl), rfl⟩
      · have Hs := Lib.hid (itemsB_take hx.out)
        have HX : Hid (itemB x = true) := hs
        go_wp2_with (go_at_call 64; refine (l1In_any _ _ _ _).mono ?_; rintro e w' ⟨rfl, rfl⟩)
        go_round
        case rel => exact ⟨k + 1, by omega, by go_num, by rw [Hs.out, Hall.out, HX.out]; rfl⟩
        case measure => simp [intOf]; omega
    · have hkn : k = n := by omega
      subst hkn
      go_wp2
      go_ret
      refine ⟨ret_bool ?_, rfl⟩
      have := Hall.out
      rw [take_all Hn.out] at this
      unfold lineB
      rw [this, Hn.out]
      simp only [Bool.true_and]
      rw [Bool.eq_iff_iff]
      simp only [decide_eq_true_eq]
      omega

set_option maxHeartbeats 800000 in
theorem specMeasureOk_any (W t k : Int) (w : World) : Calls Tryz.prog 65 #[.agg #[.int .i64 W, .int .i64 t, .int .i64 k]] w fun e w' => e = .returned (.bool (msrB ⟨W, t, k⟩)) ∧ Below w.heap.size w w' := by
  have HW := Lib.hid (show Below w.heap.size w (w.alloc (.cells #[.int .i64 W, .int .i64 t, .int .i64 k] 34)) from (Below.refl _ _).alloc (Nat.le_refl _) _)
  cases h1 : inB W 1 2000
  · have HR : Hid (msrB ⟨W, t, k⟩ = false) := by show _ = _; unfold msrB; rw [h1]; rfl
    go_enter Tryz.func65, Tryz.ntmps65
    go_wp2_with (go_at_call 64; refine (l1In_any _ _ _ _).mono ?_; rintro e w' ⟨rfl, rfl⟩)
    go_ret
    exact ⟨ret_bool HR.out.symm, HW.out⟩
  cases h2 : inB t 1 100
  · have HR : Hid (msrB ⟨W, t, k⟩ = false) := by show _ = _; unfold msrB; rw [h1, h2]; rfl
    go_enter Tryz.func65, Tryz.ntmps65
    go_wp2_with (go_at_call 64; refine (l1In_any _ _ _ _).mono ?_; rintro e w' ⟨rfl, rfl⟩)
    go_ret
    exact ⟨ret_bool HR.out.symm, HW.out⟩
  have HR : Hid (msrB ⟨W, t, k⟩ = inB k t 100) := by show _ = _; unfold msrB; rw [h1, h2]; rfl
  go_enter Tryz.func65, Tryz.ntmps65
  go_wp2_with (go_at_call 64; refine (l1In_any _ _ _ _).mono ?_; rintro e w' ⟨rfl, rfl⟩)
  go_ret
  exact ⟨ret_bool HR.out.symm, HW.out⟩

set_option maxHeartbeats 800000 in
theorem implMeasureOk_any (W t k : Int) (w : World) : Calls Tryz.prog 111 #[.agg #[.int .i64 W, .int .i64 t, .int .i64 k]] w fun e w' => e = .returned (.bool (msrB ⟨W, t, k⟩)) ∧ Below w.heap.size w w' := by
  have HW := Lib.hid (show Below w.heap.size w (w.alloc (.cells #[.int .i64 W, .int .i64 t, .int .i64 k] 34)) from (Below.refl _ _).alloc (Nat.le_refl _) _)
  cases h1 : inB W 1 2000
  · have HR : Hid (msrB ⟨W, t, k⟩ = false) := by show _ = _; unfold msrB; rw [h1]; rfl
    go_enter Tryz.func111, Tryz.ntmps111
    go_wp2_with (go_at_call 77; refine (isFrom_any _ _ _ _).mono ?_; rintro e w' ⟨rfl, rfl⟩)
    go_ret
    exact ⟨ret_bool HR.out.symm, HW.out⟩
  cases h2 : inB t 1 100
  · have HR : Hid (msrB ⟨W, t, k⟩ = false) := by show _ = _; unfold msrB; rw [h1, h2]; rfl
    go_enter Tryz.func111, Tryz.ntmps111
    go_wp2_with (go_at_call 77; refine (isFrom_any _ _ _ _).mono ?_; rintro e w' ⟨rfl, rfl⟩)
    go_ret
    exact ⟨ret_bool HR.out.symm, HW.out⟩
  have HR : Hid (msrB ⟨W, t, k⟩ = inB k t 100) := by show _ = _; unfold msrB; rw [h1, h2]; rfl
  go_enter Tryz.func111, Tryz.ntmps111
  go_wp2_with (go_at_call 77; refine (isFrom_any _ _ _ _).mono ?_; rintro e w' ⟨rfl, rfl⟩)
  go_ret
  exact ⟨ret_bool HR.out.symm, HW.out⟩
end Go.Proofs.YtimhnkpccbcohaaGreatDoor

namespace Go.Proofs.YtimhnkpccbcohaaGreatDoor
open Go.RowKit
theorem lay2 (w : World) (a b : Value) (T : TypeId) : (w.alloc (.cells #[a, b] T)).cell? ⟨w.heap.size, 0, none⟩ = some a ∧ (w.alloc (.cells #[a, b] T)).cell? ⟨w.heap.size, 1, none⟩ = some b := by
  constructor <;> (rw [World.cell?_alloc_at _ _ _ _ rfl]; rfl)
theorem hold2 {w w' : World} {B g : Nat} {a b : Value} (hb : Below B w w') (hg : g < B) (h : w.cell? ⟨g, 0, none⟩ = some a ∧ w.cell? ⟨g, 1, none⟩ = some b) : w'.cell? ⟨g, 0, none⟩ = some a ∧ w'.cell? ⟨g, 1, none⟩ = some b :=
  ⟨(hb.cell (p := ⟨g, 0, none⟩) hg).trans h.1, (hb.cell (p := ⟨g, 1, none⟩) hg).trans h.2⟩
theorem lay3 (w : World) (a b c : Value) (T : TypeId) : (w.alloc (.cells #[a, b, c] T)).cell? ⟨w.heap.size, 0, none⟩ = some a ∧ (w.alloc (.cells #[a, b, c] T)).cell? ⟨w.heap.size, 1, none⟩ = some b ∧ (w.alloc (.cells #[a, b, c] T)).cell? ⟨w.heap.size, 2, none⟩ = some c := by
  refine ⟨?_, ?_, ?_⟩ <;> (rw [World.cell?_alloc_at _ _ _ _ rfl]; rfl)
theorem hold3 {w w' : World} {B g : Nat} {a b c : Value} (hb : Below B w w') (hg : g < B) (h : w.cell? ⟨g, 0, none⟩ = some a ∧ w.cell? ⟨g, 1, none⟩ = some b ∧ w.cell? ⟨g, 2, none⟩ = some c) : w'.cell? ⟨g, 0, none⟩ = some a ∧ w'.cell? ⟨g, 1, none⟩ = some b ∧ w'.cell? ⟨g, 2, none⟩ = some c :=
  ⟨(hb.cell (p := ⟨g, 0, none⟩) hg).trans h.1, (hb.cell (p := ⟨g, 1, none⟩) hg).trans h.2.1, (hb.cell (p := ⟨g, 2, none⟩) hg).trans h.2.2⟩
theorem undrew {w w1 : World} (h : Below w.drew.heap.size w.drew w1) : Below w.heap.size w w1 := ((Below.refl _ w).drew).trans h
theorem below_new (w : World) (o : Obj) : Below w.heap.size w (w.alloc o) := (Below.refl _ _).alloc (Nat.le_refl _) _
end Go.Proofs.YtimhnkpccbcohaaGreatDoor

namespace Go.Proofs.YtimhnkpccbcohaaGreatDoor
open Go.RowKit
set_option linter.unusedVariables false


set_option maxHeartbeats 400000 in
theorem ldWidth_any (L B e : Int) (w : World) (h0 : 0 ≤ L) (h1 : L ≤ 1000000) (h2 : 0 ≤ B) (h3 : B ≤ 120) (h4 : -2000100 ≤ e) (h5 : e ≤ 101) :
    Calls Tryz.prog 135 #[.agg #[.int .i64 L, .int .i64 B], .int .i64 e] w fun r w' => r = .returned (.int .i64 (L + B * e)) ∧ Below w.heap.size w w' := by
  obtain ⟨m0, m1⟩ := mul_wide h2 h3 h4 h5
  have HT := Lib.hid (below_new w (.cells #[.int .i64 L, .int .i64 B] 155))
  go_enter Tryz.func135, Tryz.ntmps135
  go_wp2
  go_ret
  exact ⟨rfl, HT.out⟩

def ldCells (w : World) (g : Nat) (a b : Int) : Prop := w.heap[g]? = some (.cells #[.int .i64 a, .int .i64 b] 155 (0, 0))
theorem ldCells.cell {w : World} {g : Nat} {a b : Int} (h : ldCells w g a b) : w.cell? ⟨g, 0, none⟩ = some (.int .i64 a) ∧ w.cell? ⟨g, 1, none⟩ = some (.int .i64 b) ∧ w.frozen? ⟨g, 0, none⟩ = false ∧ w.frozen? ⟨g, 1, none⟩ = false :=
  ⟨by rw [cell_of_row w g 0 _ _ (0, 0) h]; rfl, by rw [cell_of_row w g 1 _ _ (0, 0) h]; rfl, frozen_of_row w g 0 _ _ h, frozen_of_row w g 1 _ _ h⟩
theorem ldCells.set0 {w : World} {g : Nat} {a b : Int} (h : ldCells w g a b) (x : Int) : ldCells (w.setCell ⟨g, 0, none⟩ (.int .i64 x)) g x b := by
  unfold ldCells; rw [heap_setCell_same w g 0 _ _ _ h]; rfl
theorem ldCells.set1 {w : World} {g : Nat} {a b : Int} (h : ldCells w g a b) (x : Int) : ldCells (w.setCell ⟨g, 1, none⟩ (.int .i64 x)) g a x := by
  unfold ldCells; rw [heap_setCell_same w g 1 _ _ _ h]; rfl
theorem ldCells.other {w : World} {g : Nat} {a b : Int} (h : ldCells w g a b) (p : Addr) (u : Value) (hne : g ≠ p.block) : ldCells (w.setCell p u) g a b := by
  unfold ldCells; rw [Below.heap_setCell w p u g hne]; exact h

set_option maxRecDepth 100000 in
set_option maxHeartbeats 1600000 in
theorem loadOf_any (A : Option Addr) (n c : Nat) (zs : List Int) (w : World) (hn : zs.length = n) (h : Ints w A zs) (hl : lineB zs = true) :
    Calls Tryz.prog 113 #[.slice A n c] w fun e w' => e = .returned (.agg #[.int .i64 (sumL zs), .int .i64 (bandsN zs)]) ∧ Below w.heap.size w w' := by
  obtain ⟨hz, hlen⟩ := lineB_parts hl
  have HZ := Lib.hid hz
  have HL := Lib.hid (lineB_take hl)
  have Hn := Lib.hid hn
  have hm : n ≤ 120 := by omega
  have H := Lib.hid h
  clear hz hlen hn hl h
  go_enter Tryz.func113, Tryz.ntmps113
  go_wp2
  go_loopw [8] (fun i wr => ∃ k : Nat, k ≤ n ∧ i = .int .i64 k ∧ ldCells wr (w.heap.size + 1) (sumL (zs.take k)) (bandsN (zs.take k)) ∧ ldCells wr w.heap.size 0 0 ∧ Below w.heap.size w wr) (fun i _ => n - (intOf i).toNat)
  case atStart =>
    refine ⟨0, Nat.zero_le _, rfl, ?_, ?_, ?_⟩
    · unfold ldCells
      have := heap_alloc_new (w.alloc (.cells #[.int .i64 0, .int .i64 0] 155)) (.cells #[.int .i64 0, .int .i64 0] 155)
      rw [World.size_alloc] at this
      exact this
    · unfold ldCells
      rw [Below.heap_alloc _ _ _ (by simp)]
      exact heap_alloc_new w _
    · exact ((Below.refl _ _).alloc (Nat.le_refl _) _).alloc (by simp) _
  case round =>
    obtain ⟨k, hk, rfl, hc1, hc0, hb⟩ := hrel
    have HC1 := Lib.hid hc1; have HC0 := Lib.hid hc0; have HB := Lib.hid hb
    clear hc1 hc0 hb
    obtain ⟨d0, d1, f0, f1⟩ := HC1.out.cell
    by_cases hlt : k < n
    · obtain ⟨ad, x, rfl, hx, hc⟩ := (H.out.below HB.out).at_ (k := k) (by rw [Hn.out]; exact hlt)
      have HS := Lib.hid (sumL_at hx.out)
      have HN := Lib.hid (bandsN_at hx.out)
      have hb1 := HL.out k
      have hx2 := HZ.out x (mem_at hx.out)
      obtain ⟨sm, hsm⟩ : ∃ s, sumL (zs.take k) = s := ⟨_, rfl⟩
      obtain ⟨bn, hbn⟩ : ∃ b, bandsN (zs.take k) = b := ⟨_, rfl⟩
      rw [hsm] at HS HC1 d0 hb1
      rw [hbn] at HN HC1 d1 hb1
      have Hsm := Lib.hid hsm; have Hbn := Lib.hid hbn
      clear hsm hbn
      by_cases h0 : x = 0
      · subst h0
        have HX := Lib.hid ((HC1.out.set1 ((bn : Int) + 1)))
        have HY := Lib.hid (HC0.out.other ⟨w.heap.size + 1, 1, none⟩ (.int .i64 ((bn : Int) + 1)) (by simp))
        have HT := Lib.hid (HB.out.setCell (p := ⟨w.heap.size + 1, 1, none⟩) (by simp) (.int .i64 ((bn : Int) + 1)))
        go_wp2
        go_roundw
        case rel => exact ⟨k + 1, by omega, by go_num, by rw [HS.out, HN.out, Int.add_zero]; simpa using HX.out, HY.out, HT.out⟩
        case measure => simp [intOf]; omega
      · have h0' : (x == 0) = false := by simpa using h0
        have HX := Lib.hid ((HC1.out.set0 (sm + x)))
        have HY := Lib.hid (HC0.out.other ⟨w.heap.size + 1, 0, none⟩ (.int .i64 (sm + x)) (by simp))
        have HT := Lib.hid (HB.out.setCell (p := ⟨w.heap.size + 1, 0, none⟩) (by simp) (.int .i64 (sm + x)))
        have HN2 : Hid (bandsN (zs.take (k + 1)) = bn) := by show _ = _; rw [HN.out, if_neg h0]; rfl
        clear h0
        go_wp2
        go_roundw
        case rel => exact ⟨k + 1, by omega, by go_num, by rw [HS.out, HN2.out]; exact HX.out, HY.out, HT.out⟩
        case measure => simp [intOf]; omega
    · have hkn : k = n := by omega
      subst hkn
      rw [take_all Hn.out] at HC1 d0 d1
      obtain ⟨e0, e1, g0, g1⟩ := HC0.out.cell
      have HT := Lib.hid ((HB.out.setCell (p := ⟨w.heap.size, 0, none⟩) (Nat.le_refl _) (.int .i64 (sumL zs))).setCell (p := ⟨w.heap.size, 1, none⟩) (Nat.le_refl _) (.int .i64 (bandsN zs)))
      obtain ⟨r0, r1, _, _⟩ := ((HC0.out.set0 (sumL zs)).set1 (bandsN zs)).cell
      go_wp2
      refine bodyPost_ret (v := .agg #[.int .i64 (sumL zs), .int .i64 (bandsN zs)]) (by simp [results, Tryz.results113, go_sem, r0, r1]) rfl ⟨rfl, HT.out⟩
end Go.Proofs.YtimhnkpccbcohaaGreatDoor

namespace Go.Proofs.YtimhnkpccbcohaaGreatDoor
open Go.RowKit
set_option linter.unusedVariables false

/-- the world in which a method of load begins -/
theorem ldWorld (w : World) (L B W t k : Int) : ∃ w0, (w.alloc (.cells #[.int .i64 L, .int .i64 B] 155)).alloc (.cells #[.int .i64 W, .int .i64 t, .int .i64 k] 34) = w0 ∧ Below w.heap.size w w0 ∧ w0.heap.size = w.heap.size + 2 ∧
    (w0.cell? ⟨w.heap.size, 0, none⟩ = some (.int .i64 L) ∧ w0.cell? ⟨w.heap.size, 1, none⟩ = some (.int .i64 B)) ∧
    (w0.cell? ⟨w.heap.size + 1, 0, none⟩ = some (.int .i64 W) ∧ w0.cell? ⟨w.heap.size + 1, 1, none⟩ = some (.int .i64 t) ∧ w0.cell? ⟨w.heap.size + 1, 2, none⟩ = some (.int .i64 k)) := by
  refine ⟨_, rfl, (below_new _ _).trans ((below_new _ _).mono (by simp)), by simp, ?_, ?_⟩
  · exact hold2 (below_new _ _) (by simp) (lay2 w (.int .i64 L) (.int .i64 B) 155)
  · have := lay3 (w.alloc (.cells #[.int .i64 L, .int .i64 B] 155)) (.int .i64 W) (.int .i64 t) (.int .i64 k) 34
    rw [World.size_alloc] at this
    exact this

set_option maxRecDepth 100000 in
set_option maxHeartbeats 1600000 in
theorem ldFits_any (L : Int) (B : Nat) (W t k : Int) (w : World) (h0 : 0 ≤ L) (h1 : L ≤ 1000000) (h3 : B ≤ 120) (hm : msrB ⟨W, t, k⟩ = true) :
    Calls Tryz.prog 114 #[.agg #[.int .i64 L, .int .i64 B], .agg #[.int .i64 W, .int .i64 t, .int .i64 k]] w fun e w' => e = .returned (.bool (decide (widF L B t ≤ W))) ∧ Below w.heap.size w w' := by
  have hM := msrB_iff.1 hm
  simp only at hM
  obtain ⟨w0, hw0, hb0, hz0, X, P⟩ := ldWorld w L B W t k
  have T0 := Lib.hid hb0; have X0 := Lib.hid X; have P0 := Lib.hid P; have Z0 := Lib.hid hz0
  clear hb0 hz0 X P
  go_enter Tryz.func114, Tryz.ntmps114
  go_wp2_with fail
  clear hw0
  obtain ⟨q0, q1⟩ := X0.out
  obtain ⟨p0, p1, p2⟩ := P0.out
  have hz := Z0.out
  go_region_held3 (fun w' => (w'.cell? ⟨w.heap.size, 0, none⟩ = some (.int .i64 L) ∧ w'.cell? ⟨w.heap.size, 1, none⟩ = some (.int .i64 B)) ∧ (w'.cell? ⟨w.heap.size + 1, 0, none⟩ = some (.int .i64 W) ∧ w'.cell? ⟨w.heap.size + 1, 1, none⟩ = some (.int .i64 t) ∧ w'.cell? ⟨w.heap.size + 1, 2, none⟩ = some (.int .i64 k)))
    (first | go_keep | exact ⟨X1.out, P1.out⟩)
    (first
      | (go_at_call 135; refine (ldWidth_any L B t _ h0 h1 (by omega) (by omega) (by omega) (by omega)).mono ?_; rintro e w1 ⟨rfl, hb1⟩; have hb01 : Below w0.heap.size w0 w1 := undrew hb1; have X1 := Lib.hid (hold2 hb01 (by omega) X0.out); have P1 := Lib.hid (hold3 hb01 (by omega) P0.out); have T1 := Lib.hid (T0.out.trans (hb01.mono (B' := w.heap.size) (by omega))); clear hb1 hb01))
  go_wp2
  go_ret
  exact ⟨rfl, T1.out⟩

theorem tdiv_small {x b : Int} (h0 : -4000000 ≤ x) (h1 : x ≤ 4000000) (hb : 0 < b) : -4000000 ≤ x.tdiv b ∧ x.tdiv b ≤ 4000000 := by
  by_cases hx : 0 ≤ x
  · rw [Int.tdiv_eq_ediv_of_nonneg hx]
    have e1 : 0 ≤ x / b := Int.ediv_nonneg hx (by omega)
    have e2 : x / b ≤ x := Int.ediv_le_self b hx
    omega
  · obtain ⟨y, rfl⟩ : ∃ y, x = -y := ⟨-x, by omega⟩
    rw [Int.neg_tdiv, Int.tdiv_eq_ediv_of_nonneg (by omega)]
    have e1 : 0 ≤ y / b := Int.ediv_nonneg (by omega) (by omega)
    have e2 : y / b ≤ y := Int.ediv_le_self b (by omega)
    omega
theorem widF_small {L : Int} {B : Nat} {e : Int} (h0 : 0 ≤ L) (h1 : L ≤ 1000000) (h3 : B ≤ 120) (h4 : 0 ≤ e) (h5 : e ≤ 101) : 0 ≤ widF L B e ∧ widF L B e ≤ 1012120 := by
  have := mul_small (B := B) (by omega) (by omega) h4 h5
  unfold widF; omega
theorem riseF_bound {m : Msr} {L : Int} {B : Nat} (h0 : 0 ≤ L) (h1 : L ≤ 1000000) (h3 : B ≤ 120) (hm : msrB m = true) : -2000000 ≤ riseF m L B ∧ riseF m L B ≤ 100 := by
  have hM := msrB_iff.1 hm
  have hw := widF_small (e := m.t) h0 h1 h3 (by omega) (by omega)
  unfold riseF
  split
  · omega
  · have hx0 : -1100000 ≤ m.w - widF L B m.t := by omega
    have : -1100000 ≤ (m.w - widF L B m.t).tdiv (B : Int) := by
      by_cases hx : 0 ≤ m.w - widF L B m.t
      · rw [Int.tdiv_eq_ediv_of_nonneg hx]
        have : 0 ≤ (m.w - widF L B m.t) / (B : Int) := Int.ediv_nonneg hx (by omega)
        omega
      · obtain ⟨y, hy⟩ : ∃ y, m.w - widF L B m.t = -y := ⟨-(m.w - widF L B m.t), by omega⟩
        rw [hy, Int.neg_tdiv, Int.tdiv_eq_ediv_of_nonneg (by omega)]
        have : y / (B : Int) ≤ y := Int.ediv_le_self _ (by omega)
        omega
    omega

set_option maxRecDepth 100000 in
set_option maxHeartbeats 1600000 in
theorem ldRise_any (L : Int) (B : Nat) (W t k : Int) (w : World) (h0 : 0 ≤ L) (h1 : L ≤ 1000000) (h3 : B ≤ 120) (hm : msrB ⟨W, t, k⟩ = true) :
    Calls Tryz.prog 138 #[.agg #[.int .i64 L, .int .i64 B], .agg #[.int .i64 W, .int .i64 t, .int .i64 k]] w fun e w' => e = .returned (.int .i64 (riseF ⟨W, t, k⟩ L B)) ∧ Below w.heap.size w w' := by
  have hM := msrB_iff.1 hm
  simp only at hM
  obtain ⟨w0, hw0, hb0, hz0, X, P⟩ := ldWorld w L B W t k
  have T0 := Lib.hid hb0; have X0 := Lib.hid X; have P0 := Lib.hid P; have Z0 := Lib.hid hz0
  clear hb0 hz0 X P
  by_cases hB : B = 0
  · subst hB
    have HR : Hid (riseF ⟨W, t, k⟩ L 0 = 0) := by show _ = _; unfold riseF; rw [if_pos rfl]
    obtain ⟨q0, q1⟩ := X0.out
    go_enter Tryz.func138, Tryz.ntmps138
    go_wp2
    go_ret
    exact ⟨ret_int HR.out.symm, by have := T0.out; rw [← hw0] at this; exact this⟩
  have hw := widF_small (e := t) h0 h1 h3 (by omega) (by omega)
  have hd := tdiv_small (x := W - widF L B t) (b := B) (by omega) (by omega) (by omega)
  have HR : Hid (riseF ⟨W, t, k⟩ L B = min (k - t) ((W - widF L B t).tdiv B)) := by show _ = _; unfold riseF; rw [if_neg hB]
  obtain ⟨q, hq⟩ : ∃ q, (W - (L + B * t)).tdiv (B : Int) = q := ⟨_, rfl⟩
  have HQ : Hid ((W - widF L B t).tdiv (B : Int) = q) := hq
  rw [HQ.out] at hd HR
  have hb0 : ((B : Int) == 0) = false := by rw [beq_eq_false_iff_ne]; omega
  have hbx : ¬ ((B : Int) = 0) := by omega
  have hwx := mul_small (B := B) (e := t) (by omega) (by omega) (by omega) (by omega)
  go_enter Tryz.func138, Tryz.ntmps138
  obtain ⟨q0, q1⟩ := X0.out
  obtain ⟨p0, p1, p2⟩ := P0.out
  go_wp2_with fail
  clear hw0
  have hz := Z0.out
  go_region_held3 (fun w' => (w'.cell? ⟨w.heap.size, 0, none⟩ = some (.int .i64 L) ∧ w'.cell? ⟨w.heap.size, 1, none⟩ = some (.int .i64 B)) ∧ (w'.cell? ⟨w.heap.size + 1, 0, none⟩ = some (.int .i64 W) ∧ w'.cell? ⟨w.heap.size + 1, 1, none⟩ = some (.int .i64 t) ∧ w'.cell? ⟨w.heap.size + 1, 2, none⟩ = some (.int .i64 k)))
    (first | go_keep | exact ⟨X1.out, P1.out⟩)
    (first
      | (go_at_call 135; refine (ldWidth_any L B t _ h0 h1 (by omega) (by omega) (by omega) (by omega)).mono ?_; rintro e w1 ⟨rfl, hb1⟩; have hc1 : Below w0.heap.size w0 w1 := undrew hb1; have X1 := Lib.hid (hold2 hc1 (by omega) X0.out); have P1 := Lib.hid (hold3 hc1 (by omega) P0.out); have T1 := Lib.hid (T0.out.trans (hc1.mono (B' := w.heap.size) (by omega))); have z1 := hc1.size; clear hb1 hc1))
  have e1 : IntKind.i64.wrap (k - t) = k - t := by rw [IntKind.wrap_i64]; omega
  have e2 : IntKind.i64.wrap (W - (L + B * t)) = W - (L + B * t) := by rw [IntKind.wrap_i64]; omega
  have e3 : IntKind.i64.wrap q = q := by rw [IntKind.wrap_i64]; omega
  go_wp2
  all_goals
    go_ret
    refine ⟨ret_int ?_, T1.out⟩
    rw [HR.out]
    omega

set_option maxRecDepth 100000 in
set_option maxHeartbeats 1600000 in
theorem ldRest_any (L : Int) (B : Nat) (W t k : Int) (w : World) (h0 : 0 ≤ L) (h1 : L ≤ 1000000) (h3 : B ≤ 120) (hm : msrB ⟨W, t, k⟩ = true) :
    Calls Tryz.prog 137 #[.agg #[.int .i64 L, .int .i64 B], .agg #[.int .i64 W, .int .i64 t, .int .i64 k]] w fun e w' => e = .returned (.int .i64 (restF ⟨W, t, k⟩ L B)) ∧ Below w.heap.size w w' := by
  have hM := msrB_iff.1 hm
  simp only at hM
  obtain ⟨w0, hw0, hb0, hz0, X, P⟩ := ldWorld w L B W t k
  have T0 := Lib.hid hb0; have X0 := Lib.hid X; have P0 := Lib.hid P; have Z0 := Lib.hid hz0
  clear hb0 hz0 X P
  have hr := riseF_bound h0 h1 h3 hm
  have hr1 : riseF ⟨W, t, k⟩ L B ≤ k - t := by
    unfold riseF; split
    · show (0 : Int) ≤ k - t; omega
    · exact Int.min_le_left _ _
  have HR : Hid (restF ⟨W, t, k⟩ L B = W - (L + B * (t + riseF ⟨W, t, k⟩ L B))) := rfl
  obtain ⟨r, hre⟩ : ∃ r, riseF ⟨W, t, k⟩ L B = r := ⟨_, rfl⟩
  have HRe := Lib.hid hre
  rw [hre] at hr hr1 HR
  clear hre
  have hwx := mul_wide (B := B) (e := t + r) (by omega) (by omega) (by omega) (by omega)
  have e1 : IntKind.i64.wrap (t + r) = t + r := by rw [IntKind.wrap_i64]; omega
  have e2 : IntKind.i64.wrap (W - (L + B * (t + r))) = W - (L + B * (t + r)) := by rw [IntKind.wrap_i64]; omega
  obtain ⟨q0, q1⟩ := X0.out
  obtain ⟨p0, p1, p2⟩ := P0.out
  go_enter Tryz.func137, Tryz.ntmps137
  go_wp2_with fail
  clear hw0
  have hz := Z0.out
  go_region_held3 (fun w' => (w'.cell? ⟨w.heap.size, 0, none⟩ = some (.int .i64 L) ∧ w'.cell? ⟨w.heap.size, 1, none⟩ = some (.int .i64 B)) ∧ (w'.cell? ⟨w.heap.size + 1, 0, none⟩ = some (.int .i64 W) ∧ w'.cell? ⟨w.heap.size + 1, 1, none⟩ = some (.int .i64 t) ∧ w'.cell? ⟨w.heap.size + 1, 2, none⟩ = some (.int .i64 k)))
    (first | go_keep | exact ⟨X1.out, P1.out⟩ | exact ⟨X2.out, P2.out⟩)
    (first
      | (go_at_call 138; refine (ldRise_any L B W t k _ h0 h1 h3 hm).mono ?_; rintro e w1 ⟨he, hb1⟩; rw [HRe.out] at he; subst he; have hc1 : Below w0.heap.size w0 w1 := undrew hb1; have X1 := Lib.hid (hold2 hc1 (by omega) X0.out); have P1 := Lib.hid (hold3 hc1 (by omega) P0.out); have T1 := Lib.hid (T0.out.trans (hc1.mono (B' := w.heap.size) (by omega))); have z1 := hc1.size; clear hb1 hc1)
      | (go_at_call 135; (try rw [e1]); refine (ldWidth_any L B (t + r) _ h0 h1 (by omega) (by omega) (by omega) (by omega)).mono ?_; rintro e w2 ⟨rfl, hb2⟩; have hc2 : Below w1.heap.size w1 w2 := hb2; have X2 := Lib.hid (hold2 hc2 (by omega) X1.out); have P2 := Lib.hid (hold3 hc2 (by omega) P1.out); have T2 := Lib.hid (T1.out.trans (hc2.mono (B' := w.heap.size) (by omega))); have z2 := hc2.size; clear hb2 hc2))
  go_wp2
  go_ret
  exact ⟨ret_int (by rw [HR.out]), T2.out⟩

set_option maxRecDepth 100000 in
set_option maxHeartbeats 1600000 in
theorem ldFull_any (L : Int) (B : Nat) (W t k : Int) (w : World) (h0 : 0 ≤ L) (h1 : L ≤ 1000000) (h3 : B ≤ 120) (hm : msrB ⟨W, t, k⟩ = true) :
    Calls Tryz.prog 136 #[.agg #[.int .i64 L, .int .i64 B], .agg #[.int .i64 W, .int .i64 t, .int .i64 k]] w fun e w' => e = .returned (.bool (decide (widF L B t ≤ W) && fullF ⟨W, t, k⟩ L B)) ∧ Below w.heap.size w w' := by
  obtain ⟨w0, hw0, hb0, hz0, X, P⟩ := ldWorld w L B W t k
  have T0 := Lib.hid hb0; have X0 := Lib.hid X; have P0 := Lib.hid P; have Z0 := Lib.hid hz0
  clear hb0 hz0 X P
  obtain ⟨r, hre⟩ : ∃ r, restF ⟨W, t, k⟩ L B = r := ⟨_, rfl⟩
  have HRe := Lib.hid hre
  clear hre
  obtain ⟨q0, q1⟩ := X0.out
  obtain ⟨p0, p1, p2⟩ := P0.out
  go_enter Tryz.func136, Tryz.ntmps136
  go_wp2_with fail
  clear hw0
  have hz := Z0.out
  refine (ldRest_any L B W t k _ h0 h1 h3 hm).mono ?_
  rintro e w1 ⟨rfl, hb1⟩
  rw [HRe.out]
  have X1 := Lib.hid (hold2 hb1 (by omega) X0.out); have P1 := Lib.hid (hold3 hb1 (by omega) P0.out); have T1 := Lib.hid (T0.out.trans (hb1.mono (B' := w.heap.size) (by omega))); have z1 := hb1.size
  clear hb1 q0 q1 p0 p1 p2
  obtain ⟨q0, q1⟩ := X1.out
  obtain ⟨p0, p1, p2⟩ := P1.out
  go_wp2_with fail
  refine (ldFits_any L B W t k _ h0 h1 h3 hm).mono ?_
  rintro e w2 ⟨rfl, hb2⟩
  have X2 := Lib.hid (hold2 hb2 (by omega) X1.out); have P2 := Lib.hid (hold3 hb2 (by omega) P1.out); have T2 := Lib.hid (T1.out.trans (hb2.mono (B' := w.heap.size) (by omega))); have z2 := hb2.size
  clear hb2 q0 q1 p0 p1 p2
  obtain ⟨q0, q1⟩ := X2.out
  obtain ⟨p0, p1, p2⟩ := P2.out
  have HF : Hid (fullF ⟨W, t, k⟩ L B = (r == 0 || decide (r < (B : Int)))) := by show _ = _; unfold fullF; rw [HRe.out]
  cases hd : decide (widF L B t ≤ W)
  · go_wp2
    go_ret
    exact ⟨ret_bool (by simp only [hd, Bool.false_and]), T2.out⟩
  · cases hr : (r == 0)
    · go_wp2
      go_ret
      exact ⟨ret_bool (by simp only [HF.out, hd, hr, Bool.true_and, Bool.false_or]), T2.out⟩
    · go_wp2
      go_ret
      exact ⟨ret_bool (by simp only [HF.out, hd, hr, Bool.true_and, Bool.true_or]), T2.out⟩
end Go.Proofs.YtimhnkpccbcohaaGreatDoor

namespace Go.Proofs.YtimhnkpccbcohaaGreatDoor
open Go.RowKit
set_option linter.unusedVariables false

end Go.Proofs.YtimhnkpccbcohaaGreatDoor

namespace Go.Proofs.YtimhnkpccbcohaaGreatDoor
open Go.RowKit
set_option linter.unusedVariables false
end Go.Proofs.YtimhnkpccbcohaaGreatDoor

namespace Go.Proofs.YtimhnkpccbcohaaGreatDoor
open Go.RowKit
set_option linter.unusedVariables false

/-- a setting's cells at block g -/
def St (w : World) (g : Nat) (W t k : Int) (s : Value) : Prop :=
  w.cell? ⟨g, 0, none⟩ = some (.int .i64 W) ∧ w.cell? ⟨g, 1, none⟩ = some (.int .i64 t) ∧ w.cell? ⟨g, 2, none⟩ = some (.int .i64 k) ∧ w.cell? ⟨g, 3, none⟩ = some s
theorem St.hold {w w' : World} {B g : Nat} {W t k : Int} {s : Value} (hb : Below B w w') (hg : g < B) (h : St w g W t k s) : St w' g W t k s :=
  ⟨(hb.cell (p := ⟨g, 0, none⟩) hg).trans h.1, (hb.cell (p := ⟨g, 1, none⟩) hg).trans h.2.1, (hb.cell (p := ⟨g, 2, none⟩) hg).trans h.2.2.1, (hb.cell (p := ⟨g, 3, none⟩) hg).trans h.2.2.2⟩
end Go.Proofs.YtimhnkpccbcohaaGreatDoor

namespace Go.Proofs.YtimhnkpccbcohaaGreatDoor
open Go.RowKit
set_option linter.unusedVariables false

end Go.Proofs.YtimhnkpccbcohaaGreatDoor

namespace Go.Proofs.YtimhnkpccbcohaaGreatDoor
open Go.RowKit
set_option linter.unusedVariables false

end Go.Proofs.YtimhnkpccbcohaaGreatDoor

namespace Go.Proofs.YtimhnkpccbcohaaGreatDoor
open Go.RowKit
set_option linter.unusedVariables false

end Go.Proofs.YtimhnkpccbcohaaGreatDoor

namespace Go.Proofs.YtimhnkpccbcohaaGreatDoor
open Go.RowKit Go.Shelf
set_option linter.unusedVariables false
attribute [local go_sem] Oper.semAt_some

end Go.Proofs.YtimhnkpccbcohaaGreatDoor

namespace Go.Proofs.YtimhnkpccbcohaaGreatDoor
open Go.RowKit
set_option linter.unusedVariables false

section
variable {w : World} {g n c : Nat} {A : Option Addr} {i h : Int} {bs : List Int}
end

end Go.Proofs.YtimhnkpccbcohaaGreatDoor

namespace Go.Proofs.YtimhnkpccbcohaaGreatDoor
open Go.RowKit
set_option linter.unusedVariables false

end Go.Proofs.YtimhnkpccbcohaaGreatDoor

namespace Go.Proofs.YtimhnkpccbcohaaGreatDoor
open Go.RowKit
set_option linter.unusedVariables false

theorem getD_set_ne {l : List Int} {i q : Nat} {x : Int} (h : i ≠ q) : (l.set i x).getD q 0 = l.getD q 0 := by
  simp [List.getD, List.getElem?_set_ne h]
/-- a block of cells -/
def Blk (w : World) (B : Nat) (cs : Array Value) (T : TypeId) : Prop := w.heap[B]? = some (.cells cs T (0, 0))
theorem Blk.new (w : World) (cs : Array Value) (T : TypeId) : Blk (w.alloc (.cells cs T)) w.heap.size cs T := heap_alloc_new w _
theorem Blk.lt {w : World} {B : Nat} {cs : Array Value} {T : TypeId} (h : Blk w B cs T) : B < w.heap.size := (Array.getElem?_eq_some_iff.1 h).1
theorem Blk.below {w w' : World} {B b : Nat} {cs : Array Value} {T : TypeId} (h : Blk w B cs T) (hb : Below b w w') (hB : B < b) : Blk w' B cs T := (hb.block B hB).trans h
theorem Blk.kept {w w' : World} {B : Nat} {cs : Array Value} {T : TypeId} {row : Option Nat} (h : Blk w B cs T) (hg : w.grownBy w' row) (hr : ∀ r, row = some r → ∃ o : Obj, w.heap[r]? = some o ∧ o.isCells = false) : Blk w' B cs T := by
  refine (hg.block B h.lt (fun e => ?_)).trans h
  obtain ⟨o, ho, hc⟩ := hr B e.symm
  rw [show w.heap[B]? = _ from h] at ho; cases ho; cases hc
theorem Blk.other {w : World} {B : Nat} {cs : Array Value} {T : TypeId} (h : Blk w B cs T) (p : Addr) (u : Value) (hne : B ≠ p.block) : Blk (w.setCell p u) B cs T := by
  unfold Blk; rw [Below.heap_setCell w p u B hne]; exact h
theorem Blk.set1 {w : World} {B : Nat} {v : Value} {T : TypeId} (h : Blk w B #[v] T) (u : Value) : Blk (w.setCell ⟨B, 0, none⟩ u) B #[u] T := by
  unfold Blk; rw [heap_setCell_same w B 0 _ _ _ h]; rfl
theorem Blk.one {w : World} {B : Nat} {v : Value} {T : TypeId} (h : Blk w B #[v] T) : w.cell? ⟨B, 0, none⟩ = some v ∧ w.frozen? ⟨B, 0, none⟩ = false :=
  ⟨by rw [cell_of_row w B 0 _ _ (0, 0) h]; rfl, frozen_of_row w B 0 _ _ h⟩
theorem Blk.st {w : World} {B : Nat} {W t k : Int} {s : Value} {T : TypeId} (h : Blk w B #[.int .i64 W, .int .i64 t, .int .i64 k, s] T) : St w B W t k s :=
  ⟨by rw [cell_of_row w B 0 _ _ (0, 0) h]; rfl, by rw [cell_of_row w B 1 _ _ (0, 0) h]; rfl, by rw [cell_of_row w B 2 _ _ (0, 0) h]; rfl, by rw [cell_of_row w B 3 _ _ (0, 0) h]; rfl⟩
section
variable {F : Fence} {n0 : Nat} {ops : Array Oper} {rest : List Oper} {o : Oper} {a : Act} {Q : Exit → Act → World → Prop}
end
end Go.Proofs.YtimhnkpccbcohaaGreatDoor
