/-
  Contracts and plain mathematics (In, Base, List, LineM, LineA, Box, Load, Rise, Kit, Keep, WordM, Cut, SetM, SetL, BrkM, EndsM, Ends, MemI), each with its conditions in its own statement.
-/
import Derived.Test.YtdijlofcgcikjaaDoorRows
import Derived.WalkKit
import Derived.WalkSpells
import Derived.BigQuiet
import Derived.Deep.QuietTactic
import Derived.Deep.Draws
import Derived.Lib.Hide
import Derived.Outline
import Derived.Deep.RegionHeld3
import Derived.Deep.RegionWith
import Derived.RangeFuncNested
import Derived.RangeFuncBound
import Derived.RangeFuncCalls
import Derived.RangeFuncLeaves
import Derived.Shelf.Abstract
import Derived.Shelf.RegionOpen
import Derived.OwnWalkIn
import Derived.TacticsInMore
import Derived.LoopNIn
import Derived.LoopIn
import Derived.Laws.CopyOwn
namespace Go.Proofs.YtdijlofcgcikjaaDoor
open Go.RowKit

def inB (x a b : Int) : Bool := decide (a ≤ x ∧ x ≤ b)

theorem l1In_any (x a b : Int) (w : World) : Calls Tryd.prog 62 #[.int .i64 x, .int .i64 a, .int .i64 b] w fun e w' => e = .returned (.bool (inB x a b)) ∧ w = w' := by
  by_cases h1 : a ≤ x
  · by_cases h2 : x ≤ b
    · have hr : inB x a b = true := by simp [inB, h1, h2]
      rw [hr]; clear hr
      go_enter Tryd.func62, Tryd.ntmps62
      go_wp2
      go_ret
      exact ⟨rfl, rfl⟩
    · have hr : inB x a b = false := by simp [inB, h2]
      rw [hr]; clear hr
      go_enter Tryd.func62, Tryd.ntmps62
      go_wp2
      go_ret
      exact ⟨rfl, rfl⟩
  · have hr : inB x a b = false := by simp [inB, h1]
    rw [hr]; clear hr
    go_enter Tryd.func62, Tryd.ntmps62
    go_wp2
    go_ret
    exact ⟨rfl, rfl⟩
end Go.Proofs.YtdijlofcgcikjaaDoor

namespace Go.Proofs.YtdijlofcgcikjaaDoor
open Go.RowKit

theorem ret_int {k : IntKind} {a b : Int} (h : a = b) : Ending.returned (.int k a) = .returned (.int k b) := by rw [h]
theorem ret_bool {a b : Bool} (h : a = b) : Ending.returned (.bool a) = .returned (.bool b) := by rw [h]
theorem below_drewN {B : Nat} {a w : World} (h : Below B a w) (n : Nat) : Below B a (w.drewN n) := ⟨h.os, h.tape, h.output, h.size, h.block⟩
theorem block_add (a : Addr) (n : Nat) : (a.add n).block = a.block := by unfold Addr.add; split <;> rfl
theorem add_zero_at (g j : Nat) : (⟨g, 0, none⟩ : Addr).add j = ⟨g, j, none⟩ := by unfold Addr.add; split <;> simp_all

/-- The slice with the address A reads as zs. -/
def Ints (w : World) (A : Option Addr) (zs : List Int) : Prop :=
  0 < zs.length → ∃ ad, A = some ad ∧ ∀ j, j < zs.length → w.cell? (ad.add j) = some (.int .i64 (zs.getD j 0))

section
variable {w w' : World} {A : Option Addr} {zs : List Int}
theorem Ints.at_ {k : Nat} (h : Ints w A zs) (hk : k < zs.length) : ∃ ad x, A = some ad ∧ Hid (zs[k]? = some x) ∧ w.cell? (ad.add k) = some (.int .i64 x) := by
  obtain ⟨ad, e, hc⟩ := h (by omega)
  exact ⟨ad, zs[k], e, List.getElem?_eq_getElem hk, by rw [hc k hk]; simp [List.getD, hk]⟩
theorem Ints.nil (w : World) (A : Option Addr) : Ints w A [] := fun h => absurd h (by simp)
theorem Ints.keep (h : Ints w A zs) (hk : ∀ p : Addr, p.block < w.heap.size → w'.cell? p = w.cell? p) : Ints w' A zs := fun hn => by
  obtain ⟨ad, e, hc⟩ := h hn
  exact ⟨ad, e, fun j hj => (hk _ (World.block_lt_of_cell? _ _ (hc j hj))).trans (hc j hj)⟩
theorem Ints.below (h : Ints w A zs) (hb : Below w.heap.size w w') : Ints w' A zs := h.keep fun _ hp => hb.cell hp
theorem Ints.belowB {B : Nat} {w0 : World} (h : Ints w0 A zs) (hB : w0.heap.size ≤ B) (hb : Below B w0 w') : Ints w' A zs := h.below (hb.mono hB)
theorem Ints.drew (h : Ints w A zs) : Ints w.drew A zs := h
theorem Ints.drewN (h : Ints w A zs) (k : Nat) : Ints (w.drewN k) A zs := h
end

/-- A row of the call's own, from block B on, that holds zs. -/
def Own (w : World) (B : Nat) (v : Value) (zs : List Int) : Prop := w.ownsRow B 3 1 v zs.length (zs.map (Value.int .i64))

theorem Own.form {w : World} {B : Nat} {v : Value} {zs : List Int} (h : Own w B v zs) : ∃ A c, v = .slice A zs.length c ∧ Ints w A zs ∧ (∀ a, A = some a → ∃ g, a = ⟨g, 0, none⟩ ∧ B ≤ g ∧ g < w.heap.size) ∧ zs.length ≤ c ∧ c ≤ maxLen := by
  have h0 := h
  rcases h.2 with ⟨rfl, hn⟩ | ⟨g, cap, cur, rfl, hg, hh, hcap, hcm, _⟩
  · refine ⟨none, 0, by rw [hn], ?_, (fun a ha => by cases ha), (by rw [hn]; exact Nat.le_refl _), Nat.zero_le _⟩
    have : zs = [] := List.eq_nil_of_length_eq_zero hn
    subst this
    exact Ints.nil _ _
  · refine ⟨some ⟨g, 0, none⟩, cap, rfl, fun _ => ⟨_, rfl, fun j hj => ?_⟩, fun a ha => ⟨g, by injection ha with ha; exact ha.symm, hg, (Array.getElem?_eq_some_iff.1 hh).1⟩, hcap, hcm⟩
    refine World.ownsRow.cells h0 (g := g) rfl j _ ?_
    rw [List.getElem?_map, List.getElem?_eq_getElem hj]
    simp [List.getD, hj]

theorem Own.below {w w' : World} {B : Nat} {v : Value} {zs : List Int} (h : Own w B v zs) (hb : Below w.heap.size w w') : Own w' B v zs := by
  refine ⟨h.1, ?_⟩
  rcases h.2 with hn | ⟨g, cap, cur, hv, hg, hh, rest⟩
  · exact .inl hn
  · exact .inr ⟨g, cap, cur, hv, hg, (hb.block g (Array.getElem?_eq_some_iff.1 hh).1).trans hh, rest⟩
theorem Own.drew {w : World} {B : Nat} {v : Value} {zs : List Int} (h : Own w B v zs) : Own w.drew B v zs := h
theorem Own.drewN {w : World} {B : Nat} {v : Value} {zs : List Int} (h : Own w B v zs) (k : Nat) : Own (w.drewN k) B v zs := h

theorem take_at {zs : List Int} {k : Nat} {x : Int} (h : zs[k]? = some x) : zs.take (k + 1) = zs.take k ++ [x] := by
  rw [List.take_add_one, h]; rfl
theorem take_all {zs : List Int} {n : Nat} (h : zs.length = n) : zs.take n = zs := List.take_of_length_le (by omega)
theorem mem_at {zs : List Int} {k : Nat} {x : Int} (h : zs[k]? = some x) : x ∈ zs := List.mem_of_getElem? h
theorem lt_at {zs : List Int} {k : Nat} {x : Int} (h : zs[k]? = some x) : k < zs.length := (List.getElem?_eq_some_iff.1 h).1
theorem getD_at {zs : List Int} {k : Nat} {x : Int} (h : zs[k]? = some x) : zs.getD k 0 = x := by simp [List.getD, h]
end Go.Proofs.YtdijlofcgcikjaaDoor

namespace Go.Proofs.YtdijlofcgcikjaaDoor
open Go.RowKit
set_option linter.unusedVariables false

theorem all_take {p : Int → Bool} {zs : List Int} {k : Nat} {x : Int} (h : zs[k]? = some x) : (zs.take (k + 1)).all p = ((zs.take k).all p && p x) := by
  rw [take_at h]; simp
theorem all_bad {p : Int → Bool} {zs : List Int} {k : Nat} {x : Int} (h : zs[k]? = some x) (hb : p x = false) : zs.all p = false := by
  rw [List.all_eq_false]
  exact ⟨x, mem_at h, by rw [hb]; simp⟩

set_option maxHeartbeats 800000 in
theorem isListOf_any (F : Nat) (hF : ∀ (args : Array Value) (w : World), Sem.run Tryd.prog (callFunc F args) w = .ok (.enter F args) w) (p : Int → Bool) (hp : ∀ (x : Int) (w : World), Calls Tryd.prog F #[.int .i64 x] w fun e w' => e = .returned (.bool (p x)) ∧ w = w')
    (A : Option Addr) (n c : Nat) (zs : List Int) (lo hi : Int) (w : World) (hn : zs.length = n) (hm : n ≤ maxLen) (h : Ints w A zs) :
    Calls Tryd.prog 83 #[.slice A n c, .int .i64 lo, .int .i64 hi, .func (.func F) #[] #[]] w fun e w' => e = .returned (.bool (inB n lo hi && zs.all p)) ∧ w = w' := by
  unfold maxLen at hm
  have Hn := Lib.hid hn; clear hn
  by_cases hlo : (n : Int) < lo
  · have H0 : Hid (inB n lo hi = false) := by show _ = _; unfold inB; rw [decide_eq_false_iff_not]; omega
    go_enter Tryd.func83, Tryd.ntmps83
    go_wp2
    go_ret
    exact ⟨ret_bool (by rw [H0.out]; rfl), rfl⟩
  by_cases hhi : hi < (n : Int)
  · have H0 : Hid (inB n lo hi = false) := by show _ = _; unfold inB; rw [decide_eq_false_iff_not]; omega
    go_enter Tryd.func83, Tryd.ntmps83
    go_wp2
    go_ret
    exact ⟨ret_bool (by rw [H0.out]; rfl), rfl⟩
  have H1 : Hid (inB n lo hi = true) := by show _ = _; unfold inB; rw [decide_eq_true_eq]; omega
  go_enter Tryd.func83, Tryd.ntmps83
  go_wp2
  go_loop [23] (fun i => ∃ k : Nat, k ≤ n ∧ i = .int .i64 k ∧ (zs.take k).all p = true) (fun i => n - (intOf i).toNat)
  case atStart => exact ⟨0, Nat.zero_le _, rfl, rfl⟩
  case round =>
    obtain ⟨k, hk, rfl, hall⟩ := hrel
    have Hall := Lib.hid hall; clear hall
    by_cases hlt : k < n
    · obtain ⟨ad, x, rfl, hx, hc⟩ := h.at_ (k := k) (by rw [Hn.out]; exact hlt)
      cases hs : p x
      · have Hb := Lib.hid (all_bad hx.out hs)
        go_wp2_with fail
        refine (hp _ _).mono ?_
        rintro e w' ⟨rfl, rfl⟩
        rw [hs]
        go_wp2
        go_ret
        exact ⟨ret_bool (by rw [Hb.out]; simp), rfl⟩
      · have Hs := Lib.hid (all_take (p := p) hx.out)
        go_wp2_with fail
        refine (hp _ _).mono ?_
        rintro e w' ⟨rfl, rfl⟩
        rw [hs]
        go_wp2
        go_round
        case rel => exact ⟨k + 1, by omega, by go_num, by rw [Hs.out, Hall.out, hs]; rfl⟩
        case measure => simp [intOf]; omega
    · have hkn : k = n := by omega
      subst hkn
      go_wp2
      go_ret
      refine ⟨ret_bool ?_, rfl⟩
      have := Hall.out
      rw [take_all Hn.out] at this
      rw [this, H1.out]; rfl

theorem isWidth_any (x : Int) (w : World) : Calls Tryd.prog 87 #[.int .i64 x] w fun e w' => e = .returned (.bool (inB x 1 60)) ∧ w = w' := by
  by_cases h1 : 1 ≤ x
  · by_cases h2 : x ≤ 60
    · have hr : inB x 1 60 = true := by simp [inB, h1, h2]
      rw [hr]; clear hr
      go_enter Tryd.func87, Tryd.ntmps87
      go_wp2
      go_ret
      exact ⟨rfl, rfl⟩
    · have hr : inB x 1 60 = false := by simp [inB, h2]
      rw [hr]; clear hr
      go_enter Tryd.func87, Tryd.ntmps87
      go_wp2
      go_ret
      exact ⟨rfl, rfl⟩
  · have hr : inB x 1 60 = false := by simp [inB, h1]
    rw [hr]; clear hr
    go_enter Tryd.func87, Tryd.ntmps87
    go_wp2
    go_ret
    exact ⟨rfl, rfl⟩
end Go.Proofs.YtdijlofcgcikjaaDoor

namespace Go.Proofs.YtdijlofcgcikjaaDoor
open Go.RowKit
set_option linter.unusedVariables false

def sumL : List Int → Int
  | [] => 0
  | x :: xs => x + sumL xs
def bandsN : List Int → Nat
  | [] => 0
  | x :: xs => (if x = 0 then 1 else 0) + bandsN xs
theorem sumL_append (xs ys : List Int) : sumL (xs ++ ys) = sumL xs + sumL ys := by
  induction xs with
  | nil => simp [sumL]
  | cons x xs ih => simp only [List.cons_append, sumL, ih]; omega
theorem bandsN_append (xs ys : List Int) : bandsN (xs ++ ys) = bandsN xs + bandsN ys := by
  induction xs with
  | nil => simp [bandsN]
  | cons x xs ih => simp only [List.cons_append, bandsN, ih]; omega
theorem bandsN_le (xs : List Int) : bandsN xs ≤ xs.length := by
  induction xs with
  | nil => simp [bandsN]
  | cons x xs ih => simp only [bandsN, List.length_cons]; split <;> omega
theorem sumL_at {zs : List Int} {k : Nat} {x : Int} (h : zs[k]? = some x) : sumL (zs.take (k + 1)) = sumL (zs.take k) + x := by
  rw [take_at h, sumL_append]; simp [sumL]
theorem bandsN_at {zs : List Int} {k : Nat} {x : Int} (h : zs[k]? = some x) : bandsN (zs.take (k + 1)) = bandsN (zs.take k) + (if x = 0 then 1 else 0) := by
  rw [take_at h, bandsN_append]; simp [bandsN]
theorem bandsN_take (zs : List Int) (k : Nat) : bandsN (zs.take k) ≤ bandsN zs := by
  have := bandsN_append (zs.take k) (zs.drop k)
  rw [List.take_append_drop] at this; omega
theorem sumL_bound {zs : List Int} (h : ∀ x ∈ zs, 0 ≤ x ∧ x ≤ 60) : 0 ≤ sumL zs ∧ sumL zs ≤ 60 * (zs.length : Int) := by
  induction zs with
  | nil => simp [sumL]
  | cons x xs ih =>
    have h1 := h x (List.mem_cons_self)
    have h2 := ih (fun y hy => h y (List.mem_cons_of_mem _ hy))
    simp only [sumL, List.length_cons]; omega

/-- a measure: width, thin, thick -/
structure Msr where
  w : Int
  t : Int
  k : Int
def msrB (m : Msr) : Bool := inB m.w 1 2000 && (inB m.t 1 100 && inB m.k m.t 100)
theorem inB_true {x a b : Int} (h : inB x a b = true) : a ≤ x ∧ x ≤ b := by unfold inB at h; exact of_decide_eq_true h
theorem inB_false {x a b : Int} (h : inB x a b = false) : ¬ (a ≤ x ∧ x ≤ b) := by unfold inB at h; exact of_decide_eq_false h
theorem msrB_iff {m : Msr} : msrB m = true ↔ 1 ≤ m.w ∧ m.w ≤ 2000 ∧ 1 ≤ m.t ∧ m.t ≤ m.k ∧ m.k ≤ 100 := by
  unfold msrB
  constructor
  · intro h
    rw [Bool.and_eq_true, Bool.and_eq_true] at h
    have h1 := inB_true h.1; have h2 := inB_true h.2.1; have h3 := inB_true h.2.2
    omega
  · intro h
    rw [Bool.and_eq_true, Bool.and_eq_true]
    unfold inB
    exact ⟨decide_eq_true (by omega), decide_eq_true (by omega), decide_eq_true (by omega)⟩
def itemB (x : Int) : Bool := inB x 0 60
def itemsB (zs : List Int) : Bool := zs.all itemB
def lineB (zs : List Int) : Bool := itemsB zs && decide (zs.length ≤ 120)
theorem itemsB_mem {zs : List Int} (h : itemsB zs = true) : ∀ x ∈ zs, 0 ≤ x ∧ x ≤ 60 := fun x hx => by
  unfold itemsB at h
  rw [List.all_eq_true] at h
  exact inB_true (h x hx)
theorem lineB_parts {zs : List Int} (h : lineB zs = true) : (∀ x ∈ zs, 0 ≤ x ∧ x ≤ 60) ∧ zs.length ≤ 120 := by
  unfold lineB at h
  rw [Bool.and_eq_true] at h
  exact ⟨itemsB_mem h.1, of_decide_eq_true h.2⟩
theorem lineB_take {zs : List Int} (h : lineB zs = true) (k : Nat) : 0 ≤ sumL (zs.take k) ∧ sumL (zs.take k) ≤ 7200 ∧ bandsN (zs.take k) ≤ 120 := by
  obtain ⟨h1, h2⟩ := lineB_parts h
  have h3 := sumL_bound (zs := zs.take k) (fun x hx => h1 x (List.mem_of_mem_take hx))
  have h4 := bandsN_le (zs.take k)
  rw [List.length_take] at h3 h4
  omega
theorem lineB_sum {zs : List Int} (h : lineB zs = true) : 0 ≤ sumL zs ∧ sumL zs ≤ 7200 ∧ bandsN zs ≤ 120 := by
  have := lineB_take h zs.length
  rwa [List.take_length] at this
theorem itemsB_take {zs : List Int} {k : Nat} {x : Int} (h : zs[k]? = some x) : itemsB (zs.take (k + 1)) = (itemsB (zs.take k) && itemB x) := by
  unfold itemsB; rw [take_at h]; simp
theorem itemsB_bad {zs : List Int} {k : Nat} {x : Int} (h : zs[k]? = some x) (hb : itemB x = false) : itemsB zs = false := by
  unfold itemsB
  rw [List.all_eq_false]
  exact ⟨x, mem_at h, by rw [hb]; simp⟩

/-- what a load asks: L for the letters, B bands, e for each -/
def widF (L : Int) (B : Nat) (e : Int) : Int := L + B * e
def riseF (m : Msr) (L : Int) (B : Nat) : Int := if B = 0 then 0 else min (m.k - m.t) ((m.w - widF L B m.t).tdiv B)
def restF (m : Msr) (L : Int) (B : Nat) : Int := m.w - widF L B (m.t + riseF m L B)
def fullF (m : Msr) (L : Int) (B : Nat) : Bool := restF m L B == 0 || decide (restF m L B < B)
/-- the rise of a load that fits: the greatest that has room -/
theorem riseF_spec {m : Msr} {L : Int} {B : Nat} (hm : msrB m = true) (hf : widF L B m.t ≤ m.w) : 0 ≤ riseF m L B ∧ riseF m L B ≤ m.k - m.t ∧ 0 ≤ restF m L B ∧ (B = 0 → riseF m L B = 0) ∧ (0 < B → riseF m L B < m.k - m.t → restF m L B < B) := by
  rw [msrB_iff] at hm
  unfold restF riseF
  by_cases hb : B = 0
  · have hb0 : (B : Int) = 0 := by omega
    rw [if_pos hb]
    simp only [widF, hb0, Int.zero_mul, Int.add_zero] at hf ⊢
    exact ⟨by omega, by omega, by omega, fun _ => trivial, fun h => by omega⟩
  · rw [if_neg hb]
    obtain ⟨R, hR⟩ : ∃ R, m.w - widF L B m.t = R := ⟨_, rfl⟩
    have hR0 : 0 ≤ R := by omega
    have hbp : (0 : Int) < (B : Int) := by omega
    rw [hR, Int.tdiv_eq_ediv_of_nonneg hR0]
    have hq0 : 0 ≤ R / (B : Int) := Int.ediv_nonneg hR0 (by omega)
    have hq1 : (B : Int) * (R / (B : Int)) ≤ R := Int.mul_ediv_self_le (by omega)
    have hq2 : R < (B : Int) * (R / (B : Int)) + (B : Int) := Int.lt_mul_ediv_self_add hbp
    have hW : ∀ r : Int, m.w - widF L B (m.t + r) = R - (B : Int) * r := fun r => by
      unfold widF at *
      rw [Int.mul_add]; omega
    rw [hW]
    generalize R / (B : Int) = q at *
    by_cases hle : m.k - m.t ≤ q
    · rw [Int.min_eq_left hle]
      have : (B : Int) * (m.k - m.t) ≤ (B : Int) * q := Int.mul_le_mul_of_nonneg_left hle (by omega)
      exact ⟨by omega, by omega, by omega, fun h => absurd h hb, fun _ h => by omega⟩
    · rw [Int.min_eq_right (by omega)]
      exact ⟨by omega, by omega, by omega, fun h => absurd h hb, fun _ _ => by omega⟩
theorem riseF_is {m : Msr} {L : Int} {B : Nat} (hm : msrB m = true) (hf : widF L B m.t ≤ m.w) {r : Int} (h0 : 0 ≤ r) (h1 : r ≤ m.k - m.t) (h2 : 0 ≤ m.w - widF L B (m.t + r)) (h3 : B = 0 → r = 0) (h4 : 0 < B → r < m.k - m.t → m.w - widF L B (m.t + r) < B) : riseF m L B = r := by
  obtain ⟨p0, p1, p2, p3, p4⟩ := riseF_spec hm hf
  unfold restF at p2 p4
  by_cases hb : B = 0
  · rw [p3 hb, h3 hb]
  · have hbp : (0 : Int) < (B : Int) := by omega
    have hlin : ∀ a b : Int, a < b → widF L B (m.t + a) + B ≤ widF L B (m.t + b) := fun a b hab => by
      unfold widF
      have e1 : (B : Int) * (m.t + b) = (B : Int) * (m.t + a) + (B : Int) * (b - a) := by rw [← Int.mul_add]; congr 1; omega
      have e2 : (B : Int) * 1 ≤ (B : Int) * (b - a) := Int.mul_le_mul_of_nonneg_left (by omega) (by omega)
      omega
    rcases Int.lt_trichotomy (riseF m L B) r with hlt | he | hgt
    · have := hlin _ _ hlt
      have := p4 (by omega) (by omega)
      omega
    · exact he
    · have := hlin _ _ hgt
      have := h4 (by omega) (by omega)
      omega

/-- the width of all items with e for each band -/
def widL (zs : List Int) (e : Int) : Int := widF (sumL zs) (bandsN zs) e
def fitL (m : Msr) (zs : List Int) : Bool := decide (widL zs m.t ≤ m.w)
/-- a line that fits -/
def fitsB (m : Msr) (zs : List Int) : Bool := lineB zs && fitL m zs
def goodB (m : Msr) (zs : List Int) : Bool := msrB m && fitsB m zs
def riseL (m : Msr) (zs : List Int) : Int := riseF m (sumL zs) (bandsN zs)
def restL (m : Msr) (zs : List Int) : Int := restF m (sumL zs) (bandsN zs)
def fullL (m : Msr) (zs : List Int) : Bool := fullF m (sumL zs) (bandsN zs)
def fullB (m : Msr) (zs : List Int) : Bool := goodB m zs && fullL m zs

theorem goodB_parts {m : Msr} {zs : List Int} (h : goodB m zs = true) : msrB m = true ∧ lineB zs = true ∧ widL zs m.t ≤ m.w := by
  unfold goodB fitsB fitL at h
  simp only [Bool.and_eq_true, decide_eq_true_eq] at h
  exact ⟨h.1, h.2.1, h.2.2⟩
theorem rise_spec {m : Msr} {zs : List Int} (h : goodB m zs = true) : 0 ≤ riseL m zs ∧ riseL m zs ≤ m.k - m.t ∧ 0 ≤ restL m zs ∧ (bandsN zs = 0 → riseL m zs = 0) ∧ (0 < bandsN zs → riseL m zs < m.k - m.t → restL m zs < bandsN zs) := by
  obtain ⟨hm, hl, hf⟩ := goodB_parts h
  exact riseF_spec hm hf
/-- bands of at most 120 at a width of at most 101 -/
theorem mul_small {B e : Int} (h0 : 0 ≤ B) (h1 : B ≤ 120) (h2 : 0 ≤ e) (h3 : e ≤ 101) : 0 ≤ B * e ∧ B * e ≤ 12120 := by
  refine ⟨Int.mul_nonneg h0 h2, ?_⟩
  have : B * e ≤ 120 * 101 := Int.mul_le_mul h1 h3 h2 (by omega)
  omega

theorem mul_wide {B e : Int} (h0 : 0 ≤ B) (h1 : B ≤ 120) (h2 : -2000100 ≤ e) (h3 : e ≤ 101) : -240012000 ≤ B * e ∧ B * e ≤ 12120 := by
  by_cases he : 0 ≤ e
  · have := mul_small h0 h1 he h3
    omega
  · obtain ⟨y, rfl⟩ : ∃ y, e = -y := ⟨-e, by omega⟩
    have e1 : B * y ≤ 120 * 2000100 := Int.mul_le_mul h1 (by omega) (by omega) (by omega)
    have e2 : 0 ≤ B * y := Int.mul_nonneg h0 (by omega)
    rw [Int.mul_neg]; omega

/-- the width of band j if e of them are wider by 1 -/
def bandW (a e : Int) (j : Nat) : Int := a + (if (j : Int) < e then 1 else 0)
def bandL (a e : Int) (n : Nat) : List Int := (List.range n).map (bandW a e)
theorem bandL_len (a e : Int) (n : Nat) : (bandL a e n).length = n := by simp [bandL]
theorem bandL_succ (a e : Int) (n : Nat) : bandL a e (n + 1) = bandL a e n ++ [bandW a e n] := by simp [bandL, List.range_succ]
theorem bandL_get (a e : Int) {n j : Nat} (h : j < n) : (bandL a e n)[j]? = some (bandW a e j) := by simp [bandL, h]
/-- how many bands are wider by 1 -/
def moreL (m : Msr) (zs : List Int) : Int := if fullL m zs then restL m zs else 0
def bandsL (m : Msr) (zs : List Int) : List Int := if goodB m zs then bandL (m.t + riseL m zs) (moreL m zs) (bandsN zs) else []
/-- the width of item k -/
def wideW (a e : Int) (zs : List Int) (k : Nat) : Int := if zs.getD k 0 = 0 then bandW a e (bandsN (zs.take k)) else zs.getD k 0
def wideL (a e : Int) (zs : List Int) (k : Nat) : List Int := (List.range k).map (wideW a e zs)
theorem wideL_len (a e : Int) (zs : List Int) (k : Nat) : (wideL a e zs k).length = k := by simp [wideL]
theorem wideL_succ (a e : Int) (zs : List Int) (k : Nat) : wideL a e zs (k + 1) = wideL a e zs k ++ [wideW a e zs k] := by simp [wideL, List.range_succ]
theorem wideL_get (a e : Int) (zs : List Int) {n j : Nat} (h : j < n) : (wideL a e zs n)[j]? = some (wideW a e zs j) := by simp [wideL, h]
theorem wideW_band {a e : Int} {zs : List Int} {k : Nat} (h : zs[k]? = some 0) : wideW a e zs k = bandW a e (bandsN (zs.take k)) := by
  unfold wideW; rw [getD_at h, if_pos rfl]
theorem wideW_item {a e : Int} {zs : List Int} {k : Nat} {x : Int} (h : zs[k]? = some x) (hx : x ≠ 0) : wideW a e zs k = x := by
  unfold wideW; rw [getD_at h, if_neg hx]
/-- how far the left side of item k is from the left side of the line -/
def leftW (a e : Int) (zs : List Int) (k : Nat) : Int := sumL (wideL a e zs k)
theorem leftW_succ (a e : Int) (zs : List Int) (k : Nat) : leftW a e zs (k + 1) = leftW a e zs k + wideW a e zs k := by
  unfold leftW; rw [wideL_succ, sumL_append]; simp [sumL]
def leftL (a e : Int) (zs : List Int) (k : Nat) : List Int := (List.range k).map (leftW a e zs)
theorem leftL_len (a e : Int) (zs : List Int) (k : Nat) : (leftL a e zs k).length = k := by simp [leftL]
theorem leftL_succ (a e : Int) (zs : List Int) (k : Nat) : leftL a e zs (k + 1) = leftL a e zs k ++ [leftW a e zs k] := by simp [leftL, List.range_succ]
def placesL (m : Msr) (zs : List Int) : List Int := if goodB m zs then leftL (m.t + riseL m zs) (moreL m zs) zs zs.length else []
theorem placesL_len (m : Msr) (zs : List Int) : (placesL m zs).length ≤ zs.length := by
  unfold placesL; split
  · rw [leftL_len]; exact Nat.le_refl _
  · simp
theorem bandsL_len (m : Msr) (zs : List Int) : (bandsL m zs).length ≤ zs.length := by
  unfold bandsL; split
  · rw [bandL_len]; exact bandsN_le zs
  · simp
theorem more_bound {m : Msr} {zs : List Int} (h : goodB m zs = true) : 0 ≤ moreL m zs ∧ moreL m zs ≤ 2000 := by
  obtain ⟨hm, hl, hf⟩ := goodB_parts h
  obtain ⟨p0, p1, p2, p3, p4⟩ := rise_spec h
  have hs := lineB_sum hl
  rw [msrB_iff] at hm
  unfold moreL
  split
  · refine ⟨p2, ?_⟩
    unfold restL restF widF
    have : 0 ≤ (bandsN zs : Int) * (m.t + riseF m (sumL zs) (bandsN zs)) := Int.mul_nonneg (by omega) (by unfold riseL at p0; omega)
    omega
  · omega
theorem bandW_bound {a e : Int} {j : Nat} (h0 : 0 ≤ a) (h1 : a ≤ 100) : 0 ≤ bandW a e j ∧ bandW a e j ≤ 101 := by
  unfold bandW; split <;> omega
theorem wideW_bound {a e : Int} {zs : List Int} (h0 : 0 ≤ a) (h1 : a ≤ 100) (hz : ∀ x ∈ zs, 0 ≤ x ∧ x ≤ 60) (k : Nat) : 0 ≤ wideW a e zs k ∧ wideW a e zs k ≤ 101 := by
  unfold wideW
  split
  · exact bandW_bound h0 h1
  · rename_i hne
    by_cases hk : k < zs.length
    · have := hz zs[k] (List.getElem_mem hk)
      have e : zs.getD k 0 = zs[k] := by simp [List.getD, hk]
      rw [e]; omega
    · exact absurd (by simp [List.getD, List.getElem?_eq_none (Nat.le_of_not_lt hk)]) hne
theorem leftW_bound {a e : Int} {zs : List Int} (h0 : 0 ≤ a) (h1 : a ≤ 100) (hz : ∀ x ∈ zs, 0 ≤ x ∧ x ≤ 60) : ∀ k : Nat, 0 ≤ leftW a e zs k ∧ leftW a e zs k ≤ 101 * (k : Int)
  | 0 => by simp [leftW, wideL, sumL]
  | k + 1 => by
    have h2 := leftW_bound (e := e) h0 h1 hz k
    have h3 := wideW_bound (e := e) h0 h1 hz k
    rw [leftW_succ]; omega
theorem riseThin {m : Msr} {zs : List Int} (h : goodB m zs = true) : 0 ≤ m.t + riseL m zs ∧ m.t + riseL m zs ≤ 100 := by
  obtain ⟨hm, _, _⟩ := goodB_parts h
  obtain ⟨p0, p1, _⟩ := rise_spec h
  rw [msrB_iff] at hm
  omega

/-- what WidthsOf and SpreadLine return -/
def okB (m : Msr) (zs : List Int) : Bool := msrB m && lineB zs
def wid1 (m : Msr) (zs : List Int) : Int := if okB m zs then widL zs m.t else 0
def wid2 (m : Msr) (zs : List Int) : Int := if okB m zs then widL zs m.k else 0
def rise1 (m : Msr) (zs : List Int) : Int := if goodB m zs then riseL m zs else 0
def rest1 (m : Msr) (zs : List Int) : Int := if goodB m zs then restL m zs else 0
theorem wid_no {m : Msr} {zs : List Int} (h : msrB m = false ∨ lineB zs = false) : wid1 m zs = 0 ∧ wid2 m zs = 0 ∧ okB m zs = false := by
  have : okB m zs = false := by unfold okB; rcases h with h | h <;> rw [h] <;> simp
  unfold wid1 wid2
  rw [this]; simp
theorem wid_is {m : Msr} {zs : List Int} (h : msrB m = true) (h2 : lineB zs = true) : wid1 m zs = widL zs m.t ∧ wid2 m zs = widL zs m.k ∧ okB m zs = true := by
  have : okB m zs = true := by unfold okB; rw [h, h2]; rfl
  unfold wid1 wid2
  rw [this]; simp
theorem spr_no {m : Msr} {zs : List Int} (h : goodB m zs = false) : rise1 m zs = 0 ∧ rest1 m zs = 0 := by
  unfold rise1 rest1; rw [h]; simp
theorem spr_is {m : Msr} {zs : List Int} (h : goodB m zs = true) : rise1 m zs = riseL m zs ∧ rest1 m zs = restL m zs := by
  unfold rise1 rest1; rw [h]; simp
end Go.Proofs.YtdijlofcgcikjaaDoor

namespace Go.Proofs.YtdijlofcgcikjaaDoor
open Go.RowKit
set_option linter.unusedVariables false

theorem lineB_is {zs : List Int} {n : Nat} (hn : zs.length = n) : lineB zs = (inB n 0 120 && zs.all itemB) := by
  unfold lineB itemsB inB
  rw [hn, Bool.and_comm]
  congr 1
  rw [Bool.eq_iff_iff, decide_eq_true_eq, decide_eq_true_eq]
  omega

end Go.Proofs.YtdijlofcgcikjaaDoor

namespace Go.Proofs.YtdijlofcgcikjaaDoor
open Go.RowKit
theorem lay2 (w : World) (a b : Value) (T : TypeId) : (w.alloc (.cells #[a, b] T)).cell? ⟨w.heap.size, 0, none⟩ = some a ∧ (w.alloc (.cells #[a, b] T)).cell? ⟨w.heap.size, 1, none⟩ = some b := by
  constructor <;> (rw [World.cell?_alloc_at _ _ _ _ rfl]; rfl)
theorem hold2 {w w' : World} {B g : Nat} {a b : Value} (hb : Below B w w') (hg : g < B) (h : w.cell? ⟨g, 0, none⟩ = some a ∧ w.cell? ⟨g, 1, none⟩ = some b) : w'.cell? ⟨g, 0, none⟩ = some a ∧ w'.cell? ⟨g, 1, none⟩ = some b :=
  ⟨(hb.cell (p := ⟨g, 0, none⟩) hg).trans h.1, (hb.cell (p := ⟨g, 1, none⟩) hg).trans h.2⟩
theorem lay3 (w : World) (a b c : Value) (T : TypeId) : (w.alloc (.cells #[a, b, c] T)).cell? ⟨w.heap.size, 0, none⟩ = some a ∧ (w.alloc (.cells #[a, b, c] T)).cell? ⟨w.heap.size, 1, none⟩ = some b ∧ (w.alloc (.cells #[a, b, c] T)).cell? ⟨w.heap.size, 2, none⟩ = some c := by
  refine ⟨?_, ?_, ?_⟩ <;> (rw [World.cell?_alloc_at _ _ _ _ rfl]; rfl)
theorem hold3 {w w' : World} {B g : Nat} {a b c : Value} (hb : Below B w w') (hg : g < B) (h : w.cell? ⟨g, 0, none⟩ = some a ∧ w.cell? ⟨g, 1, none⟩ = some b ∧ w.cell? ⟨g, 2, none⟩ = some c) : w'.cell? ⟨g, 0, none⟩ = some a ∧ w'.cell? ⟨g, 1, none⟩ = some b ∧ w'.cell? ⟨g, 2, none⟩ = some c :=
  ⟨(hb.cell (p := ⟨g, 0, none⟩) hg).trans h.1, (hb.cell (p := ⟨g, 1, none⟩) hg).trans h.2.1, (hb.cell (p := ⟨g, 2, none⟩) hg).trans h.2.2⟩
theorem undrew {w w1 : World} (h : Below w.drew.heap.size w.drew w1) : Below w.heap.size w w1 := ((Below.refl _ w).drew).trans h
theorem undrewN {w w1 : World} {n : Nat} (h : Below (w.drewN n).heap.size (w.drewN n) w1) : Below w.heap.size w w1 := (below_drewN (Below.refl _ w) n).trans h
theorem below_new (w : World) (o : Obj) : Below w.heap.size w (w.alloc o) := (Below.refl _ _).alloc (Nat.le_refl _) _
end Go.Proofs.YtdijlofcgcikjaaDoor

namespace Go.Proofs.YtdijlofcgcikjaaDoor
open Go.RowKit
set_option linter.unusedVariables false


end Go.Proofs.YtdijlofcgcikjaaDoor

namespace Go.Proofs.YtdijlofcgcikjaaDoor
open Go.RowKit
set_option linter.unusedVariables false

theorem tdiv_small {x b : Int} (h0 : -4000000 ≤ x) (h1 : x ≤ 4000000) (hb : 0 < b) : -4000000 ≤ x.tdiv b ∧ x.tdiv b ≤ 4000000 := by
  by_cases hx : 0 ≤ x
  · rw [Int.tdiv_eq_ediv_of_nonneg hx]
    have e1 : 0 ≤ x / b := Int.ediv_nonneg hx (by omega)
    have e2 : x / b ≤ x := Int.ediv_le_self b hx
    omega
  · obtain ⟨y, rfl⟩ : ∃ y, x = -y := ⟨-x, by omega⟩
    rw [Int.neg_tdiv, Int.tdiv_eq_ediv_of_nonneg (by omega)]
    have e1 : 0 ≤ y / b := Int.ediv_nonneg (by omega) (by omega)
    have e2 : y / b ≤ y := Int.ediv_le_self b (by omega)
    omega
theorem widF_small {L : Int} {B : Nat} {e : Int} (h0 : 0 ≤ L) (h1 : L ≤ 1000000) (h3 : B ≤ 120) (h4 : 0 ≤ e) (h5 : e ≤ 101) : 0 ≤ widF L B e ∧ widF L B e ≤ 1012120 := by
  have := mul_small (B := B) (by omega) (by omega) h4 h5
  unfold widF; omega
theorem riseF_bound {m : Msr} {L : Int} {B : Nat} (h0 : 0 ≤ L) (h1 : L ≤ 1000000) (h3 : B ≤ 120) (hm : msrB m = true) : -2000000 ≤ riseF m L B ∧ riseF m L B ≤ 100 := by
  have hM := msrB_iff.1 hm
  have hw := widF_small (e := m.t) h0 h1 h3 (by omega) (by omega)
  unfold riseF
  split
  · omega
  · have hx0 : -1100000 ≤ m.w - widF L B m.t := by omega
    have : -1100000 ≤ (m.w - widF L B m.t).tdiv (B : Int) := by
      by_cases hx : 0 ≤ m.w - widF L B m.t
      · rw [Int.tdiv_eq_ediv_of_nonneg hx]
        have : 0 ≤ (m.w - widF L B m.t) / (B : Int) := Int.ediv_nonneg hx (by omega)
        omega
      · obtain ⟨y, hy⟩ : ∃ y, m.w - widF L B m.t = -y := ⟨-(m.w - widF L B m.t), by omega⟩
        rw [hy, Int.neg_tdiv, Int.tdiv_eq_ediv_of_nonneg (by omega)]
        have : y / (B : Int) ≤ y := Int.ediv_le_self _ (by omega)
        omega
    omega

end Go.Proofs.YtdijlofcgcikjaaDoor

namespace Go.Proofs.YtdijlofcgcikjaaDoor
open Go.RowKit

theorem intInfo : (Tryd.prog.info? 3).map (fun i => (i.zero, i.size, i.bytes)) = some (some (.int .i64 0), 1, 8) := by kernel_rfl

/-- What a copy holds after k rounds. -/
def half (zs : List Int) (n k : Nat) : List Value := (zs.take k).map (Value.int .i64) ++ List.replicate (n - k) (.int .i64 0)
theorem half_zero (zs : List Int) (n : Nat) : (madeCells (Value.int .i64 0).cells (n * 1)).toList = half zs n 0 := by
  rw [show half zs n 0 = List.replicate n (.int .i64 0) from by simp [half]]
  apply List.ext_getElem
  · simp [madeCells, Value.cells]
  · intro i h1 h2
    simp [madeCells, Value.cells, Nat.mod_one]
theorem half_set {zs : List Int} {n k : Nat} {x : Int} (hn : zs.length = n) (hx : zs[k]? = some x) : (half zs n k).set k (.int .i64 x) = half zs n (k + 1) := by
  have hk := lt_at hx
  unfold half
  rw [take_at hx, List.set_append, if_neg (by simp; omega)]
  have : n - k = (n - (k + 1)) + 1 := by omega
  rw [this, List.replicate_succ]
  simp [Nat.min_eq_left (Nat.le_of_lt hk)]
theorem half_full {zs : List Int} {n : Nat} (hn : zs.length = n) : half zs n n = zs.map (Value.int .i64) := by
  simp [half, take_all hn]
theorem half_cell (zs : List Int) (n k : Nat) (hn : zs.length = n) (hk : k < n) : ∃ v, (half zs n k)[k]? = some v := by
  refine ⟨.int .i64 0, ?_⟩
  unfold half
  rw [List.getElem?_append_right (by simp; omega)]
  rw [List.length_map, List.length_take, Nat.min_eq_left (by omega), Nat.sub_self, List.getElem?_replicate, if_pos (by omega)]

set_option maxHeartbeats 400000 in
theorem toIntS_any (A : Option Addr) (n c : Nat) (zs : List Int) (w : World) (hn : zs.length = n) (hm : n ≤ 1048576) (h : Ints w A zs) :
    Calls Tryd.prog 64 #[.slice A n c] w fun e w' => ∃ v, e = .returned v ∧ Own w' w.heap.size v zs ∧ Below w.heap.size w w' := by
  have Hn := Lib.hid hn; clear hn
  obtain ⟨i0, hi, hz0, hz1, hz2⟩ := info_parts intInfo
  go_enter Tryd.func64, Tryd.ntmps64
  go_wp2_with (at_make; refine wpList_make_full _ rfl (.tmp 6) (.tmp 6) 23 rfl w.heap.size 3 i0 (.int .i64 0) 1 Tryd.underlying23 hi hz0 hz1 .i64 .i64 (n : Int) (n : Int) n rfl rfl rfl rfl (by rw [hz2]; omega) (by unfold maxLen; omega) (Nat.le_refl _) ?_; intro w1 hown1 hg1; rw [half_zero zs] at hown1)
  have hb1 : Below w.heap.size w w1 := (Below.refl _ _).grown hg1 (Nat.le_refl _) (fun k hk => by cases hk)
  clear hg1
  go_loopw [4] (fun i wr => ∃ k : Nat, k ≤ n ∧ i = .int .i64 k ∧ wr.ownsRow w.heap.size 3 1 (.slice (some ⟨w.heap.size, 0, none⟩) n n) n (half zs n k) ∧ Below w.heap.size w wr) (fun i _ => n - (intOf i).toNat)
  case atStart => exact ⟨0, Nat.zero_le _, rfl, hown1, hb1⟩
  case round =>
    clear hown1 hb1
    obtain ⟨k, hk, rfl, hown, hb⟩ := hrel
    by_cases hlt : k < n
    · obtain ⟨ad, x, rfl, hx, hc⟩ := (h.below hb).at_ (k := k) (by rw [Hn.out]; exact hlt)
      obtain ⟨v0, hv0⟩ := half_cell zs n k Hn.out hlt
      have hd := (hown.cellAt k (by omega)).trans hv0
      have hf := hown.frozenAt k
      have hst := hown.stored k (.int .i64 x)
      rw [half_set Hn.out hx.out] at hst
      have HS := Lib.hid hst.1
      have HB := Lib.hid (hb.setCell (p := ⟨w.heap.size, k, none⟩) (Nat.le_refl _) (.int .i64 x))
      clear hst hv0 hown hb h
      go_wp2
      go_roundw
      case rel => exact ⟨k + 1, by omega, by go_num, HS.out, HB.out⟩
      case measure => simp [intOf]; omega
    · have hkn : k = n := by omega
      subst hkn
      go_wp2
      go_ret
      refine ⟨_, rfl, ?_, hb⟩
      unfold Own
      rw [Hn.out, ← half_full Hn.out]
      exact hown

set_option maxHeartbeats 400000 in
theorem eqIntS_any (A B : Option Addr) (n m c d : Nat) (zs ys : List Int) (w : World) (hn : zs.length = n) (hm : ys.length = m) (hl : n ≤ 1048576) (hl2 : m ≤ maxLen) (h : Ints w A zs) (h2 : Ints w B ys) :
    Calls Tryd.prog 67 #[.slice A n c, .slice B m d] w fun e w' => e = .returned (.bool (decide (zs = ys))) ∧ ∃ k, w' = w.drewN k := by
  unfold maxLen at hl2
  have Hn := Lib.hid hn; have Hm := Lib.hid hm; clear hn hm
  by_cases hnm : n = m
  · subst hnm
    go_enter Tryd.func67, Tryd.ntmps67
    go_wp2
    go_loopw [5] (fun i wr => ∃ k : Nat, k ≤ n ∧ i = .int .i64 k ∧ (∃ q, wr = w.drewN q) ∧ zs.take k = ys.take k) (fun i _ => n - (intOf i).toNat)
    case atStart => exact ⟨0, Nat.zero_le _, rfl, ⟨0, rfl⟩, rfl⟩
    case round =>
      obtain ⟨k, hk, rfl, ⟨q, rfl⟩, ht⟩ := hrel
      have Ht := Lib.hid ht; clear ht
      by_cases hlt : k < n
      · obtain ⟨ad, x, rfl, hx, hc⟩ := h.at_ (k := k) (by rw [Hn.out]; exact hlt)
        obtain ⟨bd, y, rfl, hy, hd⟩ := h2.at_ (k := k) (by rw [Hm.out]; exact hlt)
        by_cases hxy : x = y
        · subst hxy
          have HT : Hid (zs.take (k + 1) = ys.take (k + 1)) := by
            show _ = _
            rw [take_at hx.out, take_at hy.out, Ht.out]
          go_wp2
          go_quiet (fail)
          go_wp2
          go_roundw
          case rel => exact ⟨k + 1, by omega, by go_num, ⟨_, rfl⟩, HT.out⟩
          case measure => simp [intOf]; omega
        · have HN : Hid (zs ≠ ys) := fun e => hxy (by have := hx.out; rw [e, hy.out] at this; injection this with this; exact this.symm)
          have hb : (x == y) = false := by simpa using hxy
          have hb' : (x != y) = true := by simpa using hxy
          clear hxy
          go_wp2
          go_quiet (fail)
          go_wp2
          go_ret
          exact ⟨ret_bool (by simpa using HN.out), ⟨_, World.drewN_drewN _ _ _⟩⟩
      · have hkn : k = n := by omega
        subst hkn
        go_wp2
        go_ret
        have := Ht.out
        rw [take_all Hn.out, take_all Hm.out] at this
        exact ⟨ret_bool (by simpa using this), ⟨q, rfl⟩⟩
  · have HN : Hid (zs ≠ ys) := fun e => hnm (by rw [← Hn.out, ← Hm.out, e])
    have hb' : ((n : Int) != (m : Int)) = true := by rw [bne_iff_ne]; omega
    go_enter Tryd.func67, Tryd.ntmps67
    go_wp2
    go_ret
    exact ⟨ret_bool (by simpa using HN.out), ⟨0, rfl⟩⟩

/-- k, k + 1, .. (n numbers) -/
def upFrom (k : Int) (n : Nat) : List Int := (List.range n).map (fun (i : Nat) => k + (i : Int))
theorem upFrom_len (k : Int) (n : Nat) : (upFrom k n).length = n := by simp [upFrom]
theorem upFrom_get (k : Int) (n i : Nat) (h : i < n) : (upFrom k n)[i]? = some (k + (i : Int)) := by simp [upFrom, h]

/-- What a marked row holds after j rounds. -/
def marked (zs : List Int) (k : Int) (j : Nat) : List Int := upFrom k j ++ zs.drop j
theorem marked_set {zs : List Int} {k : Int} {j : Nat} (h : j < zs.length) : (marked zs k j).set j (k + (j : Int)) = marked zs k (j + 1) := by
  unfold marked
  rw [List.set_append, if_neg (by simp [upFrom_len]), upFrom_len, Nat.sub_self]
  have : zs.drop j = zs[j] :: zs.drop (j + 1) := List.drop_eq_getElem_cons h
  rw [this, List.set_cons_zero]
  simp [upFrom, List.range_succ]
theorem marked_len (zs : List Int) (k : Int) (j : Nat) (h : j ≤ zs.length) : (marked zs k j).length = zs.length := by
  simp [marked, upFrom_len]; omega
theorem marked_full (zs : List Int) (k : Int) : marked zs k zs.length = upFrom k zs.length := by simp [marked]

theorem grown_drew {a w : World} {row : Option Nat} (h : a.grownBy w row) : a.grownBy w.drew row := ⟨h.os, h.tape, h.output, h.size, h.block⟩
theorem grown_set {a w : World} {g : Nat} (h : a.grownBy w (some g)) (i : Nat) (u : Value) : a.grownBy (w.setCell ⟨g, i, none⟩ u) (some g) :=
  ⟨h.os, h.tape, h.output, by simpa [World.setCell] using h.size, fun j hj hne => (Below.heap_setCell w ⟨g, i, none⟩ u j (by rintro rfl; exact hne rfl)).trans (h.block j hj hne)⟩

set_option maxHeartbeats 400000 in
/-- markIntS writes k, k + 1, .. into a row of the call's own, and returns the number behind the last. -/
theorem markIntS_any (B : Nat) (v : Value) (k : Int) (zs : List Int) (w : World) (hk0 : 0 ≤ k) (hk1 : k ≤ 4194304) (hl : zs.length ≤ 1048576) (h : Own w B v zs) :
    Calls Tryd.prog 68 #[v, .int .i64 k] w fun e w' => e = .returned (.int .i64 (k + zs.length)) ∧ Own w' B v (upFrom k zs.length) ∧ w.grownBy w' v.ownBlock := by
  rcases h.2 with ⟨rfl, hn⟩ | ⟨g, cap, cur, rfl, hg, hh, hrest⟩
  · have hz : zs = [] := List.eq_nil_of_length_eq_zero hn
    subst hz
    go_enter Tryd.func68, Tryd.ntmps68
    go_wp2
    refine wp_loop_rounds 1 ?_
    rw [rounds_succ]
    go_wp2
    go_ret
    exact ⟨ret_int (by simp), h, World.grownBy.refl w _⟩
  · obtain ⟨n, hn⟩ : ∃ n, zs.length = n := ⟨_, rfl⟩
    have hO := h
    unfold Own at hO
    rw [hn] at hO hl ⊢
    have Hn := Lib.hid hn
    have HO := Lib.hid hO
    clear hn hO h hh hrest cur hg
    go_enter Tryd.func68, Tryd.ntmps68
    go_wp2
    go_loopw [1, 5] (fun q i wr => ∃ j : Nat, j ≤ n ∧ i = .int .i64 j ∧ q = .int .i64 (k + j) ∧ wr.ownsRow B 3 1 (.slice (some ⟨g, 0, none⟩) n cap) n ((marked zs k j).map (Value.int .i64)) ∧ w.grownBy wr (some g)) (fun _ i _ => n - (intOf i).toNat)
    case atStart => exact ⟨0, Nat.zero_le _, rfl, by simp, by have := HO.out; simpa [marked, upFrom] using this, World.grownBy.refl w _⟩
    case round =>
      obtain ⟨j, hj, rfl, rfl, hown, hgr⟩ := hrel
      by_cases hlt : j < n
      · have hlz : j < zs.length := by rw [Hn.out]; exact hlt
        obtain ⟨v0, hv0⟩ : ∃ v0, ((marked zs k j).map (Value.int .i64))[j]? = some v0 := ⟨_, List.getElem?_eq_getElem (by rw [List.length_map, marked_len _ _ _ (by omega)]; exact hlz)⟩
        have hd := (hown.cellAt j (by omega)).trans hv0
        have hf := hown.frozenAt j
        have hst := hown.stored j (.int .i64 (k + (j : Int)))
        rw [← List.map_set, marked_set hlz] at hst
        have HS := Lib.hid hst.1
        have HG := Lib.hid (grown_set hgr j (.int .i64 (k + (j : Int))))
        clear hst hv0 hown hgr hlz
        go_wp2
        go_roundw
        case rel => exact ⟨j + 1, by omega, by go_num, by go_num, HS.out, HG.out⟩
        case measure => simp [intOf]; omega
      · have hjn : j = n := by omega
        subst hjn
        go_wp2
        go_ret
        refine ⟨rfl, ?_, hgr⟩
        unfold Own
        rw [upFrom_len, ← Hn.out, ← marked_full, Hn.out]
        exact hown

theorem Ints.of_row {w : World} {x : Addr} {zs : List Int} {n : Nat} (hn : n ≤ zs.length) (hc : ∀ i, i < zs.length → w.cell? (x.add i) = some (.int .i64 (zs.getD i 0))) : Ints w (some x) (zs.take n) := by
  intro _
  refine ⟨x, rfl, fun j hj => ?_⟩
  rw [List.length_take] at hj
  rw [hc j (by omega)]
  simp only [List.getD, List.getElem?_take]
  rw [if_pos (by omega)]

theorem toIntS_call (A : Option Addr) (n c : Nat) (zs : List Int) (w : World) (hn : zs.length = n) (hm : n ≤ 1048576) (h : Ints w A zs) :
    Calls Tryd.prog 64 #[.slice A n c] w fun e w' => ∃ A' c', e = .returned (.slice A' n c') ∧ Ints w' A' zs ∧ Own w' w.heap.size (.slice A' n c') zs ∧ Below w.heap.size w w' ∧ n ≤ c' ∧ c' ≤ maxLen := by
  refine (toIntS_any A n c zs w hn hm h).mono ?_
  rintro e w' ⟨v, rfl, hO, hb⟩
  obtain ⟨A', c', rfl, hI, _, hc1, hc2⟩ := hO.form
  rw [hn] at hO hc1
  exact ⟨A', c', by rw [hn], hI, hO, hb, hc1, hc2⟩

theorem eqIntS_same (A B : Option Addr) (n c d : Nat) (zs : List Int) (w : World) (hn : zs.length = n) (hl : n ≤ 1048576) (h : Ints w A zs) (h2 : Ints w B zs) :
    Calls Tryd.prog 67 #[.slice A n c, .slice B n d] w fun e w' => e = .returned (.bool true) ∧ ∃ k, w' = w.drewN k := by
  refine (eqIntS_any A B n n c d zs zs w hn hn hl (by unfold maxLen; omega) h h2).mono ?_
  rintro e w' ⟨rfl, hw⟩
  exact ⟨by simp, hw⟩
theorem below_step {B : Nat} {a b c : World} (h : Below B a b) (h2 : Below b.heap.size b c) (hB : B ≤ a.heap.size) : Below B a c := h.trans (h2.mono (Nat.le_trans hB h.size))
end Go.Proofs.YtdijlofcgcikjaaDoor

namespace Go.Proofs.YtdijlofcgcikjaaDoor
open Go.RowKit
set_option linter.unusedVariables false

/-- as 'Ints', and what is read lies below block b -/
def IntsB (w : World) (b : Nat) (A : Option Addr) (zs : List Int) : Prop :=
  0 < zs.length → ∃ ad, A = some ad ∧ ad.block < b ∧ ∀ j, j < zs.length → w.cell? (ad.add j) = some (.int .i64 (zs.getD j 0))
theorem IntsB.of {w : World} {A : Option Addr} {zs : List Int} (h : Ints w A zs) : IntsB w w.heap.size A zs := fun hn => by
  obtain ⟨ad, e, hc⟩ := h hn
  exact ⟨ad, e, by have := World.block_lt_of_cell? _ _ (hc 0 hn); rwa [block_add] at this, hc⟩
theorem IntsB.ints {w : World} {b : Nat} {A : Option Addr} {zs : List Int} (h : IntsB w b A zs) : Ints w A zs := fun hn => by
  obtain ⟨ad, e, _, hc⟩ := h hn
  exact ⟨ad, e, hc⟩
theorem IntsB.keep {w w' : World} {b B : Nat} {A : Option Addr} {zs : List Int} (h : IntsB w b A zs) (hb : b ≤ B) (hB : Below B w w') : IntsB w' b A zs := fun hn => by
  obtain ⟨ad, e, hl, hc⟩ := h hn
  exact ⟨ad, e, hl, fun j hj => (hB.cell (p := ad.add j) (by rw [block_add]; omega)).trans (hc j hj)⟩
theorem Own.grown_lt {w w' : World} {B : Nat} {v : Value} {zs : List Int} {row : Option Nat} (h : Own w B v zs) (hg : w.grownBy w' row) (hr : ∀ k, row = some k → k < B) : Own w' B v zs := by
  refine ⟨h.1, ?_⟩
  rcases h.2 with hn | ⟨g, cap, cur, hv, hB, hh, rest⟩
  · exact .inl hn
  · exact .inr ⟨g, cap, cur, hv, hB, (hg.block g (Array.getElem?_eq_some_iff.1 hh).1 (fun e => by have := hr g e.symm; omega)).trans hh, rest⟩

theorem eqIntS_t (A B : Option Addr) (n c d : Nat) (zs : List Int) (w : World) (hn : zs.length = n) (hl : n ≤ 1048576) (h : Ints w A zs) (h2 : Ints w B zs) :
    Calls Tryd.prog 67 #[.slice A n c, .slice B n d] w fun e w' => e = .returned (.bool true) ∧ Below w.heap.size w w' := by
  refine (eqIntS_same A B n c d zs w hn hl h h2).mono ?_
  rintro e w' ⟨rfl, q, rfl⟩
  exact ⟨rfl, below_drewN (Below.refl _ _) _⟩

theorem markIntS_t (A : Option Addr) (n c B : Nat) (zs : List Int) (w : World) (hn : zs.length = n) (hl : n ≤ 1048576) (hB : B ≤ w.heap.size) (h : Own w B (.slice A n c) zs) :
    Calls Tryd.prog 68 #[.slice A n c, .int .i64 1] w fun e w' => e = .returned (.int .i64 (1 + (n : Int))) ∧ Own w' B (.slice A n c) (upFrom 1 n) ∧ w.grownBy w' (Value.slice A n c).ownBlock ∧ Ints w' A (upFrom 1 n) ∧ Below B w w' := by
  subst hn
  refine (markIntS_any B _ 1 zs w (by omega) (by omega) hl h).mono ?_
  rintro e w' ⟨rfl, hO, hg⟩
  refine ⟨rfl, hO, hg, ?_, ?_⟩
  · obtain ⟨A', c', hv, hI, _⟩ := hO.form
    injection hv with h1 h2 h3
    subst h1
    exact hI
  · exact (Below.refl B w).grown hg hB (fun k hk => (World.ownsRow.lt h k hk).1)
end Go.Proofs.YtdijlofcgcikjaaDoor

namespace Go.Proofs.YtdijlofcgcikjaaDoor
open Go.RowKit
set_option linter.unusedVariables false

def wordB (x : Int) : Bool := inB x 1 2000
def textB (zs : List Int) : Bool := inB (zs.length : Int) 1 40 && zs.all wordB
theorem textB_parts {zs : List Int} (h : textB zs = true) : (∀ x ∈ zs, 1 ≤ x ∧ x ≤ 2000) ∧ 1 ≤ zs.length ∧ zs.length ≤ 40 := by
  unfold textB at h
  rw [Bool.and_eq_true, List.all_eq_true] at h
  have h1 := inB_true h.1
  exact ⟨fun x hx => inB_true (h.2 x hx), by omega, by omega⟩
/-- the words from index a to index b - 1 -/
def seg (zs : List Int) (a b : Nat) : List Int := (zs.take b).drop a
theorem seg_len {zs : List Int} {a b : Nat} (hb : b ≤ zs.length) : (seg zs a b).length = b - a := by
  unfold seg; rw [List.length_drop, List.length_take]; omega
theorem seg_at {zs : List Int} {a b j : Nat} (hj : j < b - a) : (seg zs a b)[j]? = zs[a + j]? := by
  unfold seg; rw [List.getElem?_drop, List.getElem?_take, if_pos (by omega)]
theorem sumL_words {zs : List Int} (h : ∀ x ∈ zs, 1 ≤ x ∧ x ≤ 2000) : 0 ≤ sumL zs ∧ sumL zs ≤ 2000 * (zs.length : Int) := by
  induction zs with
  | nil => simp [sumL]
  | cons x xs ih =>
    have h1 := h x (List.mem_cons_self)
    have h2 := ih (fun y hy => h y (List.mem_cons_of_mem _ hy))
    simp only [sumL, List.length_cons]; omega
theorem seg_mem {zs : List Int} {a b : Nat} {x : Int} (h : x ∈ seg zs a b) : x ∈ zs := List.mem_of_mem_take (List.mem_of_mem_drop h)
theorem words_take {ys : List Int} (h : ∀ x ∈ ys, 1 ≤ x ∧ x ≤ 2000) (hl : ys.length ≤ 40) (k : Nat) : 0 ≤ sumL (ys.take k) ∧ sumL (ys.take k) ≤ 80000 := by
  have h3 := sumL_words (zs := ys.take k) (fun x hx => h x (List.mem_of_mem_take hx))
  rw [List.length_take] at h3
  omega
theorem words_sum {ys : List Int} (h : ∀ x ∈ ys, 1 ≤ x ∧ x ≤ 2000) (hl : ys.length ≤ 40) : 0 ≤ sumL ys ∧ sumL ys ≤ 80000 := by
  have := words_take h hl ys.length
  rwa [List.take_length] at this

/-- the kind of a load: 0 it does not fit, 1 it fits and is not full, 2 it is full -/
def kindF (m : Msr) (L : Int) (B : Nat) : Int := if decide (widF L B m.t ≤ m.w) && fullF m L B then 2 else if widF L B m.t ≤ m.w then 1 else 0
def kindW (m : Msr) (zs : List Int) (a b : Nat) : Int := kindF m (sumL (seg zs a b)) (b - a - 1)
def riseW (m : Msr) (zs : List Int) (a b : Nat) : Int := riseF m (sumL (seg zs a b)) (b - a - 1)
def lineW (m : Msr) (zs : List Int) (a b : Nat) : Bool := kindW m zs a b == 2 || (kindW m zs a b == 1 && decide (b = zs.length))
def costW (m : Msr) (zs : List Int) (a b : Nat) : Int := if b = zs.length then 0 else riseW m zs a b * riseW m zs a b
theorem kindF_cases (m : Msr) (L : Int) (B : Nat) : kindF m L B = 0 ∨ kindF m L B = 1 ∨ kindF m L B = 2 := by
  unfold kindF; split
  · exact .inr (.inr rfl)
  · split
    · exact .inr (.inl rfl)
    · exact .inl rfl
theorem kindF_full {m : Msr} {L : Int} {B : Nat} (h : (decide (widF L B m.t ≤ m.w) && fullF m L B) = true) : kindF m L B = 2 := by unfold kindF; rw [if_pos h]
theorem kindF_fits {m : Msr} {L : Int} {B : Nat} (h : (decide (widF L B m.t ≤ m.w) && fullF m L B) = false) (h2 : decide (widF L B m.t ≤ m.w) = true) : kindF m L B = 1 := by
  unfold kindF; rw [h, if_neg (by simp), if_pos (of_decide_eq_true h2)]
theorem kindF_no {m : Msr} {L : Int} {B : Nat} (h2 : decide (widF L B m.t ≤ m.w) = false) : kindF m L B = 0 := by
  unfold kindF; rw [h2, Bool.false_and, if_neg (by simp), if_neg (of_decide_eq_false h2)]
theorem lineW_fits {m : Msr} {zs : List Int} {a b : Nat} (h : lineW m zs a b = true) : widF (sumL (seg zs a b)) (b - a - 1) m.t ≤ m.w := by
  by_cases hf : widF (sumL (seg zs a b)) (b - a - 1) m.t ≤ m.w
  · exact hf
  · exfalso
    have : kindW m zs a b = 0 := kindF_no (decide_eq_false hf)
    unfold lineW at h
    rw [this] at h
    simp at h
end Go.Proofs.YtdijlofcgcikjaaDoor

namespace Go.Proofs.YtdijlofcgcikjaaDoor
open Go.RowKit
set_option linter.unusedVariables false
theorem add_add2 (ad : Addr) (l j : Nat) : (ad.add l).add j = ad.add (l + j) := by by_cases hq0 : l = 0 <;> by_cases hj0 : j = 0 <;> simp [Addr.add, hq0, hj0, Nat.add_assoc]
/-- the words from a to b - 1 -/
theorem ints_seg {w : World} {ad : Addr} {zs : List Int} {a b : Nat} (h : Ints w (some ad) zs) (hb : b ≤ zs.length) : Ints w (some (ad.add a)) (seg zs a b) := fun hn => by
  rw [seg_len hb] at hn
  obtain ⟨x, hx, hc⟩ := h (by omega)
  injection hx with hx; subst hx
  refine ⟨_, rfl, fun j hj => ?_⟩
  rw [seg_len hb] at hj
  rw [add_add2, hc (a + j) (by omega)]
  simp [List.getD, seg_at hj]
theorem ints_some {w : World} {A : Option Addr} {zs : List Int} (h : Ints w A zs) (hn : 1 ≤ zs.length) : ∃ ad, A = some ad := by
  obtain ⟨ad, e, _⟩ := h (by omega)
  exact ⟨ad, e⟩
end Go.Proofs.YtdijlofcgcikjaaDoor

namespace Go.Proofs.YtdijlofcgcikjaaDoor
open Go.RowKit
set_option linter.unusedVariables false

/-- a setting's value -/
abbrev stV (W t k : Int) (ad : Addr) (n c : Nat) : Value := .agg #[.int .i64 W, .int .i64 t, .int .i64 k, .slice (some ad) n c]
/-- a setting's cells at block g -/
def St (w : World) (g : Nat) (W t k : Int) (s : Value) : Prop :=
  w.cell? ⟨g, 0, none⟩ = some (.int .i64 W) ∧ w.cell? ⟨g, 1, none⟩ = some (.int .i64 t) ∧ w.cell? ⟨g, 2, none⟩ = some (.int .i64 k) ∧ w.cell? ⟨g, 3, none⟩ = some s
theorem St.hold {w w' : World} {B g : Nat} {W t k : Int} {s : Value} (hb : Below B w w') (hg : g < B) (h : St w g W t k s) : St w' g W t k s :=
  ⟨(hb.cell (p := ⟨g, 0, none⟩) hg).trans h.1, (hb.cell (p := ⟨g, 1, none⟩) hg).trans h.2.1, (hb.cell (p := ⟨g, 2, none⟩) hg).trans h.2.2.1, (hb.cell (p := ⟨g, 3, none⟩) hg).trans h.2.2.2⟩
end Go.Proofs.YtdijlofcgcikjaaDoor

namespace Go.Proofs.YtdijlofcgcikjaaDoor
open Go.RowKit
set_option linter.unusedVariables false

theorem lineW_rise {m : Msr} {zs : List Int} {a b : Nat} (hm : msrB m = true) (ht : textB zs = true) (hb : b ≤ zs.length) (hl : lineW m zs a b = true) : 0 ≤ riseW m zs a b ∧ riseW m zs a b ≤ 99 := by
  obtain ⟨hz, hl1, hl2⟩ := textB_parts ht
  have hf := lineW_fits hl
  have hM := msrB_iff.1 hm
  have := riseF_spec hm hf
  unfold riseW
  omega
theorem riseW_bound {m : Msr} {zs : List Int} {a b : Nat} (hm : msrB m = true) (ht : textB zs = true) (hb : b ≤ zs.length) : -2000000 ≤ riseW m zs a b ∧ riseW m zs a b ≤ 100 := by
  obtain ⟨hz, hl1, hl2⟩ := textB_parts ht
  obtain ⟨s0, s1⟩ := words_sum (ys := seg zs a b) (fun x hx => hz x (seg_mem hx)) (by rw [seg_len hb]; omega)
  exact riseF_bound s0 (by omega) (by omega) hm
theorem sq_bound {r : Int} (h0 : -2000000 ≤ r) (h1 : r ≤ 2000000) : 0 ≤ r * r ∧ r * r ≤ 4000000000000 := by
  by_cases h : 0 ≤ r
  · have := Int.mul_nonneg h h
    have h2 : r * r ≤ 2000000 * 2000000 := Int.mul_le_mul h1 h1 h (by omega)
    omega
  · obtain ⟨y, rfl⟩ : ∃ y, r = -y := ⟨-r, by omega⟩
    have := Int.mul_nonneg (a := y) (b := y) (by omega) (by omega)
    have h2 : y * y ≤ 2000000 * 2000000 := Int.mul_le_mul (by omega) (by omega) (by omega) (by omega)
    rw [Int.neg_mul_neg]
    omega

end Go.Proofs.YtdijlofcgcikjaaDoor

namespace Go.Proofs.YtdijlofcgcikjaaDoor
open Go.RowKit
set_option linter.unusedVariables false

def okW (m : Msr) (zs : List Int) : Bool := msrB m && textB zs
def kindA (m : Msr) (zs : List Int) (a b : Int) : Int := if okW m zs = true ∧ 0 ≤ a ∧ b ≤ (zs.length : Int) ∧ a < b then kindW m zs a.toNat b.toNat else -1
/-- lines that go on from word p to the end -/
def brkF (m : Msr) (zs : List Int) : Nat → List Int → Bool
  | p, [] => decide (p = zs.length)
  | p, x :: r => inB x 1 ((zs.length : Int) - p) && (lineW m zs p (p + x.toNat) && brkF m zs (p + x.toNat) r)
def costF (m : Msr) (zs : List Int) : Nat → List Int → Int
  | _, [] => 0
  | p, x :: r => costW m zs p (p + x.toNat) + costF m zs (p + x.toNat) r
def isBrk (m : Msr) (zs ls : List Int) : Bool := okW m zs && brkF m zs 0 ls
def costA (m : Msr) (zs ls : List Int) : Int := if isBrk m zs ls then costF m zs 0 ls else -1
theorem drop_at {zs : List Int} {k : Nat} {x : Int} (h : zs[k]? = some x) : zs.drop k = x :: zs.drop (k + 1) := by
  obtain ⟨hk, e⟩ := List.getElem?_eq_some_iff.1 h
  rw [List.drop_eq_getElem_cons hk, e]
theorem brkF_at {m : Msr} {zs ls : List Int} {p k : Nat} {x : Int} (h : ls[k]? = some x) : brkF m zs p (ls.drop k) = (inB x 1 ((zs.length : Int) - p) && (lineW m zs p (p + x.toNat) && brkF m zs (p + x.toNat) (ls.drop (k + 1)))) := by
  rw [drop_at h]; rfl
theorem brkF_end {m : Msr} {zs ls : List Int} {p k : Nat} (h : ls.length = k) : brkF m zs p (ls.drop k) = decide (p = zs.length) := by
  rw [List.drop_of_length_le (by omega)]; rfl
theorem costF_at {m : Msr} {zs ls : List Int} {p k : Nat} {x : Int} (h : ls[k]? = some x) : costF m zs p (ls.drop k) = costW m zs p (p + x.toNat) + costF m zs (p + x.toNat) (ls.drop (k + 1)) := by
  rw [drop_at h]; rfl
theorem costF_end {m : Msr} {zs ls : List Int} {p k : Nat} (h : ls.length = k) : costF m zs p (ls.drop k) = 0 := by
  rw [List.drop_of_length_le (by omega)]; rfl
theorem brkF_yes {m : Msr} {zs ls : List Int} {p k : Nat} {x : Int} (h : ls[k]? = some x) (hb : brkF m zs p (ls.drop k) = true) :
    ∃ q : Nat, x = (q : Int) ∧ 1 ≤ q ∧ p + q ≤ zs.length ∧ lineW m zs p (p + q) = true ∧ brkF m zs (p + q) (ls.drop (k + 1)) = true := by
  rw [brkF_at h, Bool.and_eq_true, Bool.and_eq_true] at hb
  have h1 := inB_true hb.1
  exact ⟨x.toNat, by omega, by omega, by omega, hb.2.1, hb.2.2⟩
theorem costW_bound {m : Msr} {zs : List Int} {a b : Nat} (ho : okW m zs = true) (hb : b ≤ zs.length) (hl : lineW m zs a b = true) : 0 ≤ costW m zs a b ∧ costW m zs a b ≤ 9801 := by
  unfold okW at ho
  rw [Bool.and_eq_true] at ho
  obtain ⟨h0, h1⟩ := lineW_rise ho.1 ho.2 hb hl
  unfold costW
  split
  · omega
  · have h2 := Int.mul_nonneg h0 h0
    have h3 : riseW m zs a b * riseW m zs a b ≤ 99 * 99 := Int.mul_le_mul h1 h1 h0 (by omega)
    omega
theorem okW_parts {m : Msr} {zs : List Int} (ho : okW m zs = true) : msrB m = true ∧ textB zs = true := by
  unfold okW at ho; rwa [Bool.and_eq_true] at ho
theorem okW_no {m : Msr} {zs : List Int} (h : (msrB m && textB zs) = false) : okW m zs = false := h
end Go.Proofs.YtdijlofcgcikjaaDoor

namespace Go.Proofs.YtdijlofcgcikjaaDoor
open Go.RowKit
set_option linter.unusedVariables false

/-- ends below p of lines that begin with word a -/
def endsTo (m : Msr) (zs : List Int) (a p : Nat) : List Nat := (List.range p).filter (fun q => decide (a < q) && lineW m zs a q)
theorem endsTo_yes {m : Msr} {zs : List Int} {a p : Nat} (h1 : a < p) (h2 : lineW m zs a p = true) : endsTo m zs a (p + 1) = endsTo m zs a p ++ [p] := by
  unfold endsTo; rw [List.range_succ, List.filter_append]; simp [h1, h2]
theorem endsTo_no {m : Msr} {zs : List Int} {a p : Nat} (h2 : (decide (a < p) && lineW m zs a p) = false) : endsTo m zs a (p + 1) = endsTo m zs a p := by
  unfold endsTo; rw [List.range_succ, List.filter_append]; simp [h2]
theorem endsTo_len (m : Msr) (zs : List Int) (a p : Nat) : (endsTo m zs a p).length ≤ p := by
  unfold endsTo
  have := List.length_filter_le (fun q => decide (a < q) && lineW m zs a q) (List.range p)
  rwa [List.length_range] at this
theorem endsTo_low {m : Msr} {zs : List Int} {a p : Nat} (h : p ≤ a + 1) : endsTo m zs a p = [] := by
  unfold endsTo
  rw [List.filter_eq_nil_iff]
  intro q hq
  rw [List.mem_range] at hq
  simp; intro h1; omega
theorem endsTo_lt {m : Msr} {zs : List Int} {a p q : Nat} (h : q ∈ endsTo m zs a p) : q < p := by
  unfold endsTo at h
  rw [List.mem_filter, List.mem_range] at h
  exact h.1
/-- an end, at most p -/
def EndT (m : Msr) (zs : List Int) (a n : Nat) : Type := { q : Nat // a < q ∧ q ≤ n ∧ lineW m zs a q = true }
end Go.Proofs.YtdijlofcgcikjaaDoor

namespace Go.Proofs.YtdijlofcgcikjaaDoor
open Go.RowKit Go.Shelf
set_option linter.unusedVariables false
attribute [local go_sem] Oper.semAt_some

theorem below_grown0 {w w' : World} (h : Below w.heap.size w w') : w.grownBy w' none := ⟨h.os, h.tape, h.output, h.size, fun k hk _ => h.block k hk⟩

/-- what a round keeps: the setting's and the word's box (blocks b, b + 1), and what lies below g -/
def KpE (b g : Nat) (w w' : World) : Prop := w.heap.size ≤ w'.heap.size ∧ ∀ p : Addr, (p.block = b ∨ p.block = b + 1 ∨ p.block < g) → p.block < w.heap.size → w'.cell? p = w.cell? p
theorem KpE.refl (b g : Nat) (w : World) : KpE b g w w := ⟨Nat.le_refl _, fun _ _ _ => rfl⟩
theorem KpE.trans {b g : Nat} {A B C : World} (h : KpE b g A B) (k : KpE b g B C) : KpE b g A C := ⟨Nat.le_trans h.1 k.1, fun p hp hb => (k.2 p hp (Nat.lt_of_lt_of_le hb h.1)).trans (h.2 p hp hb)⟩
theorem KpE.below {b g : Nat} {w w' : World} (h : Below w.heap.size w w') : KpE b g w w' := ⟨h.size, fun p _ hb => h.cell hb⟩
theorem KpE.st {b g : Nat} {w w' : World} {W t k : Int} {s : Value} (hb : b < w.heap.size) (h : KpE b g w w') (hs : St w b W t k s) : St w' b W t k s :=
  ⟨(h.2 ⟨b, 0, none⟩ (.inl rfl) hb).trans hs.1, (h.2 ⟨b, 1, none⟩ (.inl rfl) hb).trans hs.2.1, (h.2 ⟨b, 2, none⟩ (.inl rfl) hb).trans hs.2.2.1, (h.2 ⟨b, 3, none⟩ (.inl rfl) hb).trans hs.2.2.2⟩
theorem KpE.ints {b g : Nat} {w w' : World} {A : Option Addr} {zs : List Int} (h : KpE b g w w') (hs : IntsB w g A zs) : IntsB w' g A zs := fun hn => by
  obtain ⟨ad, e, hl, hc⟩ := hs hn
  exact ⟨ad, e, hl, fun j hj => (h.2 _ (.inr (.inr (by rw [block_add]; exact hl))) (World.block_lt_of_cell? _ _ (hc j hj))).trans (hc j hj)⟩

end Go.Proofs.YtdijlofcgcikjaaDoor

namespace Go.Proofs.YtdijlofcgcikjaaDoor
open Go.RowKit
set_option linter.unusedVariables false

theorem intOne : (Tryd.prog.info? 3).map (·.size) = some 1 := by kernel_rfl

theorem made_rep (z : Value) (hz : z.cells = #[z]) (n : Nat) : (madeCells z.cells (n * 1)).toList = List.replicate n z := by
  rw [hz]
  apply List.ext_getElem
  · simp [madeCells]
  · intro i h1 h2
    simp [madeCells, Nat.mod_one]

section
variable {ops : Array Oper} {rest : List Oper} {o : Oper} {a : Act} {Q : Exit → Act → World → Prop}

/-- make([]int, n) -/
theorem wpl_make_int (w : World) (hg : o.guard = none) (l : Operand) (hop : o.op = Op.makeSlice 23 l l) (n : Nat) (L : Int) (hl : a.eval l = .int .i64 L) (hL : L = (n : Int)) (hn : n ≤ 2097152)
    (hK : ∀ w', w'.ownsRow w.heap.size 3 1 (.slice (some ⟨w.heap.size, 0, none⟩) n n) n (List.replicate n (.int .i64 0)) → Below w.heap.size w w' → wpList Tryd.prog ops Q rest (a.put o.dst (.slice (some ⟨w.heap.size, 0, none⟩) n n)) w') :
    wpList Tryd.prog ops Q (o :: rest) a w := by
  obtain ⟨i0, hi, hz0, hz1, hz2⟩ := info_parts intInfo
  refine wpList_make_full w hg l l 23 hop w.heap.size 3 i0 (.int .i64 0) 1 Tryd.underlying23 hi hz0 hz1 .i64 .i64 L L n hl hl hL hL (by rw [hz2]; omega) (by unfold maxLen; omega) (Nat.le_refl _) ?_
  intro w' h1 h2
  rw [made_rep _ rfl] at h1
  exact hK w' h1 ((Below.refl _ _).grown h2 (Nat.le_refl _) (fun k hk => by cases hk))

/-- make([]int, 0, n) -/
theorem wpl_room_int (w : World) (hg : o.guard = none) (l c : Operand) (hop : o.op = Op.makeSlice 23 l c) (n : Nat) (L : Int) (hl : a.eval l = .int .i64 0) (hc : a.eval c = .int .i64 L) (hL : L = (n : Int)) (hn : n ≤ 2097152)
    (hK : ∀ w', Own w' w.heap.size (.slice (some ⟨w.heap.size, 0, none⟩) 0 n) [] → Below w.heap.size w w' → wpList Tryd.prog ops Q rest (a.put o.dst (.slice (some ⟨w.heap.size, 0, none⟩) 0 n)) w') :
    wpList Tryd.prog ops Q (o :: rest) a w := by
  obtain ⟨i0, hi, hz0, hz1, hz2⟩ := info_parts intInfo
  refine wpList_make_own w hg l c 23 hop w.heap.size 3 i0 (.int .i64 0) 1 Tryd.underlying23 hi hz0 hz1 .i64 .i64 L n hl hc hL (by rw [hz2]; omega) (by unfold maxLen; omega) (Nat.le_refl _) ?_
  intro w' h1 h2
  exact hK w' h1 ((Below.refl _ _).grown h2 (Nat.le_refl _) (fun k hk => by cases hk))

/-- append(s, q) onto a row of the call's own: what lies below the row's base B stays -/
theorem wpl_push (w : World) (hg : o.guard = none) (s x : Operand) (ho : o.op = .call { callee := .builtin .append, args := #[s, x], argTypes := #[23, 23] })
    (B : Nat) (v : Value) (zs : List Int) (q : Int) (hs : a.eval s = v) (hx : a.eval x = .slice (some ⟨w.heap.size, 0, none⟩) 1 1) (hown : Own w B v zs) (hB : B ≤ w.heap.size) (hlen : zs.length ≤ 1048576)
    (hK : ∀ v' w', Own w' B v' (zs ++ [q]) → Below B w w' → wpList Tryd.prog ops Q rest (a.put o.dst v') w') :
    wpList Tryd.prog ops Q (o :: rest) a (w.alloc (.cells #[.int .i64 q] 3)) := by
  obtain ⟨i0, hi, hz0, hz1, hz2⟩ := info_parts intInfo
  refine wpList_append_own _ hg s x 23 ho B 3 i0 (.int .i64 0) 1 8 Tryd.underlying23 hi hz0 hz1 hz2 rfl (by decide) v zs.length (zs.map (Value.int .i64)) hs (World.ownsRow.alloc hown _) ⟨w.heap.size, 0, none⟩ 1 1 [.int .i64 q] hx rfl ?_ ?_ (by unfold maxLen; omega) (by omega) (by simp; omega) ?_
  · intro j u hj
    match j, hj with
    | 0, hj =>
      simp at hj; subst hj
      rw [add_zero_at, World.cell?_alloc_at _ _ _ _ rfl]
      rfl
  · intro u hu; simp at hu; subst hu; rfl
  · intro v' w' h1 h2 _
    refine hK v' w' ?_ ?_
    · unfold Own
      rw [List.map_append, List.length_append]
      exact h1
    · refine (((Below.refl B w).alloc hB (.cells #[.int .i64 q] 3))).trans ?_
      exact (Below.refl B _).grown h2 (by simp; omega) (fun k hk => (World.ownsRow.lt hown k hk).1)

/-- append(s, xs...), xs not empty -/
theorem wpl_append (w : World) (hg : o.guard = none) (s x : Operand) (ho : o.op = .call { callee := .builtin .append, args := #[s, x], argTypes := #[23, 23] })
    (B : Nat) (v : Value) (zs ys : List Int) (A : Option Addr) (m c : Nat) (hs : a.eval s = v) (hx : a.eval x = .slice A m c) (hm : ys.length = m) (hpos : 0 < m) (hI : Ints w A ys) (hown : Own w B v zs) (hB : B ≤ w.heap.size) (hlen : zs.length + m ≤ 1048576)
    (hK : ∀ v' w', Own w' B v' (zs ++ ys) → Below B w w' → wpList Tryd.prog ops Q rest (a.put o.dst v') w') :
    wpList Tryd.prog ops Q (o :: rest) a w := by
  obtain ⟨i0, hi, hz0, hz1, hz2⟩ := info_parts intInfo
  obtain ⟨ad, rfl, hc⟩ := hI (by omega)
  refine wpList_append_own _ hg s x 23 ho B 3 i0 (.int .i64 0) 1 8 Tryd.underlying23 hi hz0 hz1 hz2 rfl (by decide) v zs.length (zs.map (Value.int .i64)) hs hown ad m c (ys.map (Value.int .i64)) hx (by simp [hm]) ?_ ?_ (by unfold maxLen; omega) (by omega) hB ?_
  · intro j u hj
    rw [List.getElem?_map] at hj
    cases hy : ys[j]? with
    | none => rw [hy] at hj; cases hj
    | some y =>
      rw [hy] at hj
      simp at hj; subst hj
      rw [hc j (lt_at hy), getD_at hy]
  · intro u hu
    obtain ⟨y, _, rfl⟩ := List.mem_map.1 hu
    rfl
  · intro v' w' h1 h2 _
    refine hK v' w' ?_ ?_
    · unfold Own
      rw [List.map_append, List.length_append, hm]
      exact h1
    · exact (Below.refl B _).grown h2 hB (fun k hk => (World.ownsRow.lt hown k hk).1)

/-- append([]int{}, xs...): a copy of xs in new memory -/
theorem wpl_copyof (w : World) (hg : o.guard = none) (s x : Operand) (ho : o.op = .call { callee := .builtin .append, args := #[s, x], argTypes := #[23, 23] })
    (ys : List Int) (ad : Addr) (m c : Nat) (hs : a.eval s = .slice (some ⟨w.heap.size, 0, none⟩) 0 0) (hx : a.eval x = .slice (some ad) m c) (hm : ys.length = m) (hI : Ints w (some ad) ys) (hlen : m ≤ 1048576)
    (hK : ∀ v' w', Own w' w.heap.size v' ys → Below w.heap.size w w' → wpList Tryd.prog ops Q rest (a.put o.dst v') w') :
    wpList Tryd.prog ops Q (o :: rest) a (w.alloc (.cells #[] 3)) := by
  obtain ⟨i0, hi, hz0, hz1, hz2⟩ := info_parts intInfo
  have hE : Own (w.alloc (.cells #[] 3)) w.heap.size (.slice (some ⟨w.heap.size, 0, none⟩) 0 0) [] := World.ownsRow_lit w #[] 0 (Nat.le_refl _) (Nat.zero_le _) rfl
  have hb0 : Below w.heap.size w (w.alloc (.cells #[] 3)) := (Below.refl _ _).alloc (Nat.le_refl _) _
  have hI2 : Ints (w.alloc (.cells #[] 3)) (some ad) ys := hI.below hb0
  refine wpList_append_own _ hg s x 23 ho w.heap.size 3 i0 (.int .i64 0) 1 8 Tryd.underlying23 hi hz0 hz1 hz2 rfl (by decide) _ 0 [] hs hE ad m c (ys.map (Value.int .i64)) hx (by simp [hm]) ?_ ?_ (by unfold maxLen; omega) (by omega) (by simp) ?_
  · intro j u hj
    rw [List.getElem?_map] at hj
    cases hy : ys[j]? with
    | none => rw [hy] at hj; cases hj
    | some y =>
      rw [hy] at hj
      simp at hj; subst hj
      obtain ⟨ad', e, hc⟩ := hI2 (by have := lt_at hy; omega)
      obtain rfl := Option.some.inj e
      rw [hc j (lt_at hy), getD_at hy]
  · intro u hu
    obtain ⟨y, _, rfl⟩ := List.mem_map.1 hu
    rfl
  · intro v' w' h1 h2 _
    refine hK v' w' ?_ (hb0.trans ((Below.refl _ _).grown h2 (by simp) (fun k hk => (World.ownsRow.lt hE k hk).1)))
    unfold Own
    rw [hm]
    simpa using h1

/-- copy(d, s): d a row of the call's own, as long as s -/
theorem wpl_copy (w : World) (hg : o.guard = none) (d s : Operand) (ho : o.op = .call { callee := .builtin .copy, args := #[d, s], argTypes := #[23, 23] })
    (B g n cap : Nat) (xs : List Value) (zs : List Int) (A : Option Addr) (c : Nat) (hd : a.eval d = .slice (some ⟨g, 0, none⟩) n cap) (hs : a.eval s = .slice A n c) (hn : zs.length = n)
    (hI : Ints w A zs) (hown : w.ownsRow B 3 1 (.slice (some ⟨g, 0, none⟩) n cap) n xs)
    (hK : ∀ w', w'.ownsRow B 3 1 (.slice (some ⟨g, 0, none⟩) n cap) n (zs.map (Value.int .i64)) → Below B w w' → wpList Tryd.prog ops Q rest (a.put o.dst (goInt n)) w') :
    wpList Tryd.prog ops Q (o :: rest) a w := by
  rcases hown.2 with ⟨h, _⟩ | ⟨g', cap', cur, hv, hBg, hh, hnc, hcm, hcs, htake⟩
  · cases h
  · injection hv with hv1 hv2 hv3
    injection hv1 with hv1
    injection hv1 with hv1
    subst hv1; subst hv3
    have hlen : (zs.map (Value.int .i64)).length = n := by simp [hn]
    refine wpList_copy_splice hg d s 23 23 ho 3 Tryd.underlying23 intOne (some ⟨g, 0, none⟩) A n cap n c hd hs g 0 cur.toList 3 (by simpa using hh) (zs.map (Value.int .i64)) (by rw [hlen]; simp) ?_ (by rw [hlen, Array.length_toList, hcs]; omega) ?_ B w (Below.refl _ _) hBg ?_
    · intro hp
      obtain ⟨ad, rfl, hc⟩ := hI (by rw [hlen] at hp; omega)
      refine ⟨rfl, ad, rfl, fun j u hj => ?_⟩
      rw [List.getElem?_map] at hj
      cases hy : zs[j]? with
      | none => rw [hy] at hj; cases hj
      | some y =>
        rw [hy] at hj
        simp at hj; subst hj
        rw [hc j (lt_at hy), getD_at hy]
    · intro u hu
      obtain ⟨y, _, rfl⟩ := List.mem_map.1 hu
      rfl
    · intro w' h1 h2
      have h1 := h1.out
      rw [hlen]
      refine hK w' ⟨by simp [hn], .inr ⟨g, cap, _, rfl, hBg, h1, hnc, hcm, ?_, ?_⟩⟩ h2
      · simp [splice, hn, hcs]; omega
      · show List.take (n * 1) (splice cur.toList 0 (zs.map (Value.int .i64))) = _
        unfold splice
        rw [List.take_zero, List.nil_append, Nat.mul_one]
        exact List.take_left' hlen

end
theorem row_below {w w' : World} {B : Nat} {T : TypeId} {v : Value} {n : Nat} {xs : List Value} {b : Nat} (h : w.ownsRow B T 1 v n xs) (hv : ∀ k, v.ownBlock = some k → k < b) (hb : Below b w w') : w'.ownsRow B T 1 v n xs := by
  refine ⟨h.1, ?_⟩
  rcases h.2 with hn | ⟨g, cap, cur, rfl, hg, hh, rest⟩
  · exact .inl hn
  · exact .inr ⟨g, cap, cur, rfl, hg, (hb.block g (hv g rfl)).trans hh, rest⟩

/-- the numbers below k at which f holds -/
def pick (f : Nat → Bool) (k : Nat) : List Int := ((List.range k).filter f).map Int.ofNat
theorem pick_yes {f : Nat → Bool} {k : Nat} (h : f k = true) : pick f (k + 1) = pick f k ++ [(k : Int)] := by
  unfold pick; rw [List.range_succ, List.filter_append]; simp [h]
theorem pick_no {f : Nat → Bool} {k : Nat} (h : f k = false) : pick f (k + 1) = pick f k := by
  unfold pick; rw [List.range_succ, List.filter_append]; simp [h]
theorem pick_len (f : Nat → Bool) (k : Nat) : (pick f k).length ≤ k := by
  unfold pick; rw [List.length_map]; exact Nat.le_trans (List.length_filter_le _ _) (by simp)
theorem pick_congr {f g : Nat → Bool} {k : Nat} (h : ∀ i, i < k → f i = g i) : pick f k = pick g k := by
  unfold pick
  congr 1
  exact List.filter_congr (fun i hi => h i (List.mem_range.1 hi))
end Go.Proofs.YtdijlofcgcikjaaDoor
