/-
  WearMatrix by contract: what it says, and the program's way to a worn matrix. Condition: lengths of at most 2^20.
-/
import Derived.Test.YtimhnkpccbcohaaGreatDoorPkH
import Derived.Test.YtimhnkpccbcohaaGreatDoorPkD
import Derived.Test.YtimhnkpccbcohaaGreatDoorPkB
import Derived.Test.YtimhnkpccbcohaaGreatDoorBreak
import Derived.Deep.RegionHeld3
namespace Go.Proofs.YtimhnkpccbcohaaGreatDoor
open Go.RowKit
set_option linter.unusedVariables false

theorem less_one (t : Int) (h0 : 0 ≤ t) (h1 : t ≤ 6) (x : Int) (hx0 : 0 ≤ x) (hx1 : x ≤ 127) : bt x t.toNat = true → x - one t = less x (one t) := by
  rcases tooth_cases h0 h1 with rfl | rfl | rfl | rfl | rfl | rfl | rfl
  all_goals (revert x; exact all128 _ (by decide +kernel))
theorem mcells_set1 (z : Int) : ∀ {xs : List Mat} {k : Nat} {x : Mat}, xs[k]? = some x → (mcells xs).set (k * 2 + 1) (.int .i64 z) = mcells (xs.set k (x.1, z))
  | [], k, x, h => by simp at h
  | y :: ys, 0, x, h => by
    simp at h; subst h; rfl
  | y :: ys, k + 1, x, h => by
    have e : mcells (y :: ys) = .int .i64 y.1 :: .int .i64 y.2 :: mcells ys := rfl
    rw [e, show (k + 1) * 2 + 1 = (k * 2 + 1) + 1 + 1 from by omega, List.set_cons_succ, List.set_cons_succ, mcells_set1 z (xs := ys) (k := k) (x := x) (by simpa using h)]
    rfl
def rowAt (ms : List (List Mat)) (ch : Int) : List Mat := ms.getD ch.toNat []
def wearOk (f : Fnt) (ms : List (List Mat)) (ch i t : Int) : Bool := magB f ms && (inB ch 0 ((ms.length : Int) - 1) && (inB t 0 6 && (inB i 0 (((rowAt ms ch).length : Int) - 1) && bt ((rowAt ms ch).getD i.toNat (0, 0)).2 t.toNat)))
def wearL (f : Fnt) (ms : List (List Mat)) (ch i t : Int) : List (List Mat) :=
  if wearOk f ms ch i t then ms.set ch.toNat ((rowAt ms ch).set i.toNat (((rowAt ms ch).getD i.toNat (0, 0)).1, ((rowAt ms ch).getD i.toNat (0, 0)).2 - one t)) else []
end Go.Proofs.YtimhnkpccbcohaaGreatDoor
