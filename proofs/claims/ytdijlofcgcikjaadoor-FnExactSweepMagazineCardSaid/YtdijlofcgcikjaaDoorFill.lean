/-
  FillMagazine by contract, model and program. Condition: lengths of at most 2^20.
-/
import Derived.Test.YtdijlofcgcikjaaDoorMagW
import Derived.Test.YtdijlofcgcikjaaDoorPkG
namespace Go.Proofs.YtdijlofcgcikjaaDoor
open Go.RowKit
set_option linter.unusedVariables false

def fillOk (f : Fnt) (e : Int) : Bool := fontB f && inB e 0 20
def fillRow (f : Fnt) (e i : Nat) : List Mat := List.replicate e ((i : Int), f.cs.getD i 0)
def fillTo (f : Fnt) (e n k : Nat) : List (List Mat) := (List.range k).map (fillRow f e) ++ List.replicate (n - k) []
def fillL (f : Fnt) (e : Int) : List (List Mat) := if fillOk f e then fillTo f e.toNat f.cs.length f.cs.length else []
theorem fillTo_len {f : Fnt} {e n k : Nat} (h : k ≤ n) : (fillTo f e n k).length = n := by simp [fillTo]; omega
theorem fillTo_get {f : Fnt} {e n k : Nat} (h : k < n) : (fillTo f e n k)[k]? = some [] := by
  unfold fillTo
  rw [List.getElem?_append_right (by simp), List.length_map, List.length_range, Nat.sub_self, List.getElem?_replicate, if_pos (by omega)]
theorem fillTo_step {f : Fnt} {e n k : Nat} (h : k < n) : (fillTo f e n k).set k (fillRow f e k) = fillTo f e n (k + 1) := by
  unfold fillTo
  rw [List.set_append, if_neg (by simp), List.length_map, List.length_range, Nat.sub_self, List.range_succ, List.map_append, List.append_assoc]
  have : n - k = (n - (k + 1)) + 1 := by omega
  rw [this, List.replicate_succ, List.set_cons_zero]
  rfl
/-- .. and j matrices of row k -/
def fillJ (f : Fnt) (e n k j : Nat) : List (List Mat) := (fillTo f e n k).set k (fillRow f j k)
theorem fillJ_zero {f : Fnt} {e n k : Nat} (h : k < n) : fillJ f e n k 0 = fillTo f e n k := by
  unfold fillJ
  have : fillRow f 0 k = [] := rfl
  rw [this]
  exact List.ext_getElem? fun i => by
    by_cases hi : i = k
    · subst hi; rw [List.getElem?_set_self (by rw [fillTo_len (by omega)]; exact h), fillTo_get h]
    · rw [List.getElem?_set_ne (by omega)]
theorem fillJ_get {f : Fnt} {e n k j : Nat} (h : k < n) : (fillJ f e n k j)[k]? = some (fillRow f j k) := by
  unfold fillJ; rw [List.getElem?_set_self (by rw [fillTo_len (by omega)]; exact h)]
theorem fillJ_set {f : Fnt} {e n k j : Nat} (h : k < n) {x : Int} (hx : Hid (f.cs[k]? = some x)) : (fillJ f e n k j).set k (fillRow f j k ++ [((k : Int), x)]) = fillJ f e n k (j + 1) := by
  unfold fillJ
  rw [List.set_set]
  congr 1
  unfold fillRow
  rw [getD_at hx.out, List.replicate_succ']
theorem fillJ_full {f : Fnt} {e n k : Nat} (h : k < n) : fillJ f e n k e = fillTo f e n (k + 1) := fillTo_step h
theorem fillJ_len {f : Fnt} {e n k j : Nat} (h : k < n) : (fillJ f e n k j).length = n := by unfold fillJ; rw [List.length_set, fillTo_len (by omega)]
theorem fillRow_len {f : Fnt} {j k : Nat} : (fillRow f j k).length = j := by unfold fillRow; rw [List.length_replicate]
theorem ownMag_nil (w : World) (B hi : Nat) : OwnMag w B hi (.slice none 0 0) [] [] :=
  ⟨World.ownsRow_nil _ _ _ _, fun j xs h => by simp at h, fun i j h h' g e => by simp at e, fun i h g e => by simp at e, fun g h => by cases h⟩

end Go.Proofs.YtdijlofcgcikjaaDoor
