/-
  What one rune does to a machine, as mathematics: whether it is keyed, and that the machine stays one. No condition.
-/
import Derived.Test.YtimhnkpccbcohaaGreatDoorKeyD
import Derived.Test.YtimhnkpccbcohaaGreatDoorCastI
namespace Go.Proofs.YtimhnkpccbcohaaGreatDoor
open Go.RowKit Go.Conc Go.Maps
set_option linter.unusedVariables false
set_option linter.unusedSimpArgs false

/-- the row that a rune is taken from -/
def keyRow (X : Mch) (r : Int) : List Mat := if keyTo X.f.s r X.f.s.size < 0 then [] else X.ms.getD (keyTo X.f.s r X.f.s.size).toNat []
def keyYes (X : Mch) (r : Int) : Bool := if r = 32 then decide (X.sp ≠ 0) && addOk X (-1, 0) else match keyRow X r with
  | [] => false
  | x :: _ => addOk X x
theorem keyX_no {X : Mch} {r : Int} {e : Errs} (h : keyYes X r = false) : keyX X r = X ∧ ∃ t u, keyE X r e = .iface t u := by
  unfold keyYes at h
  unfold keyX keyE
  by_cases hr : r = 32
  · rw [if_pos hr] at h
    rw [if_pos hr, if_pos hr]
    unfold bandX bandE addE
    by_cases hs : X.sp = 0
    · rw [if_pos hs, if_pos hs]; exact ⟨rfl, _, _, rfl⟩
    · rw [if_neg hs, if_neg hs]
      have ha : addOk X (-1, 0) = false := by simpa [hs] using h
      rw [ha]; exact ⟨rfl, _, _, rfl⟩
  · rw [if_neg hr] at h
    rw [if_neg hr, if_neg hr]
    unfold keyRow at h
    by_cases hk : keyTo X.f.s r X.f.s.size < 0
    · rw [if_pos hk, if_pos hk]; exact ⟨rfl, _, _, rfl⟩
    · rw [if_neg hk] at h
      rw [if_neg hk, if_neg hk]
      unfold keyMX keyME
      cases hrow : X.ms.getD (keyTo X.f.s r X.f.s.size).toNat [] with
      | nil => exact ⟨rfl, _, _, rfl⟩
      | cons x xs =>
        rw [hrow] at h
        simp only at h
        simp only [h, Bool.false_eq_true, if_false]
        exact ⟨trivial, _, _, rfl⟩
theorem keyE_yes {X : Mch} {r : Int} {e : Errs} (h : keyYes X r = true) : keyE X r e = .nilIface := by
  unfold keyYes at h
  unfold keyE
  by_cases hr : r = 32
  · rw [if_pos hr] at h
    rw [if_pos hr]
    rw [Bool.and_eq_true, decide_eq_true_eq] at h
    unfold bandE addE
    rw [if_neg h.1, h.2]; rfl
  · rw [if_neg hr] at h
    rw [if_neg hr]
    unfold keyRow at h
    by_cases hk : keyTo X.f.s r X.f.s.size < 0
    · rw [if_pos hk] at h; cases h
    · rw [if_neg hk] at h
      rw [if_neg hk]
      unfold keyME
      cases hrow : X.ms.getD (keyTo X.f.s r X.f.s.size).toNat [] with
      | nil => rw [hrow] at h; cases h
      | cons x xs =>
        rw [hrow] at h
        simp only at h
        simp only [h, if_true]
theorem items_len (f : Fnt) (xs : List Mat) : (itemsM f xs).length = xs.length := by unfold itemsM; rw [List.length_map]
theorem addOk_len {X : Mch} {x : Mat} (h : addOk X x = true) : (X.ln ++ [x]).length ≤ 120 := by
  have h1 := (goodB_parts h).2.1
  have h2 := (lineB_parts h1).2
  rw [items_len] at h2
  exact h2
theorem magB_tail {f : Fnt} {ms : List (List Mat)} {i : Nat} {x : Mat} {xs : List Mat} (h : magB f ms = true) (hr : ms.getD i [] = x :: xs) : magB f (ms.set i xs) = true ∧ matB f x = true := by
  have hlt : i < ms.length := by
    rcases Nat.lt_or_ge i ms.length with h9 | h9
    · exact h9
    · rw [List.getD, List.getElem?_eq_none h9] at hr; simp at hr
  have hi : ms[i]? = some (x :: xs) := by rw [List.getD, List.getElem?_eq_getElem hlt] at hr; rw [List.getElem?_eq_getElem hlt]; simpa using hr
  have hm := List.mem_of_getElem? hi
  unfold magB at h ⊢
  simp only [Bool.and_eq_true, beq_iff_eq, List.all_eq_true] at h ⊢
  have h9 := h.2.2 _ hm
  unfold rowB at h9
  simp only [Bool.and_eq_true, decide_eq_true_eq, List.all_eq_true, List.length_cons] at h9
  refine ⟨⟨h.1, by rw [List.length_set]; exact h.2.1, fun ys hy => ?_⟩, h9.2 x (by simp)⟩
  rcases List.mem_or_eq_of_mem_set hy with hy | rfl
  · exact h.2.2 ys hy
  · unfold rowB
    simp only [Bool.and_eq_true, decide_eq_true_eq, List.all_eq_true]
    exact ⟨by omega, fun z hz => h9.2 z (by simp [hz])⟩
/-- what a machine is, put together -/
theorem machB_mk {X : Mch} (h1 : magB X.f X.ms = true) (h2 : 0 ≤ X.sp ∧ X.sp ≤ 60) (h3 : X.wt.length ≤ 240) (h4 : X.wt.all (matB X.f) = true) (h5 : X.ln.length ≤ 120) (h6 : X.ln.all (setM X.f) = true) (h7 : goodB X.m (itemsM X.f X.ln) = true) : machB X = true := by
  unfold machB
  rw [h1, h4, h6, h7, (inB_iff _ _ _).2 h2, decide_eq_true h3, decide_eq_true h5]; rfl
theorem keyX_mach {X : Mch} {r : Int} (h : machB X = true) (hy : keyYes X r = true) : machB (keyX X r) = true := by
  obtain ⟨hm, hsp, hwl, hwa, hln, hset, hg⟩ := machB_parts h
  obtain ⟨s0, s1⟩ := (inB_iff _ _ _).1 hsp
  unfold keyYes at hy
  unfold keyX
  by_cases hr : r = 32
  · rw [if_pos hr] at hy
    rw [if_pos hr]
    rw [Bool.and_eq_true, decide_eq_true_eq] at hy
    unfold bandX
    rw [if_neg hy.1, hy.2, if_pos rfl]
    refine machB_mk hm ⟨by show 0 ≤ X.sp - 1; have := hy.1; omega, by show X.sp - 1 ≤ 60; omega⟩ hwl hwa (addOk_len hy.2) ?_ hy.2
    show (X.ln ++ [((-1 : Int), (0 : Int))]).all (setM X.f) = true
    rw [List.all_append, hset]; rfl
  · rw [if_neg hr] at hy
    rw [if_neg hr]
    unfold keyRow at hy
    by_cases hk : keyTo X.f.s r X.f.s.size < 0
    · rw [if_pos hk] at hy; cases hy
    · rw [if_neg hk] at hy
      rw [if_neg hk]
      unfold keyMX
      cases hrow : X.ms.getD (keyTo X.f.s r X.f.s.size).toNat [] with
      | nil => rw [hrow] at hy; cases hy
      | cons x xs =>
        rw [hrow] at hy
        simp only at hy
        simp only [hy, if_true]
        obtain ⟨hmt, hx⟩ := magB_tail hm hrow
        refine machB_mk hmt ⟨s0, s1⟩ hwl hwa (addOk_len hy) ?_ hy
        show (X.ln ++ [x]).all (setM X.f) = true
        rw [List.all_append, hset]
        simp only [List.all_cons, List.all_nil, Bool.and_true, Bool.true_and]
        unfold setM
        rw [hx]; simp
theorem keyX_font {X : Mch} {r : Int} : (keyX X r).f = X.f ∧ (keyX X r).ms.length = X.ms.length ∧ (keyX X r).wt = X.wt := by
  unfold keyX bandX keyMX
  by_cases hr : r = 32
  · rw [if_pos hr]
    split
    · exact ⟨rfl, rfl, rfl⟩
    · split <;> exact ⟨rfl, rfl, rfl⟩
  · rw [if_neg hr]
    split
    · exact ⟨rfl, rfl, rfl⟩
    · split
      · exact ⟨rfl, rfl, rfl⟩
      · split
        · exact ⟨rfl, by show (X.ms.set _ _).length = _; rw [List.length_set], rfl⟩
        · exact ⟨rfl, rfl, rfl⟩
end Go.Proofs.YtimhnkpccbcohaaGreatDoor
