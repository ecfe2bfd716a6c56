/-
  What taking and dropping leave as it was: the counts of the kinds, and a magazine that is one. No condition.
-/
import Derived.Test.YtdijlofcgcikjaaDoorSwpL
import Derived.Test.YtdijlofcgcikjaaDoorTakeI
import Derived.Test.YtdijlofcgcikjaaDoorKind
namespace Go.Proofs.YtdijlofcgcikjaaDoor
open Go.RowKit
set_option linter.unusedVariables false
set_option linter.unusedSimpArgs false

theorem kAdd_comm (l : List Int) (x y : Mat) : kAdd (kAdd l x) y = kAdd (kAdd l y) x := by
  unfold kAdd
  by_cases e : x.1.toNat = y.1.toNat
  · rw [e]
  · have h1 : (l.set x.1.toNat (l.getD x.1.toNat 0 + 1)).getD y.1.toNat 0 = l.getD y.1.toNat 0 := by
      simp only [List.getD]; rw [List.getElem?_set_ne e]
    have h2 : (l.set y.1.toNat (l.getD y.1.toNat 0 + 1)).getD x.1.toNat 0 = l.getD x.1.toNat 0 := by
      simp only [List.getD]; rw [List.getElem?_set_ne (fun h => e h.symm)]
    rw [h1, h2, List.set_comm _ _ e]
theorem kFold_perm {xs ys : List Mat} (h : xs.Perm ys) : ∀ l, xs.foldl kAdd l = ys.foldl kAdd l := by
  induction h with
  | nil => exact fun l => rfl
  | cons x _ ih => exact fun l => ih _
  | swap x y l' => exact fun l => by rw [List.foldl_cons, List.foldl_cons, List.foldl_cons, List.foldl_cons, kAdd_comm]
  | trans _ _ ih1 ih2 => exact fun l => (ih1 l).trans (ih2 l)
theorem kFold_flat : ∀ (ms : List (List Mat)) (l : List Int), ms.foldl kRow l = ms.flatten.foldl kAdd l
  | [], l => rfl
  | xs :: ms, l => by rw [List.foldl_cons, List.flatten_cons, List.foldl_append, kFold_flat ms]; rfl
theorem kAll_perm {n : Nat} {ms ms' : List (List Mat)} (h : ms.flatten.Perm ms'.flatten) : kAll n ms = kAll n ms' := by
  unfold kAll; rw [kFold_flat, kFold_flat]; exact kFold_perm h _
theorem flat_snoc : ∀ {L : List (List Mat)} {i : Nat} {r : List Mat} {e : Mat}, L[i]? = some r → ((L.set i (r ++ [e])).flatten).Perm (e :: L.flatten)
  | [], _, _, _, h => by simp at h
  | a :: L, 0, r, e, h => by
    have h' : a = r := by simpa using h
    subst h'
    show ((a ++ [e]) ++ L.flatten).Perm (e :: (a ++ L.flatten))
    rw [List.append_assoc]
    exact List.perm_middle
  | a :: L, i + 1, r, e, h => by
    have h' : L[i]? = some r := by simpa using h
    show (a ++ (L.set i (r ++ [e])).flatten).Perm (e :: (a ++ L.flatten))
    exact ((flat_snoc h').append_left a).trans List.perm_middle
theorem flat_tail : ∀ {L : List (List Mat)} {i : Nat} {r : List Mat} {e : Mat}, L[i]? = some (e :: r) → L.flatten.Perm (e :: (L.set i r).flatten)
  | [], _, _, _, h => by simp at h
  | a :: L, 0, r, e, h => by
    have h' : a = e :: r := by simpa using h
    subst h'
    exact List.Perm.refl _
  | a :: L, i + 1, r, e, h => by
    have h' : L[i]? = some (e :: r) := by simpa using h
    show (a ++ L.flatten).Perm (e :: (a ++ (L.set i r).flatten))
    exact ((flat_tail h').append_left a).trans List.perm_middle
theorem magB_set {f : Fnt} {ms : List (List Mat)} {i : Nat} {ys : List Mat} (h : magB f ms = true) (hy : ys.length ≤ 20 ∧ ∀ x ∈ ys, matB f x = true) : magB f (ms.set i ys) = true := by
  unfold magB at *
  simp only [Bool.and_eq_true, beq_iff_eq, List.all_eq_true] at *
  refine ⟨h.1, by rw [List.length_set]; exact h.2.1, fun xs hx => ?_⟩
  rcases List.mem_or_eq_of_mem_set hx with hx | rfl
  · exact h.2.2 xs hx
  · unfold rowB
    simp only [Bool.and_eq_true, decide_eq_true_eq, List.all_eq_true]
    exact hy
theorem take_facts {f : Fnt} {ms : List (List Mat)} {ch : Int} (h : takeOk f ms ch = true) : ∃ (i : Nat) (e : Mat) (r : List Mat), ch = (i : Int) ∧ ms[i]? = some (e :: r) ∧ takeX f ms ch = e ∧ takeL f ms ch = ms.set i r ∧ magB f ms = true ∧ matB f e = true ∧ magB f (ms.set i r) = true := by
  have h0 := h
  unfold takeOk at h0
  rw [Bool.and_eq_true, Bool.and_eq_true, decide_eq_true_eq] at h0
  obtain ⟨hm, hin, hlen⟩ := h0
  obtain ⟨h1, h2⟩ := (inB_iff _ _ _).1 hin
  obtain ⟨i, rfl⟩ := Int.eq_ofNat_of_zero_le h1
  have hi : i < ms.length := by omega
  have hx : ms[i]? = some ms[i] := List.getElem?_eq_getElem hi
  have hr := rowAt_of hx
  rw [hr] at hlen
  obtain ⟨-, -, hrows⟩ := magB_rows hm
  have hrow := hrows _ (List.mem_of_getElem? hx)
  obtain ⟨xs, hxs⟩ : ∃ xs, ms[i] = xs := ⟨_, rfl⟩
  rw [hxs] at hx hr hlen hrow
  cases xs with
  | nil => simp at hlen
  | cons e r =>
    refine ⟨i, e, r, rfl, hx, ?_, ?_, hm, hrow.2 e (by simp), magB_set hm ⟨by have := hrow.1; simp at this; omega, fun x hx => hrow.2 x (by simp [hx])⟩⟩
    · unfold takeX; rw [if_pos h, hr]; rfl
    · unfold takeL; rw [if_pos h, hr, Int.toNat_natCast]; rfl
theorem take_no {f : Fnt} {ms : List (List Mat)} {i : Nat} {xs : List Mat} (h : takeOk f ms (i : Int) = false) (hm : magB f ms = true) (hx : ms[i]? = some xs) : xs.length = 0 := by
  have hi := (List.getElem?_eq_some_iff.1 hx).1
  unfold takeOk at h
  rw [hm, rowAt_of hx, show inB (i : Int) 0 ((ms.length : Int) - 1) = true from by rw [inB_iff]; omega] at h
  simp only [Bool.true_and, decide_eq_false_iff_not] at h
  omega
theorem drop_facts {f : Fnt} {L : List (List Mat)} {e : Mat} (hm : magB f L = true) (he : matB f e = true) : ∃ (g : Nat) (q : List Mat), dropAt f e = g ∧ fallI f.cs e.2 = (g : Int) ∧ g < L.length ∧ L[g]? = some q ∧ q.length ≤ 20 ∧ dropOk f L e = decide (q.length < 20) ∧ (q.length < 20 → dropI f L e = (g : Int) ∧ dropL f L e = L.set g (q ++ [e]) ∧ magB f (L.set g (q ++ [e])) = true) := by
  have hlt := drop_lt hm he
  obtain ⟨hf, hlen, hrows⟩ := magB_rows hm
  have hx : L[fallOf f.cs e.2]? = some L[fallOf f.cs e.2] := List.getElem?_eq_getElem hlt
  have hra : rowAt L (dropAt f e) = L[fallOf f.cs e.2] := rowAt_of hx
  have hrow := hrows _ (List.mem_of_getElem? hx)
  have hok : dropOk f L e = decide (L[fallOf f.cs e.2].length < 20) := by unfold dropOk; rw [hm, he, hra]; rfl
  refine ⟨fallOf f.cs e.2, L[fallOf f.cs e.2], rfl, ?_, hlt, hx, hrow.1, hok, fun h => ?_⟩
  · obtain ⟨-, -, hb⟩ := fontB_codes hf
    unfold matB at he
    rw [Bool.and_eq_true, Bool.and_eq_true] at he
    unfold fallI
    rw [hb, he.2.1]; rfl
  · have hT : dropOk f L e = true := by rw [hok]; exact decide_eq_true h
    refine ⟨?_, ?_, ?_⟩
    · unfold dropI; rw [if_pos hT]; rfl
    · unfold dropL; rw [if_pos hT, hra]; rfl
    · refine magB_set hm ⟨by rw [List.length_append]; simp; omega, fun x hx => ?_⟩
      rcases List.mem_append.1 hx with hx | hx
      · exact hrow.2 x hx
      · rw [List.mem_singleton] at hx; subst hx; exact he
theorem whole_home {f : Fnt} {e : Mat} {k : Nat} (hf : fontB f = true) (hk : e.1 = (k : Int)) (hkl : k < f.cs.length) (h : e.2 = f.cs.getD k 0) : dropAt f e = k := by
  unfold fontB at hf
  rw [Bool.and_eq_true] at hf
  have hs := hf.1
  unfold sortsAll sortsB at hs
  rw [Bool.and_eq_true, List.all_eq_true] at hs
  have := hs.1 k (List.mem_range.2 hkl)
  unfold dropAt
  rw [h]
  exact eq_of_beq this
theorem round_kinds {f : Fnt} {ms : List (List Mat)} {i g : Nat} {e : Mat} {r q : List Mat} (hm : magB f ms = true) (hx : ms[i]? = some (e :: r)) (hq : (ms.set i r)[g]? = some q) (hm2 : magB f ((ms.set i r).set g (q ++ [e])) = true) : kindL f ((ms.set i r).set g (q ++ [e])) = kindL f ms := by
  unfold kindL
  rw [hm, hm2, if_pos rfl, if_pos rfl, List.length_set, List.length_set]
  exact kAll_perm ((flat_snoc hq).trans (flat_tail hx).symm)
end Go.Proofs.YtdijlofcgcikjaaDoor
