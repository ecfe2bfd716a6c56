/-
  A word replaced in a galley, plainly. No condition.
-/
import Derived.Test.YtobakeahbgodbaaGreatPkI
import Derived.Test.YtobakeahbgodbaaGreatPkH
namespace Go.Proofs.YtobakeahbgodbaaGreat
open Go.RowKit
set_option linter.unusedVariables false

/-- the line that has word x, and how many words stand before it -/
def lnI (x : Int) : List Int → Nat → Nat → Nat × Nat
  | [], p, k => (k, p)
  | c :: r, p, k => if x < ((p + c.toNat : Nat) : Int) then (k, p) else lnI x r (p + c.toNat) (k + 1)
theorem lnI_at {x : Int} {ls : List Int} {p k q : Nat} (h : ls[k]? = some (q : Int)) : lnI x (ls.drop k) p k = if x < ((p + q : Nat) : Int) then (k, p) else lnI x (ls.drop (k + 1)) (p + q) (k + 1) := by
  rw [drop_at h]
  show (if x < ((p + (q : Int).toNat : Nat) : Int) then _ else _) = _
  rw [Int.toNat_natCast]
theorem lnI_end {x : Int} {ls : List Int} {p k : Nat} (h : ls.length = k) : lnI x (ls.drop k) p k = (k, p) := by
  rw [List.drop_of_length_le (by omega)]; rfl
/-- words set behind lines -/
def setA (f : Fnt) (m : Msr) (a ws : List ByteArray) : Option (List ByteArray) := if ws = [] then some a else (galA f m (gtS ws)).map (a ++ ·)
def setR (f : Fnt) (m : Msr) (a ws : List ByteArray) : List ByteArray := if ws = [] then a else a ++ (galA f m (gtS ws)).getD []
theorem setA_some {f : Fnt} {m : Msr} {a ws c : List ByteArray} (h : setA f m a ws = some c) : setR f m a ws = c := by
  unfold setA at h
  unfold setR
  split
  · rename_i e; rw [if_pos e] at h; injection h
  · rename_i e; rw [if_neg e] at h
    cases hg : galA f m (gtS ws) with
    | none => rw [hg] at h; cases h
    | some r => rw [hg] at h; injection h
/-- the words from line K on -/
def repL (g : List ByteArray) (K : Nat) : List ByteArray := wordsB (gtS (g.drop K))
def repC (f : Fnt) (m : Msr) (g : List ByteArray) (K P : Nat) (x : Int) (tx : ByteArray) : Option (List ByteArray) :=
  if aplB (repL g K).length (x - P) 1 = true then
    (setA f m (g.take K) (aplL (repL g K) (wordsB tx) (x - P) 1)).bind fun c => if galB f m c = true then some c else none
  else none
def repA (f : Fnt) (m : Msr) (g : List ByteArray) (x : Int) (tx : ByteArray) : Option (List ByteArray) :=
  if galB f m g = true then repC f m g (lnI x (cnts g) 0 0).1 (lnI x (cnts g) 0 0).2 x tx else none
theorem repA_no {f : Fnt} {m : Msr} {g : List ByteArray} {x : Int} {tx : ByteArray} (h : galB f m g = false) : repA f m g x tx = none := by
  unfold repA; rw [h]; rfl
theorem repA_at {f : Fnt} {m : Msr} {g : List ByteArray} {x : Int} {tx : ByteArray} {K P : Nat} (h : galB f m g = true) (hl : lnI x (cnts g) 0 0 = (K, P)) : repA f m g x tx = repC f m g K P x tx := by
  unfold repA; rw [if_pos h, hl]
theorem repC_no {f : Fnt} {m : Msr} {g : List ByteArray} {x : Int} {tx : ByteArray} {K P : Nat} (h : aplB (repL g K).length (x - P) 1 = false) : repC f m g K P x tx = none := by
  unfold repC; rw [h]; rfl
theorem repC_set {f : Fnt} {m : Msr} {g : List ByteArray} {x : Int} {tx : ByteArray} {K P : Nat} (h : aplB (repL g K).length (x - P) 1 = true) (h2 : setA f m (g.take K) (aplL (repL g K) (wordsB tx) (x - P) 1) = none) : repC f m g K P x tx = none := by
  unfold repC; rw [if_pos h, h2]; rfl
theorem repC_bad {f : Fnt} {m : Msr} {g c : List ByteArray} {x : Int} {tx : ByteArray} {K P : Nat} (h : aplB (repL g K).length (x - P) 1 = true) (h2 : setA f m (g.take K) (aplL (repL g K) (wordsB tx) (x - P) 1) = some c) (h3 : galB f m c = false) : repC f m g K P x tx = none := by
  unfold repC; rw [if_pos h, h2]
  show (if galB f m c = true then some c else none) = none
  rw [h3]; rfl
theorem repC_good {f : Fnt} {m : Msr} {g c : List ByteArray} {x : Int} {tx : ByteArray} {K P : Nat} (h : aplB (repL g K).length (x - P) 1 = true) (h2 : setA f m (g.take K) (aplL (repL g K) (wordsB tx) (x - P) 1) = some c) (h3 : galB f m c = true) : repC f m g K P x tx = some c := by
  unfold repC; rw [if_pos h, h2]
  show (if galB f m c = true then some c else none) = some c
  rw [if_pos h3]
/-- what a galley has -/
theorem galB_parts {f : Fnt} {m : Msr} {g : List ByteArray} (h : galB f m g = true) :
    wwB f (gtS g) = true ∧ brkF m (wwL f (gtS g)) 0 (cnts g) = true ∧ (wwL f (gtS g)).length = (wordsB (gtS g)).length ∧ (wordsB (gtS g)).length ≤ 40 ∧ szL g ≤ 80080 ∧ g.length ≤ 40 ∧ (g.map fun s => gtS (wordsB s)) = g := by
  unfold galB at h
  rw [Bool.and_eq_true, decide_eq_true_eq] at h
  obtain ⟨h1, h2⟩ := h
  obtain ⟨g1, g2, g3⟩ := isBrk_ww h1
  have g4 := (wwB_parts g1).2.2.2
  have g5 := (lnF_words (m := m) (zs := wwL f (gtS g)) (ws := wordsB (gtS g)) (fun x hx => words_words hx) g3 (cnts g) 0 g2).2.2.2
  rw [lines_own, h2, List.drop_zero] at g5
  have g6 := wwB_szL g1
  have g7 := brkF_cnt _ 0 g2 (Nat.zero_le _)
  have g8 : (cnts g).length = g.length := by unfold cnts; rw [List.length_map]
  exact ⟨g1, g2, g3, g4, by omega, by omega, h2⟩
theorem repL_sz {f : Fnt} {m : Msr} {g : List ByteArray} (h : galB f m g = true) (K : Nat) : szL (repL g K) ≤ 80081 ∧ (gtS (g.drop K)).size ≤ 80080 := by
  have h1 := (galB_parts h).2.2.2.2.1
  have h2 := szL_words (gtS (g.drop K))
  have h3 := gtS_size (g.drop K)
  have h4 := szL_drop g K
  unfold repL
  exact ⟨by omega, by omega⟩
theorem aplL_sz {zs ls : List ByteArray} {f o : Int} : szL (aplL zs ls f o) ≤ szL zs + szL ls + szL zs := by
  unfold aplL
  split
  · rw [szL_app, szL_app]
    have h1 := szL_take zs f.toNat
    have h2 := szL_drop zs (f.toNat + o.toNat)
    omega
  · rw [szL_eq]; simp
theorem szL_len (zs : List ByteArray) : zs.length ≤ szL zs := by rw [szL_eq]; omega
theorem galA_sz {f : Fnt} {m : Msr} {s : ByteArray} : szL ((galA f m s).getD []) ≤ 80080 ∧ ((galA f m s).getD []).length ≤ 40 := by
  cases h : galA f m s with
  | none => exact ⟨by rw [szL_eq]; simp, by simp⟩
  | some g => exact ⟨(galA_parts h).2.2.2.2.1, (galA_parts h).2.2.2.2.2.1⟩
theorem setR_sz {f : Fnt} {m : Msr} {a ws : List ByteArray} : szL (setR f m a ws) ≤ szL a + 80080 := by
  unfold setR
  split
  · omega
  · rw [szL_app]; have := (galA_sz (f := f) (m := m) (s := gtS ws)).1; omega
end Go.Proofs.YtobakeahbgodbaaGreat
