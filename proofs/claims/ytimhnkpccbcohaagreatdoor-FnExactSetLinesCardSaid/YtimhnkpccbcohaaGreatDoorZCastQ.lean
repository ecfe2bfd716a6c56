/-
 Casting a line in the reference model: what the machine that comes out tells of itself.
-/
import Derived.Test.YtimhnkpccbcohaaGreatDoorZEngCG
import Derived.Test.YtimhnkpccbcohaaGreatDoorZPkG
namespace Go.Proofs.YtimhnkpccbcohaaGreatDoor
open Go.RowKit Go.Conc
set_option linter.unusedVariables false
set_option linter.unusedSimpArgs false

/-- a band is what has a kind below zero, in a line that is set -/
theorem setM_neg {f : Fnt} {x : Mat} (h : setM f x = true) : decide (x.1 < 0) = bandM x := by
 unfold setM at h
 rw [Bool.or_eq_true] at h
 rcases h with h | h
 ·rw [h]
  unfold bandM at h
  simp only [Bool.and_eq_true, beq_iff_eq] at h
  exact decide_eq_true (by omega)
 ·unfold matB at h
  rw [Bool.and_eq_true] at h
  obtain ⟨k0, k1⟩ := (inB_iff _ _ _).1 h.1
  rw [decide_eq_false (by omega)]
  unfold bandM
  have : (x.1 == -1) = false := by simp; omega
  rw [this]; rfl
theorem goodB_nil {m : Msr} (h : msrB m = true) : goodB m [] = true := by
 have h1 := msrB_iff.1 h
 unfold goodB fitsB fitL
 rw [h]
 simp only [Bool.true_and, Bool.and_eq_true, decide_eq_true_eq]
 exact ⟨by decide, by simp [widL, sumL, bandsN, widF]; omega⟩
theorem clear_mach {X : Mch} (h : machB X = true) : machB (clearX X) = clearOk X := by
 obtain ⟨hm, hsp, -, hwa, hln, hset, hg⟩ := machB_parts h
 obtain ⟨s0, s1⟩ := (inB_iff _ _ _).1 hsp
 have hmm := (goodB_parts hg).1
 have hall : (X.wt ++ mtsN X.ln).all (matB X.f) = true := by
  rw [List.all_append, hwa, Bool.true_and, List.all_eq_true]
  intro x hx
  unfold mtsN at hx
  rw [List.mem_filter] at hx
  have h1 := List.all_eq_true.1 hset x hx.1
  unfold setM at h1
  rw [Bool.or_eq_true] at h1
  rcases h1 with h1 | h1
  ·have h2 := hx.2; rw [h1] at h2; cases h2
  ·exact h1
 have hgn : goodB (clearX X).m (itemsM (clearX X).f (clearX X).ln) = true := goodB_nil hmm
 unfold machB clearOk
 rw [hgn]
 show (magB X.f X.ms && (inB (X.sp + (bndN X.ln : Int)) 0 60 && ((decide ((X.wt ++ mtsN X.ln).length ≤ 240) && (X.wt ++ mtsN X.ln).all (matB X.f)) && ((decide (([] : List Mat).length ≤ 120) && ([] : List Mat).all (setM X.f)) && true)))) = (decide (X.sp + (bndN X.ln : Int) ≤ 60) && decide ((X.wt ++ mtsN X.ln).length ≤ 240))
 rw [hm, hall]
 have hin : inB (X.sp + (bndN X.ln : Int)) 0 60 = decide (X.sp + (bndN X.ln : Int) ≤ 60) := by
  unfold inB
  exact decide_eq_decide.2 ⟨fun h => h.2, fun h => ⟨by omega, h⟩⟩
 rw [hin]
 simp
end Go.Proofs.YtimhnkpccbcohaaGreatDoor
