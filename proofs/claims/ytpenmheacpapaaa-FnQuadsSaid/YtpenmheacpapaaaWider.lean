/-
  FnWider: its walk. No condition.
-/
import Derived.Test.YtpenmheacpapaaaDrawQ
import Derived.Test.YtpenmheacpapaaaSpreadI
import Derived.Test.YtpenmheacpapaaaTurned
import Derived.Test.YtpenmheacpapaaaTotal
import Derived.Outline
import Derived.Deep.QuietTactic
import Derived.BigQuiet
import Derived.Deep.RegionHeld3
namespace Go.Proofs.Ytpenmheacpapaaa
open Go.RowKit
set_option linter.unusedVariables false

theorem wider_ms {W t k : Int} {B : Nat} (h : msrB ⟨W, t, k⟩ = true) : msrB ⟨W + B, t, k⟩ = decide (W + B ≤ 2000) := by
  have h1 := msrB_iff.1 h
  simp only at h1
  by_cases h2 : W + B ≤ 2000
  · rw [decide_eq_true h2]
    exact msrB_iff.2 ⟨by simp only; omega, h2, h1.2.2.1, h1.2.2.2.1, h1.2.2.2.2⟩
  · rw [decide_eq_false h2]
    cases hm : msrB ⟨W + B, t, k⟩
    · rfl
    · have := msrB_iff.1 hm
      simp only at this
      omega
theorem wider_good {W t k : Int} {zs : List Int} (hg : goodB ⟨W, t, k⟩ zs = true) (hb : 0 < bandsN zs) (h2 : W + bandsN zs ≤ 2000) :
    goodB ⟨W + bandsN zs, t, k⟩ zs = true ∧ (riseL ⟨W, t, k⟩ zs = k - t → riseL ⟨W + bandsN zs, t, k⟩ zs = riseL ⟨W, t, k⟩ zs ∧ restL ⟨W + bandsN zs, t, k⟩ zs = restL ⟨W, t, k⟩ zs + bandsN zs) ∧
    (riseL ⟨W, t, k⟩ zs ≠ k - t → riseL ⟨W + bandsN zs, t, k⟩ zs = riseL ⟨W, t, k⟩ zs + 1 ∧ restL ⟨W + bandsN zs, t, k⟩ zs = restL ⟨W, t, k⟩ zs) := by
  obtain ⟨g1, g2, g3⟩ := goodB_parts hg
  obtain ⟨r1, r2, r3, r4, r5⟩ := rise_spec hg
  have hm' : msrB ⟨W + bandsN zs, t, k⟩ = true := by rw [wider_ms g1, decide_eq_true h2]
  have hf : widF (sumL zs) (bandsN zs) t ≤ W + bandsN zs := by unfold widL at g3; simp only at g3; omega
  have hgood : goodB ⟨W + bandsN zs, t, k⟩ zs = true := by unfold goodB fitsB fitL widL; simp only; rw [hm', g2, decide_eq_true hf]; rfl
  have hrest : restL ⟨W, t, k⟩ zs = W - widF (sumL zs) (bandsN zs) (t + riseL ⟨W, t, k⟩ zs) := rfl
  have hrest' : restL ⟨W + bandsN zs, t, k⟩ zs = W + bandsN zs - widF (sumL zs) (bandsN zs) (t + riseL ⟨W + bandsN zs, t, k⟩ zs) := rfl
  have hone : widF (sumL zs) (bandsN zs) (t + (riseL ⟨W, t, k⟩ zs + 1)) = widF (sumL zs) (bandsN zs) (t + riseL ⟨W, t, k⟩ zs) + bandsN zs := by
    unfold widF
    rw [← Int.add_assoc t, Int.mul_add, Int.mul_one]; omega
  simp only at r2 r5
  refine ⟨hgood, fun he => ?_, fun hne => ?_⟩
  · have hr : riseL ⟨W + bandsN zs, t, k⟩ zs = riseL ⟨W, t, k⟩ zs :=
      riseF_is (m := ⟨W + bandsN zs, t, k⟩) hm' hf r1 r2 (by simp only; omega) (fun h => by omega) (fun _ h => by simp only at h; omega)
    exact ⟨hr, by rw [hrest', hr]; omega⟩
  · have hr : riseL ⟨W + bandsN zs, t, k⟩ zs = riseL ⟨W, t, k⟩ zs + 1 :=
      riseF_is (m := ⟨W + bandsN zs, t, k⟩) hm' hf (by omega) (by simp only; omega) (by simp only; rw [hone]; omega) (fun h => by omega) (fun _ _ => by have := r5 hb (by omega); simp only; rw [hone]; omega)
    exact ⟨hr, by rw [hrest', hr, hone]; omega⟩

/-- a world behind w0 in which only new blocks differ -/
structure Later (w0 : World) where
  at_ : World
  bel : Below w0.heap.size w0 at_
instance (w0 : World) : Nonempty (Later w0) := ⟨⟨w0, Below.refl _ _⟩⟩
/-- a region that draws its order, at any class of worlds -/
theorem wp_region_class {id : Nat} {Q : Exit → Act → World → Prop} {a : Act} {w : World} {l : List Oper} {C : World → Prop} (hm : Try.prog.follows .mixedOrders = true) (hB : Region.lexB .any l.toArray = true) (hC : C w.drew)
    (h : wpQuiet Try.prog l.toArray C (fun a' => ∀ w', C w' → Q .normal a' w') l a) : (Code.region id l.toArray true).wp Try.prog Q a w :=
  wp_region_quiet (C := C) hm hB hC (by simpa using h)

theorem msk_later {W t k : Int} {b : Bool} {w0 : World} (h : msrB ⟨W, t, k⟩ = b) (x : Later w0) :
    Calls Try.prog 22 #[.agg #[.int .i64 W, .int .i64 t, .int .i64 k]] x.at_ fun e w' => e = .returned (.bool b) ∧ ∃ y : Later w0, w' = y.at_ := by
  refine (specMeasureOk_any W t k _).mono ?_
  rintro e w3 ⟨rfl, hb⟩
  exact ⟨by rw [h], ⟨_, x.bel.trans (hb.mono x.bel.size)⟩, rfl⟩
theorem lok_later {A : Option Addr} {n c g : Nat} {zs : List Int} {b : Bool} {w0 : World} (hn : zs.length = n) (hm : n ≤ maxLen) (hI : IntsB w0 g A zs) (hg : g ≤ w0.heap.size) (h : lineB zs = b) (x : Later w0) :
    Calls Try.prog 38 #[.slice A n c] x.at_ fun e w' => e = .returned (.bool b) ∧ ∃ y : Later w0, w' = y.at_ := by
  refine (specLineOk_any A n c zs _ hn hm (hI.keep hg x.bel).ints).mono ?_
  rintro e w3 ⟨rfl, rfl⟩
  exact ⟨by rw [h], x, rfl⟩

end Go.Proofs.Ytpenmheacpapaaa
