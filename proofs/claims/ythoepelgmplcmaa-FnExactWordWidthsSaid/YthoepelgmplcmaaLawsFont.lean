/-
  The exact laws of FontOk and KeyOf: their walks. No condition.
-/
import Derived.Test.YthoepelgmplcmaaFontI
import Derived.Deep.RegionHeld3
namespace Go.Proofs.Ythoepelgmplcmaa
open Go.RowKit
set_option linter.unusedVariables false

theorem keep3 {w w' : World} {B g : Nat} {a b c : Value} (hb : Below B w w') (hg : g < B) (h : w.cell? ⟨g, 0, none⟩ = some a ∧ w.cell? ⟨g, 1, none⟩ = some b ∧ w.cell? ⟨g, 2, none⟩ = some c) :
    w'.cell? ⟨g, 0, none⟩ = some a ∧ w'.cell? ⟨g, 1, none⟩ = some b ∧ w'.cell? ⟨g, 2, none⟩ = some c :=
  ⟨(hb.cell (p := ⟨g, 0, none⟩) hg).trans h.1, (hb.cell (p := ⟨g, 1, none⟩) hg).trans h.2.1, (hb.cell (p := ⟨g, 2, none⟩) hg).trans h.2.2⟩
theorem new3 (w : World) (a b c : Value) (t : TypeId) : (w.alloc (.cells #[a, b, c] t)).cell? ⟨w.heap.size, 0, none⟩ = some a ∧ (w.alloc (.cells #[a, b, c] t)).cell? ⟨w.heap.size, 1, none⟩ = some b ∧ (w.alloc (.cells #[a, b, c] t)).cell? ⟨w.heap.size, 2, none⟩ = some c := by
  refine ⟨?_, ?_, ?_⟩ <;> (rw [World.cell?_alloc_at _ _ _ _ rfl]; rfl)
theorem fontForm {w : World} {lo hi : Nat} {v : Value} {f : Fnt} (h : FontV w lo hi v f) : ∃ A c B d, v = .agg #[.string f.s, .slice A f.ws.length c, .slice B f.cs.length d] := by
  obtain ⟨A, c, B, d, rfl, _⟩ := h
  exact ⟨A, c, B, d, rfl⟩
theorem big_small {f : Fnt} (h : ¬ (1048576 : Int) < f.big) : Small f := by
  unfold Fnt.big at h
  exact ⟨by omega, by omega, by omega⟩

end Go.Proofs.Ythoepelgmplcmaa
