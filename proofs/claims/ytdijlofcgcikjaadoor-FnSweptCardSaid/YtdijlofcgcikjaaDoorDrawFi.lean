/-
  The draw of a magazine to be filled: whatever the bytes, a font of at most 24 letters and a small number, in memory of its own. No condition.
-/
import Derived.Test.YtdijlofcgcikjaaDoorDrawFa
namespace Go.Proofs.YtdijlofcgcikjaaDoor
open Go.RowKit
set_option linter.unusedVariables false

/-- the font of a draw is a font in memory of the call's own -/
theorem FDraw.font {w w' : World} {g B : Nat} {v : Value} {s : ByteArray} {ws cs : List Int} (h : FDraw w w' g v s ws cs) (hB : B ≤ w.heap.size) :
    FontV w' B w'.heap.size v ⟨s, ws, cs⟩ ∧ Small ⟨s, ws, cs⟩ := by
  obtain ⟨A, n, c, A2, m, d, rfl, hs, hw, hn, hc, hm, h1, h2, -⟩ := h
  subst hw; subst hc
  exact ⟨⟨A, c, A2, d, rfl, (IntsI.of_own (own_base h1 hB)), (IntsI.of_own (own_base h2 hB)), (own_caps h1).1, (own_caps h1).2, (own_caps h2).1, (own_caps h2).2, by show s.size ≤ maxLen; unfold maxLen; omega⟩, by show s.size ≤ 1048576; omega, by show ws.length ≤ 1048576; omega, by show cs.length ≤ 1048576; omega⟩
theorem FDraw.small {w w' : World} {g : Nat} {v : Value} {s : ByteArray} {ws cs : List Int} (h : FDraw w w' g v s ws cs) : s.size ≤ 24 ∧ ws.length ≤ 24 ∧ cs.length ≤ 24 := by
  obtain ⟨A, n, c, A2, m, d, rfl, hs, hw, hn, hc, hm, h1, h2, -⟩ := h
  omega
theorem bytes_below {w w' : World} {A : Option Addr} {zs : List Int} (h : Bytes w A zs) (hb : Below w.heap.size w w') : Bytes w' A zs := fun hn => by
  obtain ⟨ad, e, hl, hc⟩ := (h.toB.keep (fun p hp => hb.cell hp)) hn
  exact ⟨ad, e, hc⟩
def fillsA : List Int := [0, 1, 2, 5, 20, 21, -1]

end Go.Proofs.YtdijlofcgcikjaaDoor
