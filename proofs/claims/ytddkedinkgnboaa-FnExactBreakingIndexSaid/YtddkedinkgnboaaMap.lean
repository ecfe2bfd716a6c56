/-
  Maps from measures to slices: looking up, putting, for this program's types. Condition: the keys are measures of whole numbers.
-/
import Derived.Test.YtddkedinkgnboaaEach
import Derived.DeepKeys3
namespace Go.Proofs.Ytddkedinkgnboaa
open Go.RowKit Go.Shelf
set_option linter.unusedVariables false

def keyV (W t k : Int) : Value := .agg #[.int .i64 W, .int .i64 t, .int .i64 k]
theorem msKeyLaw : WideMaps.KeyLaw Try.prog 24 := deep_law (m := 2) (by omega) (by kernel_rfl) (by kernel_rfl) (by kernel_rfl)
theorem msKey_ok {W t k : Int} (hW : (Lit.int .i64 W).wf = true) (ht : (Lit.int .i64 t).wf = true) (hk : (Lit.int .i64 k).wf = true) : ∃ l, keyOf Try.prog 24 (keyV W t k) = some l := by
  have h1 : ∀ (d : Nat) (x : Int), (Lit.int .i64 x).wf = true → Try.prog.keyLits (d + 1) 3 [.int .i64 x] = some [.int .i64 x] := fun d x hx => by
    unfold Program.keyLits
    rw [Try.underlying3]
    simp [hx]
  have hkt : Try.prog.keyType 24 = true := by kernel_rfl
  have hc : Try.prog.cellsOf 24 = 3 := by kernel_rfl
  have hc1 : Try.prog.cellsOf 3 = 1 := by kernel_rfl
  have hF : (keyV W t k).formed Try.prog 24 = true := by
    unfold keyV Value.formed
    rw [Try.underlying24]
    simp [hc]
  have hL : ∀ d, Try.prog.keyLits (d + 2) 24 (keyV W t k).cells.toList = some [.int .i64 W, .int .i64 t, .int .i64 k] := fun d => by
    unfold Program.keyLits
    rw [Try.underlying24, hc]
    simp [keyV, Value.cells, hc1, h1 d W hW, h1 d t ht, h1 d k hk]
  unfold keyOf
  rw [Try.underlying24, hkt, hF]
  simp only [Bool.and_self, if_true]
  have hsz : Nat.ble 1 Try.prog.types.size = true := by kernel_rfl
  have hsz := Nat.le_of_ble_eq_true hsz
  obtain ⟨d, hd⟩ : ∃ d, Try.prog.types.size + 1 = d + 2 := ⟨Try.prog.types.size - 1, by omega⟩
  rw [hd, hL]
  exact ⟨_, rfl⟩

section
variable {w : World} {r clock : Nat} {es : Array MapEntry} {key : Value} {kl : Lit}
/-- every key is a measure -/
def MKeys (es : Array MapEntry) : Prop := ∀ e ∈ es.toList, ∃ l, keyOf Try.prog 24 e.key = some l
theorem map_look (hb : w.heap[r]? = some (.map es clock)) (hk : keyOf Try.prog 24 key = some kl) (hs : MKeys es) :
    ((Instr.lookup 61 (.map (some r)) key true).run Try.prog w = .ok (.tuple #[.slice none 0 0, .bool false]) w ∧ ∀ e ∈ es.toList, e.key ≠ key) ∨
    ∃ e ∈ es.toList, e.key = key ∧ (Instr.lookup 61 (.map (some r)) key true).run Try.prog w = .ok (.tuple #[e.val, .bool true]) w := by
  have hz : (zeroValue 25).run Try.prog w = .ok (.slice none 0 0) w := by
    have h0 : (Try.prog.info? 25).bind (·.zero) = some (.slice none 0 0) := by kernel_rfl
    obtain ⟨i, hi, hi0⟩ := Option.bind_eq_some_iff.1 h0
    simp [zeroValue, typeInfo, hi, hi0, Result.andThen]
  rcases msKeyLaw.find w hk es.toList hs with ⟨h1, h2⟩ | ⟨j, e, h1, h2, h3⟩
  · exact .inl ⟨by simp [Instr.lookup, run_underlying Try.underlying61, MapKept.run_getObj_map hb, msKeyLaw.check w _ hk, h1, hz, Result.andThen], h2⟩
  · exact .inr ⟨e, List.mem_of_getElem? h2, h3, by simp [Instr.lookup, run_underlying Try.underlying61, MapKept.run_getObj_map hb, msKeyLaw.check w _ hk, h1, Result.andThen]⟩
theorem map_put (v : Value) (hb : w.heap[r]? = some (.map es clock)) (hk : keyOf Try.prog 24 key = some kl) (hs : MKeys es) (hno : ∀ e ∈ es.toList, e.key ≠ key) :
    (Instr.mapUpdate 61 (.map (some r)) key v).run Try.prog w = .ok () (w.putObj r (.map (es.push ⟨key, v, clock⟩) (clock + 1))) := by
  rcases msKeyLaw.find w hk es.toList hs with ⟨h1, h2⟩ | ⟨j, e, h1, h2, h3⟩
  · simp [Instr.mapUpdate, run_underlying Try.underlying61, MapKept.run_getObj_map hb, msKeyLaw.check w false hk, h1, MapKept.run_setObj_map _ hb, Result.andThen, World.putObj]
  · exact absurd h3 (hno e (List.mem_of_getElem? h2))
end
end Go.Proofs.Ytddkedinkgnboaa
