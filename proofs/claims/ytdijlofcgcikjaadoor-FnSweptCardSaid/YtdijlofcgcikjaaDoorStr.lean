/-
  Slices of strings: a slice that reads as a list of strings, a row of the call's own; the laws' helpers toStringS, eqStringS, szStringS by contract. Conditions: at most 2^20 strings.
-/
import Derived.Test.YtdijlofcgcikjaaDoorPkA
import Derived.MapKept
import Derived.Lib.SlicesS
namespace Go.Proofs.YtdijlofcgcikjaaDoor
open Go.RowKit
set_option linter.unusedVariables false

theorem str_ne {x y : ByteArray} (h : x ≠ y) : (x == y) = false := by
  rw [Bool.eq_false_iff]; intro e; exact h ((Go.MapKept.bytes_beq x y).1 e)
theorem str_eq (x : ByteArray) : (x == x) = true := (Go.MapKept.bytes_beq x x).2 rfl
/-- The slice with the address A reads as zs. -/
def Strs (w : World) (A : Option Addr) (zs : List ByteArray) : Prop :=
  0 < zs.length → ∃ ad, A = some ad ∧ ∀ j, j < zs.length → w.cell? (ad.add j) = some (.string (zs.getD j ByteArray.empty))

section
variable {w w' : World} {A : Option Addr} {zs : List ByteArray}
theorem Strs.at_ {k : Nat} (h : Strs w A zs) (hk : k < zs.length) : ∃ ad x, A = some ad ∧ Hid (zs[k]? = some x) ∧ w.cell? (ad.add k) = some (.string x) := by
  obtain ⟨ad, e, hc⟩ := h (by omega)
  exact ⟨ad, zs[k], e, List.getElem?_eq_getElem hk, by rw [hc k hk]; simp [List.getD, hk]⟩
theorem Strs.nil (w : World) (A : Option Addr) : Strs w A [] := fun h => absurd h (by simp)
theorem Strs.keep (h : Strs w A zs) (hk : ∀ p : Addr, p.block < w.heap.size → w'.cell? p = w.cell? p) : Strs w' A zs := fun hn => by
  obtain ⟨ad, e, hc⟩ := h hn
  exact ⟨ad, e, fun j hj => (hk _ (World.block_lt_of_cell? _ _ (hc j hj))).trans (hc j hj)⟩
theorem Strs.below (h : Strs w A zs) (hb : Below w.heap.size w w') : Strs w' A zs := h.keep fun _ hp => hb.cell hp
theorem Strs.belowB {B : Nat} {w0 : World} (h : Strs w0 A zs) (hB : w0.heap.size ≤ B) (hb : Below B w0 w') : Strs w' A zs := h.below (hb.mono hB)
theorem Strs.drew (h : Strs w A zs) : Strs w.drew A zs := h
theorem Strs.drewN (h : Strs w A zs) (k : Nat) : Strs (w.drewN k) A zs := h
end

/-- A row of the call's own, from block B on, that holds zs. -/
def OwnS (w : World) (B : Nat) (v : Value) (zs : List ByteArray) : Prop := w.ownsRow B 9 1 v zs.length (zs.map (Value.string))

theorem OwnS.form {w : World} {B : Nat} {v : Value} {zs : List ByteArray} (h : OwnS w B v zs) : ∃ A c, v = .slice A zs.length c ∧ Strs w A zs ∧ (∀ a, A = some a → ∃ g, a = ⟨g, 0, none⟩ ∧ B ≤ g ∧ g < w.heap.size) ∧ zs.length ≤ c ∧ c ≤ maxLen := by
  have h0 := h
  rcases h.2 with ⟨rfl, hn⟩ | ⟨g, cap, cur, rfl, hg, hh, hcap, hcm, _⟩
  · refine ⟨none, 0, by rw [hn], ?_, (fun a ha => by cases ha), (by rw [hn]; exact Nat.le_refl _), Nat.zero_le _⟩
    have : zs = [] := List.eq_nil_of_length_eq_zero hn
    subst this
    exact Strs.nil _ _
  · refine ⟨some ⟨g, 0, none⟩, cap, rfl, fun _ => ⟨_, rfl, fun j hj => ?_⟩, fun a ha => ⟨g, by injection ha with ha; exact ha.symm, hg, (Array.getElem?_eq_some_iff.1 hh).1⟩, hcap, hcm⟩
    refine World.ownsRow.cells h0 (g := g) rfl j _ ?_
    rw [List.getElem?_map, List.getElem?_eq_getElem hj]
    simp [List.getD, hj]

theorem OwnS.below {w w' : World} {B : Nat} {v : Value} {zs : List ByteArray} (h : OwnS w B v zs) (hb : Below w.heap.size w w') : OwnS w' B v zs := by
  refine ⟨h.1, ?_⟩
  rcases h.2 with hn | ⟨g, cap, cur, hv, hg, hh, rest⟩
  · exact .inl hn
  · exact .inr ⟨g, cap, cur, hv, hg, (hb.block g (Array.getElem?_eq_some_iff.1 hh).1).trans hh, rest⟩
theorem OwnS.drew {w : World} {B : Nat} {v : Value} {zs : List ByteArray} (h : OwnS w B v zs) : OwnS w.drew B v zs := h
theorem OwnS.drewN {w : World} {B : Nat} {v : Value} {zs : List ByteArray} (h : OwnS w B v zs) (k : Nat) : OwnS (w.drewN k) B v zs := h

theorem stake_at {zs : List ByteArray} {k : Nat} {x : ByteArray} (h : zs[k]? = some x) : zs.take (k + 1) = zs.take k ++ [x] := by
  rw [List.take_add_one, h]; rfl
theorem stake_all {zs : List ByteArray} {n : Nat} (h : zs.length = n) : zs.take n = zs := List.take_of_length_le (by omega)
theorem smem_at {zs : List ByteArray} {k : Nat} {x : ByteArray} (h : zs[k]? = some x) : x ∈ zs := List.mem_of_getElem? h
theorem slt_at {zs : List ByteArray} {k : Nat} {x : ByteArray} (h : zs[k]? = some x) : k < zs.length := (List.getElem?_eq_some_iff.1 h).1
theorem sgetD_at {zs : List ByteArray} {k : Nat} {x : ByteArray} (h : zs[k]? = some x) : zs.getD k ByteArray.empty = x := by simp [List.getD, h]
theorem strInfo : (Tryd.prog.info? 9).map (fun i => (i.zero, i.size, i.bytes)) = some (some (.string ByteArray.empty), 1, 16) := by kernel_rfl

/-- What a copy holds after k rounds. -/
def shalf (zs : List ByteArray) (n k : Nat) : List Value := (zs.take k).map (Value.string) ++ List.replicate (n - k) (.string ByteArray.empty)
theorem shalf_zero (zs : List ByteArray) (n : Nat) : (madeCells (Value.string ByteArray.empty).cells (n * 1)).toList = shalf zs n 0 := by
  rw [show shalf zs n 0 = List.replicate n (.string ByteArray.empty) from by simp [shalf]]
  apply List.ext_getElem
  · simp [madeCells, Value.cells]
  · intro i h1 h2
    simp [madeCells, Value.cells, Nat.mod_one]
theorem shalf_set {zs : List ByteArray} {n k : Nat} {x : ByteArray} (hn : zs.length = n) (hx : zs[k]? = some x) : (shalf zs n k).set k (.string x) = shalf zs n (k + 1) := by
  have hk := slt_at hx
  unfold shalf
  rw [stake_at hx, List.set_append, if_neg (by simp; omega)]
  have : n - k = (n - (k + 1)) + 1 := by omega
  rw [this, List.replicate_succ]
  simp [Nat.min_eq_left (Nat.le_of_lt hk)]
theorem shalf_full {zs : List ByteArray} {n : Nat} (hn : zs.length = n) : shalf zs n n = zs.map (Value.string) := by
  simp [shalf, stake_all hn]
theorem shalf_cell (zs : List ByteArray) (n k : Nat) (hn : zs.length = n) (hk : k < n) : ∃ v, (shalf zs n k)[k]? = some v := by
  refine ⟨.string ByteArray.empty, ?_⟩
  unfold shalf
  rw [List.getElem?_append_right (by simp; omega)]
  rw [List.length_map, List.length_take, Nat.min_eq_left (by omega), Nat.sub_self, List.getElem?_replicate, if_pos (by omega)]

theorem Strs.of_row {w : World} {x : Addr} {zs : List ByteArray} {n : Nat} (hn : n ≤ zs.length) (hc : ∀ i, i < zs.length → w.cell? (x.add i) = some (.string (zs.getD i ByteArray.empty))) : Strs w (some x) (zs.take n) := by
  intro _
  refine ⟨x, rfl, fun j hj => ?_⟩
  rw [List.length_take] at hj
  rw [hc j (by omega)]
  simp only [List.getD, List.getElem?_take]
  rw [if_pos (by omega)]

/-- as 'Ints', and what is read lies below block b -/
def StrsB (w : World) (b : Nat) (A : Option Addr) (zs : List ByteArray) : Prop :=
  0 < zs.length → ∃ ad, A = some ad ∧ ad.block < b ∧ ∀ j, j < zs.length → w.cell? (ad.add j) = some (.string (zs.getD j ByteArray.empty))
theorem StrsB.of {w : World} {A : Option Addr} {zs : List ByteArray} (h : Strs w A zs) : StrsB w w.heap.size A zs := fun hn => by
  obtain ⟨ad, e, hc⟩ := h hn
  exact ⟨ad, e, by have := World.block_lt_of_cell? _ _ (hc 0 hn); rwa [block_add] at this, hc⟩
theorem StrsB.ints {w : World} {b : Nat} {A : Option Addr} {zs : List ByteArray} (h : StrsB w b A zs) : Strs w A zs := fun hn => by
  obtain ⟨ad, e, _, hc⟩ := h hn
  exact ⟨ad, e, hc⟩
theorem StrsB.keep {w w' : World} {b B : Nat} {A : Option Addr} {zs : List ByteArray} (h : StrsB w b A zs) (hb : b ≤ B) (hB : Below B w w') : StrsB w' b A zs := fun hn => by
  obtain ⟨ad, e, hl, hc⟩ := h hn
  exact ⟨ad, e, hl, fun j hj => (hB.cell (p := ad.add j) (by rw [block_add]; omega)).trans (hc j hj)⟩
theorem OwnS.grown_lt {w w' : World} {B : Nat} {v : Value} {zs : List ByteArray} {row : Option Nat} (h : OwnS w B v zs) (hg : w.grownBy w' row) (hr : ∀ k, row = some k → k < B) : OwnS w' B v zs := by
  refine ⟨h.1, ?_⟩
  rcases h.2 with hn | ⟨g, cap, cur, hv, hB, hh, rest⟩
  · exact .inl hn
  · exact .inr ⟨g, cap, cur, hv, hB, (hg.block g (Array.getElem?_eq_some_iff.1 hh).1 (fun e => by have := hr g e.symm; omega)).trans hh, rest⟩

end Go.Proofs.YtdijlofcgcikjaaDoor
