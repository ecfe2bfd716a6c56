/-
  ReachOf by contract, model and program, and that both look for the same places. Conditions of the contracts: a length of at most 2^20, which is at most the capacity.
-/
import Derived.Test.YtdijlofcgcikjaaDoorPkE
import Derived.Outline
namespace Go.Proofs.YtdijlofcgcikjaaDoor
open Go.RowKit
set_option linter.unusedVariables false

/-- place i of the model: the common teeth fall there; the end: all teeth do -/
def fitS (zs : List Int) (s : Int) (i : Nat) : Bool := ((fallOf zs (bits .and .i64 s (zs.getD i 0)) : Nat) : Int) == (i : Int)
def reachB (zs : List Int) (s : Int) (i : Nat) : Bool := if i = zs.length then ((fallOf zs s : Nat) : Int) == (zs.length : Int) else fitS zs s i
def reachL (zs : List Int) (s : Int) : List Int := if isBar zs && setB s then pick (reachB zs s) (zs.length + 1) else []
/-- place i of the program: one of the sets below q falls there -/
def hitB (zs : List Int) (s : Int) (q i : Nat) : Bool := (List.range q).any (fun t => partB (t : Int) s && fallOf zs (t : Int) == i)
theorem own_base {w : World} {B B' : Nat} {v : Value} {zs : List Int} (h : Own w B v zs) (hB : B' ≤ B) : Own w B' v zs := by
  refine ⟨h.1, ?_⟩
  rcases h.2 with hn | ⟨g, cap, cur, hv, hg, rest⟩
  · exact .inl hn
  · exact .inr ⟨g, cap, cur, hv, by omega, rest⟩
theorem range_get {m k : Nat} (f : Nat → Value) (h : k < m) : ((List.range m).map f)[k]? = some (f k) := by
  rw [List.getElem?_map, List.getElem?_range h]; rfl
theorem reachL_len (zs : List Int) (s : Int) (h : zs.length + 1 ≤ 1048576) : (reachL zs s).length ≤ 1048576 := by
  unfold reachL
  split
  · exact Nat.le_trans (pick_len _ _) h
  · simp

theorem fallOf_spec {zs : List Int} {t : Int} {i : Nat} (hi : i < zs.length) : fallOf zs t = i ↔ partB t (zs.getD i 0) = true ∧ ∀ j, j < i → partB t (zs.getD j 0) = false := by
  unfold fallOf
  rw [List.findIdx_eq hi]
  simp only [List.getD, List.getElem?_eq_getElem hi, Option.getD_some]
  constructor
  · rintro ⟨h1, h2⟩
    exact ⟨h1, fun j hj => by rw [List.getElem?_eq_getElem (by omega)]; exact h2 j hj⟩
  · rintro ⟨h1, h2⟩
    exact ⟨h1, fun j hj => by have := h2 j hj; rw [List.getElem?_eq_getElem (by omega)] at this; exact this⟩
theorem fallOf_end_iff {zs : List Int} {t : Int} : fallOf zs t = zs.length ↔ ∀ j, j < zs.length → partB t (zs.getD j 0) = false := by
  unfold fallOf
  rw [List.findIdx_eq_length]
  constructor
  · intro h j hj
    simp only [List.getD, List.getElem?_eq_getElem hj, Option.getD_some]
    exact h _ (List.getElem_mem hj)
  · intro h x hx
    obtain ⟨j, hj, rfl⟩ := List.mem_iff_getElem.1 hx
    have := h j hj
    simpa only [List.getD, List.getElem?_eq_getElem hj, Option.getD_some] using this

theorem partB_trans {a b c : Int} (ha0 : 0 ≤ a) (ha : a ≤ 127) (hb0 : 0 ≤ b) (hb : b ≤ 127) (hc0 : 0 ≤ c) (hc : c ≤ 127) (h1 : partB a b = true) (h2 : partB b c = true) : partB a c = true := by
  rw [partB_iff ha0 ha hc0 hc]
  rw [partB_iff ha0 ha hb0 hb] at h1
  rw [partB_iff hb0 hb hc0 hc] at h2
  exact fun i hi => h2 i (h1 i hi)
theorem partB_both {a b : Int} (ha0 : 0 ≤ a) (ha : a ≤ 127) (hb0 : 0 ≤ b) (hb : b ≤ 127) : partB (both a b) a = true ∧ partB (both a b) b = true := by
  obtain ⟨h0, h1⟩ := both_bd ha0 ha hb0 hb
  rw [partB_iff h0 h1 ha0 ha, partB_iff h0 h1 hb0 hb]
  constructor <;> intro i hi <;> rw [bt_both ha0 ha hb0 hb] at hi <;> simp at hi
  · exact hi.1
  · exact hi.2
theorem partB_glb {t a b : Int} (ht0 : 0 ≤ t) (ht : t ≤ 127) (ha0 : 0 ≤ a) (ha : a ≤ 127) (hb0 : 0 ≤ b) (hb : b ≤ 127) (h1 : partB t a = true) (h2 : partB t b = true) : partB t (both a b) = true := by
  obtain ⟨h0, h3⟩ := both_bd ha0 ha hb0 hb
  rw [partB_iff ht0 ht h0 h3]
  rw [partB_iff ht0 ht ha0 ha] at h1
  rw [partB_iff ht0 ht hb0 hb] at h2
  intro i hi
  rw [bt_both ha0 ha hb0 hb, h1 i hi, h2 i hi]; rfl
theorem partB_le {a b : Int} (ha0 : 0 ≤ a) (ha : a ≤ 127) (hb0 : 0 ≤ b) (hb : b ≤ 127) (h : partB a b = true) : a ≤ b := by
  have h' := (partB_iff ha0 ha hb0 hb).1 h
  have : a.toNat ≤ b.toNat := by
    have e : a.toNat = a.toNat &&& b.toNat := by
      apply Nat.eq_of_testBit_eq
      intro i
      rw [Nat.testBit_and]
      cases ht : a.toNat.testBit i
      · rfl
      · have := h' i ht
        unfold bt at this
        rw [this]; rfl
    rw [e]
    exact Nat.and_le_right
  omega

theorem reach_same {zs : List Int} {s : Int} (hbar : isBar zs = true) (hs0 : 0 ≤ s) (hs1 : s ≤ 127) (i : Nat) (hi : i < zs.length + 1) : hitB zs s (s.toNat + 1) i = reachB zs s i := by
  have hset := bar_set hbar
  have hzd : ∀ j, j < zs.length → 0 ≤ zs.getD j 0 ∧ zs.getD j 0 ≤ 127 := fun j hj => by
    simp only [List.getD, List.getElem?_eq_getElem hj, Option.getD_some]
    exact hset _ (List.getElem_mem hj)
  rw [Bool.eq_iff_iff]
  unfold hitB reachB
  rw [List.any_eq_true]
  constructor
  · rintro ⟨t, ht, hp⟩
    rw [List.mem_range] at ht
    rw [Bool.and_eq_true, beq_iff_eq] at hp
    obtain ⟨hp, hf⟩ := hp
    have t1 : (t : Int) ≤ 127 := by omega
    split
    · rename_i he
      rw [he, fallOf_end_iff] at hf
      rw [beq_iff_eq]
      have : fallOf zs s = zs.length := fallOf_end_iff.2 fun j hj => by
        cases hq : partB s (zs.getD j 0)
        · rfl
        · have := partB_trans (by omega) t1 hs0 hs1 (hzd j hj).1 (hzd j hj).2 hp hq
          rw [hf j hj] at this; cases this
      omega
    · rename_i he
      have hi' : i < zs.length := by omega
      rw [fallOf_spec hi'] at hf
      unfold fitS
      rw [beq_iff_eq]
      have hz := hzd i hi'
      have hbd := both_bd hs0 hs1 hz.1 hz.2
      have : fallOf zs (both s (zs.getD i 0)) = i := (fallOf_spec hi').2 ⟨(partB_both hs0 hs1 hz.1 hz.2).2, fun j hj => by
        have hzj := hzd j (by omega)
        cases hq : partB (both s (zs.getD i 0)) (zs.getD j 0)
        · rfl
        · have h1 := partB_glb (by omega) t1 hs0 hs1 hz.1 hz.2 hp hf.1
          have := partB_trans (by omega) t1 hbd.1 hbd.2 hzj.1 hzj.2 h1 hq
          rw [hf.2 j hj] at this; cases this⟩
      unfold both at this
      rw [this]
  · intro h
    split at h
    · rename_i he
      rw [beq_iff_eq] at h
      refine ⟨s.toNat, List.mem_range.2 (by omega), ?_⟩
      rw [Int.toNat_of_nonneg hs0, Bool.and_eq_true, beq_iff_eq]
      exact ⟨(partB_iff hs0 hs1 hs0 hs1).2 fun _ h => h, by omega⟩
    · rename_i he
      have hi' : i < zs.length := by omega
      have hz := hzd i hi'
      have hbd := both_bd hs0 hs1 hz.1 hz.2
      have hpb := partB_both hs0 hs1 hz.1 hz.2
      unfold fitS at h
      rw [beq_iff_eq] at h
      refine ⟨(both s (zs.getD i 0)).toNat, List.mem_range.2 ?_, ?_⟩
      · have := partB_le hbd.1 hbd.2 hs0 hs1 hpb.1
        omega
      · rw [Int.toNat_of_nonneg hbd.1, Bool.and_eq_true, beq_iff_eq]
        refine ⟨hpb.1, ?_⟩
        unfold both
        omega

theorem pick_push {f : Nat → Bool} {w : World} {B : Nat} {v : Value} {k : Nat} (hf : f k = true) (h : Own w B v (pick f k ++ [(k : Int)])) : Own w B v (pick f (k + 1)) := by rw [pick_yes hf]; exact h
theorem pick_stay {f : Nat → Bool} {w : World} {B : Nat} {v : Value} {k : Nat} (hf : f k = false) (h : Own w B v (pick f k)) : Own w B v (pick f (k + 1)) := by rw [pick_no hf]; exact h

theorem hit_step_no {zs : List Int} {s : Int} {q n : Nat} (h : partB (q : Int) s = false) : (List.range (n + 1)).map (fun i => Value.bool (hitB zs s (q + 1) i)) = (List.range (n + 1)).map (fun i => Value.bool (hitB zs s q i)) := by
  apply List.map_congr_left
  intro i _
  unfold hitB
  rw [List.range_succ, List.any_append]
  simp [h]
theorem hit_step_yes {zs : List Int} {s : Int} {q n : Nat} (hn : zs.length = n) (h : partB (q : Int) s = true) :
    ((List.range (n + 1)).map (fun i => Value.bool (hitB zs s q i))).set (fallOf zs (q : Int)) (.bool true) = (List.range (n + 1)).map (fun i => Value.bool (hitB zs s (q + 1) i)) := by
  apply List.ext_getElem
  · simp
  · intro i h1 h2
    have hi : i < n + 1 := by simpa using h2
    rw [List.getElem_set]
    simp only [List.getElem_map, List.getElem_range]
    unfold hitB
    rw [List.range_succ, List.any_append]
    split
    · rename_i he
      simp [h, he]
    · rename_i he
      have : (fallOf zs (q : Int) == i) = false := by simpa using he
      simp [this]
theorem hit_zero (zs : List Int) (s : Int) (n : Nat) : List.replicate (n + 1) (Value.bool false) = (List.range (n + 1)).map (fun i => Value.bool (hitB zs s 0 i)) := by
  apply List.ext_getElem
  · simp
  · intro i h1 h2; simp [hitB]

theorem reachL_small (zs : List Int) (s : Int) : (reachL zs s).length ≤ 41 := by
  unfold reachL
  split
  · rename_i h
    rw [Bool.and_eq_true] at h
    have := bar_len h.1
    have := pick_len (reachB zs s) (zs.length + 1)
    omega
  · simp
end Go.Proofs.YtdijlofcgcikjaaDoor
