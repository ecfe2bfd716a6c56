/-
  Lists of matrices in memory, and the laws' helpers over them by contract: toMatrix, toMatrixS, eqMatrix, eqMatrixS. Condition: lists of at most 2^20.
-/
import Derived.Test.YthoepelgmplcmaaFontT
import Derived.StillTailTactics
namespace Go.Proofs.Ythoepelgmplcmaa
open Go.RowKit
set_option linter.unusedVariables false

/-- a matrix: kind, teeth -/
abbrev Mat := Int × Int
/-- the cells of a list of matrices -/
def mcells (xs : List Mat) : List Value := xs.flatMap fun x => [.int .i64 x.1, .int .i64 x.2]
theorem mcells_len (xs : List Mat) : (mcells xs).length = xs.length * 2 := by
  unfold mcells
  induction xs with
  | nil => rfl
  | cons x xs ih => rw [List.flatMap_cons, List.length_append, ih]; simp; omega
theorem mcells_snoc (xs : List Mat) (x : Mat) : mcells (xs ++ [x]) = mcells xs ++ [.int .i64 x.1, .int .i64 x.2] := by
  unfold mcells; rw [List.flatMap_append]; rfl
theorem mcells_append (xs ys : List Mat) : mcells (xs ++ ys) = mcells xs ++ mcells ys := by
  unfold mcells; rw [List.flatMap_append]
theorem mcells_get {xs : List Mat} : ∀ {k : Nat} {x : Mat}, xs[k]? = some x → (mcells xs)[k * 2]? = some (.int .i64 x.1) ∧ (mcells xs)[k * 2 + 1]? = some (.int .i64 x.2) := by
  induction xs with
  | nil => intro k x h; simp at h
  | cons y ys ih =>
    intro k x h
    have e : mcells (y :: ys) = .int .i64 y.1 :: .int .i64 y.2 :: mcells ys := rfl
    cases k with
    | zero => simp at h; subst h; exact ⟨rfl, rfl⟩
    | succ k =>
      obtain ⟨h1, h2⟩ := ih (k := k) (x := x) (by simpa using h)
      rw [e, show (k + 1) * 2 = (k * 2) + 1 + 1 from by omega]
      exact ⟨by simpa using h1, by simpa using h2⟩

/-- the slice with the address A reads as xs, in blocks from lo up to hi -/
def MatsI (w : World) (lo hi : Nat) (A : Option Addr) (xs : List Mat) : Prop :=
  0 < xs.length → ∃ ad, A = some ad ∧ lo ≤ ad.block ∧ ad.block < hi ∧ ∀ j x, xs[j]? = some x → w.cell? (ad.add (j * 2)) = some (.int .i64 x.1) ∧ w.cell? (ad.add (j * 2 + 1)) = some (.int .i64 x.2)
section
variable {w w' : World} {lo hi : Nat} {A : Option Addr} {xs : List Mat}
theorem addr_next (a : Addr) (j : Nat) : a.add (j + 1) = ⟨(a.add j).block, (a.add j).off + 1, none⟩ := by
  unfold Addr.add
  rw [if_neg (by omega)]
  split
  · rename_i e; subst e; rfl
  · simp only [Nat.add_assoc]
theorem MatsI.at_ {k : Nat} (h : MatsI w lo hi A xs) (hk : k < xs.length) : ∃ ad x, A = some ad ∧ Hid (xs[k]? = some x) ∧ w.cell? (ad.add (k * 2)) = some (.int .i64 x.1) ∧ w.cell? ⟨(ad.add (k * 2)).block, (ad.add (k * 2)).off + 1, none⟩ = some (.int .i64 x.2) := by
  obtain ⟨ad, e, _, _, hc⟩ := h (by omega)
  obtain ⟨h1, h2⟩ := hc k xs[k] (List.getElem?_eq_getElem hk)
  exact ⟨ad, xs[k], e, List.getElem?_eq_getElem hk, h1, by rw [← addr_next]; exact h2⟩
theorem MatsI.keep (h : MatsI w lo hi A xs) (hk : ∀ p : Addr, lo ≤ p.block → p.block < hi → w'.cell? p = w.cell? p) : MatsI w' lo hi A xs := fun hn => by
  obtain ⟨ad, e, h1, h2, hc⟩ := h hn
  refine ⟨ad, e, h1, h2, fun j x hx => ?_⟩
  obtain ⟨c1, c2⟩ := hc j x hx
  exact ⟨(hk _ (by rw [block_add]; exact h1) (by rw [block_add]; exact h2)).trans c1, (hk _ (by rw [block_add]; exact h1) (by rw [block_add]; exact h2)).trans c2⟩
theorem MatsI.below {B : Nat} (h : MatsI w lo hi A xs) (hB : hi ≤ B) (hb : Below B w w') : MatsI w' lo hi A xs := h.keep fun p _ h2 => hb.cell (by omega)
theorem MatsI.wide {lo' hi' : Nat} (h : MatsI w lo hi A xs) (h1 : lo' ≤ lo) (h2 : hi ≤ hi') : MatsI w lo' hi' A xs := fun hn => by
  obtain ⟨ad, e, g1, g2, hc⟩ := h hn
  exact ⟨ad, e, by omega, by omega, hc⟩
theorem MatsI.nil (w : World) (lo hi : Nat) (A : Option Addr) : MatsI w lo hi A [] := fun h => absurd h (by simp)
end
/-- a row of the call's own that holds xs -/
def OwnM (w : World) (B : Nat) (v : Value) (xs : List Mat) : Prop := w.ownsRow B 34 2 v xs.length (mcells xs)
theorem OwnM.lt {w : World} {B : Nat} {v : Value} {xs : List Mat} (h : OwnM w B v xs) : ∀ k, v.ownBlock = some k → B ≤ k ∧ k < w.heap.size := World.ownsRow.lt h
theorem OwnM.form {w : World} {B : Nat} {v : Value} {xs : List Mat} (h : OwnM w B v xs) : ∃ A c, v = .slice A xs.length c ∧ xs.length ≤ c ∧ c ≤ maxLen ∧ (∀ a, A = some a → ∃ g, a = ⟨g, 0, none⟩ ∧ B ≤ g ∧ g < w.heap.size) ∧ (0 < xs.length → ∃ a, A = some a) := by
  rcases h.2 with ⟨rfl, hn⟩ | ⟨g, cap, cur, rfl, hg, hh, hcap, hcm, _⟩
  · exact ⟨none, 0, by rw [hn], by omega, Nat.zero_le _, fun a ha => (by cases ha), fun h => by omega⟩
  · exact ⟨some ⟨g, 0, none⟩, cap, rfl, hcap, hcm, fun a ha => ⟨g, by injection ha with ha; exact ha.symm, hg, (Array.getElem?_eq_some_iff.1 hh).1⟩, fun _ => ⟨_, rfl⟩⟩
theorem OwnM.reads {w : World} {B n c : Nat} {A : Option Addr} {xs : List Mat} (h : OwnM w B (.slice A n c) xs) : MatsI w B w.heap.size A xs := fun hn => by
  obtain ⟨A', c', hv, _, _, hA, hS⟩ := h.form
  injection hv with e1 e2 e3
  subst e1
  obtain ⟨a, ha⟩ := hS hn
  subst ha
  obtain ⟨g, rfl, h1, h2⟩ := hA a rfl
  refine ⟨_, rfl, h1, h2, fun j x hx => ?_⟩
  obtain ⟨c1, c2⟩ := mcells_get hx
  exact ⟨World.ownsRow.cells h (g := g) rfl _ _ c1, World.ownsRow.cells h (g := g) rfl _ _ c2⟩
theorem OwnM.below {w w' : World} {B : Nat} {v : Value} {xs : List Mat} (h : OwnM w B v xs) (hb : Below w.heap.size w w') : OwnM w' B v xs := by
  refine ⟨h.1, ?_⟩
  rcases h.2 with hn | ⟨g, cap, cur, hv, hg, hh, rest⟩
  · exact .inl hn
  · exact .inr ⟨g, cap, cur, hv, hg, (hb.block g (Array.getElem?_eq_some_iff.1 hh).1).trans hh, rest⟩
theorem OwnM.chg {lo hi B : Nat} {w w' : World} {v : Value} {xs : List Mat} (hO : OwnM w B v xs) (h : Chg lo hi w w') (hn : ∀ k, v.ownBlock = some k → ¬ (lo ≤ k ∧ k < hi)) : OwnM w' B v xs := by
  refine ⟨hO.1, ?_⟩
  have hlt := fun k hk => (World.ownsRow.lt hO k hk).2
  rcases hO.2 with hnil | ⟨g, cap, cur, rfl, hg, hh, rest⟩
  · exact .inl hnil
  · exact .inr ⟨g, cap, cur, rfl, hg, (h.block g (hlt g rfl) (hn g rfl)).trans hh, rest⟩
theorem OwnM.base {w : World} {B B' : Nat} {v : Value} {xs : List Mat} (h : OwnM w B v xs) (hB : B' ≤ B) : OwnM w B' v xs := by
  refine ⟨h.1, ?_⟩
  rcases h.2 with hn | ⟨g, cap, cur, hv, hg, rest⟩
  · exact .inl hn
  · exact .inr ⟨g, cap, cur, hv, by omega, rest⟩
theorem OwnM.grown {w w' : World} {B : Nat} {v : Value} {xs : List Mat} {row : Option Nat} (h : OwnM w B v xs) (hg : w.grownBy w' row) (hne : v.ownBlock = none ∨ v.ownBlock ≠ row) : OwnM w' B v xs := World.ownsRow.kept h hg hne

theorem matInfo : (Try.prog.info? 34).map (fun i => (i.zero, i.size, i.bytes)) = some (some (.agg #[.int .i64 0, .int .i64 0]), 2, 16) := by kernel_rfl

set_option maxHeartbeats 400000 in
theorem toMatrix_any (x : Mat) (w : World) :
    Calls Try.prog 168 #[.agg #[.int .i64 x.1, .int .i64 x.2]] w fun e w' => e = .returned (.agg #[.int .i64 x.1, .int .i64 x.2]) ∧ Below w.heap.size w w' := by
  obtain ⟨k, t⟩ := x
  simp only
  go_enter Try.func168, Try.ntmps168
  go_wp2
  refine bodyPost_ret (v := .agg #[.int .i64 k, .int .i64 t]) (by simp [results, Try.results168, go_sem]) rfl ⟨rfl, ?_⟩
  exact (((Below.refl _ _).alloc (Nat.le_refl _) _).alloc (by simp) _).alloc (by simp <;> omega) _

/-- what a copy holds after k rounds -/
def halfM (xs : List Mat) (n k : Nat) : List Value := mcells (xs.take k) ++ List.replicate ((n - k) * 2) (.int .i64 0)
theorem halfM_zero (xs : List Mat) (n : Nat) : (madeCells (Value.agg #[.int .i64 0, .int .i64 0]).cells (n * 2)).toList = halfM xs n 0 := by
  rw [show halfM xs n 0 = List.replicate (n * 2) (.int .i64 0) from by simp [halfM, mcells]]
  apply List.ext_getElem
  · simp [madeCells, Value.cells]
  · intro i h1 h2
    have : i % 2 = 0 ∨ i % 2 = 1 := by omega
    rcases this with e | e <;> simp [madeCells, Value.cells, e]
theorem mtake_at {xs : List Mat} {k : Nat} {x : Mat} (h : xs[k]? = some x) : xs.take (k + 1) = xs.take k ++ [x] := by
  rw [List.take_add_one, h]; rfl
theorem mlt_at {xs : List Mat} {k : Nat} {x : Mat} (h : xs[k]? = some x) : k < xs.length := (List.getElem?_eq_some_iff.1 h).1
theorem halfM_set {xs : List Mat} {n k : Nat} {x : Mat} (hn : xs.length = n) (hx : xs[k]? = some x) : ((halfM xs n k).set (k * 2) (.int .i64 x.1)).set (k * 2 + 1) (.int .i64 x.2) = halfM xs n (k + 1) := by
  have hk := mlt_at hx
  have hl : (mcells (xs.take k)).length = k * 2 := by rw [mcells_len, List.length_take]; omega
  unfold halfM
  rw [mtake_at hx, mcells_snoc, List.set_append, if_neg (by omega), hl, Nat.sub_self, List.set_append, if_neg (by omega), hl, show k * 2 + 1 - k * 2 = 1 from by omega]
  have : (n - k) * 2 = (n - (k + 1)) * 2 + 1 + 1 := by omega
  rw [this, List.replicate_succ, List.replicate_succ]
  simp
theorem halfM_full {xs : List Mat} {n : Nat} (hn : xs.length = n) : halfM xs n n = mcells xs := by
  unfold halfM
  rw [List.take_of_length_le (by omega)]; simp
theorem halfM_len {xs : List Mat} {n k : Nat} (hn : xs.length = n) (hk : k ≤ n) : (halfM xs n k).length = n * 2 := by
  unfold halfM
  rw [List.length_append, mcells_len, List.length_take, List.length_replicate]; omega

theorem row_keep {w w' : World} {B size n : Nat} {T : TypeId} {v : Value} {xs : List Value} (h : w.ownsRow B T size v n xs) (hb : Below w.heap.size w w') : w'.ownsRow B T size v n xs := by
  refine ⟨h.1, ?_⟩
  rcases h.2 with hn | ⟨g, cap, cur, hv, hg, hh, rest⟩
  · exact .inl hn
  · exact .inr ⟨g, cap, cur, hv, hg, (hb.block g (Array.getElem?_eq_some_iff.1 hh).1).trans hh, rest⟩

set_option maxRecDepth 100000 in
set_option maxHeartbeats 800000 in
theorem toMatrixS_any (lo hi : Nat) (A : Option Addr) (n c : Nat) (xs : List Mat) (w : World) (hn : xs.length = n) (hm : n ≤ 1048576) (hhi : hi ≤ w.heap.size) (h : MatsI w lo hi A xs) :
    Calls Try.prog 109 #[.slice A n c] w fun e w' => ∃ v, e = .returned v ∧ OwnM w' w.heap.size v xs ∧ Below w.heap.size w w' := by
  have Hn := Lib.hid hn; clear hn
  obtain ⟨i0, hi0, hz0, hz1, hz2⟩ := info_parts matInfo
  go_enter Try.func109, Try.ntmps109
  go_wp2_with (at_make; refine wpList_make_full _ rfl (.tmp 6) (.tmp 6) 32 rfl w.heap.size 34 i0 (.agg #[.int .i64 0, .int .i64 0]) 2 Try.underlying32 hi0 hz0 hz1 .i64 .i64 (n : Int) (n : Int) n rfl rfl rfl rfl (by rw [hz2]; omega) (by unfold maxLen; omega) (Nat.le_refl _) ?_; intro w1 hown1 hg1; rw [halfM_zero xs] at hown1)
  have hb1 : Below w.heap.size w w1 := (Below.refl _ _).grown hg1 (Nat.le_refl _) (fun k hk => by cases hk)
  clear hg1
  go_loopw [4] (fun i wr => ∃ k : Nat, k ≤ n ∧ i = .int .i64 k ∧ wr.ownsRow w.heap.size 34 2 (.slice (some ⟨w.heap.size, 0, none⟩) n n) n (halfM xs n k) ∧ Below w.heap.size w wr) (fun i _ => n - (intOf i).toNat)
  case atStart => exact ⟨0, Nat.zero_le _, rfl, hown1, hb1⟩
  case round =>
    clear hown1 hb1
    obtain ⟨k, hk, rfl, hown, hb⟩ := hrel
    have HO := Lib.hid hown; have HB := Lib.hid hb
    clear hown hb
    by_cases hlt : k < n
    · obtain ⟨ad, x, rfl, hx, hc1, hc2⟩ := (h.below hhi HB.out).at_ (k := k) (by rw [Hn.out]; exact hlt)
      have HH := Lib.hid h
      clear h
      go_wp2_with fail
      refine (toMatrix_any x _).mono ?_
      rintro e w2 ⟨rfl, hb2⟩
      have hown2 : w2.ownsRow w.heap.size 34 2 (.slice (some ⟨w.heap.size, 0, none⟩) n n) n (halfM xs n k) := row_keep HO.out hb2
      obtain ⟨v1, hv1⟩ : ∃ v, (halfM xs n k)[k * 2]? = some v := ⟨_, List.getElem?_eq_getElem (by rw [halfM_len Hn.out hk]; omega)⟩
      obtain ⟨v2, hv2⟩ : ∃ v, (halfM xs n k)[k * 2 + 1]? = some v := ⟨_, List.getElem?_eq_getElem (by rw [halfM_len Hn.out hk]; omega)⟩
      have d1 := (hown2.cellAt (k * 2) (by omega)).trans hv1
      have d2 := (hown2.cellAt (k * 2 + 1) (by omega)).trans hv2
      have f1 := hown2.frozenAt (k * 2)
      have f2 := hown2.frozenAt (k * 2 + 1)
      have hst := ((hown2.stored (k * 2) (.int .i64 x.1)).1.stored (k * 2 + 1) (.int .i64 x.2)).1
      rw [halfM_set Hn.out hx.out] at hst
      have HS := Lib.hid hst
      have HB2 := Lib.hid ((((HB.out.trans (hb2.mono HB.out.size)).setCell (p := ⟨w.heap.size, k * 2, none⟩) (Nat.le_refl _) (.int .i64 x.1))).setCell (p := ⟨w.heap.size, k * 2 + 1, none⟩) (Nat.le_refl _) (.int .i64 x.2))
      clear hst hv1 hv2 hown2 hb2
      go_wp2
      go_roundw
      case rel => exact ⟨k + 1, by omega, by go_num, HS.out, HB2.out⟩
      case measure => simp [intOf]; omega
    · have hkn : k = n := by omega
      subst hkn
      go_wp2
      go_ret
      refine ⟨_, rfl, ?_, HB.out⟩
      unfold OwnM
      rw [Hn.out, ← halfM_full Hn.out]
      exact HO.out
end Go.Proofs.Ythoepelgmplcmaa
