/-
 Contracts and plain mathematics (Concat, MagW, Copy, CopyS, MchC), each with its conditions in its own statement.
-/
import Derived.Test.YtimhnkpccbcohaaGreatDoorZPkF
import Derived.Lib.AppendZeros
import Derived.Lib.SliceRun
import Derived.Test.YtimhnkpccbcohaaGreatDoorZPkC
import Derived.Test.YtimhnkpccbcohaaGreatDoorZPkB
import Derived.Maps.AppendAt
import Derived.Lib.BufferWrite
import Derived.Test.YtimhnkpccbcohaaGreatDoorZPkE
import Derived.Test.YtimhnkpccbcohaaGreatDoorZPkG
namespace Go.Proofs.YtimhnkpccbcohaaGreatDoor
open Go.RowKit
set_option linter.unusedVariables false

theorem run_append_none_int {w : World} (base : Nat) (ty : TypeId) (v : Value) (zs : List Int) (c : Nat) (hown : Own w base v zs) :
  (Builtin.append_ #[22, 22] ty #[v, .slice none 0 c]).run Tryz.prog w = .ok v w := by
 obtain ⟨i0, hi, hz0, hz1, hz2⟩ := info_parts intInfo
 have hu := Tryz.underlying22
 rcases hown.2 with ⟨rfl, h0⟩ | ⟨g, cap, cur, rfl, _, _, hnc, _⟩
 ·simp [Builtin.append_, run_underlying hu, sizeOf, typeInfo, hi, Builtin.lenOf, Builtin.firstCells]
 ·simp [Builtin.append_, run_underlying hu, sizeOf, typeInfo, hi, Builtin.lenOf, Builtin.firstCells, hnc, storeCells]

section
variable {ops : Array Oper} {rest : List Oper} {o : Oper} {a : Act} {Q : Exit → Act → World → Prop}
/-- append(s, xs...) onto a row of the call's own, whatever xs -/
theorem wpl_append_any (w : World) (hg : o.guard = none) (s x : Operand) (ho : o.op = .call { callee := .builtin .append, args := #[s, x], argTypes := #[22, 22] })
  (B : Nat) (v : Value) (zs ys : List Int) (A : Option Addr) (m c : Nat) (hs : a.eval s = v) (hx : a.eval x = .slice A m c) (hm : ys.length = m) (hI : Ints w A ys) (hown : Own w B v zs) (hB : B ≤ w.heap.size) (hlen : zs.length + m ≤ 2097152)
  (hK : ∀ v' w', Own w' B v' (zs ++ ys) → w.grownBy w' v.ownBlock → (v'.ownBlock = v.ownBlock ∨ v'.ownBlock = some w.heap.size) → wpList Tryz.prog ops Q rest (a.put o.dst v') w') :
  wpList Tryz.prog ops Q (o :: rest) a w := by
 rcases Nat.eq_zero_or_pos m with h0 | hpos
 ·subst h0
  have hy : ys = [] := List.eq_nil_of_length_eq_zero hm
  subst hy
  cases A with
  | none =>
   refine wpList_plain hg fun K hK' => ?_
   have hrun := run_append_none_int (w := w) B o.type v zs c hown
   unfold Oper.wp execOp
   simp only [ho, resolve, invoke, builtin, Sem.run_bind, Sem.run_pure, Result.andThen_ok, List.map_toArray, List.map_cons, List.map_nil, hs, hx, hrun]
   exact hK' _ _ (hK v w (by rw [List.append_nil]; exact hown) (World.grownBy.refl w _) (.inl rfl))
  | some ad =>
   obtain ⟨i0, hi, hz0, hz1, hz2⟩ := info_parts intInfo
   refine wpList_plain hg fun K hK' => ?_
   obtain ⟨v', w', hr, h2, h3, h4⟩ := run_append_own (P := Tryz.prog) w B 22 o.type 3 i0 (.int .i64 0) 1 8 Tryz.underlying22 hi hz0 hz1 hz2 rfl (by decide) v zs.length (zs.map (Value.int .i64)) hown ad 0 c [] rfl (fun j u hj => by simp at hj) (fun u hu => by simp at hu) (by unfold maxLen; omega) (by omega) hB
   have hlie := append_lies i0 hi hz0 hz1 hz2 hown ad 0 c (news := []) rfl (fun j u hj => by simp at hj) (fun u hu => by simp at hu) (by omega) hr
   unfold Oper.wp execOp
   simp only [ho, resolve, invoke, builtin, Sem.run_bind, Sem.run_pure, Result.andThen_ok, List.map_toArray, List.map_cons, List.map_nil, hs, hx, hr]
   refine hK' _ _ (hK v' w' ?_ h3 hlie)
   unfold Own
   rw [List.append_nil]
   simpa using h2
 ·exact wpl_append2 w hg s x ho B v zs ys A m c hs hx hm hpos hI hown hB hlen hK
end

set_option maxRecDepth 100000 in
set_option maxHeartbeats 1600000 in
/-- slices.Clone -/
theorem clone_any (A : Option Addr) (n c : Nat) (zs : List Int) (w : World) (hn : zs.length = n) (hm : n ≤ 1048576) (h : IntsB w w.heap.size A zs) :
  Calls Tryz.prog 115 #[.slice A n c] w fun e w' => ∃ v, e = .returned v ∧ Own w' w.heap.size v zs ∧ Below w.heap.size w w' := by
 have Hn := Lib.hid hn
 have H := Lib.hid h
 have heq := fun (wx : World) => Lib.run_eql_slice_nil (P := Tryz.prog) wx 22 3 A n c 0 0 Tryz.underlying22
 cases A with
 | none =>
  have hz : zs = [] := by
   cases zs with
   | nil => rfl
   | cons z zs => obtain ⟨ad, e, _⟩ := h (by simp); cases e
  subst hz
  have hn0 : n = 0 := by simpa using hn.symm
  subst hn0
  simp only [Option.isNone_none] at heq
  clear hn h
  go_enter Tryz.func115, Tryz.ntmps115
  go_wp2
  go_ret
  exact ⟨_, rfl, ⟨rfl, .inl ⟨rfl, rfl⟩⟩, Below.refl _ _⟩
 | some ad =>
  simp only [Option.isNone_some] at heq
  obtain ⟨w1, hw1⟩ : ∃ w1, w.alloc (.cells #[] 3) = w1 := ⟨_, rfl⟩
  have hb1 : Below w.heap.size w w1 := by rw [← hw1]; exact below_new _ _
  have hO1 : Own w1 w.heap.size (.slice (some ⟨w.heap.size, 0, none⟩) 0 0) [] := by rw [← hw1]; exact World.ownsRow_lit w #[] 0 (Nat.le_refl _) (Nat.zero_le _) rfl
  have B1 := Lib.hid hb1; have O1 := Lib.hid hO1
  have I1 := Lib.hid ((H.out.keep (Nat.le_refl _) hb1).ints)
  have z1 := hb1.size
  clear hn h hb1 hO1
  go_enter Tryz.func115, Tryz.ntmps115
  go_wp2_with (at_builtin; refine wpl_append_any _ rfl (.tmp 5) (.tmp 6) rfl w.heap.size _ [] zs (some ad) n c rfl rfl Hn.out I1.out O1.out z1 (by simp; omega) ?_; intro v' w4 hO4 hg4 _)
  rw [List.nil_append] at hO4
  have O4 := Lib.hid hO4; have B4 := Lib.hid (B1.out.trans ((Below.refl w.heap.size w1).grown hg4 z1 (fun g hg => (World.ownsRow.lt O1.out g hg).1)))
  clear hO4 hg4
  go_ret
  exact ⟨_, rfl, O4.out, B4.out⟩
end Go.Proofs.YtimhnkpccbcohaaGreatDoor

namespace Go.Proofs.YtimhnkpccbcohaaGreatDoor
open Go.RowKit
set_option linter.unusedVariables false

theorem OwnM.setAt {w : World} {B : Nat} {v : Value} {xs : List Mat} (h : OwnM w B v xs) {g i : Nat} (hne : v.ownBlock ≠ some g) (u : Value) : OwnM (w.setCell ⟨g, i, none⟩ u) B v xs := by
 refine World.ownsRow.kept h (Lib.grownBy_setCell w g i u) ?_
 exact .inr hne
theorem row_base {w : World} {B B' : Nat} {T : TypeId} {size n : Nat} {v : Value} {xs : List Value} (h : w.ownsRow B T size v n xs) (hB : B' ≤ B) : w.ownsRow B' T size v n xs := by
 refine ⟨h.1, ?_⟩
 rcases h.2 with hn | ⟨g, cap, cur, hv, hg, rest⟩
 ·exact .inl hn
 ·exact .inr ⟨g, cap, cur, hv, by omega, rest⟩
theorem OwnMag.base {w : World} {B B' hi : Nat} {v : Value} {hs : List Value} {ms : List (List Mat)} (h : OwnMag w B hi v hs ms) (hB : B' ≤ B) : OwnMag w B' hi v hs ms where
 outer := row_base h.outer hB
 rows := fun j xs hx => by obtain ⟨hj, e, ho⟩ := h.rows j xs hx; exact ⟨hj, e, ho.base hB⟩
 apart := h.apart
 other := h.other
 top := h.top
theorem OwnMag.kept {w w' : World} {B hi i : Nat} {v : Value} {hs : List Value} {ms : List (List Mat)} {h : Value} (hM : OwnMag w B hi v hs ms) (hh : hs[i]? = some h) (hg : w.grownBy w' h.ownBlock) : w'.ownsRow B 35 1 v ms.length hs := by
 refine World.ownsRow.kept hM.outer hg ?_
 cases hb : h.ownBlock with
 | none => cases hv : v.ownBlock with
  | none => exact .inl rfl
  | some k => exact .inr (by simp)
 | some k => exact .inr (hM.other i h k hh hb).1
theorem OwnMag.store {w w' : World} {B hi g n cap i : Nat} {hs : List Value} {ms : List (List Mat)} {h h' : Value} {xs ys : List Mat} (hM : OwnMag w B hi (.slice (some ⟨g, 0, none⟩) n cap) hs ms) (hx : ms[i]? = some xs) (hh : hs[i]? = some h) (hg : w.grownBy w' h.ownBlock) (ho : OwnM w' B h' ys) (hf : h'.ownBlock = h.ownBlock ∨ ∀ k, h'.ownBlock = some k → w.heap.size ≤ k) (hhi : hi ≤ w.heap.size) :
  OwnMag (w'.setCell ⟨g, i, none⟩ h') B (w'.setCell ⟨g, i, none⟩ h').heap.size (.slice (some ⟨g, 0, none⟩) n cap) (hs.set i h') (ms.set i ys) := by
 have hse : (w'.setCell ⟨g, i, none⟩ h').heap.size = w'.heap.size := by simp only [World.setCell, Array.size_modify]
 rw [hse]
 have hi1 := (List.getElem?_eq_some_iff.1 hx).1
 have hi2 := (List.getElem?_eq_some_iff.1 hh).1
 have hgw : g < hi := hM.top g rfl
 have hgs := hg.size
 have hng : ∀ k, h'.ownBlock = some k → k ≠ g := fun k hk e => by
  subst e
  rcases hf with e | e
  ·exact (hM.other i h k hh (e ▸ hk)).1 rfl
  ·have := e k hk; omega
 refine ⟨?_, ?_, ?_, ?_, ?_⟩
 ·rw [List.length_set]
  have hk : w'.ownsRow B 35 1 (.slice (some ⟨g, 0, none⟩) n cap) ms.length hs := by
   refine World.ownsRow.kept hM.outer hg ?_
   cases hb : h.ownBlock with
   | none => exact .inr (by simp [Value.ownBlock])
   | some k => exact .inr (hM.other i h k hh hb).1
  rcases hM.outer.2 with ⟨he, _⟩ | ⟨g', cap', cur, he, _⟩
  ·cases he
  ·injection he with e1 e2 e3
   subst e2
   exact (hk.stored i h').1
 ·intro j zs hz
  by_cases e : j = i
  ·subst e
   rw [List.getElem?_set_self hi1] at hz
   injection hz with hz
   subst hz
   exact ⟨h', List.getElem?_set_self hi2, ho.setAt (fun hk => hng g hk rfl) _⟩
  ·rw [List.getElem?_set_ne (by omega)] at hz
   obtain ⟨hj, e1, e2⟩ := hM.rows j zs hz
   refine ⟨hj, by rw [List.getElem?_set_ne (by omega)]; exact e1, (e2.grown hg ?_).setAt (fun hk => (hM.other j hj g e1 hk).1 rfl) _⟩
   cases hb : hj.ownBlock with
   | none => exact .inl rfl
   | some k => exact .inr fun e3 => e (hM.apart j i hj h k e1 hh hb e3.symm)
 ·have key : ∀ (j : Nat) (a : Value), (hs.set i h')[j]? = some a → (j ≠ i ∧ hs[j]? = some a) ∨ (j = i ∧ a = h') := fun j a ha => by
   by_cases e : j = i
   ·subst e; rw [List.getElem?_set_self hi2] at ha; injection ha with ha; exact .inr ⟨rfl, ha.symm⟩
   ·rw [List.getElem?_set_ne (by omega)] at ha; exact .inl ⟨e, ha⟩
  intro a b u u' k ha hb hka hkb
  rcases key a u ha with ⟨n1, e1⟩ | ⟨n1, e1⟩ <;> rcases key b u' hb with ⟨n2, e2⟩ | ⟨n2, e2⟩
  ·exact hM.apart a b u u' k e1 e2 hka hkb
  ·subst e2
   rcases hf with e | e
   ·exact absurd (hM.apart a i u h k e1 hh hka (e ▸ hkb)) n1
   ·have := e k hkb; have := (hM.blocks a u k e1 hka).2; omega
  ·subst e1
   rcases hf with e | e
   ·exact absurd (hM.apart b i u' h k e2 hh hkb (e ▸ hka)) n2
   ·have := e k hka; have := (hM.blocks b u' k e2 hkb).2; omega
  ·omega
 ·intro j a k ha hk
  by_cases e : j = i
  ·subst e
   rw [List.getElem?_set_self hi2] at ha
   injection ha with ha
   subst ha
   refine ⟨?_, (ho.lt k hk).2⟩
   intro e
   have e2 : g = k := Option.some.inj e
   exact hng k hk e2.symm
  ·rw [List.getElem?_set_ne (by omega)] at ha
   have := hM.other j a k ha hk
   exact ⟨this.1, by omega⟩
 ·intro k hk
  have e2 : g = k := Option.some.inj hk
  omega

section
variable {ops : Array Oper} {rest : List Oper} {o : Oper} {a : Act} {Q : Exit → Act → World → Prop}
set_option maxRecDepth 100000 in
/-- make([][]Matrix, n) -/
theorem wpl_make_mag (w : World) (hg : o.guard = none) (l : Operand) (hop : o.op = Op.makeSlice 33 l l) (n : Nat) (L : Int) (hl : a.eval l = .int .i64 L) (hL : L = (n : Int)) (hn : n ≤ 1048576)
  (hK : ∀ w', OwnMag w' w.heap.size w'.heap.size (.slice (some ⟨w.heap.size, 0, none⟩) n n) (List.replicate n (.slice none 0 0)) (List.replicate n []) → Below w.heap.size w w' → w.heap.size < w'.heap.size → wpList Tryz.prog ops Q rest (a.put o.dst (.slice (some ⟨w.heap.size, 0, none⟩) n n)) w') :
  wpList Tryz.prog ops Q (o :: rest) a w := by
 obtain ⟨i0, hi, hz0, hz1, hz2⟩ := info_parts rowInfo
 refine wpList_make_full w hg l l 33 hop w.heap.size 35 i0 (.slice none 0 0) 1 Tryz.underlying33 hi hz0 hz1 .i64 .i64 L L n hl hl hL hL (by rw [hz2]; omega) (by unfold maxLen; omega) (Nat.le_refl _) ?_
 intro w' h1 h2
 rw [halfH_zero] at h1
 have e : halfH [] n 0 = List.replicate n (.slice none 0 0) := by simp [halfH]
 rw [e] at h1
 have hlt := (World.ownsRow.lt h1 w.heap.size rfl).2
 have hnil : ∀ (j : Nat) (u : Value), (List.replicate n (Value.slice none 0 0))[j]? = some u → u = .slice none 0 0 := fun j u hu => by
  rw [List.getElem?_replicate] at hu
  split at hu
  ·injection hu with hu; exact hu.symm
  ·cases hu
 refine hK w' ⟨by rw [List.length_replicate]; exact h1, ?_, ?_, ?_, ?_⟩ ((Below.refl _ _).grown h2 (Nat.le_refl _) (fun k hk => by cases hk)) hlt
 ·intro j xs hx
  rw [List.getElem?_replicate] at hx
  split at hx
  ·rename_i hj
   injection hx with hx
   subst hx
   exact ⟨.slice none 0 0, by rw [List.getElem?_replicate, if_pos hj], World.ownsRow_nil _ _ _ _⟩
  ·cases hx
 ·intro i j u u' k hu hu' hk
  rw [hnil i u hu] at hk; cases hk
 ·intro i u k hu hk
  rw [hnil i u hu] at hk; cases hk
 ·intro k hk
  have e2 : w.heap.size = k := Option.some.inj hk
  omega

set_option maxRecDepth 100000 in
/-- append(row, Matrix{..}) -/
theorem wpl_push_mat (w : World) (hg : o.guard = none) (s x : Operand) (ho : o.op = .call { callee := .builtin .append, args := #[s, x], argTypes := #[35, 35] })
  (B : Nat) (v : Value) (xs : List Mat) (y : Mat) (hs : a.eval s = v) (hx : a.eval x = .slice (some ⟨w.heap.size, 0, none⟩) 1 1) (hown : OwnM w B v xs) (hB : B ≤ w.heap.size) (hlen : xs.length ≤ 1048576)
  (hK : ∀ v' w', OwnM w' B v' (xs ++ [y]) → w.grownBy w' v.ownBlock → (v'.ownBlock = v.ownBlock ∨ ∀ k, v'.ownBlock = some k → w.heap.size ≤ k) → wpList Tryz.prog ops Q rest (a.put o.dst v') w') :
  wpList Tryz.prog ops Q (o :: rest) a (w.alloc (.cells #[.int .i64 y.1, .int .i64 y.2] 64)) := by
 obtain ⟨i0, hi, hz0, hz1, hz2⟩ := info_parts matInfo
 refine wpList_append_own_at _ hg s x 35 ho B 64 i0 (.agg #[.int .i64 0, .int .i64 0]) 2 16 Tryz.underlying35 hi hz0 hz1 hz2 rfl (by decide) v xs.length (mcells xs) hs (World.ownsRow.alloc hown _) ⟨w.heap.size, 0, none⟩ 1 1 [.int .i64 y.1, .int .i64 y.2] hx rfl ?_ ?_ (by unfold maxLen; omega) (by omega) (by simp; omega) ?_
 ·intro j u hj
  match j, hj with
  | 0, hj =>
   simp at hj; subst hj
   rw [add_zero_at, World.cell?_alloc_at _ _ _ _ rfl]
   rfl
  | 1, hj =>
   simp at hj; subst hj
   rw [addr_next, add_zero_at, World.cell?_alloc_at _ _ _ _ rfl]
   rfl
 ·intro u hu
  simp at hu
  rcases hu with rfl | rfl <;> rfl
 ·intro v' w' h1 h2 _ h4
  refine hK v' w' ?_ ((World.grownBy_alloc _ _ _).trans h2) ?_
  ·unfold OwnM
   rw [mcells_snoc, List.length_append]
   exact h1
  ·rcases h4 with h4 | h4
   ·exact .inl h4
   ·refine .inr fun k hk => ?_
    rw [h4] at hk
    have e2 := Option.some.inj hk
    simp at e2
    omega
end
end Go.Proofs.YtimhnkpccbcohaaGreatDoor

namespace Go.Proofs.YtimhnkpccbcohaaGreatDoor
open Go.RowKit
set_option linter.unusedVariables false

theorem run_append_none_any {P : Program} {w : World} (base : Nat) (t ty e : TypeId) (i : TypeInfo) (size : Nat) (ht : P.underlying t = some (.slice e)) (hi : P.info? e = some i)
  (v : Value) (n c : Nat) (xs : List Value) (hown : w.ownsRow base e size v n xs) :
  (Builtin.append_ #[t, t] ty #[v, .slice none 0 c]).run P w = .ok v w := by
 rcases hown.2 with ⟨rfl, rfl⟩ | ⟨g, cap, cur, rfl, _, _, hnc, _⟩
 ·simp [Builtin.append_, run_underlying ht, sizeOf, typeInfo, hi, Builtin.lenOf, Builtin.firstCells]
 ·simp [Builtin.append_, run_underlying ht, sizeOf, typeInfo, hi, Builtin.lenOf, Builtin.firstCells, hnc, storeCells]

section
variable {ops : Array Oper} {rest : List Oper} {o : Oper} {a : Act} {Q : Exit → Act → World → Prop}
set_option maxRecDepth 100000 in
/-- append(an empty row, ys...) -/
theorem wpl_copy_mat (w : World) (hg : o.guard = none) (s x : Operand) (ho : o.op = .call { callee := .builtin .append, args := #[s, x], argTypes := #[35, 35] })
  (B lo hi : Nat) (v : Value) (ys : List Mat) (A : Option Addr) (m c : Nat) (hs : a.eval s = v) (hown : OwnM w B v []) (hB : B ≤ w.heap.size) (hx : a.eval x = .slice A m c) (hm : ys.length = m) (hI : MatsI w lo hi A ys) (hlen : m ≤ 1048576)
  (hK : ∀ v' w', OwnM w' B v' ys → w.grownBy w' v.ownBlock → (v'.ownBlock = v.ownBlock ∨ ∀ k, v'.ownBlock = some k → w.heap.size ≤ k) → wpList Tryz.prog ops Q rest (a.put o.dst v') w') :
  wpList Tryz.prog ops Q (o :: rest) a w := by
 obtain ⟨i0, hi, hz0, hz1, hz2⟩ := info_parts matInfo
 cases A with
 | none =>
  have hm0 : m = 0 := by
   rcases Nat.eq_zero_or_pos m with h | h
   ·exact h
   ·obtain ⟨ad, e, _⟩ := hI (by omega); cases e
  subst hm0
  have hy : ys = [] := List.eq_nil_of_length_eq_zero hm
  subst hy
  refine wpList_plain hg fun K hK' => ?_
  have hrun := run_append_none_any (P := Tryz.prog) (w := w) B 35 o.type 64 i0 2 Tryz.underlying35 hi v 0 c [] hown
  unfold Oper.wp
  simp [execOp, ho, resolve, invoke, builtin, hs, hx, hrun, Result.andThen]
  exact hK' _ _ (hK v w hown (World.grownBy.refl w _) (.inl rfl))
 | some ad =>
  refine wpList_append_own_at _ hg s x 35 ho B 64 i0 (.agg #[.int .i64 0, .int .i64 0]) 2 16 Tryz.underlying35 hi hz0 hz1 hz2 rfl (by decide) v 0 [] hs hown ad m c (mcells ys) hx (by rw [mcells_len, hm]) ?_ ?_ (by unfold maxLen; omega) (by omega) hB ?_
  ·intro j u hj
   have hjl : j < m * 2 := by
    have := (List.getElem?_eq_some_iff.1 hj).1
    rw [mcells_len, hm] at this; exact this
   obtain ⟨ad', e, _, _, hc⟩ := hI (by omega)
   obtain rfl := Option.some.inj e
   have hy : ys[j / 2]? = some (ys[j / 2]'(by omega)) := List.getElem?_eq_getElem (by omega)
   obtain ⟨c1, c2⟩ := hc (j / 2) _ hy
   obtain ⟨g1, g2⟩ := mcells_get hy
   rcases Nat.mod_two_eq_zero_or_one j with h0 | h0
   ·have e2 : j / 2 * 2 = j := by omega
    rw [e2] at c1 g1
    rw [hj] at g1
    injection g1 with g1
    rw [c1, g1]
   ·have e2 : j / 2 * 2 + 1 = j := by omega
    rw [e2] at c2 g2
    rw [hj] at g2
    injection g2 with g2
    rw [c2, g2]
  ·intro u hu
   unfold mcells at hu
   rw [List.mem_flatMap] at hu
   obtain ⟨y, _, hu⟩ := hu
   simp at hu
   rcases hu with rfl | rfl <;> rfl
  ·intro v' w' h1 h2 _ h4
   refine hK v' w' ?_ h2 ?_
   ·unfold OwnM
    rw [hm]
    simpa using h1
   ·rcases h4 with h4 | h4
    ·exact .inl h4
    ·refine .inr fun k hk => ?_
     rw [h4] at hk
     have e2 := Option.some.inj hk
     omega
end

/-- the first k rows, and empty ones -/
def halfMM (ms : List (List Mat)) (n k : Nat) : List (List Mat) := ms.take k ++ List.replicate (n - k) []
theorem halfMM_len {ms : List (List Mat)} {n k : Nat} (hn : ms.length = n) (h : k ≤ n) : (halfMM ms n k).length = n := by unfold halfMM; simp; omega
theorem halfMM_get {ms : List (List Mat)} {n k : Nat} (hn : ms.length = n) (h : k < n) : (halfMM ms n k)[k]? = some [] := by
 unfold halfMM
 rw [List.getElem?_append_right (by simp; omega), List.length_take, List.getElem?_replicate, if_pos (by omega)]
theorem halfMM_set {ms : List (List Mat)} {n k : Nat} {xs : List Mat} (hn : ms.length = n) (hx : ms[k]? = some xs) : (halfMM ms n k).set k xs = halfMM ms n (k + 1) := by
 have h := (List.getElem?_eq_some_iff.1 hx).1
 unfold halfMM
 have hl : (ms.take k).length = k := by rw [List.length_take]; omega
 rw [List.set_append, if_neg (by omega), hl, Nat.sub_self, ttake_at hx, List.append_assoc]
 have : n - k = (n - (k + 1)) + 1 := by omega
 rw [this, List.replicate_succ, List.set_cons_zero]
 rfl

end Go.Proofs.YtimhnkpccbcohaaGreatDoor

namespace Go.Proofs.YtimhnkpccbcohaaGreatDoor
open Go.RowKit
set_option linter.unusedVariables false

theorem OwnMag.push {w w' : World} {B hi : Nat} {v v' h' : Value} {hs : List Value} {ms : List (List Mat)} {ys : List Mat} (hM : OwnMag w B hi v hs ms) (hhi : hi ≤ w.heap.size) (ho : OwnM w B h' ys) (hf : ∀ k, h'.ownBlock = some k → hi ≤ k)
  (hr : w'.ownsRow B 35 1 v' (ms.length + 1) (hs ++ [h'])) (hg : w.grownBy w' v.ownBlock) (hv : v'.ownBlock = v.ownBlock ∨ ∀ k, v'.ownBlock = some k → w.heap.size ≤ k) : OwnMag w' B w'.heap.size v' (hs ++ [h']) (ms ++ [ys]) := by
 have hsz := hg.size
 have hl := hM.len
 have hne : ∀ k, h'.ownBlock = some k → v.ownBlock ≠ some k := fun k hk e => by have := hf k hk; have := hM.top k e; omega
 have keep : ∀ (u : Value) (zs : List Mat), OwnM w B u zs → (∀ k, u.ownBlock = some k → v.ownBlock ≠ some k) → OwnM w' B u zs := fun u zs hu hk => by
  refine hu.grown hg ?_
  cases hb : u.ownBlock with
  | none => exact .inl rfl
  | some k => exact .inr fun e => hk k hb e.symm
 have key : ∀ (j : Nat) (a : Value), (hs ++ [h'])[j]? = some a → (j < ms.length ∧ hs[j]? = some a) ∨ (j = ms.length ∧ a = h') := fun j a ha => by
  by_cases hlt : j < hs.length
  ·rw [List.getElem?_append_left hlt] at ha; exact .inl ⟨by omega, ha⟩
  ·rw [List.getElem?_append_right (by omega)] at ha
   have h0 : j - hs.length = 0 := by
    rcases Nat.eq_zero_or_pos (j - hs.length) with h0 | h0
    ·exact h0
    ·rw [List.getElem?_eq_none (by simp; omega)] at ha; cases ha
   rw [h0] at ha
   simp at ha
   exact .inr ⟨by omega, ha.symm⟩
 refine ⟨by rw [List.length_append]; exact hr, ?_, ?_, ?_, ?_⟩
 ·intro j zs hz
  by_cases hlt : j < ms.length
  ·rw [List.getElem?_append_left hlt] at hz
   obtain ⟨u, e1, e2⟩ := hM.rows j zs hz
   exact ⟨u, by rw [List.getElem?_append_left (by omega)]; exact e1, keep u zs e2 fun k hk => (hM.other j u k e1 hk).1⟩
  ·rw [List.getElem?_append_right (by omega)] at hz
   have h0 : j - ms.length = 0 := by
    rcases Nat.eq_zero_or_pos (j - ms.length) with h0 | h0
    ·exact h0
    ·rw [List.getElem?_eq_none (by simp; omega)] at hz; cases hz
   rw [h0] at hz
   simp at hz
   subst hz
   exact ⟨h', by rw [List.getElem?_append_right (by omega), show j - hs.length = 0 from by omega]; rfl, keep h' ys ho hne⟩
 ·intro i j a b g hi' hj hga hgb
  rcases key i a hi' with ⟨h1, e1⟩ | ⟨h1, e1⟩ <;> rcases key j b hj with ⟨h2, e2⟩ | ⟨h2, e2⟩
  ·exact hM.apart i j a b g e1 e2 hga hgb
  ·subst e2
   have := (hM.other i a g e1 hga).2
   have := hf g hgb
   omega
  ·subst e1
   have := (hM.other j b g e2 hgb).2
   have := hf g hga
   omega
  ·omega
 ·intro i a g hi' hga
  have hlow : g < w.heap.size ∧ v.ownBlock ≠ some g := by
   rcases key i a hi' with ⟨h1, e1⟩ | ⟨h1, e1⟩
   ·have := hM.other i a g e1 hga; exact ⟨by omega, this.1⟩
   ·subst e1; exact ⟨(ho.lt g hga).2, hne g hga⟩
  refine ⟨?_, by omega⟩
  rcases hv with e | e
  ·rw [e]; exact hlow.2
  ·intro e2; have := e g e2; omega
 ·intro g hgv
  exact (World.ownsRow.lt hr g hgv).2

section
variable {ops : Array Oper} {rest : List Oper} {o : Oper} {a : Act} {Q : Exit → Act → World → Prop}
set_option maxRecDepth 100000 in
/-- append(m, row) -/
theorem wpl_push_row (w : World) (hg : o.guard = none) (s x : Operand) (ho : o.op = .call { callee := .builtin .append, args := #[s, x], argTypes := #[33, 33] })
  (B hi : Nat) (v : Value) (A : Option Addr) (n c : Nat) (hs : List Value) (ms : List (List Mat)) (ys : List Mat) (hv : a.eval s = v) (hx : a.eval x = .slice (some ⟨w.heap.size, 0, none⟩) 1 1) (hM : OwnMag w B hi v hs ms) (hhi : hi ≤ w.heap.size) (hB : B ≤ w.heap.size) (hlen : ms.length ≤ 1048576)
  (hO : OwnM w B (.slice A n c) ys) (hf : ∀ k, (Value.slice A n c).ownBlock = some k → hi ≤ k)
  (hK : ∀ v' w', OwnMag w' B w'.heap.size v' (hs ++ [.slice A n c]) (ms ++ [ys]) → Below B w w' → wpList Tryz.prog ops Q rest (a.put o.dst v') w') :
  wpList Tryz.prog ops Q (o :: rest) a (w.alloc (.cells #[.slice A n c] 35)) := by
 obtain ⟨i0, hi', hz0, hz1, hz2⟩ := info_parts rowInfo
 refine wpList_append_own_at _ hg s x 33 ho B 35 i0 (.slice none 0 0) 1 24 Tryz.underlying33 hi' hz0 hz1 hz2 rfl (by decide) v ms.length hs hv (World.ownsRow.alloc hM.outer _) ⟨w.heap.size, 0, none⟩ 1 1 [.slice A n c] hx rfl ?_ ?_ (by unfold maxLen; omega) (by omega) (by simp; omega) ?_
 ·exact cell_one_new _ _ _
 ·intro u hu; simp at hu; subst hu; rfl
 ·intro v' w' h1 h2 _ h4
  have hg2 := (World.grownBy_alloc w (.cells #[.slice A n c] 35) v.ownBlock).trans h2
  refine hK v' w' (hM.push hhi hO hf h1 hg2 ?_) ((Below.refl B w).grown hg2 hB fun k hk => (World.ownsRow.lt hM.outer k hk).1)
  rcases h4 with h4 | h4
  ·exact .inl h4
  ·refine .inr fun k hk => ?_
   rw [h4] at hk
   have e2 := Option.some.inj hk
   simp at e2
   omega
end

set_option maxRecDepth 100000 in
set_option maxHeartbeats 1600000 in
theorem l2Copy_any (lo hi : Nat) (A : Option Addr) (n c : Nat) (ms : List (List Mat)) (w : World) (hn : ms.length = n) (hm : n ≤ 1048576) (hlim : ∀ xs ∈ ms, xs.length ≤ 1048576) (h : MagI w lo hi A ms) (hhi : hi ≤ w.heap.size) :
  Calls Tryz.prog 68 #[.slice A n c] w fun e w' => ∃ v hs, e = .returned v ∧ OwnMag w' w.heap.size w'.heap.size v hs ms ∧ Below w.heap.size w w' := by
 have Hn := Lib.hid hn; have Hlim := Lib.hid hlim; have H := Lib.hid h
 clear hn hlim h
 have hb2 : Below w.heap.size w (w.alloc (.cells #[] 35)) := (Below.refl _ _).alloc (Nat.le_refl _) _
 have hM2 : OwnMag (w.alloc (.cells #[] 35)) w.heap.size (w.alloc (.cells #[] 35)).heap.size (.slice (some ⟨w.heap.size, 0, none⟩) 0 0) [] [] :=
  ⟨World.ownsRow_lit w #[] 0 (Nat.le_refl _) (Nat.zero_le _) rfl, fun j xs h => by simp at h, fun i j h h' g e => by simp at e, fun i h g e => by simp at e, fun g h => by have := Option.some.inj h; simp at this ⊢; omega⟩
 have HM2 := Lib.hid hM2; have HB2 := Lib.hid hb2
 clear hM2 hb2
 go_enter Tryz.func68, Tryz.ntmps68
 go_wp2
 go_loopw [3, 9] (fun st i wr => ∃ (k : Nat) (hs : List Value) (A2 : Option Addr) (c2 : Nat), k ≤ n ∧ i = .int .i64 k ∧ st = .slice A2 k c2 ∧ OwnMag wr w.heap.size wr.heap.size (.slice A2 k c2) hs (ms.take k) ∧ Below w.heap.size w wr) (fun _ i _ => n - (intOf i).toNat)
 case atStart => exact ⟨0, [], _, _, Nat.zero_le _, rfl, rfl, HM2.out, HB2.out⟩
 case round =>
  clear HM2 HB2
  obtain ⟨k, hs, A2, c2, hk, rfl, rfl, hM, hb⟩ := hrel
  by_cases hkn : k < n
  ·obtain ⟨ad, xs, Aj, cj, rfl, hx, hc, hcap, hcm, hI⟩ := (H.out.below hhi hb).at_ (k := k) (by rw [Hn.out]; exact hkn)
   have hxl := Hlim.out xs (List.mem_of_getElem? hx.out)
   have HM3 := Lib.hid hM; have HB3 := Lib.hid hb
   have hbz := hb.size
   have hb4 : Below wr.heap.size wr (wr.alloc (.cells #[] 64)) := (Below.refl _ _).alloc (Nat.le_refl _) _
   have HI := Lib.hid (hI.keep (w' := wr.alloc (.cells #[] 64)) (fun p _ h2 => hb4.cell (by omega)))
   have HE := Lib.hid (show OwnM (wr.alloc (.cells #[] 64)) wr.heap.size (.slice (some ⟨wr.heap.size, 0, none⟩) 0 0) [] from World.ownsRow_lit wr #[] 0 (Nat.le_refl _) (Nat.zero_le _) rfl)
   have htk : (ms.take k).length = k := by rw [List.length_take, Hn.out]; omega
   clear hM hb hI hcap hcm
   go_wp2_with (first
    | (at_builtin; refine wpl_copy_mat _ rfl (.tmp 14) (.tmp 15) rfl wr.heap.size lo hi (.slice (some ⟨wr.heap.size, 0, none⟩) 0 0) xs _ xs.length _ rfl HE.out (by simp) rfl rfl HI.out hxl ?_; intro v5 w5 hO5 hg5 hf5; obtain ⟨A5, c5, rfl, -⟩ := hO5.form; have hb5 : Below wr.heap.size wr w5 := hb4.trans ((Below.refl _ _).grown hg5 (by simp) (fun k hk => (HE.out.lt k hk).1)); have HM5 := Lib.hid (HM3.out.below hb5); have HO5 := Lib.hid hO5; have HB5 := Lib.hid hb5; have s5 := hb5.size; clear hO5 hg5 hf5 hb5)
    | (at_builtin; refine wpl_push_row _ rfl (.tmp 13) (.tmp 17) rfl w.heap.size wr.heap.size _ _ _ _ _ _ xs rfl rfl HM5.out s5 (by omega) (by omega) (HO5.out.base hbz) (fun k hk => (HO5.out.lt k hk).1) ?_; intro v6 w6 hM6 hb6; rw [← ttake_at hx.out] at hM6; obtain ⟨A6, c6, hv6, -⟩ := hM6.form; have e6 : (ms.take (k + 1)).length = k + 1 := (by rw [List.length_take, Hn.out]; omega); rw [e6] at hv6; subst hv6; have HM6 := Lib.hid hM6; have HB6 := Lib.hid ((HB3.out.trans (HB5.out.mono hbz)).trans hb6); clear hM6 hb6))
   go_roundw
   case rel => exact ⟨k + 1, _, _, _, by omega, by go_num, rfl, HM6.out, HB6.out⟩
   case measure => simp [intOf]; omega
  ·have hkn2 : k = n := by omega
   subst hkn2
   have HM3 := Lib.hid hM; have HB3 := Lib.hid hb
   clear hM hb
   go_wp2
   go_ret
   refine ⟨_, hs, rfl, ?_, HB3.out⟩
   have := HM3.out
   rw [ttake_all Hn.out] at this
   exact this
end Go.Proofs.YtimhnkpccbcohaaGreatDoor

namespace Go.Proofs.YtimhnkpccbcohaaGreatDoor
open Go.RowKit
set_option linter.unusedVariables false

theorem chg_set (w : World) (b o : Nat) (u : Value) : Chg b (b + 1) w (w.setCell ⟨b, o, none⟩ u) :=
 ⟨rfl, rfl, rfl, by simp [World.setCell], fun k hk hn => Below.heap_setCell _ _ _ _ (by show k ≠ b; omega)⟩
set_option maxRecDepth 100000 in
set_option maxHeartbeats 1600000 in
theorem cloneM_any (lo hi : Nat) (A : Option Addr) (n c : Nat) (xs : List Mat) (w : World) (hn : xs.length = n) (hm : n ≤ 1048576) (h : MatsI w lo hi A xs) (hhi : hi ≤ w.heap.size) :
  Calls Tryz.prog 116 #[.slice A n c] w fun e w' => ∃ v, e = .returned v ∧ OwnM w' w.heap.size v xs ∧ Below w.heap.size w w' := by
 have Hn := Lib.hid hn
 have H := Lib.hid h
 have heq := fun (wx : World) => Lib.run_eql_slice_nil (P := Tryz.prog) wx 35 64 A n c 0 0 Tryz.underlying35
 cases A with
 | none =>
  have hz : xs = [] := by
   cases xs with
   | nil => rfl
   | cons z zs => obtain ⟨ad, e, _⟩ := h (by simp); cases e
  subst hz
  have hn0 : n = 0 := by simpa using hn.symm
  subst hn0
  simp only [Option.isNone_none] at heq
  clear hn h
  go_enter Tryz.func116, Tryz.ntmps116
  go_wp2
  go_ret
  exact ⟨_, rfl, ⟨rfl, .inl ⟨rfl, rfl⟩⟩, Below.refl _ _⟩
 | some ad =>
  simp only [Option.isNone_some] at heq
  obtain ⟨w1, hw1⟩ : ∃ w1, w.alloc (.cells #[] 64) = w1 := ⟨_, rfl⟩
  have hb1 : Below w.heap.size w w1 := by rw [← hw1]; exact below_new _ _
  have hO1 : OwnM w1 w.heap.size (.slice (some ⟨w.heap.size, 0, none⟩) 0 0) [] := by rw [← hw1]; exact World.ownsRow_lit w #[] 0 (Nat.le_refl _) (Nat.zero_le _) rfl
  have B1 := Lib.hid hb1; have O1 := Lib.hid hO1
  have I1 := Lib.hid (H.out.below hhi hb1)
  have z1 := hb1.size
  clear hn h hb1 hO1
  go_enter Tryz.func116, Tryz.ntmps116
  go_wp2_with (at_builtin; refine wpl_copy_mat _ rfl (.tmp 5) (.tmp 6) rfl w.heap.size lo hi _ xs (some ad) n c rfl O1.out z1 rfl Hn.out I1.out (by omega) ?_; intro v' w4 hO4 hg4 _)
  have O4 := Lib.hid hO4; have B4 := Lib.hid (B1.out.trans ((Below.refl w.heap.size w1).grown hg4 z1 (fun g hg => (World.ownsRow.lt O1.out g hg).1)))
  clear hO4 hg4
  go_ret
  exact ⟨_, rfl, O4.out, B4.out⟩
set_option maxRecDepth 100000 in
set_option maxHeartbeats 3200000 in
theorem withMag_any (lo hi g0 g1 B : Nat) (v : Value) (X : Mch) (N : Option Addr) (nq ne : Nat) (hs0 : List Value) (ms : List (List Mat)) (w : World) (h : MchV w lo hi v X) (hhi : hi ≤ w.heap.size) (hs : SmallX X) (hN : OwnMag w g0 g1 (.slice N nq ne) hs0 ms) (hg1 : g1 ≤ w.heap.size) (hB : B ≤ g0) (hBw : B ≤ w.heap.size) :
  Calls Tryz.prog 81 #[v, .slice N nq ne] w fun e w' => ∃ v', e = .returned v' ∧ MchX w' B w'.heap.size v' ⟨X.f, ms, X.sp, X.w, X.t, X.k, X.ln, X.wt⟩ ∧ Below w.heap.size w w' := by
 obtain ⟨s, A, n, c, A2, m, d, M, q, e0, L, l, lc, T, r, tc, rfl, hf, hq, hM, hqe, hem, hl, hL, hllc, hlm, hr, hT, hrt, htm⟩ := h.parts
 obtain ⟨fA, fc, fA2, fd, hfv, hI1, hI2, hc1, hc2, hd1, hd2, hss⟩ := hf
 simp only [Value.agg.injEq, Array.mk.injEq, List.cons.injEq, and_true, Value.string.injEq, Value.slice.injEq] at hfv
 obtain ⟨rfl, ⟨rfl, rfl, rfl⟩, ⟨rfl, rfl, rfl⟩⟩ := hfv
 obtain ⟨s, hs1⟩ : ∃ x, X.f.s = x := ⟨_, rfl⟩
 obtain ⟨n, hn⟩ : ∃ x, X.f.ws.length = x := ⟨_, rfl⟩
 obtain ⟨m, hm⟩ : ∃ x, X.f.cs.length = x := ⟨_, rfl⟩
 obtain ⟨sp, hsp⟩ : ∃ x, X.sp = x := ⟨_, rfl⟩
 obtain ⟨W, hW⟩ : ∃ x, X.w = x := ⟨_, rfl⟩
 obtain ⟨t, ht⟩ : ∃ x, X.t = x := ⟨_, rfl⟩
 obtain ⟨k, hk⟩ : ∃ x, X.k = x := ⟨_, rfl⟩
 have HFs : Hid (X.f.s = s ∧ X.f.ws.length = n ∧ X.f.cs.length = m) := ⟨hs1, hn, hm⟩
 have HE : Hid (X.sp = sp ∧ X.w = W ∧ X.t = t ∧ X.k = k) := ⟨hsp, hW, ht, hk⟩
 have Hq := Lib.hid hq; have Hl := Lib.hid hl; have Hr := Lib.hid hr; have Hn := Lib.hid hn; have Hm := Lib.hid hm; have HS := Lib.hid hs; have Hss := Lib.hid hss
 have hn1 : n ≤ 1048576 := by rw [← hn]; exact hs.f.2.1
 have hm1 : m ≤ 1048576 := by rw [← hm]; exact hs.f.2.2
 have hq1 : q ≤ 1048576 := by rw [← hq]; exact hs.ms
 have hl1 : l ≤ 1048576 := by rw [← hl]; exact hs.ln
 have hr1 : r ≤ 1048576 := by rw [← hr]; exact hs.wt
 rw [hs1, hn, hm, hsp, hW, ht, hk] at h ⊢
 obtain ⟨wA, hA, hbA, hzA, KA⟩ := mxWorld w #[.string s, .slice A n c, .slice A2 m d, .slice M q e0, .int .i64 sp, .int .i64 W, .int .i64 t, .int .i64 k, .slice L l lc, .slice T r tc] 37
 obtain ⟨w0, hB, hbB, hzB, RB⟩ := mxWorld wA #[.string ⟨#[]⟩, .slice none 0 0, .slice none 0 0, .slice none 0 0, .int .i64 0, .int .i64 0, .int .i64 0, .int .i64 0, .slice none 0 0, .slice none 0 0] 37
 rw [hzA] at RB
 have O0 := Lib.hid (KA.below hbB (by omega))
 have R0 := Lib.hid RB
 have hb0 : Below w.heap.size w w0 := hbA.trans (hbB.mono (by omega))
 have T0 := Lib.hid hb0
 have E0 := Lib.hid (hI1.below hhi hb0); have D0 := Lib.hid (hI2.below hhi hb0); have M0 := Lib.hid (hM.below hhi hb0); have L0 := Lib.hid (hL.below hhi hb0); have W0 := Lib.hid (hT.below hhi hb0)
 have G0 := Lib.hid (hN.below hb0)
 have s0 : w.heap.size + 2 ≤ w0.heap.size := by omega
 have HZ : Hid (w0.heap.size = w.heap.size + 1 + 1) := by show _ = _; omega
 have HA : Hid ((w.alloc (.cells #[.string s, .slice A n c, .slice A2 m d, .slice M q e0, .int .i64 sp, .int .i64 W, .int .i64 t, .int .i64 k, .slice L l lc, .slice T r tc] 37)).alloc (.cells #[.string ⟨#[]⟩, .slice none 0 0, .slice none 0 0, .slice none 0 0, .int .i64 0, .int .i64 0, .int .i64 0, .int .i64 0, .slice none 0 0, .slice none 0 0] 37) = w0) := by show _ = _; rw [hA, hB]
 clear h hM hqe hem hq hl hL hllc hlm hr hT hrt htm hsp hW ht hk hs1 hn hm hI1 hI2 hc1 hc2 hd1 hd2 hss hs hN hb0 hbA hbB hzA hzB KA RB hA hB
 obtain ⟨oc0, oc1, oc2, oc3, oc4, oc5, oc6, oc7, oc8, oc9⟩ := O0.out.ten
 have fz := O0.out.warm
 go_enter Tryz.func81, Tryz.ntmps81
 go_wp2_with fail
 rw [HA.out]
 refine (clone_any _ _ _ (X.f.ws) w0 Hn.out hn1 (IntsB.of E0.out.ints)).mono ?_
 rintro e w1 ⟨u, rfl, hO, hb⟩
 obtain ⟨Aa, ca, rfl, -, -, -, -⟩ := hO.form
 rw [Hn.out] at hO ⊢
 have topa := Lib.hid (fun k hk => World.ownsRow.lt hO k hk)
 clear oc0 oc1 oc2 oc3 oc4 oc5 oc6 oc7 oc8 oc9
 clear fz
 have s1 : w0.heap.size ≤ w1.heap.size := hb.size
 have sw1 : w.heap.size < w1.heap.size := by omega
 have O1 := Lib.hid (O0.out.below hb (by omega))
 have R1 := Lib.hid (R0.out.below hb (by omega))
 have T1 := Lib.hid (T0.out.trans (hb.mono (by omega)))
 have E1 := Lib.hid (E0.out.below (by omega) hb)
 have D1 := Lib.hid (D0.out.below (by omega) hb)
 have M1 := Lib.hid (M0.out.below (by omega) hb)
 have L1 := Lib.hid (L0.out.below (by omega) hb)
 have W1 := Lib.hid (W0.out.below (by omega) hb)
 have G1 := Lib.hid (G0.out.below hb)
 clear O0 R0 T0 E0 D0 M0 L0 W0 G0 hb
 have a1 := Lib.hid (hO)
 clear hO
 obtain ⟨oc0, oc1, oc2, oc3, oc4, oc5, oc6, oc7, oc8, oc9⟩ := O1.out.ten
 have fz := O1.out.warm
 go_wp2_with fail
 clear oc0 oc1 oc2 oc3 oc4 oc5 oc6 oc7 oc8 oc9
 clear fz
 obtain ⟨w2, hx⟩ : ∃ x, w1.setCell ⟨w.heap.size, 1, none⟩ (.slice Aa n ca) = x := ⟨_, rfl⟩
 have ox : Blk w2 w.heap.size #[.string s, .slice Aa n ca, .slice A2 m d, .slice M q e0, .int .i64 sp, .int .i64 W, .int .i64 t, .int .i64 k, .slice L l lc, .slice T r tc] 37 := by rw [← hx]; exact heapSet (i := 1) O1.out _
 have hc : Chg w.heap.size (w.heap.size + 1) w1 w2 := by rw [← hx]; exact chg_set w1 w.heap.size 1 _
 have hq2 : Hid (w2.heap.size = w1.heap.size) := by show _ = _; rw [← hx]; simp
 rw [hx]
 clear hx
 have s2 : w1.heap.size ≤ w2.heap.size := hc.size
 have sw2 : w.heap.size < w2.heap.size := by omega
 have R2 := Lib.hid (R1.out.chg hc (by omega))
 have T2 := Lib.hid (T1.out.trans ((hc.below (by omega)).mono (by omega)))
 have E2 := Lib.hid (E1.out.below (by omega) (hc.below (by omega)))
 have D2 := Lib.hid (D1.out.below (by omega) (hc.below (by omega)))
 have M2 := Lib.hid (M1.out.below (by omega) (hc.below (by omega)))
 have L2 := Lib.hid (L1.out.below (by omega) (hc.below (by omega)))
 have W2 := Lib.hid (W1.out.below (by omega) (hc.below (by omega)))
 have G2 := Lib.hid (G1.out.chg hc (by omega))
 have a2 := Lib.hid (hc.own a1.out (fun x hx => by have := topa.out x hx; omega))
 clear R1 T1 E1 D1 M1 L1 W1 G1 a1 hc
 clear O1
 have O2 := Lib.hid ox
 clear ox
 obtain ⟨oc0, oc1, oc2, oc3, oc4, oc5, oc6, oc7, oc8, oc9⟩ := O2.out.ten
 have fz := O2.out.warm
 refine (clone_any _ _ _ (X.f.cs) w2 Hm.out hm1 (IntsB.of D2.out.ints)).mono ?_
 rintro e w3 ⟨u, rfl, hO, hb⟩
 obtain ⟨Ab, cb, rfl, -, -, -, -⟩ := hO.form
 rw [Hm.out] at hO ⊢
 have topb := Lib.hid (fun k hk => World.ownsRow.lt hO k hk)
 clear oc0 oc1 oc2 oc3 oc4 oc5 oc6 oc7 oc8 oc9
 clear fz
 have s3 : w2.heap.size ≤ w3.heap.size := hb.size
 have sw3 : w.heap.size < w3.heap.size := by omega
 have O3 := Lib.hid (O2.out.below hb (by omega))
 have R3 := Lib.hid (R2.out.below hb (by omega))
 have T3 := Lib.hid (T2.out.trans (hb.mono (by omega)))
 have E3 := Lib.hid (E2.out.below (by omega) hb)
 have D3 := Lib.hid (D2.out.below (by omega) hb)
 have M3 := Lib.hid (M2.out.below (by omega) hb)
 have L3 := Lib.hid (L2.out.below (by omega) hb)
 have W3 := Lib.hid (W2.out.below (by omega) hb)
 have G3 := Lib.hid (G2.out.below hb)
 have a3 := Lib.hid (a2.out.below hb)
 clear O2 R2 T2 E2 D2 M2 L2 W2 G2 a2 hb
 have b3 := Lib.hid (hO)
 clear hO
 obtain ⟨oc0, oc1, oc2, oc3, oc4, oc5, oc6, oc7, oc8, oc9⟩ := O3.out.ten
 have fz := O3.out.warm
 go_wp2_with fail
 clear oc0 oc1 oc2 oc3 oc4 oc5 oc6 oc7 oc8 oc9
 clear fz
 obtain ⟨w4, hx⟩ : ∃ x, w3.setCell ⟨w.heap.size, 2, none⟩ (.slice Ab m cb) = x := ⟨_, rfl⟩
 have ox : Blk w4 w.heap.size #[.string s, .slice Aa n ca, .slice Ab m cb, .slice M q e0, .int .i64 sp, .int .i64 W, .int .i64 t, .int .i64 k, .slice L l lc, .slice T r tc] 37 := by rw [← hx]; exact heapSet (i := 2) O3.out _
 have hc : Chg w.heap.size (w.heap.size + 1) w3 w4 := by rw [← hx]; exact chg_set w3 w.heap.size 2 _
 have hq4 : Hid (w4.heap.size = w3.heap.size) := by show _ = _; rw [← hx]; simp
 rw [hx]
 clear hx
 have s4 : w3.heap.size ≤ w4.heap.size := hc.size
 have sw4 : w.heap.size < w4.heap.size := by omega
 have R4 := Lib.hid (R3.out.chg hc (by omega))
 have T4 := Lib.hid (T3.out.trans ((hc.below (by omega)).mono (by omega)))
 have E4 := Lib.hid (E3.out.below (by omega) (hc.below (by omega)))
 have D4 := Lib.hid (D3.out.below (by omega) (hc.below (by omega)))
 have M4 := Lib.hid (M3.out.below (by omega) (hc.below (by omega)))
 have L4 := Lib.hid (L3.out.below (by omega) (hc.below (by omega)))
 have W4 := Lib.hid (W3.out.below (by omega) (hc.below (by omega)))
 have G4 := Lib.hid (G3.out.chg hc (by omega))
 have a4 := Lib.hid (hc.own a3.out (fun x hx => by have := topa.out x hx; omega))
 have b4 := Lib.hid (hc.own b3.out (fun x hx => by have := topb.out x hx; omega))
 clear R3 T3 E3 D3 M3 L3 W3 G3 a3 b3 hc
 clear O3
 have O4 := Lib.hid ox
 clear ox
 obtain ⟨oc0, oc1, oc2, oc3, oc4, oc5, oc6, oc7, oc8, oc9⟩ := O4.out.ten
 have fz := O4.out.warm
 refine (cloneM_any lo hi _ _ _ (X.ln) w4 Hl.out hl1 L4.out (by omega)).mono ?_
 rintro e w5 ⟨u, rfl, hO, hb⟩
 obtain ⟨Aq, cq, rfl, -, -, -, -⟩ := hO.form
 rw [Hl.out] at hO ⊢
 have topq := Lib.hid (fun k hk => hO.lt k hk)
 clear oc0 oc1 oc2 oc3 oc4 oc5 oc6 oc7 oc8 oc9
 clear fz
 have s5 : w4.heap.size ≤ w5.heap.size := hb.size
 have sw5 : w.heap.size < w5.heap.size := by omega
 have O5 := Lib.hid (O4.out.below hb (by omega))
 have R5 := Lib.hid (R4.out.below hb (by omega))
 have T5 := Lib.hid (T4.out.trans (hb.mono (by omega)))
 have E5 := Lib.hid (E4.out.below (by omega) hb)
 have D5 := Lib.hid (D4.out.below (by omega) hb)
 have M5 := Lib.hid (M4.out.below (by omega) hb)
 have L5 := Lib.hid (L4.out.below (by omega) hb)
 have W5 := Lib.hid (W4.out.below (by omega) hb)
 have G5 := Lib.hid (G4.out.below hb)
 have a5 := Lib.hid (a4.out.below hb)
 have b5 := Lib.hid (b4.out.below hb)
 clear O4 R4 T4 E4 D4 M4 L4 W4 G4 a4 b4 hb
 have q5 := Lib.hid (hO)
 clear hO
 obtain ⟨oc0, oc1, oc2, oc3, oc4, oc5, oc6, oc7, oc8, oc9⟩ := O5.out.ten
 have fz := O5.out.warm
 go_wp2_with fail
 clear oc0 oc1 oc2 oc3 oc4 oc5 oc6 oc7 oc8 oc9
 clear fz
 obtain ⟨w6, hx⟩ : ∃ x, w5.setCell ⟨w.heap.size, 8, none⟩ (.slice Aq l cq) = x := ⟨_, rfl⟩
 have ox : Blk w6 w.heap.size #[.string s, .slice Aa n ca, .slice Ab m cb, .slice M q e0, .int .i64 sp, .int .i64 W, .int .i64 t, .int .i64 k, .slice Aq l cq, .slice T r tc] 37 := by rw [← hx]; exact heapSet (i := 8) O5.out _
 have hc : Chg w.heap.size (w.heap.size + 1) w5 w6 := by rw [← hx]; exact chg_set w5 w.heap.size 8 _
 have hq6 : Hid (w6.heap.size = w5.heap.size) := by show _ = _; rw [← hx]; simp
 rw [hx]
 clear hx
 have s6 : w5.heap.size ≤ w6.heap.size := hc.size
 have sw6 : w.heap.size < w6.heap.size := by omega
 have R6 := Lib.hid (R5.out.chg hc (by omega))
 have T6 := Lib.hid (T5.out.trans ((hc.below (by omega)).mono (by omega)))
 have E6 := Lib.hid (E5.out.below (by omega) (hc.below (by omega)))
 have D6 := Lib.hid (D5.out.below (by omega) (hc.below (by omega)))
 have M6 := Lib.hid (M5.out.below (by omega) (hc.below (by omega)))
 have L6 := Lib.hid (L5.out.below (by omega) (hc.below (by omega)))
 have W6 := Lib.hid (W5.out.below (by omega) (hc.below (by omega)))
 have G6 := Lib.hid (G5.out.chg hc (by omega))
 have a6 := Lib.hid (hc.own a5.out (fun x hx => by have := topa.out x hx; omega))
 have b6 := Lib.hid (hc.own b5.out (fun x hx => by have := topb.out x hx; omega))
 have q6 := Lib.hid (q5.out.chg hc (fun x hx => by have := topq.out x hx; omega))
 clear R5 T5 E5 D5 M5 L5 W5 G5 a5 b5 q5 hc
 clear O5
 have O6 := Lib.hid ox
 clear ox
 obtain ⟨oc0, oc1, oc2, oc3, oc4, oc5, oc6, oc7, oc8, oc9⟩ := O6.out.ten
 have fz := O6.out.warm
 refine (cloneM_any lo hi _ _ _ (X.wt) w6 Hr.out hr1 W6.out (by omega)).mono ?_
 rintro e w7 ⟨u, rfl, hO, hb⟩
 obtain ⟨Au, cu, rfl, -, -, -, -⟩ := hO.form
 rw [Hr.out] at hO ⊢
 have topu := Lib.hid (fun k hk => hO.lt k hk)
 clear oc0 oc1 oc2 oc3 oc4 oc5 oc6 oc7 oc8 oc9
 clear fz
 have s7 : w6.heap.size ≤ w7.heap.size := hb.size
 have sw7 : w.heap.size < w7.heap.size := by omega
 have O7 := Lib.hid (O6.out.below hb (by omega))
 have R7 := Lib.hid (R6.out.below hb (by omega))
 have T7 := Lib.hid (T6.out.trans (hb.mono (by omega)))
 have E7 := Lib.hid (E6.out.below (by omega) hb)
 have D7 := Lib.hid (D6.out.below (by omega) hb)
 have M7 := Lib.hid (M6.out.below (by omega) hb)
 have L7 := Lib.hid (L6.out.below (by omega) hb)
 have W7 := Lib.hid (W6.out.below (by omega) hb)
 have G7 := Lib.hid (G6.out.below hb)
 have a7 := Lib.hid (a6.out.below hb)
 have b7 := Lib.hid (b6.out.below hb)
 have q7 := Lib.hid (q6.out.below hb)
 clear O6 R6 T6 E6 D6 M6 L6 W6 G6 a6 b6 q6 hb
 have u7 := Lib.hid (hO)
 clear hO
 obtain ⟨oc0, oc1, oc2, oc3, oc4, oc5, oc6, oc7, oc8, oc9⟩ := O7.out.ten
 have fz := O7.out.warm
 obtain ⟨rc0, rc1, rc2, rc3, rc4, rc5, rc6, rc7, rc8, rc9⟩ := R7.out.ten
 have fr := R7.out.warm
 go_wp2_with fail
 clear rc0 rc1 rc2 rc3 rc4 rc5 rc6 rc7 rc8 rc9 fr
 clear oc0 oc1 oc2 oc3 oc4 oc5 oc6 oc7 oc8 oc9
 clear fz
 obtain ⟨w8, hx⟩ : ∃ x, w7.setCell ⟨w.heap.size, 9, none⟩ (.slice Au r cu) = x := ⟨_, rfl⟩
 have ox : Blk w8 w.heap.size #[.string s, .slice Aa n ca, .slice Ab m cb, .slice M q e0, .int .i64 sp, .int .i64 W, .int .i64 t, .int .i64 k, .slice Aq l cq, .slice Au r cu] 37 := by rw [← hx]; exact heapSet (i := 9) O7.out _
 have hc : Chg w.heap.size (w.heap.size + 1) w7 w8 := by rw [← hx]; exact chg_set w7 w.heap.size 9 _
 have hq8 : Hid (w8.heap.size = w7.heap.size) := by show _ = _; rw [← hx]; simp
 rw [hx]
 clear hx
 have s8 : w7.heap.size ≤ w8.heap.size := hc.size
 have sw8 : w.heap.size < w8.heap.size := by omega
 have R8 := Lib.hid (R7.out.chg hc (by omega))
 have T8 := Lib.hid (T7.out.trans ((hc.below (by omega)).mono (by omega)))
 have E8 := Lib.hid (E7.out.below (by omega) (hc.below (by omega)))
 have D8 := Lib.hid (D7.out.below (by omega) (hc.below (by omega)))
 have M8 := Lib.hid (M7.out.below (by omega) (hc.below (by omega)))
 have L8 := Lib.hid (L7.out.below (by omega) (hc.below (by omega)))
 have W8 := Lib.hid (W7.out.below (by omega) (hc.below (by omega)))
 have G8 := Lib.hid (G7.out.chg hc (by omega))
 have a8 := Lib.hid (hc.own a7.out (fun x hx => by have := topa.out x hx; omega))
 have b8 := Lib.hid (hc.own b7.out (fun x hx => by have := topb.out x hx; omega))
 have q8 := Lib.hid (q7.out.chg hc (fun x hx => by have := topq.out x hx; omega))
 have u8 := Lib.hid (u7.out.chg hc (fun x hx => by have := topu.out x hx; omega))
 clear R7 T7 E7 D7 M7 L7 W7 G7 a7 b7 q7 u7 hc
 clear O7
 have O8 := Lib.hid ox
 clear ox
 obtain ⟨oc0, oc1, oc2, oc3, oc4, oc5, oc6, oc7, oc8, oc9⟩ := O8.out.ten
 have fz := O8.out.warm
 clear oc0 oc1 oc2 oc3 oc4 oc5 oc6 oc7 oc8 oc9
 clear fz
 obtain ⟨w9, hx⟩ : ∃ x, w8.setCell ⟨w.heap.size, 3, none⟩ (.slice N nq ne) = x := ⟨_, rfl⟩
 have ox : Blk w9 w.heap.size #[.string s, .slice Aa n ca, .slice Ab m cb, .slice N nq ne, .int .i64 sp, .int .i64 W, .int .i64 t, .int .i64 k, .slice Aq l cq, .slice Au r cu] 37 := by rw [← hx]; exact heapSet (i := 3) O8.out _
 have hc : Chg w.heap.size (w.heap.size + 1) w8 w9 := by rw [← hx]; exact chg_set w8 w.heap.size 3 _
 have hq9 : Hid (w9.heap.size = w8.heap.size) := by show _ = _; rw [← hx]; simp
 rw [hx]
 clear hx
 have s9 : w8.heap.size ≤ w9.heap.size := hc.size
 have sw9 : w.heap.size < w9.heap.size := by omega
 have R9 := Lib.hid (R8.out.chg hc (by omega))
 have T9 := Lib.hid (T8.out.trans ((hc.below (by omega)).mono (by omega)))
 have E9 := Lib.hid (E8.out.below (by omega) (hc.below (by omega)))
 have D9 := Lib.hid (D8.out.below (by omega) (hc.below (by omega)))
 have M9 := Lib.hid (M8.out.below (by omega) (hc.below (by omega)))
 have L9 := Lib.hid (L8.out.below (by omega) (hc.below (by omega)))
 have W9 := Lib.hid (W8.out.below (by omega) (hc.below (by omega)))
 have G9 := Lib.hid (G8.out.chg hc (by omega))
 have a9 := Lib.hid (hc.own a8.out (fun x hx => by have := topa.out x hx; omega))
 have b9 := Lib.hid (hc.own b8.out (fun x hx => by have := topb.out x hx; omega))
 have q9 := Lib.hid (q8.out.chg hc (fun x hx => by have := topq.out x hx; omega))
 have u9 := Lib.hid (u8.out.chg hc (fun x hx => by have := topu.out x hx; omega))
 clear R8 T8 E8 D8 M8 L8 W8 G8 a8 b8 q8 u8 hc
 clear O8
 have O9 := Lib.hid ox
 clear ox
 obtain ⟨oc0, oc1, oc2, oc3, oc4, oc5, oc6, oc7, oc8, oc9⟩ := O9.out.ten
 have fz := O9.out.warm
 obtain ⟨y, hy⟩ : ∃ x, ((((((((((w9.setCell ⟨w.heap.size + 1, 0, none⟩ (.string s)).setCell ⟨w.heap.size + 1, 1, none⟩ (.slice Aa n ca)).setCell ⟨w.heap.size + 1, 2, none⟩ (.slice Ab m cb)).setCell ⟨w.heap.size + 1, 3, none⟩ (.slice N nq ne)).setCell ⟨w.heap.size + 1, 4, none⟩ (.int .i64 sp)).setCell ⟨w.heap.size + 1, 5, none⟩ (.int .i64 W)).setCell ⟨w.heap.size + 1, 6, none⟩ (.int .i64 t)).setCell ⟨w.heap.size + 1, 7, none⟩ (.int .i64 k)).setCell ⟨w.heap.size + 1, 8, none⟩ (.slice Aq l cq)).setCell ⟨w.heap.size + 1, 9, none⟩ (.slice Au r cu)) = x := ⟨_, rfl⟩
 have ry : Blk y (w.heap.size + 1) #[.string s, .slice Aa n ca, .slice Ab m cb, .slice N nq ne, .int .i64 sp, .int .i64 W, .int .i64 t, .int .i64 k, .slice Aq l cq, .slice Au r cu] 37 := by rw [← hy]; exact Blk.fill R9.out (.string s) (.slice Aa n ca) (.slice Ab m cb) (.slice N nq ne) (.int .i64 sp) (.int .i64 W) (.int .i64 t) (.int .i64 k) (.slice Aq l cq) (.slice Au r cu)
 have hc : Chg (w.heap.size + 1) (w.heap.size + 2) w9 y := by rw [← hy]; exact (((((((((((Chg.refl (w.heap.size + 1) (w.heap.size + 2) w9).trans (chg_set w9 (w.heap.size + 1) 0 (.string s))).trans (chg_set (w9.setCell ⟨w.heap.size + 1, 0, none⟩ (.string s)) (w.heap.size + 1) 1 (.slice Aa n ca))).trans (chg_set ((w9.setCell ⟨w.heap.size + 1, 0, none⟩ (.string s)).setCell ⟨w.heap.size + 1, 1, none⟩ (.slice Aa n ca)) (w.heap.size + 1) 2 (.slice Ab m cb))).trans (chg_set (((w9.setCell ⟨w.heap.size + 1, 0, none⟩ (.string s)).setCell ⟨w.heap.size + 1, 1, none⟩ (.slice Aa n ca)).setCell ⟨w.heap.size + 1, 2, none⟩ (.slice Ab m cb)) (w.heap.size + 1) 3 (.slice N nq ne))).trans (chg_set ((((w9.setCell ⟨w.heap.size + 1, 0, none⟩ (.string s)).setCell ⟨w.heap.size + 1, 1, none⟩ (.slice Aa n ca)).setCell ⟨w.heap.size + 1, 2, none⟩ (.slice Ab m cb)).setCell ⟨w.heap.size + 1, 3, none⟩ (.slice N nq ne)) (w.heap.size + 1) 4 (.int .i64 sp))).trans (chg_set (((((w9.setCell ⟨w.heap.size + 1, 0, none⟩ (.string s)).setCell ⟨w.heap.size + 1, 1, none⟩ (.slice Aa n ca)).setCell ⟨w.heap.size + 1, 2, none⟩ (.slice Ab m cb)).setCell ⟨w.heap.size + 1, 3, none⟩ (.slice N nq ne)).setCell ⟨w.heap.size + 1, 4, none⟩ (.int .i64 sp)) (w.heap.size + 1) 5 (.int .i64 W))).trans (chg_set ((((((w9.setCell ⟨w.heap.size + 1, 0, none⟩ (.string s)).setCell ⟨w.heap.size + 1, 1, none⟩ (.slice Aa n ca)).setCell ⟨w.heap.size + 1, 2, none⟩ (.slice Ab m cb)).setCell ⟨w.heap.size + 1, 3, none⟩ (.slice N nq ne)).setCell ⟨w.heap.size + 1, 4, none⟩ (.int .i64 sp)).setCell ⟨w.heap.size + 1, 5, none⟩ (.int .i64 W)) (w.heap.size + 1) 6 (.int .i64 t))).trans (chg_set (((((((w9.setCell ⟨w.heap.size + 1, 0, none⟩ (.string s)).setCell ⟨w.heap.size + 1, 1, none⟩ (.slice Aa n ca)).setCell ⟨w.heap.size + 1, 2, none⟩ (.slice Ab m cb)).setCell ⟨w.heap.size + 1, 3, none⟩ (.slice N nq ne)).setCell ⟨w.heap.size + 1, 4, none⟩ (.int .i64 sp)).setCell ⟨w.heap.size + 1, 5, none⟩ (.int .i64 W)).setCell ⟨w.heap.size + 1, 6, none⟩ (.int .i64 t)) (w.heap.size + 1) 7 (.int .i64 k))).trans (chg_set ((((((((w9.setCell ⟨w.heap.size + 1, 0, none⟩ (.string s)).setCell ⟨w.heap.size + 1, 1, none⟩ (.slice Aa n ca)).setCell ⟨w.heap.size + 1, 2, none⟩ (.slice Ab m cb)).setCell ⟨w.heap.size + 1, 3, none⟩ (.slice N nq ne)).setCell ⟨w.heap.size + 1, 4, none⟩ (.int .i64 sp)).setCell ⟨w.heap.size + 1, 5, none⟩ (.int .i64 W)).setCell ⟨w.heap.size + 1, 6, none⟩ (.int .i64 t)).setCell ⟨w.heap.size + 1, 7, none⟩ (.int .i64 k)) (w.heap.size + 1) 8 (.slice Aq l cq))).trans (chg_set (((((((((w9.setCell ⟨w.heap.size + 1, 0, none⟩ (.string s)).setCell ⟨w.heap.size + 1, 1, none⟩ (.slice Aa n ca)).setCell ⟨w.heap.size + 1, 2, none⟩ (.slice Ab m cb)).setCell ⟨w.heap.size + 1, 3, none⟩ (.slice N nq ne)).setCell ⟨w.heap.size + 1, 4, none⟩ (.int .i64 sp)).setCell ⟨w.heap.size + 1, 5, none⟩ (.int .i64 W)).setCell ⟨w.heap.size + 1, 6, none⟩ (.int .i64 t)).setCell ⟨w.heap.size + 1, 7, none⟩ (.int .i64 k)).setCell ⟨w.heap.size + 1, 8, none⟩ (.slice Aq l cq)) (w.heap.size + 1) 9 (.slice Au r cu)))
 rw [hy]
 obtain ⟨rc0, rc1, rc2, rc3, rc4, rc5, rc6, rc7, rc8, rc9⟩ := ry.ten
 have sy : w9.heap.size ≤ y.heap.size := hc.size
 have ya := hc.own a9.out (fun x hx => by have := topa.out x hx; omega)
 have yb := hc.own b9.out (fun x hx => by have := topb.out x hx; omega)
 have yq := q9.out.chg hc (fun x hx => by have := topq.out x hx; omega)
 have yu := u9.out.chg hc (fun x hx => by have := topu.out x hx; omega)
 have yg := G9.out.chg hc (by omega)
 have hF : FontO y w0.heap.size w3.heap.size (.agg #[.string s, .slice Aa n ca, .slice Ab m cb]) X.f :=
  ⟨Aa, ca, Ab, cb, w2.heap.size, by rw [HFs.out.1, HFs.out.2.1, HFs.out.2.2], by rw [HFs.out.2.1]; exact ya, by rw [HFs.out.2.1]; exact fun k hk => by have := (topa.out k hk).2; omega, by rw [HFs.out.2.2]; exact yb, by rw [HFs.out.2.2]; exact fun k hk => (topb.out k hk).2, by omega, by omega, Hss.out⟩
 have hX := MchX.build (X := ⟨X.f, ms, X.sp, X.w, X.t, X.k, X.ln, X.wt⟩) (B := B) (hi := y.heap.size) hF yg yq (fun k hk => (topq.out k hk).2) yu (fun k hk => (topu.out k hk).2) (by unfold Off; omega) (by unfold Off; omega) (by unfold Off; omega) (by unfold Off; omega) (by unfold Off; omega) (by unfold Off; omega) ⟨by omega, by omega⟩ ⟨by omega, by omega⟩ ⟨by omega, by omega⟩ ⟨by omega, by omega⟩
 simp only [HE.out.1, HE.out.2.1, HE.out.2.2.1, HE.out.2.2.2] at hX ⊢
 refine bodyPost_ret (v := .agg #[.string s, .slice Aa n ca, .slice Ab m cb, .slice N nq ne, .int .i64 sp, .int .i64 W, .int .i64 t, .int .i64 k, .slice Aq l cq, .slice Au r cu]) (by simp [results, Tryz.results81, go_sem, rc0, rc1, rc2, rc3, rc4, rc5, rc6, rc7, rc8, rc9]) rfl ⟨_, rfl, hX, T9.out.trans (hc.below (by omega) |>.mono (by omega))⟩
set_option maxRecDepth 100000 in
set_option maxHeartbeats 3200000 in
theorem l5Copy_any (lo hi : Nat) (v : Value) (X : Mch) (w : World) (h : MchV w lo hi v X) (hhi : hi ≤ w.heap.size) (hs : SmallX X) :
  Calls Tryz.prog 32 #[v] w fun e w' => ∃ v', e = .returned v' ∧ MchX w' w.heap.size w'.heap.size v' X ∧ Below w.heap.size w w' := by
 obtain ⟨s, A, n, c, A2, m, d, M, q, e0, L, l, lc, T, r, tc, rfl, hf, hq, hM, hqe, hem, hl, hL, hllc, hlm, hr, hT, hrt, htm⟩ := h.parts
 obtain ⟨fA, fc, fA2, fd, hfv, hI1, hI2, hc1, hc2, hd1, hd2, hss⟩ := hf
 simp only [Value.agg.injEq, Array.mk.injEq, List.cons.injEq, and_true, Value.string.injEq, Value.slice.injEq] at hfv
 obtain ⟨rfl, ⟨rfl, rfl, rfl⟩, ⟨rfl, rfl, rfl⟩⟩ := hfv
 obtain ⟨s, hs1⟩ : ∃ x, X.f.s = x := ⟨_, rfl⟩
 obtain ⟨n, hn⟩ : ∃ x, X.f.ws.length = x := ⟨_, rfl⟩
 obtain ⟨m, hm⟩ : ∃ x, X.f.cs.length = x := ⟨_, rfl⟩
 obtain ⟨sp, hsp⟩ : ∃ x, X.sp = x := ⟨_, rfl⟩
 obtain ⟨W, hW⟩ : ∃ x, X.w = x := ⟨_, rfl⟩
 obtain ⟨t, ht⟩ : ∃ x, X.t = x := ⟨_, rfl⟩
 obtain ⟨k, hk⟩ : ∃ x, X.k = x := ⟨_, rfl⟩
 have HFs : Hid (X.f.s = s ∧ X.f.ws.length = n ∧ X.f.cs.length = m) := ⟨hs1, hn, hm⟩
 have HE : Hid (X.sp = sp ∧ X.w = W ∧ X.t = t ∧ X.k = k) := ⟨hsp, hW, ht, hk⟩
 have Hq := Lib.hid hq; have Hl := Lib.hid hl; have Hr := Lib.hid hr; have Hn := Lib.hid hn; have Hm := Lib.hid hm; have HS := Lib.hid hs; have Hss := Lib.hid hss
 have hn1 : n ≤ 1048576 := by rw [← hn]; exact hs.f.2.1
 have hm1 : m ≤ 1048576 := by rw [← hm]; exact hs.f.2.2
 have hq1 : q ≤ 1048576 := by rw [← hq]; exact hs.ms
 have hl1 : l ≤ 1048576 := by rw [← hl]; exact hs.ln
 have hr1 : r ≤ 1048576 := by rw [← hr]; exact hs.wt
 rw [hs1, hn, hm, hsp, hW, ht, hk] at h ⊢
 obtain ⟨wA, hA, hbA, hzA, KA⟩ := mxWorld w #[.string s, .slice A n c, .slice A2 m d, .slice M q e0, .int .i64 sp, .int .i64 W, .int .i64 t, .int .i64 k, .slice L l lc, .slice T r tc] 37
 obtain ⟨w0, hB, hbB, hzB, RB⟩ := mxWorld wA #[.string ⟨#[]⟩, .slice none 0 0, .slice none 0 0, .slice none 0 0, .int .i64 0, .int .i64 0, .int .i64 0, .int .i64 0, .slice none 0 0, .slice none 0 0] 37
 rw [hzA] at RB
 have O0 := Lib.hid (KA.below hbB (by omega))
 have R0 := Lib.hid RB
 have hb0 : Below w.heap.size w w0 := hbA.trans (hbB.mono (by omega))
 have T0 := Lib.hid hb0
 have E0 := Lib.hid (hI1.below hhi hb0); have D0 := Lib.hid (hI2.below hhi hb0); have M0 := Lib.hid (hM.below hhi hb0); have L0 := Lib.hid (hL.below hhi hb0); have W0 := Lib.hid (hT.below hhi hb0)
 have s0 : w.heap.size + 2 ≤ w0.heap.size := by omega
 have HZ : Hid (w0.heap.size = w.heap.size + 1 + 1) := by show _ = _; omega
 have HA : Hid ((w.alloc (.cells #[.string s, .slice A n c, .slice A2 m d, .slice M q e0, .int .i64 sp, .int .i64 W, .int .i64 t, .int .i64 k, .slice L l lc, .slice T r tc] 37)).alloc (.cells #[.string ⟨#[]⟩, .slice none 0 0, .slice none 0 0, .slice none 0 0, .int .i64 0, .int .i64 0, .int .i64 0, .int .i64 0, .slice none 0 0, .slice none 0 0] 37) = w0) := by show _ = _; rw [hA, hB]
 clear h hM hqe hem hq hl hL hllc hlm hr hT hrt htm hsp hW ht hk hs1 hn hm hI1 hI2 hc1 hc2 hd1 hd2 hss hs hb0 hbA hbB hzA hzB KA RB hA hB
 obtain ⟨oc0, oc1, oc2, oc3, oc4, oc5, oc6, oc7, oc8, oc9⟩ := O0.out.ten
 have fz := O0.out.warm
 have tok1 : True := trivial
 have tok2 : True := trivial
 have tok3 : True := trivial
 have tok4 : True := trivial
 go_enter Tryz.func32, Tryz.ntmps32
 go_wp2_with (first
  | (at_builtin; clear tok1; rw [HA.out]; obtain ⟨w1, hw, hb, hz, hK⟩ := mxWorld w0 #[] 3; rw [hw]; have za : w0.heap.size < w1.heap.size := hK.lt; have hE : Own w1 w0.heap.size (.slice (some ⟨w.heap.size + 1 + 1, 0, none⟩) 0 0) [] := (by rw [← HZ.out, ← hw]; exact World.ownsRow_lit w0 #[] 0 (Nat.le_refl _) (Nat.zero_le _) rfl); have HEm := Lib.hid hE; clear hw hz hK hE; clear oc0 oc1 oc2 oc3 oc4 oc5 oc6 oc7 oc8 oc9; clear fz; have s1 : w0.heap.size ≤ w1.heap.size := hb.size; have sw1 : w.heap.size < w1.heap.size := (by omega); have O1 := Lib.hid (O0.out.below hb (by omega)); have R1 := Lib.hid (R0.out.below hb (by omega)); have T1 := Lib.hid (T0.out.trans (hb.mono (by omega))); have E1 := Lib.hid (E0.out.below (by omega) hb); have D1 := Lib.hid (D0.out.below (by omega) hb); have M1 := Lib.hid (M0.out.below (by omega) hb); have L1 := Lib.hid (L0.out.below (by omega) hb); have W1 := Lib.hid (W0.out.below (by omega) hb); clear O0 R0 T0 E0 D0 M0 L0 W0 hb; refine wpl_append_any w1 rfl (.tmp 3) (.tmp 6) rfl w0.heap.size _ [] (X.f.ws) _ n c rfl rfl Hn.out E1.out.ints HEm.out (by omega) (by simp; omega) ?_; intro u w2 hO hg _; rw [List.nil_append] at hO; obtain ⟨Aa, ca, rfl, -, -, -, -⟩ := hO.form; rw [Hn.out] at hO ⊢; have topa := Lib.hid (fun k hk => World.ownsRow.lt hO k hk); have hc : Chg w0.heap.size w1.heap.size w1 w2 := Chg.of_grown hg (fun x hx => by have hx2 : w.heap.size + 1 + 1 = x := (by injection hx); have := HZ.out; omega); clear hg HEm; have s2 : w1.heap.size ≤ w2.heap.size := hc.size; have sw2 : w.heap.size < w2.heap.size := (by omega); have O2 := Lib.hid (O1.out.chg hc (by omega)); have R2 := Lib.hid (R1.out.chg hc (by omega)); have T2 := Lib.hid (T1.out.trans ((hc.below (by omega)).mono (by omega))); have E2 := Lib.hid (E1.out.below (by omega) (hc.below (by omega))); have D2 := Lib.hid (D1.out.below (by omega) (hc.below (by omega))); have M2 := Lib.hid (M1.out.below (by omega) (hc.below (by omega))); have L2 := Lib.hid (L1.out.below (by omega) (hc.below (by omega))); have W2 := Lib.hid (W1.out.below (by omega) (hc.below (by omega))); clear O1 R1 T1 E1 D1 M1 L1 W1 hc; have a2 := Lib.hid (hO); clear hO; obtain ⟨oc0, oc1, oc2, oc3, oc4, oc5, oc6, oc7, oc8, oc9⟩ := O2.out.ten; have fz := O2.out.warm)
  | (at_builtin; clear tok2; clear oc0 oc1 oc2 oc3 oc4 oc5 oc6 oc7 oc8 oc9; clear fz; obtain ⟨w3, hx⟩ : ∃ x, w2.setCell ⟨w.heap.size, 1, none⟩ (.slice Aa n ca) = x := ⟨_, rfl⟩; have ox : Blk w3 w.heap.size #[.string s, .slice Aa n ca, .slice A2 m d, .slice M q e0, .int .i64 sp, .int .i64 W, .int .i64 t, .int .i64 k, .slice L l lc, .slice T r tc] 37 := (by rw [← hx]; exact heapSet (i := 1) O2.out _); have hc : Chg w.heap.size (w.heap.size + 1) w2 w3 := (by rw [← hx]; exact chg_set w2 w.heap.size 1 _); have hq3 : Hid (w3.heap.size = w2.heap.size) := (by show _ = _; rw [← hx]; simp); rw [hx]; clear hx; have s3 : w2.heap.size ≤ w3.heap.size := hc.size; have sw3 : w.heap.size < w3.heap.size := (by omega); have R3 := Lib.hid (R2.out.chg hc (by omega)); have T3 := Lib.hid (T2.out.trans ((hc.below (by omega)).mono (by omega))); have E3 := Lib.hid (E2.out.below (by omega) (hc.below (by omega))); have D3 := Lib.hid (D2.out.below (by omega) (hc.below (by omega))); have M3 := Lib.hid (M2.out.below (by omega) (hc.below (by omega))); have L3 := Lib.hid (L2.out.below (by omega) (hc.below (by omega))); have W3 := Lib.hid (W2.out.below (by omega) (hc.below (by omega))); have a3 := Lib.hid (hc.own a2.out (fun x hx => by have := topa.out x hx; omega)); clear R2 T2 E2 D2 M2 L2 W2 a2 hc; clear O2; have O3 := Lib.hid ox; clear ox; obtain ⟨oc0, oc1, oc2, oc3, oc4, oc5, oc6, oc7, oc8, oc9⟩ := O3.out.ten; have fz := O3.out.warm; obtain ⟨w4, hw, hb, hz, hK⟩ := mxWorld w3 #[] 3; rw [hw]; have zb : w3.heap.size < w4.heap.size := hK.lt; have hE : Own w4 w3.heap.size (.slice (some ⟨w2.heap.size, 0, none⟩) 0 0) [] := (by rw [← hq3.out, ← hw]; exact World.ownsRow_lit w3 #[] 0 (Nat.le_refl _) (Nat.zero_le _) rfl); have HEm := Lib.hid hE; clear hw hz hK hE; clear oc0 oc1 oc2 oc3 oc4 oc5 oc6 oc7 oc8 oc9; clear fz; have s4 : w3.heap.size ≤ w4.heap.size := hb.size; have sw4 : w.heap.size < w4.heap.size := (by omega); have O4 := Lib.hid (O3.out.below hb (by omega)); have R4 := Lib.hid (R3.out.below hb (by omega)); have T4 := Lib.hid (T3.out.trans (hb.mono (by omega))); have E4 := Lib.hid (E3.out.below (by omega) hb); have D4 := Lib.hid (D3.out.below (by omega) hb); have M4 := Lib.hid (M3.out.below (by omega) hb); have L4 := Lib.hid (L3.out.below (by omega) hb); have W4 := Lib.hid (W3.out.below (by omega) hb); have a4 := Lib.hid (a3.out.below hb); clear O3 R3 T3 E3 D3 M3 L3 W3 a3 hb; refine wpl_append_any w4 rfl (.tmp 10) (.tmp 13) rfl w3.heap.size _ [] (X.f.cs) _ m d rfl rfl Hm.out D4.out.ints HEm.out (by omega) (by simp; omega) ?_; intro u w5 hO hg _; rw [List.nil_append] at hO; obtain ⟨Ab, cb, rfl, -, -, -, -⟩ := hO.form; rw [Hm.out] at hO ⊢; have topb := Lib.hid (fun k hk => World.ownsRow.lt hO k hk); have hc : Chg w3.heap.size w4.heap.size w4 w5 := Chg.of_grown hg (fun x hx => by have hx2 : w2.heap.size = x := (by injection hx); have := hq3.out; omega); clear hg HEm; have s5 : w4.heap.size ≤ w5.heap.size := hc.size; have sw5 : w.heap.size < w5.heap.size := (by omega); have O5 := Lib.hid (O4.out.chg hc (by omega)); have R5 := Lib.hid (R4.out.chg hc (by omega)); have T5 := Lib.hid (T4.out.trans ((hc.below (by omega)).mono (by omega))); have E5 := Lib.hid (E4.out.below (by omega) (hc.below (by omega))); have D5 := Lib.hid (D4.out.below (by omega) (hc.below (by omega))); have M5 := Lib.hid (M4.out.below (by omega) (hc.below (by omega))); have L5 := Lib.hid (L4.out.below (by omega) (hc.below (by omega))); have W5 := Lib.hid (W4.out.below (by omega) (hc.below (by omega))); have a5 := Lib.hid (hc.own a4.out (fun x hx => by have := topa.out x hx; omega)); clear O4 R4 T4 E4 D4 M4 L4 W4 a4 hc; have b5 := Lib.hid (hO); clear hO; obtain ⟨oc0, oc1, oc2, oc3, oc4, oc5, oc6, oc7, oc8, oc9⟩ := O5.out.ten; have fz := O5.out.warm)
  | (go_at_call 68; clear oc0 oc1 oc2 oc3 oc4 oc5 oc6 oc7 oc8 oc9; clear fz; obtain ⟨w6, hx⟩ : ∃ x, w5.setCell ⟨w.heap.size, 2, none⟩ (.slice Ab m cb) = x := ⟨_, rfl⟩; have ox : Blk w6 w.heap.size #[.string s, .slice Aa n ca, .slice Ab m cb, .slice M q e0, .int .i64 sp, .int .i64 W, .int .i64 t, .int .i64 k, .slice L l lc, .slice T r tc] 37 := (by rw [← hx]; exact heapSet (i := 2) O5.out _); have hc : Chg w.heap.size (w.heap.size + 1) w5 w6 := (by rw [← hx]; exact chg_set w5 w.heap.size 2 _); have hq6 : Hid (w6.heap.size = w5.heap.size) := (by show _ = _; rw [← hx]; simp); rw [hx]; clear hx; have s6 : w5.heap.size ≤ w6.heap.size := hc.size; have sw6 : w.heap.size < w6.heap.size := (by omega); have R6 := Lib.hid (R5.out.chg hc (by omega)); have T6 := Lib.hid (T5.out.trans ((hc.below (by omega)).mono (by omega))); have E6 := Lib.hid (E5.out.below (by omega) (hc.below (by omega))); have D6 := Lib.hid (D5.out.below (by omega) (hc.below (by omega))); have M6 := Lib.hid (M5.out.below (by omega) (hc.below (by omega))); have L6 := Lib.hid (L5.out.below (by omega) (hc.below (by omega))); have W6 := Lib.hid (W5.out.below (by omega) (hc.below (by omega))); have a6 := Lib.hid (hc.own a5.out (fun x hx => by have := topa.out x hx; omega)); have b6 := Lib.hid (hc.own b5.out (fun x hx => by have := topb.out x hx; omega)); clear R5 T5 E5 D5 M5 L5 W5 a5 b5 hc; clear O5; have O6 := Lib.hid ox; clear ox; obtain ⟨oc0, oc1, oc2, oc3, oc4, oc5, oc6, oc7, oc8, oc9⟩ := O6.out.ten; have fz := O6.out.warm; refine (l2Copy_any lo hi _ _ _ X.ms w6 Hq.out hq1 HS.out.row M6.out (by omega)).mono ?_; rintro e w7 ⟨u, hs0, rfl, hO, hb⟩; obtain ⟨Ag, cg, rfl, -⟩ := hO.form; rw [Hq.out] at hO ⊢; clear oc0 oc1 oc2 oc3 oc4 oc5 oc6 oc7 oc8 oc9; clear fz; have s7 : w6.heap.size ≤ w7.heap.size := hb.size; have sw7 : w.heap.size < w7.heap.size := (by omega); have O7 := Lib.hid (O6.out.below hb (by omega)); have R7 := Lib.hid (R6.out.below hb (by omega)); have T7 := Lib.hid (T6.out.trans (hb.mono (by omega))); have E7 := Lib.hid (E6.out.below (by omega) hb); have D7 := Lib.hid (D6.out.below (by omega) hb); have M7 := Lib.hid (M6.out.below (by omega) hb); have L7 := Lib.hid (L6.out.below (by omega) hb); have W7 := Lib.hid (W6.out.below (by omega) hb); have a7 := Lib.hid (a6.out.below hb); have b7 := Lib.hid (b6.out.below hb); clear O6 R6 T6 E6 D6 M6 L6 W6 a6 b6 hb; have G7 := Lib.hid (hO); clear hO; obtain ⟨oc0, oc1, oc2, oc3, oc4, oc5, oc6, oc7, oc8, oc9⟩ := O7.out.ten; have fz := O7.out.warm)
  | (at_builtin; clear tok3; clear oc0 oc1 oc2 oc3 oc4 oc5 oc6 oc7 oc8 oc9; clear fz; obtain ⟨w8, hx⟩ : ∃ x, w7.setCell ⟨w.heap.size, 3, none⟩ (.slice Ag q cg) = x := ⟨_, rfl⟩; have ox : Blk w8 w.heap.size #[.string s, .slice Aa n ca, .slice Ab m cb, .slice Ag q cg, .int .i64 sp, .int .i64 W, .int .i64 t, .int .i64 k, .slice L l lc, .slice T r tc] 37 := (by rw [← hx]; exact heapSet (i := 3) O7.out _); have hc : Chg w.heap.size (w.heap.size + 1) w7 w8 := (by rw [← hx]; exact chg_set w7 w.heap.size 3 _); have hq8 : Hid (w8.heap.size = w7.heap.size) := (by show _ = _; rw [← hx]; simp); rw [hx]; clear hx; have s8 : w7.heap.size ≤ w8.heap.size := hc.size; have sw8 : w.heap.size < w8.heap.size := (by omega); have R8 := Lib.hid (R7.out.chg hc (by omega)); have T8 := Lib.hid (T7.out.trans ((hc.below (by omega)).mono (by omega))); have E8 := Lib.hid (E7.out.below (by omega) (hc.below (by omega))); have D8 := Lib.hid (D7.out.below (by omega) (hc.below (by omega))); have M8 := Lib.hid (M7.out.below (by omega) (hc.below (by omega))); have L8 := Lib.hid (L7.out.below (by omega) (hc.below (by omega))); have W8 := Lib.hid (W7.out.below (by omega) (hc.below (by omega))); have a8 := Lib.hid (hc.own a7.out (fun x hx => by have := topa.out x hx; omega)); have b8 := Lib.hid (hc.own b7.out (fun x hx => by have := topb.out x hx; omega)); have G8 := Lib.hid (G7.out.chg hc (by omega)); clear R7 T7 E7 D7 M7 L7 W7 a7 b7 G7 hc; clear O7; have O8 := Lib.hid ox; clear ox; obtain ⟨oc0, oc1, oc2, oc3, oc4, oc5, oc6, oc7, oc8, oc9⟩ := O8.out.ten; have fz := O8.out.warm; obtain ⟨w9, hw, hb, hz, hK⟩ := mxWorld w8 #[] 64; rw [hw]; have zq : w8.heap.size < w9.heap.size := hK.lt; have hE : OwnM w9 w8.heap.size (.slice (some ⟨w7.heap.size, 0, none⟩) 0 0) [] := (by rw [← hq8.out, ← hw]; exact World.ownsRow_lit w8 #[] 0 (Nat.le_refl _) (Nat.zero_le _) rfl); have HEm := Lib.hid hE; clear hw hz hK hE; clear oc0 oc1 oc2 oc3 oc4 oc5 oc6 oc7 oc8 oc9; clear fz; have s9 : w8.heap.size ≤ w9.heap.size := hb.size; have sw9 : w.heap.size < w9.heap.size := (by omega); have O9 := Lib.hid (O8.out.below hb (by omega)); have R9 := Lib.hid (R8.out.below hb (by omega)); have T9 := Lib.hid (T8.out.trans (hb.mono (by omega))); have E9 := Lib.hid (E8.out.below (by omega) hb); have D9 := Lib.hid (D8.out.below (by omega) hb); have M9 := Lib.hid (M8.out.below (by omega) hb); have L9 := Lib.hid (L8.out.below (by omega) hb); have W9 := Lib.hid (W8.out.below (by omega) hb); have a9 := Lib.hid (a8.out.below hb); have b9 := Lib.hid (b8.out.below hb); have G9 := Lib.hid (G8.out.below hb); clear O8 R8 T8 E8 D8 M8 L8 W8 a8 b8 G8 hb; refine wpl_copy_mat w9 rfl (.tmp 21) (.tmp 23) rfl w8.heap.size lo hi _ (X.ln) _ l lc rfl HEm.out (by omega) rfl Hl.out L9.out (by omega) ?_; intro u w10 hO hg _; obtain ⟨Aq, cq, rfl, -, -, -, -⟩ := hO.form; rw [Hl.out] at hO ⊢; have topq := Lib.hid (fun k hk => hO.lt k hk); have hc : Chg w8.heap.size w9.heap.size w9 w10 := Chg.of_grown hg (fun x hx => by have hx2 : w7.heap.size = x := (by injection hx); have := hq8.out; omega); clear hg HEm; have s10 : w9.heap.size ≤ w10.heap.size := hc.size; have sw10 : w.heap.size < w10.heap.size := (by omega); have O10 := Lib.hid (O9.out.chg hc (by omega)); have R10 := Lib.hid (R9.out.chg hc (by omega)); have T10 := Lib.hid (T9.out.trans ((hc.below (by omega)).mono (by omega))); have E10 := Lib.hid (E9.out.below (by omega) (hc.below (by omega))); have D10 := Lib.hid (D9.out.below (by omega) (hc.below (by omega))); have M10 := Lib.hid (M9.out.below (by omega) (hc.below (by omega))); have L10 := Lib.hid (L9.out.below (by omega) (hc.below (by omega))); have W10 := Lib.hid (W9.out.below (by omega) (hc.below (by omega))); have a10 := Lib.hid (hc.own a9.out (fun x hx => by have := topa.out x hx; omega)); have b10 := Lib.hid (hc.own b9.out (fun x hx => by have := topb.out x hx; omega)); have G10 := Lib.hid (G9.out.chg hc (by omega)); clear O9 R9 T9 E9 D9 M9 L9 W9 a9 b9 G9 hc; have q10 := Lib.hid (hO); clear hO; obtain ⟨oc0, oc1, oc2, oc3, oc4, oc5, oc6, oc7, oc8, oc9⟩ := O10.out.ten; have fz := O10.out.warm)
  | (at_builtin; clear tok4; clear oc0 oc1 oc2 oc3 oc4 oc5 oc6 oc7 oc8 oc9; clear fz; obtain ⟨w11, hx⟩ : ∃ x, w10.setCell ⟨w.heap.size, 8, none⟩ (.slice Aq l cq) = x := ⟨_, rfl⟩; have ox : Blk w11 w.heap.size #[.string s, .slice Aa n ca, .slice Ab m cb, .slice Ag q cg, .int .i64 sp, .int .i64 W, .int .i64 t, .int .i64 k, .slice Aq l cq, .slice T r tc] 37 := (by rw [← hx]; exact heapSet (i := 8) O10.out _); have hc : Chg w.heap.size (w.heap.size + 1) w10 w11 := (by rw [← hx]; exact chg_set w10 w.heap.size 8 _); have hq11 : Hid (w11.heap.size = w10.heap.size) := (by show _ = _; rw [← hx]; simp); rw [hx]; clear hx; have s11 : w10.heap.size ≤ w11.heap.size := hc.size; have sw11 : w.heap.size < w11.heap.size := (by omega); have R11 := Lib.hid (R10.out.chg hc (by omega)); have T11 := Lib.hid (T10.out.trans ((hc.below (by omega)).mono (by omega))); have E11 := Lib.hid (E10.out.below (by omega) (hc.below (by omega))); have D11 := Lib.hid (D10.out.below (by omega) (hc.below (by omega))); have M11 := Lib.hid (M10.out.below (by omega) (hc.below (by omega))); have L11 := Lib.hid (L10.out.below (by omega) (hc.below (by omega))); have W11 := Lib.hid (W10.out.below (by omega) (hc.below (by omega))); have a11 := Lib.hid (hc.own a10.out (fun x hx => by have := topa.out x hx; omega)); have b11 := Lib.hid (hc.own b10.out (fun x hx => by have := topb.out x hx; omega)); have G11 := Lib.hid (G10.out.chg hc (by omega)); have q11 := Lib.hid (q10.out.chg hc (fun x hx => by have := topq.out x hx; omega)); clear R10 T10 E10 D10 M10 L10 W10 a10 b10 G10 q10 hc; clear O10; have O11 := Lib.hid ox; clear ox; obtain ⟨oc0, oc1, oc2, oc3, oc4, oc5, oc6, oc7, oc8, oc9⟩ := O11.out.ten; have fz := O11.out.warm; obtain ⟨w12, hw, hb, hz, hK⟩ := mxWorld w11 #[] 64; rw [hw]; have zu : w11.heap.size < w12.heap.size := hK.lt; have hE : OwnM w12 w11.heap.size (.slice (some ⟨w10.heap.size, 0, none⟩) 0 0) [] := (by rw [← hq11.out, ← hw]; exact World.ownsRow_lit w11 #[] 0 (Nat.le_refl _) (Nat.zero_le _) rfl); have HEm := Lib.hid hE; clear hw hz hK hE; clear oc0 oc1 oc2 oc3 oc4 oc5 oc6 oc7 oc8 oc9; clear fz; have s12 : w11.heap.size ≤ w12.heap.size := hb.size; have sw12 : w.heap.size < w12.heap.size := (by omega); have O12 := Lib.hid (O11.out.below hb (by omega)); have R12 := Lib.hid (R11.out.below hb (by omega)); have T12 := Lib.hid (T11.out.trans (hb.mono (by omega))); have E12 := Lib.hid (E11.out.below (by omega) hb); have D12 := Lib.hid (D11.out.below (by omega) hb); have M12 := Lib.hid (M11.out.below (by omega) hb); have L12 := Lib.hid (L11.out.below (by omega) hb); have W12 := Lib.hid (W11.out.below (by omega) hb); have a12 := Lib.hid (a11.out.below hb); have b12 := Lib.hid (b11.out.below hb); have G12 := Lib.hid (G11.out.below hb); have q12 := Lib.hid (q11.out.below hb); clear O11 R11 T11 E11 D11 M11 L11 W11 a11 b11 G11 q11 hb; refine wpl_copy_mat w12 rfl (.tmp 26) (.tmp 28) rfl w11.heap.size lo hi _ (X.wt) _ r tc rfl HEm.out (by omega) rfl Hr.out W12.out (by omega) ?_; intro u w13 hO hg _; obtain ⟨Au, cu, rfl, -, -, -, -⟩ := hO.form; rw [Hr.out] at hO ⊢; have topu := Lib.hid (fun k hk => hO.lt k hk); have hc : Chg w11.heap.size w12.heap.size w12 w13 := Chg.of_grown hg (fun x hx => by have hx2 : w10.heap.size = x := (by injection hx); have := hq11.out; omega); clear hg HEm; have s13 : w12.heap.size ≤ w13.heap.size := hc.size; have sw13 : w.heap.size < w13.heap.size := (by omega); have O13 := Lib.hid (O12.out.chg hc (by omega)); have R13 := Lib.hid (R12.out.chg hc (by omega)); have T13 := Lib.hid (T12.out.trans ((hc.below (by omega)).mono (by omega))); have E13 := Lib.hid (E12.out.below (by omega) (hc.below (by omega))); have D13 := Lib.hid (D12.out.below (by omega) (hc.below (by omega))); have M13 := Lib.hid (M12.out.below (by omega) (hc.below (by omega))); have L13 := Lib.hid (L12.out.below (by omega) (hc.below (by omega))); have W13 := Lib.hid (W12.out.below (by omega) (hc.below (by omega))); have a13 := Lib.hid (hc.own a12.out (fun x hx => by have := topa.out x hx; omega)); have b13 := Lib.hid (hc.own b12.out (fun x hx => by have := topb.out x hx; omega)); have G13 := Lib.hid (G12.out.chg hc (by omega)); have q13 := Lib.hid (q12.out.chg hc (fun x hx => by have := topq.out x hx; omega)); clear O12 R12 T12 E12 D12 M12 L12 W12 a12 b12 G12 q12 hc; have u13 := Lib.hid (hO); clear hO; obtain ⟨oc0, oc1, oc2, oc3, oc4, oc5, oc6, oc7, oc8, oc9⟩ := O13.out.ten; have fz := O13.out.warm; obtain ⟨rc0, rc1, rc2, rc3, rc4, rc5, rc6, rc7, rc8, rc9⟩ := R13.out.ten; have fr := R13.out.warm))
 clear rc0 rc1 rc2 rc3 rc4 rc5 rc6 rc7 rc8 rc9 fr
 clear oc0 oc1 oc2 oc3 oc4 oc5 oc6 oc7 oc8 oc9
 clear fz
 obtain ⟨w14, hx⟩ : ∃ x, w13.setCell ⟨w.heap.size, 9, none⟩ (.slice Au r cu) = x := ⟨_, rfl⟩
 have ox : Blk w14 w.heap.size #[.string s, .slice Aa n ca, .slice Ab m cb, .slice Ag q cg, .int .i64 sp, .int .i64 W, .int .i64 t, .int .i64 k, .slice Aq l cq, .slice Au r cu] 37 := by rw [← hx]; exact heapSet (i := 9) O13.out _
 have hc : Chg w.heap.size (w.heap.size + 1) w13 w14 := by rw [← hx]; exact chg_set w13 w.heap.size 9 _
 have hq14 : Hid (w14.heap.size = w13.heap.size) := by show _ = _; rw [← hx]; simp
 rw [hx]
 clear hx
 have s14 : w13.heap.size ≤ w14.heap.size := hc.size
 have sw14 : w.heap.size < w14.heap.size := by omega
 have R14 := Lib.hid (R13.out.chg hc (by omega))
 have T14 := Lib.hid (T13.out.trans ((hc.below (by omega)).mono (by omega)))
 have E14 := Lib.hid (E13.out.below (by omega) (hc.below (by omega)))
 have D14 := Lib.hid (D13.out.below (by omega) (hc.below (by omega)))
 have M14 := Lib.hid (M13.out.below (by omega) (hc.below (by omega)))
 have L14 := Lib.hid (L13.out.below (by omega) (hc.below (by omega)))
 have W14 := Lib.hid (W13.out.below (by omega) (hc.below (by omega)))
 have a14 := Lib.hid (hc.own a13.out (fun x hx => by have := topa.out x hx; omega))
 have b14 := Lib.hid (hc.own b13.out (fun x hx => by have := topb.out x hx; omega))
 have G14 := Lib.hid (G13.out.chg hc (by omega))
 have q14 := Lib.hid (q13.out.chg hc (fun x hx => by have := topq.out x hx; omega))
 have u14 := Lib.hid (u13.out.chg hc (fun x hx => by have := topu.out x hx; omega))
 clear R13 T13 E13 D13 M13 L13 W13 a13 b13 G13 q13 u13 hc
 clear O13
 have O14 := Lib.hid ox
 clear ox
 obtain ⟨oc0, oc1, oc2, oc3, oc4, oc5, oc6, oc7, oc8, oc9⟩ := O14.out.ten
 have fz := O14.out.warm
 obtain ⟨y, hy⟩ : ∃ x, ((((((((((w14.setCell ⟨w.heap.size + 1, 0, none⟩ (.string s)).setCell ⟨w.heap.size + 1, 1, none⟩ (.slice Aa n ca)).setCell ⟨w.heap.size + 1, 2, none⟩ (.slice Ab m cb)).setCell ⟨w.heap.size + 1, 3, none⟩ (.slice Ag q cg)).setCell ⟨w.heap.size + 1, 4, none⟩ (.int .i64 sp)).setCell ⟨w.heap.size + 1, 5, none⟩ (.int .i64 W)).setCell ⟨w.heap.size + 1, 6, none⟩ (.int .i64 t)).setCell ⟨w.heap.size + 1, 7, none⟩ (.int .i64 k)).setCell ⟨w.heap.size + 1, 8, none⟩ (.slice Aq l cq)).setCell ⟨w.heap.size + 1, 9, none⟩ (.slice Au r cu)) = x := ⟨_, rfl⟩
 have ry : Blk y (w.heap.size + 1) #[.string s, .slice Aa n ca, .slice Ab m cb, .slice Ag q cg, .int .i64 sp, .int .i64 W, .int .i64 t, .int .i64 k, .slice Aq l cq, .slice Au r cu] 37 := by rw [← hy]; exact Blk.fill R14.out (.string s) (.slice Aa n ca) (.slice Ab m cb) (.slice Ag q cg) (.int .i64 sp) (.int .i64 W) (.int .i64 t) (.int .i64 k) (.slice Aq l cq) (.slice Au r cu)
 have hc : Chg (w.heap.size + 1) (w.heap.size + 2) w14 y := by rw [← hy]; exact (((((((((((Chg.refl (w.heap.size + 1) (w.heap.size + 2) w14).trans (chg_set w14 (w.heap.size + 1) 0 (.string s))).trans (chg_set (w14.setCell ⟨w.heap.size + 1, 0, none⟩ (.string s)) (w.heap.size + 1) 1 (.slice Aa n ca))).trans (chg_set ((w14.setCell ⟨w.heap.size + 1, 0, none⟩ (.string s)).setCell ⟨w.heap.size + 1, 1, none⟩ (.slice Aa n ca)) (w.heap.size + 1) 2 (.slice Ab m cb))).trans (chg_set (((w14.setCell ⟨w.heap.size + 1, 0, none⟩ (.string s)).setCell ⟨w.heap.size + 1, 1, none⟩ (.slice Aa n ca)).setCell ⟨w.heap.size + 1, 2, none⟩ (.slice Ab m cb)) (w.heap.size + 1) 3 (.slice Ag q cg))).trans (chg_set ((((w14.setCell ⟨w.heap.size + 1, 0, none⟩ (.string s)).setCell ⟨w.heap.size + 1, 1, none⟩ (.slice Aa n ca)).setCell ⟨w.heap.size + 1, 2, none⟩ (.slice Ab m cb)).setCell ⟨w.heap.size + 1, 3, none⟩ (.slice Ag q cg)) (w.heap.size + 1) 4 (.int .i64 sp))).trans (chg_set (((((w14.setCell ⟨w.heap.size + 1, 0, none⟩ (.string s)).setCell ⟨w.heap.size + 1, 1, none⟩ (.slice Aa n ca)).setCell ⟨w.heap.size + 1, 2, none⟩ (.slice Ab m cb)).setCell ⟨w.heap.size + 1, 3, none⟩ (.slice Ag q cg)).setCell ⟨w.heap.size + 1, 4, none⟩ (.int .i64 sp)) (w.heap.size + 1) 5 (.int .i64 W))).trans (chg_set ((((((w14.setCell ⟨w.heap.size + 1, 0, none⟩ (.string s)).setCell ⟨w.heap.size + 1, 1, none⟩ (.slice Aa n ca)).setCell ⟨w.heap.size + 1, 2, none⟩ (.slice Ab m cb)).setCell ⟨w.heap.size + 1, 3, none⟩ (.slice Ag q cg)).setCell ⟨w.heap.size + 1, 4, none⟩ (.int .i64 sp)).setCell ⟨w.heap.size + 1, 5, none⟩ (.int .i64 W)) (w.heap.size + 1) 6 (.int .i64 t))).trans (chg_set (((((((w14.setCell ⟨w.heap.size + 1, 0, none⟩ (.string s)).setCell ⟨w.heap.size + 1, 1, none⟩ (.slice Aa n ca)).setCell ⟨w.heap.size + 1, 2, none⟩ (.slice Ab m cb)).setCell ⟨w.heap.size + 1, 3, none⟩ (.slice Ag q cg)).setCell ⟨w.heap.size + 1, 4, none⟩ (.int .i64 sp)).setCell ⟨w.heap.size + 1, 5, none⟩ (.int .i64 W)).setCell ⟨w.heap.size + 1, 6, none⟩ (.int .i64 t)) (w.heap.size + 1) 7 (.int .i64 k))).trans (chg_set ((((((((w14.setCell ⟨w.heap.size + 1, 0, none⟩ (.string s)).setCell ⟨w.heap.size + 1, 1, none⟩ (.slice Aa n ca)).setCell ⟨w.heap.size + 1, 2, none⟩ (.slice Ab m cb)).setCell ⟨w.heap.size + 1, 3, none⟩ (.slice Ag q cg)).setCell ⟨w.heap.size + 1, 4, none⟩ (.int .i64 sp)).setCell ⟨w.heap.size + 1, 5, none⟩ (.int .i64 W)).setCell ⟨w.heap.size + 1, 6, none⟩ (.int .i64 t)).setCell ⟨w.heap.size + 1, 7, none⟩ (.int .i64 k)) (w.heap.size + 1) 8 (.slice Aq l cq))).trans (chg_set (((((((((w14.setCell ⟨w.heap.size + 1, 0, none⟩ (.string s)).setCell ⟨w.heap.size + 1, 1, none⟩ (.slice Aa n ca)).setCell ⟨w.heap.size + 1, 2, none⟩ (.slice Ab m cb)).setCell ⟨w.heap.size + 1, 3, none⟩ (.slice Ag q cg)).setCell ⟨w.heap.size + 1, 4, none⟩ (.int .i64 sp)).setCell ⟨w.heap.size + 1, 5, none⟩ (.int .i64 W)).setCell ⟨w.heap.size + 1, 6, none⟩ (.int .i64 t)).setCell ⟨w.heap.size + 1, 7, none⟩ (.int .i64 k)).setCell ⟨w.heap.size + 1, 8, none⟩ (.slice Aq l cq)) (w.heap.size + 1) 9 (.slice Au r cu)))
 rw [hy]
 obtain ⟨rc0, rc1, rc2, rc3, rc4, rc5, rc6, rc7, rc8, rc9⟩ := ry.ten
 have sy : w14.heap.size ≤ y.heap.size := hc.size
 have ya := hc.own a14.out (fun x hx => by have := topa.out x hx; omega)
 have yb := hc.own b14.out (fun x hx => by have := topb.out x hx; omega)
 have yq := q14.out.chg hc (fun x hx => by have := topq.out x hx; omega)
 have yu := u14.out.chg hc (fun x hx => by have := topu.out x hx; omega)
 have yg := G14.out.chg hc (by omega)
 have hF : FontO y w0.heap.size w5.heap.size (.agg #[.string s, .slice Aa n ca, .slice Ab m cb]) X.f :=
  ⟨Aa, ca, Ab, cb, w3.heap.size, by rw [HFs.out.1, HFs.out.2.1, HFs.out.2.2], by rw [HFs.out.2.1]; exact ya, by rw [HFs.out.2.1]; exact fun k hk => by have := (topa.out k hk).2; omega, by rw [HFs.out.2.2]; exact yb, by rw [HFs.out.2.2]; exact fun k hk => (topb.out k hk).2, by omega, by omega, Hss.out⟩
 have hX := MchX.build (X := X) (B := w.heap.size) (hi := y.heap.size) hF yg yq (fun k hk => (topq.out k hk).2) yu (fun k hk => (topu.out k hk).2) (by unfold Off; omega) (by unfold Off; omega) (by unfold Off; omega) (by unfold Off; omega) (by unfold Off; omega) (by unfold Off; omega) ⟨by omega, by omega⟩ ⟨by omega, by omega⟩ ⟨by omega, by omega⟩ ⟨by omega, by omega⟩
 simp only [HE.out.1, HE.out.2.1, HE.out.2.2.1, HE.out.2.2.2] at hX ⊢
 refine bodyPost_ret (v := .agg #[.string s, .slice Aa n ca, .slice Ab m cb, .slice Ag q cg, .int .i64 sp, .int .i64 W, .int .i64 t, .int .i64 k, .slice Aq l cq, .slice Au r cu]) (by simp [results, Tryz.results32, go_sem, rc0, rc1, rc2, rc3, rc4, rc5, rc6, rc7, rc8, rc9]) rfl ⟨_, rfl, hX, T14.out.trans (hc.below (by omega) |>.mono (by omega))⟩
end Go.Proofs.YtimhnkpccbcohaaGreatDoor
