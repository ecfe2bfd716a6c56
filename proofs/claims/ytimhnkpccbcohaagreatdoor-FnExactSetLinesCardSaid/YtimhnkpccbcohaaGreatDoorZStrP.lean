/-
 Appending to a row of strings of the call's own. Conditions: lengths of at most 2^20.
-/
import Derived.Test.YtimhnkpccbcohaaGreatDoorZStr
import Derived.Test.YtimhnkpccbcohaaGreatDoorZPkH
namespace Go.Proofs.YtimhnkpccbcohaaGreatDoor
open Go.RowKit
set_option linter.unusedVariables false

section
variable {ops : Array Oper} {rest : List Oper} {o : Oper} {a : Act} {Q : Exit → Act → World → Prop}
end
set_option maxRecDepth 100000 in
theorem appends_lie {base : Nat} {v v' : Value} {n : Nat} {xs news : List Value} {w w' : World} {ty : TypeId} (i : TypeInfo) (hi : Tryz.prog.info? 9 = some i) (hz : i.zero = some (.string ByteArray.empty)) (hsz : i.size = 1) (hby : i.bytes = 16)
  (hown : w.ownsRow base 9 1 v n xs) (ad : Addr) (m c : Nat) (hl : news.length = m * 1) (hnews : ∀ j u, news[j]? = some u → w.cell? (ad.add j) = some u) (h1 : ∀ u ∈ news, u.oneCell' = true)
  (hn : n + m ≤ 4194304) (hr : (Builtin.append_ #[51, 51] ty #[v, .slice (some ad) m c]).run Tryz.prog w = .ok v' w') : v'.ownBlock = v.ownBlock ∨ v'.ownBlock = some w.heap.size := by
 rcases hown.2 with ⟨rfl, rfl⟩ | ⟨g, cap, cur, rfl, hbg, hg, hnc, hcm, hcs, htake⟩
 ·by_cases hm : m = 0
  ·left
   subst hm
   have hn0 : news = [] := List.eq_nil_of_length_eq_zero (by simpa using hl)
   subst hn0
   have hu := Tryz.underlying51
   simp [Builtin.append_, run_underlying hu, sizeOf, typeInfo, hi, Builtin.lenOf, Builtin.firstCells, loadCells, loadCellsFrom] at hr
   rw [← hr.1]
  ·right
   have hr2 := run_append_nil (P := Tryz.prog) w 51 ty 9 i (.string ByteArray.empty) Tryz.underlying51 hi hz ad m c news (by rw [hsz]; exact hl) hnews (by omega) (by omega) (by rw [hby]; omega)
   rw [hr] at hr2
   injection hr2 with e1 e2
   rw [e1]; rfl
 ·by_cases hroom : n + m ≤ cap
  ·left
   have hr2 := run_append_room (P := Tryz.prog) w 51 ty 9 i Tryz.underlying51 hi g n cap cur hg ad m c news (by rw [hsz]; exact hl) hnews h1 hroom (by rw [hsz, hl, hcs]; omega)
   rw [hr] at hr2
   injection hr2 with e1 e2
   rw [e1]; rfl
  ·right
   have hr2 := run_append_grow (P := Tryz.prog) w 51 ty 9 i (.string ByteArray.empty) Tryz.underlying51 hi hz ⟨g, 0, none⟩ n cap xs (by rw [hsz]; exact hown.1) (hown.cells (g := g) rfl) ad m c news (by rw [hsz]; exact hl) hnews (by omega) (by omega) (growslice_fits (by omega) (by rw [hby]; omega))
   rw [hr] at hr2
   injection hr2 with e1 e2
   rw [e1]; rfl

section
variable {ops : Array Oper} {rest : List Oper} {o : Oper} {a : Act} {Q : Exit → Act → World → Prop}
/-- append(s, xs...), where the row lies told; xs not empty -/
theorem wpls_append2 (w : World) (hg : o.guard = none) (s x : Operand) (ho : o.op = .call { callee := .builtin .append, args := #[s, x], argTypes := #[51, 51] })
  (B : Nat) (v : Value) (zs ys : List ByteArray) (A : Option Addr) (m c : Nat) (hs : a.eval s = v) (hx : a.eval x = .slice A m c) (hm : ys.length = m) (hpos : 0 < m) (hI : Strs w A ys) (hown : OwnS w B v zs) (hB : B ≤ w.heap.size) (hlen : zs.length + m ≤ 2097152)
  (hK : ∀ v' w', OwnS w' B v' (zs ++ ys) → w.grownBy w' v.ownBlock → (v'.ownBlock = v.ownBlock ∨ v'.ownBlock = some w.heap.size) → wpList Tryz.prog ops Q rest (a.put o.dst v') w') :
  wpList Tryz.prog ops Q (o :: rest) a w := by
 obtain ⟨i0, hi, hz0, hz1, hz2⟩ := info_parts strInfo
 obtain ⟨ad, rfl, hc⟩ := hI (by omega)
 refine wpList_plain hg fun K hK' => ?_
 have hl : (ys.map (Value.string)).length = m * 1 := by simp [hm]
 have hnews : ∀ j u, (ys.map (Value.string))[j]? = some u → w.cell? (ad.add j) = some u := by
  intro j u hj
  rw [List.getElem?_map] at hj
  cases hy : ys[j]? with
  | none => rw [hy] at hj; cases hj
  | some y =>
   rw [hy] at hj
   simp at hj; subst hj
   rw [hc j (slt_at hy), sgetD_at hy]
 have h1 : ∀ u ∈ ys.map (Value.string), u.oneCell' = true := by
  intro u hu
  obtain ⟨y, _, rfl⟩ := List.mem_map.1 hu
  rfl
 obtain ⟨v', w', hr, h2, h3, h4⟩ := run_append_own (P := Tryz.prog) w B 51 o.type 9 i0 (.string ByteArray.empty) 1 16 Tryz.underlying51 hi hz0 hz1 hz2 rfl (by decide) v zs.length (zs.map (Value.string)) hown ad m c _ hl hnews h1 (by unfold maxLen; omega) (by omega) hB
 have hlie := appends_lie i0 hi hz0 hz1 hz2 hown ad m c hl hnews h1 (by omega) hr
 unfold Oper.wp execOp
 simp only [ho, resolve, invoke, builtin, Sem.run_bind, Sem.run_pure, Result.andThen_ok, List.map_toArray, List.map_cons, List.map_nil, hs, hx, hr]
 refine hK' _ _ (hK v' w' ?_ h3 hlie)
 unfold OwnS
 rw [List.map_append, List.length_append, hm]
 exact h2

/-- append(s, q), where the row lies told -/
theorem wpls_push2 (w : World) (hg : o.guard = none) (s x : Operand) (ho : o.op = .call { callee := .builtin .append, args := #[s, x], argTypes := #[51, 51] })
  (B : Nat) (v : Value) (zs : List ByteArray) (q : ByteArray) (hs : a.eval s = v) (hx : a.eval x = .slice (some ⟨w.heap.size, 0, none⟩) 1 1) (hown : OwnS w B v zs) (hB : B ≤ w.heap.size) (hlen : zs.length ≤ 1048576)
  (hK : ∀ v' w', OwnS w' B v' (zs ++ [q]) → w.grownBy w' v.ownBlock → (∀ g, v'.ownBlock = some g → v.ownBlock = some g ∨ w.heap.size ≤ g) → wpList Tryz.prog ops Q rest (a.put o.dst v') w') :
  wpList Tryz.prog ops Q (o :: rest) a (w.alloc (.cells #[.string q] 9)) := by
 refine wpls_append2 _ hg s x ho B v zs [q] (some ⟨w.heap.size, 0, none⟩) 1 1 hs hx rfl (by omega) (fun _ => ⟨_, rfl, fun j hj => ?_⟩) (World.ownsRow.alloc hown _) (by simp; omega) (by omega) (fun v' w' h2 h3 h4 => hK v' w' h2 (grown_trans (World.grownBy_alloc w _ _) h3) (fun g hg' => ?_))
 ·have : j = 0 := by simp at hj; exact hj
  subst this
  rw [add_zero_at, World.cell?_alloc_at _ _ _ _ rfl]
  rfl
 ·rcases h4 with h4 | h4
  ·left; rw [← h4]; exact hg'
  ·right; rw [h4] at hg'; injection hg' with hg'; rw [← hg', World.size_alloc]; omega
end
section
variable {ops : Array Oper} {rest : List Oper} {o : Oper} {a : Act} {Q : Exit → Act → World → Prop}
end

end Go.Proofs.YtimhnkpccbcohaaGreatDoor
