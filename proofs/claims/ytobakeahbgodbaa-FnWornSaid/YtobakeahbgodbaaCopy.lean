/-
  The program's copyOf by contract; appending a list of matrices to an empty row. Condition: lengths of at most 2^20.
-/
import Derived.Test.YtobakeahbgodbaaMagW
namespace Go.Proofs.Ytobakeahbgodbaa
open Go.RowKit
set_option linter.unusedVariables false

theorem run_append_none_any {P : Program} {w : World} (base : Nat) (t ty e : TypeId) (i : TypeInfo) (size : Nat) (ht : P.underlying t = some (.slice e)) (hi : P.info? e = some i)
    (v : Value) (n c : Nat) (xs : List Value) (hown : w.ownsRow base e size v n xs) :
    (Builtin.append_ #[t, t] ty #[v, .slice none 0 c]).run P w = .ok v w := by
  rcases hown.2 with ⟨rfl, rfl⟩ | ⟨g, cap, cur, rfl, _, _, hnc, _⟩
  · simp [Builtin.append_, run_underlying ht, sizeOf, typeInfo, hi, Builtin.lenOf, Builtin.firstCells]
  · simp [Builtin.append_, run_underlying ht, sizeOf, typeInfo, hi, Builtin.lenOf, Builtin.firstCells, hnc, storeCells]

section
variable {ops : Array Oper} {rest : List Oper} {o : Oper} {a : Act} {Q : Exit → Act → World → Prop}
set_option maxRecDepth 100000 in
/-- append(an empty row, ys...) -/
theorem wpl_copy_mat (w : World) (hg : o.guard = none) (s x : Operand) (ho : o.op = .call { callee := .builtin .append, args := #[s, x], argTypes := #[32, 32] })
    (B lo hi : Nat) (v : Value) (ys : List Mat) (A : Option Addr) (m c : Nat) (hs : a.eval s = v) (hown : OwnM w B v []) (hB : B ≤ w.heap.size) (hx : a.eval x = .slice A m c) (hm : ys.length = m) (hI : MatsI w lo hi A ys) (hlen : m ≤ 1048576)
    (hK : ∀ v' w', OwnM w' B v' ys → w.grownBy w' v.ownBlock → (v'.ownBlock = v.ownBlock ∨ ∀ k, v'.ownBlock = some k → w.heap.size ≤ k) → wpList Try.prog ops Q rest (a.put o.dst v') w') :
    wpList Try.prog ops Q (o :: rest) a w := by
  obtain ⟨i0, hi, hz0, hz1, hz2⟩ := info_parts matInfo
  cases A with
  | none =>
    have hm0 : m = 0 := by
      rcases Nat.eq_zero_or_pos m with h | h
      · exact h
      · obtain ⟨ad, e, _⟩ := hI (by omega); cases e
    subst hm0
    have hy : ys = [] := List.eq_nil_of_length_eq_zero hm
    subst hy
    refine wpList_plain hg fun K hK' => ?_
    have hrun := run_append_none_any (P := Try.prog) (w := w) B 32 o.type 34 i0 2 Try.underlying32 hi v 0 c [] hown
    unfold Oper.wp
    simp [execOp, ho, resolve, invoke, builtin, hs, hx, hrun, Result.andThen]
    exact hK' _ _ (hK v w hown (World.grownBy.refl w _) (.inl rfl))
  | some ad =>
    refine wpList_append_own_at _ hg s x 32 ho B 34 i0 (.agg #[.int .i64 0, .int .i64 0]) 2 16 Try.underlying32 hi hz0 hz1 hz2 rfl (by decide) v 0 [] hs hown ad m c (mcells ys) hx (by rw [mcells_len, hm]) ?_ ?_ (by unfold maxLen; omega) (by omega) hB ?_
    · intro j u hj
      have hjl : j < m * 2 := by
        have := (List.getElem?_eq_some_iff.1 hj).1
        rw [mcells_len, hm] at this; exact this
      obtain ⟨ad', e, _, _, hc⟩ := hI (by omega)
      obtain rfl := Option.some.inj e
      have hy : ys[j / 2]? = some (ys[j / 2]'(by omega)) := List.getElem?_eq_getElem (by omega)
      obtain ⟨c1, c2⟩ := hc (j / 2) _ hy
      obtain ⟨g1, g2⟩ := mcells_get hy
      rcases Nat.mod_two_eq_zero_or_one j with h0 | h0
      · have e2 : j / 2 * 2 = j := by omega
        rw [e2] at c1 g1
        rw [hj] at g1
        injection g1 with g1
        rw [c1, g1]
      · have e2 : j / 2 * 2 + 1 = j := by omega
        rw [e2] at c2 g2
        rw [hj] at g2
        injection g2 with g2
        rw [c2, g2]
    · intro u hu
      unfold mcells at hu
      rw [List.mem_flatMap] at hu
      obtain ⟨y, _, hu⟩ := hu
      simp at hu
      rcases hu with rfl | rfl <;> rfl
    · intro v' w' h1 h2 _ h4
      refine hK v' w' ?_ h2 ?_
      · unfold OwnM
        rw [hm]
        simpa using h1
      · rcases h4 with h4 | h4
        · exact .inl h4
        · refine .inr fun k hk => ?_
          rw [h4] at hk
          have e2 := Option.some.inj hk
          omega
end

theorem grown_none {w w' : World} (h : w.grownBy w' (Value.slice none 0 0).ownBlock) (row : Option Nat) : w.grownBy w' row := ⟨h.os, h.tape, h.output, h.size, fun b h1 _ => h.block b h1 (fun e => by cases e)⟩
theorem fresh_none {u : Value} {b : Nat} (h : u.ownBlock = (Value.slice none 0 0).ownBlock ∨ ∀ k, u.ownBlock = some k → b ≤ k) : ∀ k, u.ownBlock = some k → b ≤ k := by
  rcases h with e | e
  · intro k hk
    rw [e] at hk
    cases hk
  · exact e

/-- the first k rows, and empty ones -/
def halfMM (ms : List (List Mat)) (n k : Nat) : List (List Mat) := ms.take k ++ List.replicate (n - k) []
theorem halfMM_len {ms : List (List Mat)} {n k : Nat} (hn : ms.length = n) (h : k ≤ n) : (halfMM ms n k).length = n := by unfold halfMM; simp; omega
theorem halfMM_get {ms : List (List Mat)} {n k : Nat} (hn : ms.length = n) (h : k < n) : (halfMM ms n k)[k]? = some [] := by
  unfold halfMM
  rw [List.getElem?_append_right (by simp; omega), List.length_take, List.getElem?_replicate, if_pos (by omega)]
theorem halfMM_set {ms : List (List Mat)} {n k : Nat} {xs : List Mat} (hn : ms.length = n) (hx : ms[k]? = some xs) : (halfMM ms n k).set k xs = halfMM ms n (k + 1) := by
  have h := (List.getElem?_eq_some_iff.1 hx).1
  unfold halfMM
  have hl : (ms.take k).length = k := by rw [List.length_take]; omega
  rw [List.set_append, if_neg (by omega), hl, Nat.sub_self, ttake_at hx, List.append_assoc]
  have : n - k = (n - (k + 1)) + 1 := by omega
  rw [this, List.replicate_succ, List.set_cons_zero]
  rfl

set_option maxRecDepth 100000 in
set_option maxHeartbeats 1600000 in
theorem copyOf_any (lo hi : Nat) (A : Option Addr) (n c : Nat) (ms : List (List Mat)) (w : World) (hn : ms.length = n) (hm : n ≤ 1048576) (hlim : ∀ xs ∈ ms, xs.length ≤ 1048576) (h : MagI w lo hi A ms) (hhi : hi ≤ w.heap.size) :
    Calls Try.prog 53 #[.slice A n c] w fun e w' => ∃ v hs, e = .returned v ∧ OwnMag w' w.heap.size w'.heap.size v hs ms ∧ Below w.heap.size w w' := by
  have Hn := Lib.hid hn; have Hlim := Lib.hid hlim; have H := Lib.hid h
  clear hn hlim h
  go_enter Try.func53, Try.ntmps53
  go_wp2_with (at_make; refine wpl_make_mag _ rfl (.tmp 7) rfl n _ rfl rfl (by omega) ?_; intro w2 hM2 hb2 hz2)
  have HM2 := Lib.hid hM2; have HB2 := Lib.hid hb2
  clear hM2 hb2
  go_loopw [11] (fun i wr => ∃ (k : Nat) (hs : List Value), k ≤ n ∧ i = .int .i64 k ∧ OwnMag wr w.heap.size wr.heap.size (.slice (some ⟨w.heap.size, 0, none⟩) n n) hs (halfMM ms n k) ∧ Below w.heap.size w wr ∧ w.heap.size < wr.heap.size) (fun i _ => n - (intOf i).toNat)
  case atStart => exact ⟨0, _, Nat.zero_le _, rfl, by simpa [halfMM] using HM2.out, HB2.out, hz2⟩
  case round =>
    clear HM2 HB2
    obtain ⟨k, hs, hk, rfl, hM, hb, hz⟩ := hrel
    by_cases hkn : k < n
    · obtain ⟨ad, xs, Aj, cj, rfl, hx, hc, hcap, hcm, hI⟩ := (H.out.below hhi hb).at_ (k := k) (by rw [Hn.out]; exact hkn)
      obtain ⟨h0, hh0, hO0⟩ := hM.rows k _ (halfMM_get Hn.out hkn)
      have ho := hM.outer
      rw [halfMM_len Hn.out hk] at ho
      have hxl := Hlim.out xs (List.mem_of_getElem? hx.out)
      have HH0 := Lib.hid hh0; have HM3 := Lib.hid hM; have HB3 := Lib.hid hb; have HI := Lib.hid hI
      have d1 := (ho.cellAt k (by omega)).trans hh0
      have f1 := ho.frozenAt k
      have hbz := hb.size
      clear hh0 hM hb ho hI hcap hcm
      go_wp2_with (at_builtin; refine wpl_copy_mat _ rfl (.const (.slice none 0 0)) (.tmp 18) rfl w.heap.size lo hi (.slice none 0 0) xs _ xs.length _ rfl (World.ownsRow_nil _ _ _ _) hbz rfl rfl HI.out hxl ?_; intro v5 w5 hO5 hg5 hf5; have hg6 := grown_none hg5 h0.ownBlock; have hk5 := HM3.out.kept HH0.out hg6; rw [halfMM_len Hn.out hk] at hk5; have hst := HM3.out.store (halfMM_get Hn.out hkn) HH0.out hg6 hO5 (.inr (fresh_none hf5)) (Nat.le_refl _); rw [halfMM_set Hn.out hx.out] at hst; obtain ⟨A5, c5, rfl, -⟩ := hO5.form; have d5 := (hk5.cellAt k (by omega)).trans HH0.out; have f5 := hk5.frozenAt k; have HST := Lib.hid hst; have HBE := Lib.hid ((HB3.out.trans ((Below.refl _ _).grown hg5 hbz (fun g hg => by cases hg))).setCell (p := ⟨w.heap.size, k, none⟩) (Nat.le_refl _) (.slice A5 xs.length c5)); have HZE := Lib.hid (show w.heap.size < (w5.setCell ⟨w.heap.size, k, none⟩ (.slice A5 xs.length c5)).heap.size by have := hg5.size; simp only [World.setCell, Array.size_modify]; omega); clear hst hg5 hg6 hO5 hf5)
      go_roundw
      case rel => exact ⟨k + 1, _, by omega, by go_num, HST.out, HBE.out, HZE.out⟩
      case measure => simp [intOf]; omega
    · have hkn2 : k = n := by omega
      subst hkn2
      have HM3 := Lib.hid hM; have HB3 := Lib.hid hb
      clear hM hb
      go_wp2
      go_ret
      refine ⟨_, hs, rfl, ?_, HB3.out⟩
      have := HM3.out
      unfold halfMM at this
      rw [ttake_all Hn.out] at this
      simpa using this
end Go.Proofs.Ytobakeahbgodbaa
