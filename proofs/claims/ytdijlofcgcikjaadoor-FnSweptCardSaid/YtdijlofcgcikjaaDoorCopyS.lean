/-
  The model's l2Copy by contract; appending a row to a magazine of the call's own. Condition: lengths of at most 2^20.
-/
import Derived.Test.YtdijlofcgcikjaaDoorCopy
namespace Go.Proofs.YtdijlofcgcikjaaDoor
open Go.RowKit
set_option linter.unusedVariables false

theorem OwnMag.push {w w' : World} {B hi : Nat} {v v' h' : Value} {hs : List Value} {ms : List (List Mat)} {ys : List Mat} (hM : OwnMag w B hi v hs ms) (hhi : hi ≤ w.heap.size) (ho : OwnM w B h' ys) (hf : ∀ k, h'.ownBlock = some k → hi ≤ k)
    (hr : w'.ownsRow B 34 1 v' (ms.length + 1) (hs ++ [h'])) (hg : w.grownBy w' v.ownBlock) (hv : v'.ownBlock = v.ownBlock ∨ ∀ k, v'.ownBlock = some k → w.heap.size ≤ k) : OwnMag w' B w'.heap.size v' (hs ++ [h']) (ms ++ [ys]) := by
  have hsz := hg.size
  have hl := hM.len
  have hne : ∀ k, h'.ownBlock = some k → v.ownBlock ≠ some k := fun k hk e => by have := hf k hk; have := hM.top k e; omega
  have keep : ∀ (u : Value) (zs : List Mat), OwnM w B u zs → (∀ k, u.ownBlock = some k → v.ownBlock ≠ some k) → OwnM w' B u zs := fun u zs hu hk => by
    refine hu.grown hg ?_
    cases hb : u.ownBlock with
    | none => exact .inl rfl
    | some k => exact .inr fun e => hk k hb e.symm
  have key : ∀ (j : Nat) (a : Value), (hs ++ [h'])[j]? = some a → (j < ms.length ∧ hs[j]? = some a) ∨ (j = ms.length ∧ a = h') := fun j a ha => by
    by_cases hlt : j < hs.length
    · rw [List.getElem?_append_left hlt] at ha; exact .inl ⟨by omega, ha⟩
    · rw [List.getElem?_append_right (by omega)] at ha
      have h0 : j - hs.length = 0 := by
        rcases Nat.eq_zero_or_pos (j - hs.length) with h0 | h0
        · exact h0
        · rw [List.getElem?_eq_none (by simp; omega)] at ha; cases ha
      rw [h0] at ha
      simp at ha
      exact .inr ⟨by omega, ha.symm⟩
  refine ⟨by rw [List.length_append]; exact hr, ?_, ?_, ?_, ?_⟩
  · intro j zs hz
    by_cases hlt : j < ms.length
    · rw [List.getElem?_append_left hlt] at hz
      obtain ⟨u, e1, e2⟩ := hM.rows j zs hz
      exact ⟨u, by rw [List.getElem?_append_left (by omega)]; exact e1, keep u zs e2 fun k hk => (hM.other j u k e1 hk).1⟩
    · rw [List.getElem?_append_right (by omega)] at hz
      have h0 : j - ms.length = 0 := by
        rcases Nat.eq_zero_or_pos (j - ms.length) with h0 | h0
        · exact h0
        · rw [List.getElem?_eq_none (by simp; omega)] at hz; cases hz
      rw [h0] at hz
      simp at hz
      subst hz
      exact ⟨h', by rw [List.getElem?_append_right (by omega), show j - hs.length = 0 from by omega]; rfl, keep h' ys ho hne⟩
  · intro i j a b g hi' hj hga hgb
    rcases key i a hi' with ⟨h1, e1⟩ | ⟨h1, e1⟩ <;> rcases key j b hj with ⟨h2, e2⟩ | ⟨h2, e2⟩
    · exact hM.apart i j a b g e1 e2 hga hgb
    · subst e2
      have := (hM.other i a g e1 hga).2
      have := hf g hgb
      omega
    · subst e1
      have := (hM.other j b g e2 hgb).2
      have := hf g hga
      omega
    · omega
  · intro i a g hi' hga
    have hlow : g < w.heap.size ∧ v.ownBlock ≠ some g := by
      rcases key i a hi' with ⟨h1, e1⟩ | ⟨h1, e1⟩
      · have := hM.other i a g e1 hga; exact ⟨by omega, this.1⟩
      · subst e1; exact ⟨(ho.lt g hga).2, hne g hga⟩
    refine ⟨?_, by omega⟩
    rcases hv with e | e
    · rw [e]; exact hlow.2
    · intro e2; have := e g e2; omega
  · intro g hgv
    exact (World.ownsRow.lt hr g hgv).2

section
variable {ops : Array Oper} {rest : List Oper} {o : Oper} {a : Act} {Q : Exit → Act → World → Prop}
set_option maxRecDepth 100000 in
/-- append(m, row) -/
theorem wpl_push_row (w : World) (hg : o.guard = none) (s x : Operand) (ho : o.op = .call { callee := .builtin .append, args := #[s, x], argTypes := #[26, 26] })
    (B hi : Nat) (v : Value) (A : Option Addr) (n c : Nat) (hs : List Value) (ms : List (List Mat)) (ys : List Mat) (hv : a.eval s = v) (hx : a.eval x = .slice (some ⟨w.heap.size, 0, none⟩) 1 1) (hM : OwnMag w B hi v hs ms) (hhi : hi ≤ w.heap.size) (hB : B ≤ w.heap.size) (hlen : ms.length ≤ 1048576)
    (hO : OwnM w B (.slice A n c) ys) (hf : ∀ k, (Value.slice A n c).ownBlock = some k → hi ≤ k)
    (hK : ∀ v' w', OwnMag w' B w'.heap.size v' (hs ++ [.slice A n c]) (ms ++ [ys]) → Below B w w' → wpList Tryd.prog ops Q rest (a.put o.dst v') w') :
    wpList Tryd.prog ops Q (o :: rest) a (w.alloc (.cells #[.slice A n c] 34)) := by
  obtain ⟨i0, hi', hz0, hz1, hz2⟩ := info_parts rowInfo
  refine wpList_append_own_at _ hg s x 26 ho B 34 i0 (.slice none 0 0) 1 24 Tryd.underlying26 hi' hz0 hz1 hz2 rfl (by decide) v ms.length hs hv (World.ownsRow.alloc hM.outer _) ⟨w.heap.size, 0, none⟩ 1 1 [.slice A n c] hx rfl ?_ ?_ (by unfold maxLen; omega) (by omega) (by simp; omega) ?_
  · exact cell_one_new _ _ _
  · intro u hu; simp at hu; subst hu; rfl
  · intro v' w' h1 h2 _ h4
    have hg2 := (World.grownBy_alloc w (.cells #[.slice A n c] 34) v.ownBlock).trans h2
    refine hK v' w' (hM.push hhi hO hf h1 hg2 ?_) ((Below.refl B w).grown hg2 hB fun k hk => (World.ownsRow.lt hM.outer k hk).1)
    rcases h4 with h4 | h4
    · exact .inl h4
    · refine .inr fun k hk => ?_
      rw [h4] at hk
      have e2 := Option.some.inj hk
      simp at e2
      omega
end

set_option maxRecDepth 100000 in
set_option maxHeartbeats 1600000 in
theorem l2Copy_any (lo hi : Nat) (A : Option Addr) (n c : Nat) (ms : List (List Mat)) (w : World) (hn : ms.length = n) (hm : n ≤ 1048576) (hlim : ∀ xs ∈ ms, xs.length ≤ 1048576) (h : MagI w lo hi A ms) (hhi : hi ≤ w.heap.size) :
    Calls Tryd.prog 63 #[.slice A n c] w fun e w' => ∃ v hs, e = .returned v ∧ OwnMag w' w.heap.size w'.heap.size v hs ms ∧ Below w.heap.size w w' := by
  have Hn := Lib.hid hn; have Hlim := Lib.hid hlim; have H := Lib.hid h
  clear hn hlim h
  have hb2 : Below w.heap.size w (w.alloc (.cells #[] 34)) := (Below.refl _ _).alloc (Nat.le_refl _) _
  have hM2 : OwnMag (w.alloc (.cells #[] 34)) w.heap.size (w.alloc (.cells #[] 34)).heap.size (.slice (some ⟨w.heap.size, 0, none⟩) 0 0) [] [] :=
    ⟨World.ownsRow_lit w #[] 0 (Nat.le_refl _) (Nat.zero_le _) rfl, fun j xs h => by simp at h, fun i j h h' g e => by simp at e, fun i h g e => by simp at e, fun g h => by have := Option.some.inj h; simp at this ⊢; omega⟩
  have HM2 := Lib.hid hM2; have HB2 := Lib.hid hb2
  clear hM2 hb2
  go_enter Tryd.func63, Tryd.ntmps63
  go_wp2
  go_loopw [3, 9] (fun st i wr => ∃ (k : Nat) (hs : List Value) (A2 : Option Addr) (c2 : Nat), k ≤ n ∧ i = .int .i64 k ∧ st = .slice A2 k c2 ∧ OwnMag wr w.heap.size wr.heap.size (.slice A2 k c2) hs (ms.take k) ∧ Below w.heap.size w wr) (fun _ i _ => n - (intOf i).toNat)
  case atStart => exact ⟨0, [], _, _, Nat.zero_le _, rfl, rfl, HM2.out, HB2.out⟩
  case round =>
    clear HM2 HB2
    obtain ⟨k, hs, A2, c2, hk, rfl, rfl, hM, hb⟩ := hrel
    by_cases hkn : k < n
    · obtain ⟨ad, xs, Aj, cj, rfl, hx, hc, hcap, hcm, hI⟩ := (H.out.below hhi hb).at_ (k := k) (by rw [Hn.out]; exact hkn)
      have hxl := Hlim.out xs (List.mem_of_getElem? hx.out)
      have HM3 := Lib.hid hM; have HB3 := Lib.hid hb
      have hbz := hb.size
      have hb4 : Below wr.heap.size wr (wr.alloc (.cells #[] 30)) := (Below.refl _ _).alloc (Nat.le_refl _) _
      have HI := Lib.hid (hI.keep (w' := wr.alloc (.cells #[] 30)) (fun p _ h2 => hb4.cell (by omega)))
      have HE := Lib.hid (show OwnM (wr.alloc (.cells #[] 30)) wr.heap.size (.slice (some ⟨wr.heap.size, 0, none⟩) 0 0) [] from World.ownsRow_lit wr #[] 0 (Nat.le_refl _) (Nat.zero_le _) rfl)
      have htk : (ms.take k).length = k := by rw [List.length_take, Hn.out]; omega
      clear hM hb hI hcap hcm
      go_wp2_with (first
        | (at_builtin; refine wpl_copy_mat _ rfl (.tmp 14) (.tmp 15) rfl wr.heap.size lo hi (.slice (some ⟨wr.heap.size, 0, none⟩) 0 0) xs _ xs.length _ rfl HE.out (by simp) rfl rfl HI.out hxl ?_; intro v5 w5 hO5 hg5 hf5; obtain ⟨A5, c5, rfl, -⟩ := hO5.form; have hb5 : Below wr.heap.size wr w5 := hb4.trans ((Below.refl _ _).grown hg5 (by simp) (fun k hk => (HE.out.lt k hk).1)); have HM5 := Lib.hid (HM3.out.below hb5); have HO5 := Lib.hid hO5; have HB5 := Lib.hid hb5; have s5 := hb5.size; clear hO5 hg5 hf5 hb5)
        | (at_builtin; refine wpl_push_row _ rfl (.tmp 13) (.tmp 17) rfl w.heap.size wr.heap.size _ _ _ _ _ _ xs rfl rfl HM5.out s5 (by omega) (by omega) (HO5.out.base hbz) (fun k hk => (HO5.out.lt k hk).1) ?_; intro v6 w6 hM6 hb6; rw [← ttake_at hx.out] at hM6; obtain ⟨A6, c6, hv6, -⟩ := hM6.form; have e6 : (ms.take (k + 1)).length = k + 1 := (by rw [List.length_take, Hn.out]; omega); rw [e6] at hv6; subst hv6; have HM6 := Lib.hid hM6; have HB6 := Lib.hid ((HB3.out.trans (HB5.out.mono hbz)).trans hb6); clear hM6 hb6))
      go_roundw
      case rel => exact ⟨k + 1, _, _, _, by omega, by go_num, rfl, HM6.out, HB6.out⟩
      case measure => simp [intOf]; omega
    · have hkn2 : k = n := by omega
      subst hkn2
      have HM3 := Lib.hid hM; have HB3 := Lib.hid hb
      clear hM hb
      go_wp2
      go_ret
      refine ⟨_, hs, rfl, ?_, HB3.out⟩
      have := HM3.out
      rw [ttake_all Hn.out] at this
      exact this
end Go.Proofs.YtdijlofcgcikjaaDoor
