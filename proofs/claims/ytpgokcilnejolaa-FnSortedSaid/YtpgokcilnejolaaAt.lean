/-
  FnOrders: reads of its input, the step of an append. No condition.
-/
import Derived.Test.YtpgokcilnejolaaCntI
import Derived.Deep.RegionLaw
import Derived.Outline
namespace Go.Proofs.Ytpgokcilnejolaa
open Go.RowKit
set_option linter.unusedVariables false

theorem at0 (A : Option Addr) (n c : Nat) (bs : List Int) (w : World) (hn : bs.length = n) (hm : n ≤ 1048576) (h : Bytes w A bs) (wf : ∀ z ∈ bs, (Lit.int .u8 z).wf = true) :
    Calls Try.prog 37 #[.slice A n c, .int .i64 0] w fun e w' => ∃ x : Nat, e = .returned (.int .i64 x) ∧ x < 256 ∧ w = w' := by
  have Hn := Lib.hid hn; have Hwf := Lib.hid wf; clear hn wf
  by_cases hp : 0 < n
  · obtain ⟨ad, rfl, hc⟩ := h (by rw [Hn.out]; exact hp)
    have hc0 := hc 0 (by rw [Hn.out]; exact hp)
    obtain ⟨b0, b1⟩ := u8_bd (Hwf.out (bs.getD 0 0) (by
      have hl : 0 < bs.length := by rw [Hn.out]; exact hp
      simp only [List.getD, List.getElem?_eq_getElem hl, Option.getD_some]; exact List.getElem_mem hl))
    obtain ⟨b, hb⟩ := Int.eq_ofNat_of_zero_le b0
    rw [hb] at hc0 b1
    rw [show ad.add 0 = ad from by simp [Addr.add]] at hc0
    clear hc b0 hb h
    go_enter Try.func37, Try.ntmps37
    go_wp2
    go_ret
    exact ⟨b, rfl, by omega, rfl⟩
  · have hn0 : n = 0 := by omega
    subst hn0
    go_enter Try.func37, Try.ntmps37
    go_wp2
    go_ret
    exact ⟨0, rfl, by omega, rfl⟩
theorem at1 (A : Option Addr) (n c : Nat) (bs : List Int) (w : World) (hn : bs.length = n) (hm : n ≤ 1048576) (h : Bytes w A bs) (wf : ∀ z ∈ bs, (Lit.int .u8 z).wf = true) :
    Calls Try.prog 37 #[.slice A n c, .int .i64 1] w fun e w' => ∃ x : Nat, e = .returned (.int .i64 x) ∧ x < 256 ∧ w = w' := by
  have Hn := Lib.hid hn; have Hwf := Lib.hid wf; clear hn wf
  by_cases hp : 1 < n
  · obtain ⟨ad, rfl, hc⟩ := h (by rw [Hn.out]; omega)
    have hc0 := hc 1 (by rw [Hn.out]; exact hp)
    obtain ⟨b0, b1⟩ := u8_bd (Hwf.out (bs.getD 1 0) (by
      have hl : 1 < bs.length := by rw [Hn.out]; exact hp
      simp only [List.getD, List.getElem?_eq_getElem hl, Option.getD_some]; exact List.getElem_mem hl))
    obtain ⟨b, hb⟩ := Int.eq_ofNat_of_zero_le b0
    rw [hb] at hc0 b1
    rw [show ad.add 1 = { block := ad.block, off := ad.off + 1 } from rfl] at hc0
    clear hc b0 hb h
    go_enter Try.func37, Try.ntmps37
    go_wp2
    go_ret
    exact ⟨b, rfl, by omega, rfl⟩
  · have hn0 : n = 0 ∨ n = 1 := by omega
    rcases hn0 with rfl | rfl
    · go_enter Try.func37, Try.ntmps37
      go_wp2
      go_ret
      exact ⟨37, rfl, by omega, rfl⟩
    · go_enter Try.func37, Try.ntmps37
      go_wp2
      go_ret
      exact ⟨48, rfl, by omega, rfl⟩

/-- append onto a row of the call's own, as one step of a region that draws -/
theorem step_app {ops : Array Oper} {o : Oper} {a : Act} {w : World} {K : Act → World → Prop} {Q : Exit → Act → World → Prop} {E : Prop} (hg : o.guard = none) (s x : Operand)
    (ho : o.op = .call { callee := .builtin .append, args := #[s, x], argTypes := #[23, 23] })
    (B : Nat) (v : Value) (zs ys : List Int) (ad : Addr) (m c : Nat) (hs : a.eval s = v) (hx : a.eval x = .slice (some ad) m c) (hm : ys.length = m) (hI : Ints w (some ad) ys) (hown : Own w B v zs) (hB : B ≤ w.heap.size) (hlen : zs.length + m ≤ 1048576)
    (hK : ∀ v' w', Own w' B v' (zs ++ ys) → Below B w w' → K (a.put o.dst v') w') :
    if Region.wanted o (yielded ops a.tmps) = true then Oper.wp Try.prog o a w K Q else E := by
  have hw : Region.wanted o (yielded ops a.tmps) = true := by simp [Region.wanted, hg]
  rw [if_pos hw]
  obtain ⟨i0, hi, hz0, hz1, hz2⟩ := info_parts intInfo
  refine wp_append_own w s x 23 ho B 3 i0 (.int .i64 0) 1 8 Try.underlying23 hi hz0 hz1 hz2 rfl (by decide) v zs.length (zs.map (Value.int .i64)) hs hown ad m c (ys.map (Value.int .i64)) hx (by simp [hm]) ?_ ?_ (by unfold maxLen; omega) (by omega) hB ?_
  · intro j u hj
    rw [List.getElem?_map] at hj
    cases hy : ys[j]? with
    | none => rw [hy] at hj; cases hj
    | some y =>
      rw [hy] at hj
      simp at hj; subst hj
      obtain ⟨ad', e, hc⟩ := hI (by have := lt_at hy; omega)
      obtain rfl := Option.some.inj e
      rw [hc j (lt_at hy), getD_at hy]
  · intro u hu
    obtain ⟨y, _, rfl⟩ := List.mem_map.1 hu
    rfl
  · intro v' w' h1 h2 _
    refine hK v' w' ?_ ((Below.refl B _).grown h2 hB (fun k hk => (World.ownsRow.lt hown k hk).1))
    unfold Own
    rw [List.map_append, List.length_append, hm]
    exact h1
end Go.Proofs.Ytpgokcilnejolaa
