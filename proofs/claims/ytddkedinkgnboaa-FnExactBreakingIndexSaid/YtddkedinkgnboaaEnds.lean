/-
  The program's iterator 'ends': whatever the loop's body, as long as it keeps the setting, the word and the words. Conditions: the measure is one, the words are a text, the word lies in it.
-/
import Derived.RangeFuncNested
import Derived.RangeFuncBound
import Derived.RangeFuncCalls
import Derived.RangeFuncLeaves
import Derived.Shelf.Abstract
import Derived.Shelf.RegionOpen
import Derived.WalkKit
import Derived.OwnWalkIn
import Derived.TacticsInMore
import Derived.LoopNIn
import Derived.LoopIn
import Derived.Test.YtddkedinkgnboaaEndsM
namespace Go.Proofs.Ytddkedinkgnboaa
open Go.RowKit Go.Shelf
set_option linter.unusedVariables false
attribute [local go_sem] Oper.semAt_some

theorem below_grown0 {w w' : World} (h : Below w.heap.size w w') : w.grownBy w' none := ⟨h.os, h.tape, h.output, h.size, fun k hk _ => h.block k hk⟩

theorem ends_any (W t k : Int) (ad : Addr) (n c a : Nat) (w : World) :
    Calls Try.prog 54 #[stV W t k ad n c, .int .i64 a] w fun e w' => e = .returned (.func (.func 74) #[] #[.pointer (some ⟨w.heap.size + 1, 0, none⟩), .pointer (some ⟨w.heap.size, 0, none⟩)]) ∧ w' = (w.alloc (.cells #[.int .i64 W, .int .i64 t, .int .i64 k, .slice (some ad) n c] 59)).alloc (.cells #[.int .i64 a] 3) := by
  have hmf : ∀ (fn : Fn) (first cap : Array Value) (w : World), (Instr.makeFunc fn first cap).run Try.prog w = .ok (.func fn first cap) w := fun _ _ _ _ => rfl
  go_enter Try.func54, Try.ntmps54
  go_wp2
  go_ret
  exact ⟨rfl, rfl⟩

/-- what a round keeps: the setting's and the word's box (blocks b, b + 1), and what lies below g -/
def KpE (b g : Nat) (w w' : World) : Prop := w.heap.size ≤ w'.heap.size ∧ ∀ p : Addr, (p.block = b ∨ p.block = b + 1 ∨ p.block < g) → p.block < w.heap.size → w'.cell? p = w.cell? p
theorem KpE.refl (b g : Nat) (w : World) : KpE b g w w := ⟨Nat.le_refl _, fun _ _ _ => rfl⟩
theorem KpE.trans {b g : Nat} {A B C : World} (h : KpE b g A B) (k : KpE b g B C) : KpE b g A C := ⟨Nat.le_trans h.1 k.1, fun p hp hb => (k.2 p hp (Nat.lt_of_lt_of_le hb h.1)).trans (h.2 p hp hb)⟩
theorem KpE.below {b g : Nat} {w w' : World} (h : Below w.heap.size w w') : KpE b g w w' := ⟨h.size, fun p _ hb => h.cell hb⟩
theorem KpE.st {b g : Nat} {w w' : World} {W t k : Int} {s : Value} (hb : b < w.heap.size) (h : KpE b g w w') (hs : St w b W t k s) : St w' b W t k s :=
  ⟨(h.2 ⟨b, 0, none⟩ (.inl rfl) hb).trans hs.1, (h.2 ⟨b, 1, none⟩ (.inl rfl) hb).trans hs.2.1, (h.2 ⟨b, 2, none⟩ (.inl rfl) hb).trans hs.2.2.1, (h.2 ⟨b, 3, none⟩ (.inl rfl) hb).trans hs.2.2.2⟩
theorem KpE.ints {b g : Nat} {w w' : World} {A : Option Addr} {zs : List Int} (h : KpE b g w w') (hs : IntsB w g A zs) : IntsB w' g A zs := fun hn => by
  obtain ⟨ad, e, hl, hc⟩ := hs hn
  exact ⟨ad, e, hl, fun j hj => (h.2 _ (.inr (.inr (by rw [block_add]; exact hl))) (World.block_lt_of_cell? _ _ (hc j hj))).trans (hc j hj)⟩

set_option maxRecDepth 100000 in
set_option maxHeartbeats 3200000 in
theorem ends_stops (N : Nat) (hN : 1 ≤ N) (W t k : Int) (ad : Addr) (n c a b g : Nat) (zs : List Int) (w : World) (hn : zs.length = n) (hc : n ≤ c) (hcm : c ≤ maxLen) (hm : msrB ⟨W, t, k⟩ = true) (ht : textB zs = true) (ha : a < n)
    (hI : IntsB w g (some ad) zs) (hS : St w b W t k (.slice (some ad) n c)) (hA : w.cell? ⟨b + 1, 0, none⟩ = some (.int .i64 a)) (hb : b + 1 < w.heap.size) :
    SeqStopsK Fence.wide N Try.prog 74 #[.pointer (some ⟨b + 1, 0, none⟩), .pointer (some ⟨b, 0, none⟩)] (fun x : EndT ⟨W, t, k⟩ zs a n => #[Value.int .i64 x.1]) (KpE b g) (fun xs => xs.map (·.1) = endsTo ⟨W, t, k⟩ zs a (n + 1)) (fun _ => True) (n + 1) w := fun l J Jx V hV hJ hJx hY h0 => by
  have CL := fun (v : World) (q : Nat) (hI : Ints v (some ad) zs) (haq : a < q) (hqn : q ≤ n) => stLine_any W t k ad n c zs a q v hn hc hcm hI hm ht haq hqn
  have CC := Lib.hid CL
  have hK0 : KpE b g w V := KpE.below hV
  have I0 := Lib.hid (hK0.ints hI)
  have S0 := Lib.hid (hK0.st (by omega) hS)
  have A0 := Lib.hid ((hK0.2 ⟨b + 1, 0, none⟩ (.inr (.inl rfl)) hb).trans hA)
  have hbV : b + 1 < V.heap.size := Nat.lt_of_lt_of_le hb hK0.1
  have hn40 : n ≤ 40 := by obtain ⟨_, _, h3⟩ := textB_parts ht; omega
  have hJJ := Lib.hid hJ; have hJJx := Lib.hid hJx; have hYY := Lib.hid hY
  clear CL hK0 hI hS hA hb hV hJ hJx hY hm ht hc hcm
  refine callsIn_of_wp Try.func74 rfl trivial ?_ rfl
  simp only [Try.ntmps74, List.size_toArray, List.length_cons, List.length_nil, Nat.reduceAdd, Nat.reduceSub, Array.replicate_succ, Array.replicate_zero, List.push_toArray, List.append_toArray, List.nil_append, List.cons_append]
  have hA1 := A0.out
  gi_wp2
  clear hA1
  gi_loopw [4] (fun p wr => ∃ (q : Nat) (pre : List (EndT ⟨W, t, k⟩ zs a n)), p = .int .i64 q ∧ a < q ∧ q ≤ n + 1 ∧ Hid (pre.map (·.1) = endsTo ⟨W, t, k⟩ zs a q) ∧ Hid (J pre wr) ∧ Hid (KpE b g V wr) ∧ Hid (V.grownBy V none)) (fun p _ => n + 1 - (intOf p).toNat)
  case atStart =>
    exact ⟨a + 1, [], by go_num, by omega, by omega, by show _ = _; rw [endsTo_low (by omega)]; rfl, h0, KpE.refl _ _ _, World.grownBy.refl _ _⟩
  case round =>
    obtain ⟨q, pre, rfl, hq0, hq1, HP, HJ, HK, -⟩ := hrel
    have Ir := Lib.hid (HK.out.ints I0.out)
    have Sr := HK.out.st (by omega) S0.out
    have Ar := (HK.out.2 ⟨b + 1, 0, none⟩ (.inr (.inl rfl)) hbV).trans A0.out
    obtain ⟨s0, s1, s2, s3⟩ := Sr
    by_cases hqn : q ≤ n
    · cases hl : lineW ⟨W, t, k⟩ zs a q
      · have HN := Lib.hid (endsTo_no (m := ⟨W, t, k⟩) (zs := zs) (a := a) (p := q) (by rw [hl]; simp))
        have HL := Lib.hid hl
        clear hl
        gi_wp2_with ((try refine ⟨trivial, ?_⟩); gi_at_call 53; refine (callsIn_wide.2 (CC.out _ q Ir.out.ints hq0 hqn)).mono ?_; rintro e w2 ⟨he, hb2⟩; rw [HL.out] at he; subst he; have HJ2 := Lib.hid (hJJ.out pre wr w2 none HJ.out (below_grown0 hb2) (fun r h => by cases h)); have HK2 := Lib.hid (HK.out.trans (KpE.below hb2)); clear hb2)
        refine ⟨fun _ h => (by cases h), ?_⟩
        gi_wp2
        go_roundw
        case rel => exact ⟨q + 1, pre, by go_num, by omega, by omega, by show _ = _; rw [HN.out]; exact HP.out, HJ2, HK2, World.grownBy.refl _ _⟩
        case measure => simp [intOf]; omega
      · have HN := Lib.hid (endsTo_yes (m := ⟨W, t, k⟩) (zs := zs) hq0 hl)
        have HL := Lib.hid hl
        have hlen : pre.length < n + 1 := by
          have h1 := endsTo_len ⟨W, t, k⟩ zs a q
          have h2 := congrArg List.length HP.out
          rw [List.length_map] at h2
          omega
        gi_wp2_with ((try refine ⟨trivial, ?_⟩); gi_at_call 53; refine (callsIn_wide.2 (CC.out _ q Ir.out.ints hq0 hqn)).mono ?_; rintro e w2 ⟨he, hb2⟩; rw [HL.out] at he; subst he; have HJ2 := Lib.hid (hJJ.out pre wr w2 none HJ.out (below_grown0 hb2) (fun r h => by cases h)); have HK2 := Lib.hid (HK.out.trans (KpE.below hb2)); clear hb2; obtain ⟨fn, tmps, assign, body, hy, hR⟩ := hYY.out pre ⟨q, hq0, hqn, HL.out⟩ w2 HJ2.out hlen; dsimp only at hy)
        refine hR.mono ?_
        clear hR hy
        rintro e w3 (⟨rfl, hJ3, hk3⟩ | ⟨rfl, hJx3⟩)
        · have HJ3 := Lib.hid hJ3; have HK3 := Lib.hid (HK2.out.trans hk3)
          clear hJ3 hk3
          gi_wp2
          go_roundw
          case rel => exact ⟨q + 1, pre ++ [⟨q, hq0, hqn, HL.out⟩], by go_num, by omega, by omega, by show _ = _; rw [HN.out, List.map_append, HP.out]; rfl, HJ3, HK3, World.grownBy.refl _ _⟩
          case measure => simp [intOf]; omega
        · gi_wp2
          refine bodyPost_ret (results_none rfl _ _ _) rfl ?_
          exact ⟨⟨_, rfl⟩, .inr ⟨_, trivial, hJx3⟩⟩
    · obtain rfl : q = n + 1 := by omega
      gi_wp2
      go_end0
      exact ⟨⟨_, rfl⟩, .inl ⟨pre, HP.out, HJ.out⟩⟩
end Go.Proofs.Ytddkedinkgnboaa
