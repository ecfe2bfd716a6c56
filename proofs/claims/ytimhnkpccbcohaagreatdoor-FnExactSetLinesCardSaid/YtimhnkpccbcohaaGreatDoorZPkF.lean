/-
  Contracts and plain mathematics (Push, FitI, SpecL, MchS, MchI, MchT), each with its conditions in its own statement.
-/
import Derived.Test.YtimhnkpccbcohaaGreatDoorZPkA
import Derived.Test.YtimhnkpccbcohaaGreatDoorZPkC
import Derived.Deep.RegionWith
import Derived.Test.YtimhnkpccbcohaaGreatDoorZPkE
namespace Go.Proofs.YtimhnkpccbcohaaGreatDoor
open Go.RowKit
set_option linter.unusedVariables false

theorem grown_trans {a b c : World} {row : Option Nat} (h : a.grownBy b row) (k : b.grownBy c row) : a.grownBy c row :=
  ⟨k.os.trans h.os, k.tape.trans h.tape, k.output.trans h.output, Nat.le_trans h.size k.size, fun i hi hne => (k.block i (Nat.lt_of_lt_of_le hi h.size) hne).trans (h.block i hi hne)⟩

set_option maxRecDepth 100000 in
/-- where the row lies behind an append: where it lay, or in a block that is new -/
theorem append_lies {base : Nat} {v v' : Value} {n : Nat} {xs news : List Value} {w w' : World} {ty : TypeId} (i : TypeInfo) (hi : Tryz.prog.info? 3 = some i) (hz : i.zero = some (.int .i64 0)) (hsz : i.size = 1) (hby : i.bytes = 8)
    (hown : w.ownsRow base 3 1 v n xs) (ad : Addr) (m c : Nat) (hl : news.length = m * 1) (hnews : ∀ j u, news[j]? = some u → w.cell? (ad.add j) = some u) (h1 : ∀ u ∈ news, u.oneCell' = true)
    (hn : n + m ≤ 4194304) (hr : (Builtin.append_ #[22, 22] ty #[v, .slice (some ad) m c]).run Tryz.prog w = .ok v' w') : v'.ownBlock = v.ownBlock ∨ v'.ownBlock = some w.heap.size := by
  rcases hown.2 with ⟨rfl, rfl⟩ | ⟨g, cap, cur, rfl, hbg, hg, hnc, hcm, hcs, htake⟩
  · by_cases hm : m = 0
    · left
      subst hm
      have hn0 : news = [] := List.eq_nil_of_length_eq_zero (by simpa using hl)
      subst hn0
      have hu := Tryz.underlying22
      simp [Builtin.append_, run_underlying hu, sizeOf, typeInfo, hi, Builtin.lenOf, Builtin.firstCells, loadCells, loadCellsFrom] at hr
      rw [← hr.1]
    · right
      have hr2 := run_append_nil (P := Tryz.prog) w 22 ty 3 i (.int .i64 0) Tryz.underlying22 hi hz ad m c news (by rw [hsz]; exact hl) hnews (by omega) (by omega) (by rw [hby]; omega)
      rw [hr] at hr2
      injection hr2 with e1 e2
      rw [e1]; rfl
  · by_cases hroom : n + m ≤ cap
    · left
      have hr2 := run_append_room (P := Tryz.prog) w 22 ty 3 i Tryz.underlying22 hi g n cap cur hg ad m c news (by rw [hsz]; exact hl) hnews h1 hroom (by rw [hsz, hl, hcs]; omega)
      rw [hr] at hr2
      injection hr2 with e1 e2
      rw [e1]; rfl
    · right
      have hr2 := run_append_grow (P := Tryz.prog) w 22 ty 3 i (.int .i64 0) Tryz.underlying22 hi hz ⟨g, 0, none⟩ n cap xs (by rw [hsz]; exact hown.1) (hown.cells (g := g) rfl) ad m c news (by rw [hsz]; exact hl) hnews (by omega) (by omega) (growslice_fits (by omega) (by rw [hby]; omega))
      rw [hr] at hr2
      injection hr2 with e1 e2
      rw [e1]; rfl

section
variable {ops : Array Oper} {rest : List Oper} {o : Oper} {a : Act} {Q : Exit → Act → World → Prop}
/-- append(s, xs...), where the row lies told; xs not empty -/
theorem wpl_append2 (w : World) (hg : o.guard = none) (s x : Operand) (ho : o.op = .call { callee := .builtin .append, args := #[s, x], argTypes := #[22, 22] })
    (B : Nat) (v : Value) (zs ys : List Int) (A : Option Addr) (m c : Nat) (hs : a.eval s = v) (hx : a.eval x = .slice A m c) (hm : ys.length = m) (hpos : 0 < m) (hI : Ints w A ys) (hown : Own w B v zs) (hB : B ≤ w.heap.size) (hlen : zs.length + m ≤ 2097152)
    (hK : ∀ v' w', Own w' B v' (zs ++ ys) → w.grownBy w' v.ownBlock → (v'.ownBlock = v.ownBlock ∨ v'.ownBlock = some w.heap.size) → wpList Tryz.prog ops Q rest (a.put o.dst v') w') :
    wpList Tryz.prog ops Q (o :: rest) a w := by
  obtain ⟨i0, hi, hz0, hz1, hz2⟩ := info_parts intInfo
  obtain ⟨ad, rfl, hc⟩ := hI (by omega)
  refine wpList_plain hg fun K hK' => ?_
  have hl : (ys.map (Value.int .i64)).length = m * 1 := by simp [hm]
  have hnews : ∀ j u, (ys.map (Value.int .i64))[j]? = some u → w.cell? (ad.add j) = some u := by
    intro j u hj
    rw [List.getElem?_map] at hj
    cases hy : ys[j]? with
    | none => rw [hy] at hj; cases hj
    | some y =>
      rw [hy] at hj
      simp at hj; subst hj
      rw [hc j (lt_at hy), getD_at hy]
  have h1 : ∀ u ∈ ys.map (Value.int .i64), u.oneCell' = true := by
    intro u hu
    obtain ⟨y, _, rfl⟩ := List.mem_map.1 hu
    rfl
  obtain ⟨v', w', hr, h2, h3, h4⟩ := run_append_own (P := Tryz.prog) w B 22 o.type 3 i0 (.int .i64 0) 1 8 Tryz.underlying22 hi hz0 hz1 hz2 rfl (by decide) v zs.length (zs.map (Value.int .i64)) hown ad m c _ hl hnews h1 (by unfold maxLen; omega) (by omega) hB
  have hlie := append_lies i0 hi hz0 hz1 hz2 hown ad m c hl hnews h1 (by omega) hr
  unfold Oper.wp execOp
  simp only [ho, resolve, invoke, builtin, Sem.run_bind, Sem.run_pure, Result.andThen_ok, List.map_toArray, List.map_cons, List.map_nil, hs, hx, hr]
  refine hK' _ _ (hK v' w' ?_ h3 hlie)
  unfold Own
  rw [List.map_append, List.length_append, hm]
  exact h2

/-- append(s, q), where the row lies told -/
theorem wpl_push2 (w : World) (hg : o.guard = none) (s x : Operand) (ho : o.op = .call { callee := .builtin .append, args := #[s, x], argTypes := #[22, 22] })
    (B : Nat) (v : Value) (zs : List Int) (q : Int) (hs : a.eval s = v) (hx : a.eval x = .slice (some ⟨w.heap.size, 0, none⟩) 1 1) (hown : Own w B v zs) (hB : B ≤ w.heap.size) (hlen : zs.length ≤ 1048576)
    (hK : ∀ v' w', Own w' B v' (zs ++ [q]) → w.grownBy w' v.ownBlock → (∀ g, v'.ownBlock = some g → v.ownBlock = some g ∨ w.heap.size ≤ g) → wpList Tryz.prog ops Q rest (a.put o.dst v') w') :
    wpList Tryz.prog ops Q (o :: rest) a (w.alloc (.cells #[.int .i64 q] 3)) := by
  refine wpl_append2 _ hg s x ho B v zs [q] (some ⟨w.heap.size, 0, none⟩) 1 1 hs hx rfl (by omega) (fun _ => ⟨_, rfl, fun j hj => ?_⟩) (World.ownsRow.alloc hown _) (by simp; omega) (by omega) (fun v' w' h2 h3 h4 => hK v' w' h2 (grown_trans (World.grownBy_alloc w _ _) h3) (fun g hg' => ?_))
  · have : j = 0 := by simp at hj; exact hj
    subst this
    rw [add_zero_at, World.cell?_alloc_at _ _ _ _ rfl]
    rfl
  · rcases h4 with h4 | h4
    · left; rw [← h4]; exact hg'
    · right; rw [h4] at hg'; injection hg' with hg'; rw [← hg', World.size_alloc]; omega
end
theorem IntsB.grown {w w' : World} {b : Nat} {A : Option Addr} {zs : List Int} {row : Option Nat} (h : IntsB w b A zs) (hg : w.grownBy w' row) (hb : b ≤ w.heap.size) (hne : ∀ ad, A = some ad → row ≠ some ad.block) : IntsB w' b A zs := fun hn => by
  obtain ⟨ad, e, hl, hc⟩ := h hn
  exact ⟨ad, e, hl, fun j hj => hg.cell (hc j hj) (by rw [block_add]; exact fun e' => hne ad e e'.symm)⟩
end Go.Proofs.YtimhnkpccbcohaaGreatDoor

namespace Go.Proofs.YtimhnkpccbcohaaGreatDoor
open Go.RowKit
set_option linter.unusedVariables false

/-- the world in which a function over a measure begins -/
theorem msWorld (w : World) (W t k : Int) : ∃ w0, w.alloc (.cells #[.int .i64 W, .int .i64 t, .int .i64 k] 34) = w0 ∧ Below w.heap.size w w0 ∧ w0.heap.size = w.heap.size + 1 ∧
    (w0.cell? ⟨w.heap.size, 0, none⟩ = some (.int .i64 W) ∧ w0.cell? ⟨w.heap.size, 1, none⟩ = some (.int .i64 t) ∧ w0.cell? ⟨w.heap.size, 2, none⟩ = some (.int .i64 k)) :=
  ⟨_, rfl, below_new _ _, by simp, lay3 w (.int .i64 W) (.int .i64 t) (.int .i64 k) 34⟩
theorem good_no {m : Msr} {zs : List Int} (h : msrB m = false) : goodB m zs = false := by unfold goodB; rw [h]; rfl
theorem good_line {m : Msr} {zs : List Int} (h : lineB zs = false) : goodB m zs = false := by unfold goodB fitsB; rw [h]; simp
theorem good_is {m : Msr} {zs : List Int} (h : msrB m = true) (h2 : lineB zs = true) : goodB m zs = decide (widF (sumL zs) (bandsN zs) m.t ≤ m.w) := by
  unfold goodB fitsB fitL widL; rw [h, h2]; simp

set_option maxRecDepth 100000 in
set_option maxHeartbeats 1600000 in
theorem isFitting_any (W t k : Int) (A : Option Addr) (n c : Nat) (zs : List Int) (w : World) (hn : zs.length = n) (hm : n ≤ maxLen) (h : Ints w A zs) :
    Calls Tryz.prog 79 #[.agg #[.int .i64 W, .int .i64 t, .int .i64 k], .slice A n c] w fun e w' => e = .returned (.bool (goodB ⟨W, t, k⟩ zs)) ∧ Below w.heap.size w w' := by
  have Hn := Lib.hid hn
  obtain ⟨w0, hw0, hb0, hz0, P⟩ := msWorld w W t k
  have T0 := Lib.hid hb0; have P0 := Lib.hid P; have Z0 := Lib.hid hz0
  have I0 := Lib.hid (h.below hb0)
  clear hb0 hz0 P hn h
  obtain ⟨p0, p1, p2⟩ := P0.out
  cases hms : msrB ⟨W, t, k⟩
  · have HR := Lib.hid (good_no (zs := zs) hms)
    go_enter Tryz.func79, Tryz.ntmps79
    go_wp2_with fail
    clear hw0
    have hz := Z0.out
    first
      | go_region_with ((first
          | (go_at_call 111; refine (implMeasureOk_any W t k _).mono ?_; rintro e w1 ⟨he, hb1⟩; rw [hms] at he; subst he; have hc1 : Below w0.heap.size w0 w1 := undrew hb1; have P1 := Lib.hid (hold3 hc1 (by omega) P0.out); have T1 := Lib.hid (T0.out.trans (hc1.mono (B' := w.heap.size) (by omega))); clear hb1 hc1; obtain ⟨p0, p1, p2⟩ := P1.out)))
      | fail "the region"
    all_goals
      go_wp2
      go_ret
      exact ⟨ret_bool HR.out.symm, T1.out⟩
  cases hli : lineB zs
  · have HR := Lib.hid (good_line (m := ⟨W, t, k⟩) hli)
    go_enter Tryz.func79, Tryz.ntmps79
    go_wp2_with fail
    clear hw0
    have hz := Z0.out
    first
      | go_region_with ((first
          | (go_at_call 111; refine (implMeasureOk_any W t k _).mono ?_; rintro e w1 ⟨he, hb1⟩; rw [hms] at he; subst he; have hc1 : Below w0.heap.size w0 w1 := undrew hb1; have P1 := Lib.hid (hold3 hc1 (by omega) P0.out); have T1 := Lib.hid (T0.out.trans (hc1.mono (B' := w.heap.size) (by omega))); have I1 := Lib.hid (I0.out.below hc1); clear hb1 hc1; obtain ⟨p0, p1, p2⟩ := P1.out)
          | (go_at_call 112; refine (implLineOk_any A n c zs _ Hn.out hm I1.out).mono ?_; rintro e w2 ⟨he, rfl⟩; rw [hli] at he; subst he)))
      | fail "the region"
    all_goals
      go_wp2
      go_ret
      exact ⟨ret_bool HR.out.symm, T1.out⟩
  have HR := Lib.hid (good_is (m := ⟨W, t, k⟩) hms hli)
  have HL := Lib.hid hli; have HM := Lib.hid hms
  obtain ⟨s0, s1, s2⟩ := lineB_sum hli
  go_enter Tryz.func79, Tryz.ntmps79
  go_wp2_with fail
  clear hw0
  have hz := Z0.out
  first
    | go_region_held3 (fun w' => w'.cell? ⟨w.heap.size, 0, none⟩ = some (.int .i64 W) ∧ w'.cell? ⟨w.heap.size, 1, none⟩ = some (.int .i64 t) ∧ w'.cell? ⟨w.heap.size, 2, none⟩ = some (.int .i64 k)) (first | go_keep | exact P1.out | exact P3.out | exact P4.out) (first
        | (go_at_call 111; refine (implMeasureOk_any W t k _).mono ?_; rintro e w1 ⟨he, hb1⟩; rw [HM.out] at he; subst he; have hc1 : Below w0.heap.size w0 w1 := undrew hb1; have P1 := Lib.hid (hold3 hc1 (by omega) P0.out); have T1 := Lib.hid (T0.out.trans (hc1.mono (B' := w.heap.size) (by omega))); have I1 := Lib.hid (I0.out.below hc1); have z1 := hc1.size; clear hb1 hc1; obtain ⟨p0, p1, p2⟩ := P1.out)
        | (go_at_call 112; refine (implLineOk_any A n c zs _ Hn.out hm I1.out).mono ?_; rintro e w2 ⟨he, rfl⟩; rw [HL.out] at he; subst he)
        | (go_at_call 113; refine (loadOf_any A n c zs _ Hn.out I1.out HL.out).mono ?_; rintro e w3 ⟨rfl, hb3⟩; have P3 := Lib.hid (hold3 hb3 (by omega) P1.out); have T3 := Lib.hid (T1.out.trans (hb3.mono (B' := w.heap.size) (by omega))); have z3 := hb3.size; clear hb3; obtain ⟨p0, p1, p2⟩ := P3.out)
        | (go_at_call 114; refine (ldFits_any (sumL zs) (bandsN zs) W t k _ s0 (by omega) s2 HM.out).mono ?_; rintro e w4 ⟨rfl, hb4⟩; have P4 := Lib.hid (hold3 hb4 (by omega) P3.out); have T4 := Lib.hid (T3.out.trans (hb4.mono (B' := w.heap.size) (by omega))); clear hb4))
    | fail "the region"
  all_goals
    go_wp2
    go_ret
    exact ⟨ret_bool HR.out.symm, T4.out⟩
end Go.Proofs.YtimhnkpccbcohaaGreatDoor

namespace Go.Proofs.YtimhnkpccbcohaaGreatDoor
open Go.RowKit
set_option linter.unusedVariables false

set_option maxHeartbeats 800000 in
theorem l3Sum_yes (A : Option Addr) (n c : Nat) (zs : List Int) (w : World) (hn : zs.length = n) (h : Ints w A zs) (hl : lineB zs = true) :
    Calls Tryz.prog 89 #[.slice A n c] w fun e w' => e = .returned (.tuple #[.int .i64 (sumL zs), .int .i64 (bandsN zs)]) ∧ w = w' := by
  obtain ⟨hz, hlen⟩ := lineB_parts hl
  have HZ := Lib.hid hz
  have HL := Lib.hid (lineB_take hl)
  have Hn := Lib.hid hn
  have hm : n ≤ 120 := by omega
  clear hz hlen hn hl
  go_enter Tryz.func89, Tryz.ntmps89
  go_wp2
  go_loop [4, 5, 10] (fun s b i => ∃ k : Nat, k ≤ n ∧ i = .int .i64 k ∧ s = .int .i64 (sumL (zs.take k)) ∧ b = .int .i64 (bandsN (zs.take k))) (fun _ _ i => n - (intOf i).toNat)
  case atStart => exact ⟨0, Nat.zero_le _, rfl, rfl, rfl⟩
  case round =>
    obtain ⟨k, hk, rfl, rfl, rfl⟩ := hrel
    by_cases hlt : k < n
    · obtain ⟨ad, x, rfl, hx, hc⟩ := h.at_ (k := k) (by rw [Hn.out]; exact hlt)
      have HS := Lib.hid (sumL_at hx.out)
      have HN := Lib.hid (bandsN_at hx.out)
      have hb1 := HL.out k
      have hx2 := HZ.out x (mem_at hx.out)
      obtain ⟨sm, hsm⟩ : ∃ s, sumL (zs.take k) = s := ⟨_, rfl⟩
      obtain ⟨bn, hbn⟩ : ∃ b, bandsN (zs.take k) = b := ⟨_, rfl⟩
      rw [hsm] at HS hb1 ⊢
      rw [hbn] at HN hb1 ⊢
      clear hsm hbn
      by_cases h0 : x = 0
      · subst h0
        go_wp2
        go_round
        case rel => exact ⟨k + 1, by omega, by go_num, by rw [HS.out, Int.add_zero], by rw [HN.out, if_pos rfl]; go_num⟩
        case measure => simp [intOf]; omega
      · have h0' : (x == 0) = false := by simpa using h0
        have HN2 : Hid (bandsN (zs.take (k + 1)) = bn) := by show _ = _; rw [HN.out, if_neg h0]; rfl
        clear h0
        go_wp2
        go_round
        case rel => exact ⟨k + 1, by omega, by go_num, by rw [HS.out], by rw [HN2.out]⟩
        case measure => simp [intOf]; omega
    · have hkn : k = n := by omega
      subst hkn
      rw [take_all Hn.out]
      go_wp2
      go_ret2
      exact ⟨rfl, rfl⟩

set_option maxHeartbeats 800000 in
theorem l3Sum_no (A : Option Addr) (n c : Nat) (zs : List Int) (w : World) (hn : zs.length = n) (hm : n ≤ maxLen) (h : Ints w A zs) :
    Calls Tryz.prog 89 #[.slice A n c] w fun e w' => ∃ s b : Int, e = .returned (.tuple #[.int .i64 s, .int .i64 b]) ∧ w = w' := by
  unfold maxLen at hm
  have Hn := Lib.hid hn
  clear hn
  go_enter Tryz.func89, Tryz.ntmps89
  go_wp2
  go_loop [4, 5, 10] (fun s b i => ∃ k : Nat, ∃ p q : Int, k ≤ n ∧ i = .int .i64 k ∧ s = .int .i64 p ∧ b = .int .i64 q) (fun _ _ i => n - (intOf i).toNat)
  case atStart => exact ⟨0, 0, 0, Nat.zero_le _, rfl, rfl, rfl⟩
  case round =>
    obtain ⟨k, p, q, hk, rfl, rfl, rfl⟩ := hrel
    by_cases hlt : k < n
    · obtain ⟨ad, x, rfl, hx, hc⟩ := h.at_ (k := k) (by rw [Hn.out]; exact hlt)
      by_cases h0 : x = 0
      · subst h0
        go_wp2
        go_round
        case rel => exact ⟨k + 1, _, _, by omega, by go_num, rfl, rfl⟩
        case measure => simp [intOf]; omega
      · have h0' : (x == 0) = false := by simpa using h0
        clear h0
        go_wp2
        go_round
        case rel => exact ⟨k + 1, _, _, by omega, by go_num, rfl, rfl⟩
        case measure => simp [intOf]; omega
    · have hkn : k = n := by omega
      subst hkn
      go_wp2
      go_ret2
      exact ⟨⟨p, q, rfl⟩, rfl⟩

theorem l3Sum_any (A : Option Addr) (n c : Nat) (zs : List Int) (w : World) (hn : zs.length = n) (hm : n ≤ maxLen) (h : Ints w A zs) :
    Calls Tryz.prog 89 #[.slice A n c] w fun e w' => ∃ s b : Int, e = .returned (.tuple #[.int .i64 s, .int .i64 b]) ∧ (lineB zs = true → s = sumL zs ∧ b = bandsN zs) ∧ w = w' := by
  cases hl : lineB zs
  · refine (l3Sum_no A n c zs w hn hm h).mono ?_
    rintro e w' ⟨s, b, rfl, rfl⟩
    exact ⟨s, b, rfl, (fun h => by cases h), rfl⟩
  · refine (l3Sum_yes A n c zs w hn h hl).mono ?_
    rintro e w' ⟨rfl, rfl⟩
    exact ⟨sumL zs, bandsN zs, rfl, fun _ => ⟨rfl, rfl⟩, rfl⟩

set_option maxHeartbeats 800000 in
theorem l3Fits_any (W t k : Int) (A : Option Addr) (n c : Nat) (zs : List Int) (w : World) (hms : msrB ⟨W, t, k⟩ = true) (hn : zs.length = n) (hm : n ≤ maxLen) (h : Ints w A zs) :
    Calls Tryz.prog 67 #[.agg #[.int .i64 W, .int .i64 t, .int .i64 k], .slice A n c] w fun e w' => e = .returned (.bool (fitsB ⟨W, t, k⟩ zs)) ∧ Below w.heap.size w w' := by
  have Hn := Lib.hid hn
  obtain ⟨w0, hw0, hb0, hz0, P⟩ := msWorld w W t k
  have T0 := Lib.hid hb0; have Z0 := Lib.hid hz0
  have I0 := Lib.hid (h.below hb0)
  obtain ⟨p0, p1, p2⟩ := P
  clear hb0 hz0 hn h
  have hM := msrB_iff.1 hms
  simp only at hM
  cases hl : lineB zs
  · have HR : Hid (fitsB ⟨W, t, k⟩ zs = false) := by show _ = _; unfold fitsB; rw [hl]; rfl
    go_enter Tryz.func67, Tryz.ntmps67
    go_wp2_with fail
    clear hw0
    refine (l3Sum_any A n c zs _ Hn.out hm I0.out).mono ?_
    rintro e w1 ⟨s, b, rfl, -, rfl⟩
    go_wp2_with fail
    refine (specLineOk_any A n c zs _ Hn.out hm I0.out).mono ?_
    rintro e w1 ⟨he, rfl⟩
    rw [hl] at he; subst he
    go_wp2
    go_ret
    exact ⟨ret_bool HR.out.symm, T0.out⟩
  · have HR : Hid (fitsB ⟨W, t, k⟩ zs = decide (sumL zs + bandsN zs * t ≤ W)) := by show _ = _; unfold fitsB fitL widL widF; rw [hl]; rfl
    obtain ⟨s0, s1, s2⟩ := lineB_sum hl
    have hmu := mul_small (B := bandsN zs) (e := t) (by omega) (by omega) (by omega) (by omega)
    have HL := Lib.hid hl
    clear hl
    go_enter Tryz.func67, Tryz.ntmps67
    go_wp2_with fail
    clear hw0
    refine (l3Sum_yes A n c zs _ Hn.out I0.out HL.out).mono ?_
    rintro e w1 ⟨rfl, rfl⟩
    go_wp2_with fail
    refine (specLineOk_any A n c zs _ Hn.out hm I0.out).mono ?_
    rintro e w1 ⟨he, rfl⟩
    rw [HL.out] at he; subst he
    go_wp2
    go_ret
    exact ⟨ret_bool HR.out.symm, T0.out⟩

set_option maxHeartbeats 1600000 in
theorem l3Spread_any (W t k : Int) (A : Option Addr) (n c : Nat) (zs : List Int) (w : World) (hg : goodB ⟨W, t, k⟩ zs = true) (hn : zs.length = n) (h : Ints w A zs) :
    Calls Tryz.prog 121 #[.agg #[.int .i64 W, .int .i64 t, .int .i64 k], .slice A n c] w fun e w' => e = .returned (.tuple #[.int .i64 (riseL ⟨W, t, k⟩ zs), .int .i64 (restL ⟨W, t, k⟩ zs)]) ∧ Below w.heap.size w w' := by
  have Hn := Lib.hid hn
  obtain ⟨w0, hw0, hb0, hz0, P⟩ := msWorld w W t k
  have T0 := Lib.hid hb0; have Z0 := Lib.hid hz0
  have I0 := Lib.hid (h.below hb0)
  obtain ⟨p0, p1, p2⟩ := P
  obtain ⟨hms, hli, hf⟩ := goodB_parts hg
  have HM := Lib.hid hms; have HL := Lib.hid hli
  have HF : Hid (widF (sumL zs) (bandsN zs) t ≤ W) := hf
  have hM := msrB_iff.1 hms
  simp only at hM
  obtain ⟨s0, s1, s2⟩ := lineB_sum hli
  have hmu := mul_small (B := bandsN zs) (e := t) (by omega) (by omega) (by omega) (by omega)
  have hf1 : sumL zs + bandsN zs * t ≤ W := hf
  have HK : Hid (∀ (r : Nat) (R : Int), R = W - widF (sumL zs) (bandsN zs) (t + r) → 0 ≤ R → (r : Int) ≤ k - t → (bandsN zs = 0 → r = 0) → (bandsN zs = 0 ∨ k - t ≤ r ∨ R < bandsN zs) → riseL ⟨W, t, k⟩ zs = r ∧ restL ⟨W, t, k⟩ zs = R) := fun r R hR h0 h1 h2 h3 => by
    have e1 : riseL ⟨W, t, k⟩ zs = r := by
      unfold riseL
      refine riseF_is hms hf (by omega) h1 (by show 0 ≤ W - widF _ _ (t + r); omega) (fun hb => by rw [h2 hb]; rfl) (fun hb hr => ?_)
      show W - widF _ _ (t + r) < _
      have hr' : (r : Int) < k - t := hr
      rcases h3 with h3 | h3 | h3
      · omega
      · omega
      · omega
    refine ⟨e1, ?_⟩
    unfold restL restF
    unfold riseL at e1
    rw [e1, hR]
  have HST : Hid (∀ r : Nat, W - widF (sumL zs) (bandsN zs) (t + r) - bandsN zs = W - widF (sumL zs) (bandsN zs) (t + ((r + 1 : Nat) : Int))) := fun r => by
    unfold widF
    have : (bandsN zs : Int) * (t + ((r + 1 : Nat) : Int)) = (bandsN zs : Int) * (t + r) + bandsN zs := by
      rw [show t + ((r + 1 : Nat) : Int) = (t + r) + 1 from by omega, Int.mul_add, Int.mul_one]
    omega
  have HS0 : Hid (W - sumL zs - bandsN zs * t = W - widF (sumL zs) (bandsN zs) (t + ((0 : Nat) : Int))) := by
    show _ = _
    unfold widF
    rw [show t + ((0 : Nat) : Int) = t from by omega]
    omega
  clear hb0 hz0 hn h hms hli hf hg
  obtain ⟨sm, hsm⟩ : ∃ s, sumL zs = s := ⟨_, rfl⟩
  obtain ⟨bn, hbn⟩ : ∃ b, bandsN zs = b := ⟨_, rfl⟩
  have C := l3Sum_yes A n c zs w0 Hn.out I0.out HL.out
  rw [hsm, hbn] at C
  rw [hsm] at HF HK HST HS0 s0 s1 hf1
  rw [hbn] at HF HK HST HS0 s2 hmu hf1
  have CC := Lib.hid C
  clear hsm hbn C
  go_enter Tryz.func121, Tryz.ntmps121
  go_wp2_with fail
  clear hw0
  refine CC.out.mono ?_
  rintro e w1 ⟨rfl, rfl⟩
  go_wp2
  go_loop [8, 9] (fun u v => ∃ r : Nat, ∃ R : Int, u = .int .i64 R ∧ v = .int .i64 r ∧ Hid (R = W - widF sm bn (t + r)) ∧ 0 ≤ R ∧ R ≤ 2000 ∧ (r : Int) ≤ k - t ∧ (bn = 0 → r = 0)) (fun _ v => (k - t).toNat - (intOf v).toNat)
  case atStart => exact ⟨0, _, rfl, rfl, HS0.out, by omega, by omega, by omega, fun _ => rfl⟩
  case round =>
    obtain ⟨r, R, rfl, rfl, hR, hR0, hR1, hr, hr0⟩ := hrel
    by_cases hb : bn = 0
    · obtain rfl := hr0 hb
      obtain ⟨e1, e2⟩ := HK.out 0 R hR.out hR0 hr hr0 (Or.inl hb)
      have E1 := Lib.hid e1; have E2 := Lib.hid e2
      subst hb
      clear e1 e2
      go_wp2
      go_ret2
      exact ⟨by rw [E1.out, E2.out]; rfl, T0.out⟩
    · have hbp : decide ((0 : Int) < (bn : Int)) = true := decide_eq_true (by omega)
      by_cases hrk : (r : Int) < k - t
      · by_cases hRB : (bn : Int) ≤ R
        · have HN := Lib.hid ((HST.out r))
          rw [← hR.out] at HN
          go_wp2
          go_round
          case rel => exact ⟨r + 1, _, rfl, by go_num, HN.out, by omega, by omega, by omega, fun h => absurd h hb⟩
          case measure => simp [intOf]; omega
        · obtain ⟨e1, e2⟩ := HK.out r R hR.out hR0 hr hr0 (Or.inr (Or.inr (by omega)))
          have E1 := Lib.hid e1; have E2 := Lib.hid e2
          clear e1 e2
          go_wp2
          go_ret2
          exact ⟨by rw [E1.out, E2.out]; rfl, T0.out⟩
      · obtain ⟨e1, e2⟩ := HK.out r R hR.out hR0 hr hr0 (Or.inr (Or.inl (by omega)))
        have E1 := Lib.hid e1; have E2 := Lib.hid e2
        clear e1 e2
        go_wp2
        go_ret2
        exact ⟨by rw [E1.out, E2.out]; rfl, T0.out⟩
end Go.Proofs.YtimhnkpccbcohaaGreatDoor

namespace Go.Proofs.YtimhnkpccbcohaaGreatDoor
open Go.RowKit
set_option linter.unusedVariables false

/-- every item of the line has a width -/
def hasWid (f : Fnt) (x : Mat) : Prop := x.1 < 0 ∨ x.1.toNat < f.ws.length
theorem itemsM_len (f : Fnt) (xs : List Mat) : (itemsM f xs).length = xs.length := by simp [itemsM]
theorem itemsM_succ {f : Fnt} {xs : List Mat} {k : Nat} {x : Mat} (h : xs[k]? = some x) : itemsM f (xs.take (k + 1)) = itemsM f (xs.take k) ++ [itemM f x] := by
  rw [mtake_at h]; simp [itemsM]
set_option maxRecDepth 100000 in
set_option maxHeartbeats 1600000 in
theorem l5Items_any (lo hi lo2 hi2 : Nat) (v : Value) (f : Fnt) (A : Option Addr) (n c : Nat) (xs : List Mat) (w : World) (h : FontV w lo hi v f) (hhi : hi ≤ w.heap.size) (hn : xs.length = n) (hm : n ≤ 1048576) (hM : MatsI w lo2 hi2 A xs) (hhi2 : hi2 ≤ w.heap.size) (hset : ∀ x ∈ xs, hasWid f x) :
    Calls Tryz.prog 53 #[v, .slice A n c] w fun e w' => ∃ u, e = .returned u ∧ Own w' w.heap.size u (itemsM f xs) ∧ Below w.heap.size w w' := by
  obtain ⟨B, d, B2, d2, rfl, hI1, hI2, hc1, hc2, hd1, hd2, hss⟩ := h
  obtain ⟨p, hp⟩ : ∃ p, f.ws.length = p := ⟨_, rfl⟩
  obtain ⟨q, hq⟩ : ∃ p, f.cs.length = p := ⟨_, rfl⟩
  obtain ⟨s, hs⟩ : ∃ s, f.s = s := ⟨_, rfl⟩
  rw [hp, hq, hs]
  have Hp := Lib.hid hp; have Hn := Lib.hid hn; have HSet := Lib.hid hset
  obtain ⟨w0, hw0, hb0, hz0, K0⟩ := mxWorld w #[.string s, .slice B p d, .slice B2 q d2] 32
  have I0 := Lib.hid (hI1.below hhi hb0); have M0 := Lib.hid (hM.below hhi2 hb0); have T0 := Lib.hid hb0; have K0 := Lib.hid K0; have Z0 := Lib.hid hz0
  clear hI1 hI2 hc1 hc2 hd1 hd2 hss hp hq hs hn hM hset hb0 hz0
  go_enter Tryz.func53, Tryz.ntmps53
  go_wp2
  obtain ⟨w1, hw1⟩ : ∃ x, w0.alloc (.cells #[] 3) = x := ⟨_, rfl⟩
  have E1 : Own w1 w0.heap.size (.slice (some ⟨w0.heap.size, 0, none⟩) 0 0) [] := by rw [← hw1]; exact World.ownsRow_lit w0 #[] 0 (Nat.le_refl _) (Nat.zero_le _) rfl
  have b1 : Below w0.heap.size w0 w1 := by rw [← hw1]; exact (Below.refl _ _).alloc (Nat.le_refl _) _
  have E1 := Lib.hid E1; have B1 := Lib.hid b1
  have z0 : w.heap.size < w0.heap.size := by have := Z0.out; omega
  rw [hw1]
  clear b1 hw1 hw0 Z0
  go_loopw [5, 11] (fun u i wr => ∃ j : Nat, j ≤ n ∧ i = .int .i64 j ∧ Own wr w0.heap.size u (itemsM f (xs.take j)) ∧ Below w0.heap.size w0 wr) (fun _ i _ => n - (intOf i).toNat)
  case atStart => exact ⟨0, Nat.zero_le _, rfl, E1.out, B1.out⟩
  case round =>
    obtain ⟨j, hj, rfl, hown, hb⟩ := hrel
    have HO := Lib.hid hown; have HB := Lib.hid hb
    have zr := hb.size
    clear hown hb
    by_cases hlt : j < n
    · obtain ⟨ad, x, rfl, hx, c1, c2⟩ := (M0.out.below (by omega) HB.out).at_ (k := j) (by rw [Hn.out]; exact hlt)
      have HX := Lib.hid (HSet.out x (List.mem_of_getElem? hx.out))
      have HS := Lib.hid (itemsM_succ (f := f) hx.out)
      obtain ⟨wm, hwm⟩ : ∃ y, wr.alloc (.cells #[.int .i64 x.1, .int .i64 x.2] 64) = y := ⟨_, rfl⟩
      have bm : Below wr.heap.size wr wm := by rw [← hwm]; exact (Below.refl _ _).alloc (Nat.le_refl _) _
      have HOm := Lib.hid (Own.below HO.out bm); have HBm := Lib.hid (HB.out.trans (bm.mono zr)); have zm := bm.size
      have Hlen : Hid ((itemsM f (xs.take j)).length ≤ 1048576) := by show _ ≤ _; rw [itemsM_len, List.length_take]; omega
      obtain ⟨a, b⟩ := x
      simp only at *
      have bk : Blk wm wr.heap.size #[.int .i64 a, .int .i64 b] 64 := by rw [← hwm]; exact Blk.new _ _ _
      have m0 : wm.cell? ⟨wr.heap.size, 0, none⟩ = some (.int .i64 a) := cellOfBlk bk 0
      have m1 : wm.cell? ⟨wr.heap.size, 1, none⟩ = some (.int .i64 b) := cellOfBlk bk 1
      clear bk
      by_cases hneg : a < 0
      · have g1 : decide (a < 0) = true := decide_eq_true hneg
        have HI : Hid (itemM f (a, b) = 0) := by show _ = _; unfold itemM; rw [if_pos hneg]
        rw [HI.out] at HS
        clear bm HX
        go_wp2_with (at_builtin; refine wpl_push2 wm rfl (.tmp 18) (.tmp 19) rfl w0.heap.size _ _ 0 rfl rfl HOm.out (by omega) Hlen.out ?_; intro v' w5 hO5 hg5 hl5; rw [← HS.out] at hO5; have HO5 := Lib.hid hO5; have HB5 := Lib.hid (HBm.out.trans ((Below.refl w0.heap.size wm).grown hg5 (by omega) (fun q hq => (World.ownsRow.lt HOm.out q hq).1))); clear hO5 hg5 hl5)
        go_roundw
        case rel => exact ⟨j + 1, by omega, by go_num, HO5.out, HB5.out⟩
        case measure => simp [intOf]; omega
      · have g1 : decide (a < 0) = false := decide_eq_false hneg
        obtain ⟨kk, rfl⟩ : ∃ kk : Nat, a = (kk : Int) := ⟨a.toNat, by omega⟩
        have hkp : kk < p := by
          rcases HX.out with h | h
          · exact absurd h hneg
          · have := Hp.out; simp only [Int.toNat_natCast] at h; omega
        obtain ⟨bd, y, rfl, hy, hd⟩ := (I0.out.below (by omega) HBm.out).ints.at_ (k := kk) (by rw [Hp.out]; exact hkp)
        have HI : Hid (itemM f ((kk : Int), b) = y) := by show _ = _; unfold itemM; rw [if_neg hneg, Int.toNat_natCast, getD_at hy.out]
        rw [HI.out] at HS
        have Km := Lib.hid (K0.out.below HBm.out (by omega))
        have q1 : wm.cell? ⟨w.heap.size, 1, none⟩ = some (.slice (some bd) p d) := cellOfBlk Km.out 1
        clear bm HX
        go_wp2_with (first
          | (at_builtin; refine wpl_push2 wm rfl (.tmp 21) (.tmp 28) rfl w0.heap.size _ _ y rfl rfl HOm.out (by omega) Hlen.out ?_; intro v' w5 hO5 hg5 hl5; rw [← HS.out] at hO5; have HO5 := Lib.hid hO5; have HB5 := Lib.hid (HBm.out.trans ((Below.refl w0.heap.size wm).grown hg5 (by omega) (fun q hq => (World.ownsRow.lt HOm.out q hq).1))); clear hO5 hg5 hl5))
        go_roundw
        case rel => exact ⟨j + 1, by omega, by go_num, HO5.out, HB5.out⟩
        case measure => simp [intOf]; omega
    · have hjn : j = n := by omega
      subst hjn
      have HA : Hid (xs.take j = xs) := mtake_all Hn.out
      go_wp2
      go_ret
      exact ⟨_, rfl, by have := HO.out; rw [HA.out] at this; exact own_baseB this (by omega), T0.out.trans (HB.out.mono (by omega))⟩
end Go.Proofs.YtimhnkpccbcohaaGreatDoor

namespace Go.Proofs.YtimhnkpccbcohaaGreatDoor
open Go.RowKit
set_option linter.unusedVariables false

theorem isBand_any (a b : Int) (w : World) :
    Calls Tryz.prog 75 #[.agg #[.int .i64 a, .int .i64 b]] w fun e w' => e = .returned (.bool (bandM (a, b))) ∧ Below w.heap.size w w' := by
  go_enter Tryz.func75, Tryz.ntmps75
  go_wp2
  all_goals
    go_ret
    refine ⟨ret_bool ?_, below_new _ _⟩
    simp [bandM, *]
set_option maxRecDepth 100000 in
set_option maxHeartbeats 1600000 in
theorem itemsOf_any (lo hi lo2 hi2 : Nat) (v : Value) (f : Fnt) (A : Option Addr) (n c : Nat) (xs : List Mat) (w : World) (h : FontV w lo hi v f) (hhi : hi ≤ w.heap.size) (hn : xs.length = n) (hm : n ≤ 1048576) (hM : MatsI w lo2 hi2 A xs) (hhi2 : hi2 ≤ w.heap.size) (hset : ∀ x ∈ xs, bandM x = true ∨ (0 ≤ x.1 ∧ x.1.toNat < f.ws.length)) :
    Calls Tryz.prog 80 #[v, .slice A n c] w fun e w' => ∃ u, e = .returned u ∧ Own w' w.heap.size u (itemsM f xs) ∧ Below w.heap.size w w' := by
  obtain ⟨B, d, B2, d2, rfl, hI1, hI2, hc1, hc2, hd1, hd2, hss⟩ := h
  obtain ⟨p, hp⟩ : ∃ p, f.ws.length = p := ⟨_, rfl⟩
  obtain ⟨q, hq⟩ : ∃ p, f.cs.length = p := ⟨_, rfl⟩
  obtain ⟨s, hs⟩ : ∃ s, f.s = s := ⟨_, rfl⟩
  rw [hp, hq, hs]
  have Hp := Lib.hid hp; have Hn := Lib.hid hn; have HSet := Lib.hid hset
  have HZ : Hid ((itemsM f xs).length = n) := by show _ = _; rw [itemsM_len, hn]
  obtain ⟨w0, hw0, hb0, hz0, K0⟩ := mxWorld w #[.string s, .slice B p d, .slice B2 q d2] 32
  have I0 := Lib.hid (hI1.below hhi hb0); have M0 := Lib.hid (hM.below hhi2 hb0); have T0 := Lib.hid hb0; have K0 := Lib.hid K0
  have z0 : w.heap.size < w0.heap.size := by omega
  clear hI1 hI2 hc1 hc2 hd1 hd2 hss hp hq hs hn hM hset hb0 hz0
  go_enter Tryz.func80, Tryz.ntmps80
  go_wp2_with (at_make; refine wpl_make_int w0 rfl (.tmp 9) rfl n _ rfl rfl (by omega) ?_; intro w1 hO1 hb1; have O1 := Lib.hid hO1; have B1 := Lib.hid hb1; clear hO1 hb1 hw0)
  go_loopw [13] (fun i wr => ∃ j : Nat, j ≤ n ∧ i = .int .i64 j ∧ wr.ownsRow w0.heap.size 3 1 (.slice (some ⟨w0.heap.size, 0, none⟩) n n) n (half (itemsM f xs) n j) ∧ Below w0.heap.size w0 wr) (fun i _ => n - (intOf i).toNat)
  case atStart => exact ⟨0, Nat.zero_le _, rfl, by have := O1.out; rwa [show half (itemsM f xs) n 0 = List.replicate n (.int .i64 0) by simp [half]], B1.out⟩
  case round =>
    obtain ⟨j, hj, rfl, hown, hb⟩ := hrel
    have HO := Lib.hid hown; have HB := Lib.hid hb
    have zr := hb.size
    clear hown hb
    by_cases hlt : j < n
    · obtain ⟨ad, x, rfl, hx, c1, c2⟩ := (M0.out.below (by omega) HB.out).at_ (k := j) (by rw [Hn.out]; exact hlt)
      have HX := Lib.hid (HSet.out x (List.mem_of_getElem? hx.out))
      have HI : Hid ((itemsM f xs)[j]? = some (itemM f x)) := by show _ = _; unfold itemsM; rw [List.getElem?_map, hx.out]; rfl
      obtain ⟨a, b⟩ := x
      simp only at c1 c2
      obtain ⟨wm, hwm⟩ : ∃ y, wr.alloc (.cells #[.int .i64 a, .int .i64 b] 64) = y := ⟨_, rfl⟩
      have bm : Below wr.heap.size wr wm := by rw [← hwm]; exact (Below.refl _ _).alloc (Nat.le_refl _) _
      have bk : Blk wm wr.heap.size #[.int .i64 a, .int .i64 b] 64 := by rw [← hwm]; exact Blk.new _ _ _
      have m0 : wm.cell? ⟨wr.heap.size, 0, none⟩ = some (.int .i64 a) := cellOfBlk bk 0
      have m1 : wm.cell? ⟨wr.heap.size, 1, none⟩ = some (.int .i64 b) := cellOfBlk bk 1
      have zm : wr.heap.size < wm.heap.size := bk.lt
      have HBm := Lib.hid (HB.out.trans (bm.mono zr)); have HOm := Lib.hid (row_keep HO.out bm); have BK := Lib.hid bk
      clear bm bk
      cases hbd : bandM (a, b)
      · obtain ⟨k0, k1⟩ : 0 ≤ a ∧ a.toNat < f.ws.length := by
          rcases HX.out with h | h
          · rw [hbd] at h; cases h
          · exact h
        obtain ⟨kk, rfl⟩ : ∃ kk : Nat, a = (kk : Int) := ⟨a.toNat, by omega⟩
        have hkp : kk < p := by have := Hp.out; simp only [Int.toNat_natCast] at k1; omega
        have Hbd := Lib.hid hbd
        clear hbd k0 k1 HX
        go_wp2_with fail
        refine (isBand_any _ _ _).mono ?_
        rintro e w2 ⟨he, hb2⟩
        rw [Hbd.out] at he
        subst he
        have HB2 := Lib.hid (HBm.out.trans (hb2.mono (by omega)))
        have HO2 := Lib.hid (row_keep HOm.out hb2)
        have bk2 := BK.out.below hb2 zm
        have m0' : w2.cell? ⟨wr.heap.size, 0, none⟩ = some (.int .i64 kk) := cellOfBlk bk2 0
        clear hwm m0 m1 bk2 hb2
        obtain ⟨bd, y, rfl, hy, hd⟩ := (I0.out.below (by omega) HB2.out).ints.at_ (k := kk) (by rw [Hp.out]; exact hkp)
        have HIy : Hid ((itemsM f xs)[j]? = some y) := by
          show _ = _
          rw [HI.out]
          unfold itemM
          rw [if_neg (by omega), Int.toNat_natCast, getD_at hy.out]
        have Km := Lib.hid (K0.out.below HB2.out (by omega))
        have q1 : w2.cell? ⟨w.heap.size, 1, none⟩ = some (.slice (some bd) p d) := cellOfBlk Km.out 1
        obtain ⟨v0, hv0⟩ := half_cell (itemsM f xs) n j HZ.out hlt
        have hdd := (HO2.out.cellAt j (by omega)).trans hv0
        have hff := HO2.out.frozenAt j
        have hst := HO2.out.stored j (.int .i64 y)
        rw [half_set HZ.out HIy.out] at hst
        have HS := Lib.hid hst.1
        have HB3 := Lib.hid (HB2.out.setCell (p := ⟨w0.heap.size, j, none⟩) (Nat.le_refl _) (.int .i64 y))
        clear hst hv0
        go_wp2
        go_roundw
        case rel => exact ⟨j + 1, by omega, by go_num, HS.out, HB3.out⟩
        case measure => simp [intOf]; omega
      · have Hbd := Lib.hid hbd
        clear hbd HX
        go_wp2_with fail
        refine (isBand_any _ _ _).mono ?_
        rintro e w2 ⟨he, hb2⟩
        rw [Hbd.out] at he
        subst he
        have HB2 := Lib.hid (HBm.out.trans (hb2.mono (by omega)))
        have HO2 := Lib.hid (row_keep HOm.out hb2)
        clear hwm m0 m1 hb2
        have HIy : Hid ((itemsM f xs)[j]? = some 0) := by
          show _ = _
          rw [HI.out]
          have h1 := Hbd.out
          unfold bandM at h1
          rw [Bool.and_eq_true, beq_iff_eq] at h1
          unfold itemM
          rw [if_pos (by show a < 0; have := h1.1; omega)]
        obtain ⟨v0, hv0⟩ := half_cell (itemsM f xs) n j HZ.out hlt
        have hdd := (HO2.out.cellAt j (by omega)).trans hv0
        have hff := HO2.out.frozenAt j
        have hst := HO2.out.stored j (.int .i64 0)
        rw [half_set HZ.out HIy.out] at hst
        have HS := Lib.hid hst.1
        have HB3 := Lib.hid (HB2.out.setCell (p := ⟨w0.heap.size, j, none⟩) (Nat.le_refl _) (.int .i64 0))
        clear hst hv0
        go_wp2
        go_roundw
        case rel => exact ⟨j + 1, by omega, by go_num, HS.out, HB3.out⟩
        case measure => simp [intOf]; omega
    · have hjn : j = n := by omega
      subst hjn
      go_wp2
      go_ret
      refine ⟨_, rfl, ?_, T0.out.trans (HB.out.mono (by omega))⟩
      have hown := HO.out
      rw [half_full HZ.out] at hown
      have : Own wr w0.heap.size (.slice (some ⟨w0.heap.size, 0, none⟩) j j) (itemsM f xs) := by unfold Own; rw [HZ.out]; exact hown
      exact own_baseB this (by omega)
end Go.Proofs.YtimhnkpccbcohaaGreatDoor

namespace Go.Proofs.YtimhnkpccbcohaaGreatDoor
open Go.RowKit
set_option linter.unusedVariables false

set_option maxRecDepth 100000 in
set_option maxHeartbeats 3200000 in
theorem szMachine_any (lo hi : Nat) (v : Value) (X : Mch) (left : Int) (w : World) (h : MchV w lo hi v X) (hhi : hi ≤ w.heap.size) (h0 : 0 ≤ left) (h1 : left ≤ 1048576) :
    Calls Tryz.prog 7 #[v, .int .i64 left] w fun e w' => e = .returned (.int .i64 (takeOff left X.big)) ∧ Below w.heap.size w w' := by
  obtain ⟨s, A, n, c, A2, m, d, M, q, e0, L, l, lc, T, r, tc, rfl, hf, hq, hM, hqe, hem, hl, hL, hllc, hlm, hr, hT, hrt, htm⟩ := h.parts
  have hqm : q ≤ maxLen := by omega
  have hlm2 : l ≤ maxLen := by omega
  have hrm : r ≤ maxLen := by omega
  have hbig : X.big = X.f.big + magBig X.ms + l + r := by unfold Mch.big; rw [hl, hr]
  rw [hbig]
  obtain ⟨a, ha⟩ : ∃ a, X.f.big = a := ⟨_, rfl⟩
  obtain ⟨b, hb⟩ : ∃ b, magBig X.ms = b := ⟨_, rfl⟩
  rw [ha, hb]
  have Ha := Lib.hid ha; have Hb := Lib.hid hb; have Hq := Lib.hid hq
  have tok1 : True := trivial
  obtain ⟨w0, hw0, hb0, hz0, K0⟩ := mxWorld w #[.string s, .slice A n c, .slice A2 m d, .slice M q e0, .int .i64 X.sp, .int .i64 X.w, .int .i64 X.t, .int .i64 X.k, .slice L l lc, .slice T r tc] 30
  have V0 := Lib.hid (hf.below hhi hb0); have M0 := Lib.hid (hM.below hhi hb0); have T0 := Lib.hid hb0; have K0 := Lib.hid K0; have Z0 := Lib.hid hz0
  obtain ⟨c0, c1, c2, c3, c4, c5, c6, c7, c8, c9⟩ := K0.out.ten
  clear h hf hq hM hqe hem hl hL hllc hlm hr hT hrt htm hbig ha hb hb0 hz0
  by_cases l1 : left < (a : Int)
  · have Q1 : Hid (takeOff left a = -1) := by show _ = _; unfold takeOff; rw [if_pos l1]
    have HK : Hid (takeOff left ((a + b + l + r : Nat) : Int) = -1) := by show _ = _; unfold takeOff; rw [if_pos (by omega)]
    clear l1
    go_enter Tryz.func7, Tryz.ntmps7
    go_wp2_with (first
        | (go_at_call 28; clear hw0; refine (szFont_any lo hi _ X.f _ w0 V0.out (by omega) (by omega)).mono ?_; rintro e w1 ⟨he, hb1⟩; rw [Ha.out, Q1.out] at he; subst he; have K1 := Lib.hid (K0.out.below hb1 (by have := Z0.out; omega)); have M1 := Lib.hid (M0.out.below (by have := Z0.out; omega) hb1); have T1 := Lib.hid (T0.out.trans (hb1.mono (by have := Z0.out; omega))); clear hb1 c0 c1 c2 c3 c4 c5 c6 c7 c8 c9; obtain ⟨c0, c1, c2, c3, c4, c5, c6, c7, c8, c9⟩ := K1.out.ten))
    go_ret
    exact ⟨ret_int HK.out.symm, T1.out⟩
  have Q1 : Hid (takeOff left a = left - a) := by show _ = _; unfold takeOff; rw [if_neg l1]
  obtain ⟨x1, hx1⟩ : ∃ x, left - (a : Int) = x := ⟨_, rfl⟩
  have p1 : 0 ≤ x1 := by omega
  have p1' : x1 ≤ 1048576 := by omega
  rw [hx1] at Q1
  by_cases l2 : x1 < (b : Int)
  · have Q2 : Hid (takeOff x1 b = -1) := by show _ = _; unfold takeOff; rw [if_pos l2]
    have HK : Hid (takeOff left ((a + b + l + r : Nat) : Int) = -1) := by show _ = _; unfold takeOff; rw [if_pos (by omega)]
    clear l1 l2 hx1
    go_enter Tryz.func7, Tryz.ntmps7
    go_wp2_with (first
        | (go_at_call 28; clear hw0; refine (szFont_any lo hi _ X.f _ w0 V0.out (by omega) (by omega)).mono ?_; rintro e w1 ⟨he, hb1⟩; rw [Ha.out, Q1.out] at he; subst he; have K1 := Lib.hid (K0.out.below hb1 (by have := Z0.out; omega)); have M1 := Lib.hid (M0.out.below (by have := Z0.out; omega) hb1); have T1 := Lib.hid (T0.out.trans (hb1.mono (by have := Z0.out; omega))); clear hb1 c0 c1 c2 c3 c4 c5 c6 c7 c8 c9; obtain ⟨c0, c1, c2, c3, c4, c5, c6, c7, c8, c9⟩ := K1.out.ten)
        | (go_at_call 29; refine (szMatrixSS_any lo hi _ _ _ X.ms _ w1 Hq.out hqm M1.out (by omega) (by omega)).mono ?_; rintro e w1' ⟨he, rfl⟩; rw [Hb.out, Q2.out] at he; subst he))
    go_ret
    exact ⟨ret_int HK.out.symm, T1.out⟩
  have Q2 : Hid (takeOff x1 b = x1 - b) := by show _ = _; unfold takeOff; rw [if_neg l2]
  obtain ⟨x2, hx2⟩ : ∃ x, x1 - (b : Int) = x := ⟨_, rfl⟩
  have p2 : 0 ≤ x2 := by omega
  have p2' : x2 ≤ 1048576 := by omega
  rw [hx2] at Q2
  by_cases l3 : x2 < (l : Int)
  · have Q3 : Hid (takeOff x2 l = -1) := by show _ = _; unfold takeOff; rw [if_pos l3]
    have HK : Hid (takeOff left ((a + b + l + r : Nat) : Int) = -1) := by show _ = _; unfold takeOff; rw [if_pos (by omega)]
    clear l1 l2 l3 hx1 hx2
    go_enter Tryz.func7, Tryz.ntmps7
    go_wp2_with (first
        | (go_at_call 28; clear hw0; refine (szFont_any lo hi _ X.f _ w0 V0.out (by omega) (by omega)).mono ?_; rintro e w1 ⟨he, hb1⟩; rw [Ha.out, Q1.out] at he; subst he; have K1 := Lib.hid (K0.out.below hb1 (by have := Z0.out; omega)); have M1 := Lib.hid (M0.out.below (by have := Z0.out; omega) hb1); have T1 := Lib.hid (T0.out.trans (hb1.mono (by have := Z0.out; omega))); clear hb1 c0 c1 c2 c3 c4 c5 c6 c7 c8 c9; obtain ⟨c0, c1, c2, c3, c4, c5, c6, c7, c8, c9⟩ := K1.out.ten)
        | (go_at_call 29; refine (szMatrixSS_any lo hi _ _ _ X.ms _ w1 Hq.out hqm M1.out (by omega) (by omega)).mono ?_; rintro e w1' ⟨he, rfl⟩; rw [Hb.out, Q2.out] at he; subst he)
        | (go_at_call 30; clear tok1; refine (szMatrixS_any _ _ _ x2 w1 hlm2 (by omega) (by omega)).mono ?_; rintro e w1' ⟨he, rfl⟩; rw [Q3.out] at he; subst he))
    go_ret
    exact ⟨ret_int HK.out.symm, T1.out⟩
  have Q3 : Hid (takeOff x2 l = x2 - l) := by show _ = _; unfold takeOff; rw [if_neg l3]
  obtain ⟨x3, hx3⟩ : ∃ x, x2 - (l : Int) = x := ⟨_, rfl⟩
  have p3 : 0 ≤ x3 := by omega
  have p3' : x3 ≤ 1048576 := by omega
  rw [hx3] at Q3
  by_cases l4 : x3 < (r : Int)
  · have Q4 : Hid (takeOff x3 r = -1) := by show _ = _; unfold takeOff; rw [if_pos l4]
    have HK : Hid (takeOff left ((a + b + l + r : Nat) : Int) = -1) := by show _ = _; unfold takeOff; rw [if_pos (by omega)]
    clear l1 l2 l3 l4 hx1 hx2 hx3
    go_enter Tryz.func7, Tryz.ntmps7
    go_wp2_with (first
        | (go_at_call 28; clear hw0; refine (szFont_any lo hi _ X.f _ w0 V0.out (by omega) (by omega)).mono ?_; rintro e w1 ⟨he, hb1⟩; rw [Ha.out, Q1.out] at he; subst he; have K1 := Lib.hid (K0.out.below hb1 (by have := Z0.out; omega)); have M1 := Lib.hid (M0.out.below (by have := Z0.out; omega) hb1); have T1 := Lib.hid (T0.out.trans (hb1.mono (by have := Z0.out; omega))); clear hb1 c0 c1 c2 c3 c4 c5 c6 c7 c8 c9; obtain ⟨c0, c1, c2, c3, c4, c5, c6, c7, c8, c9⟩ := K1.out.ten)
        | (go_at_call 29; refine (szMatrixSS_any lo hi _ _ _ X.ms _ w1 Hq.out hqm M1.out (by omega) (by omega)).mono ?_; rintro e w1' ⟨he, rfl⟩; rw [Hb.out, Q2.out] at he; subst he)
        | (go_at_call 30; clear tok1; refine (szMatrixS_any _ _ _ x2 w1 hlm2 (by omega) (by omega)).mono ?_; rintro e w1' ⟨he, rfl⟩; rw [Q3.out] at he; subst he)
        | (go_at_call 30; refine (szMatrixS_any _ _ _ x3 w1 hrm (by omega) (by omega)).mono ?_; rintro e w1' ⟨he, rfl⟩; rw [Q4.out] at he; subst he))
    go_ret
    exact ⟨ret_int HK.out.symm, T1.out⟩
  have Q4 : Hid (takeOff x3 r = x3 - r) := by show _ = _; unfold takeOff; rw [if_neg l4]
  obtain ⟨x4, hx4⟩ : ∃ x, x3 - (r : Int) = x := ⟨_, rfl⟩
  have p4 : 0 ≤ x4 := by omega
  rw [hx4] at Q4
  have HK : Hid (takeOff left ((a + b + l + r : Nat) : Int) = x4) := by show _ = _; unfold takeOff; rw [if_neg (by omega)]; omega
  clear l1 l2 l3 l4 hx1 hx2 hx3 hx4
  go_enter Tryz.func7, Tryz.ntmps7
  go_wp2_with (first
      | (go_at_call 28; clear hw0; refine (szFont_any lo hi _ X.f _ w0 V0.out (by omega) (by omega)).mono ?_; rintro e w1 ⟨he, hb1⟩; rw [Ha.out, Q1.out] at he; subst he; have K1 := Lib.hid (K0.out.below hb1 (by have := Z0.out; omega)); have M1 := Lib.hid (M0.out.below (by have := Z0.out; omega) hb1); have T1 := Lib.hid (T0.out.trans (hb1.mono (by have := Z0.out; omega))); clear hb1 c0 c1 c2 c3 c4 c5 c6 c7 c8 c9; obtain ⟨c0, c1, c2, c3, c4, c5, c6, c7, c8, c9⟩ := K1.out.ten)
      | (go_at_call 29; refine (szMatrixSS_any lo hi _ _ _ X.ms _ w1 Hq.out hqm M1.out (by omega) (by omega)).mono ?_; rintro e w1' ⟨he, rfl⟩; rw [Hb.out, Q2.out] at he; subst he)
      | (go_at_call 30; clear tok1; refine (szMatrixS_any _ _ _ x2 w1 hlm2 (by omega) (by omega)).mono ?_; rintro e w1' ⟨he, rfl⟩; rw [Q3.out] at he; subst he)
      | (go_at_call 30; refine (szMatrixS_any _ _ _ x3 w1 hrm (by omega) (by omega)).mono ?_; rintro e w1' ⟨he, rfl⟩; rw [Q4.out] at he; subst he))
  go_ret
  exact ⟨ret_int HK.out.symm, T1.out⟩

theorem eqMeasure_any (W t k : Int) (w : World) : Calls Tryz.prog 44 #[.agg #[.int .i64 W, .int .i64 t, .int .i64 k], .agg #[.int .i64 W, .int .i64 t, .int .i64 k]] w fun e w' => e = .returned (.bool true) ∧ Below w.heap.size w w' := by
  have b1 : (W != W) = false := by simp
  have b2 : (t != t) = false := by simp
  have b3 : (k != k) = false := by simp
  have HW := Lib.hid (((Below.refl w.heap.size w).alloc (Nat.le_refl _) (.cells #[.int .i64 W, .int .i64 t, .int .i64 k] 34)).alloc (by simp) (.cells #[.int .i64 W, .int .i64 t, .int .i64 k] 34))
  go_enter Tryz.func44, Tryz.ntmps44
  go_wp2
  go_ret
  exact ⟨rfl, HW.out⟩
theorem eqMatrixS_same (lo hi lo2 hi2 : Nat) (A B : Option Addr) (n c d : Nat) (xs : List Mat) (w : World) (hn : xs.length = n) (hl : n ≤ 1048576) (hhi : hi ≤ w.heap.size) (hhi2 : hi2 ≤ w.heap.size) (h : MatsI w lo hi A xs) (h2 : MatsI w lo2 hi2 B xs) :
    Calls Tryz.prog 45 #[.slice A n c, .slice B n d] w fun e w' => e = .returned (.bool true) ∧ Below w.heap.size w w' := by
  refine (eqMatrixS_any lo hi lo2 hi2 A B n n c d xs xs w hn hn hl (by unfold maxLen; omega) hhi hhi2 h h2).mono ?_
  rintro e w' ⟨rfl, hb⟩
  exact ⟨by simp, hb⟩
/-- the words of a second machine that reads alike -/
theorem MchV.again {w : World} {lo hi lo2 hi2 : Nat} {X : Mch} {v u : Value} (h : MchV w lo hi v X) (h2 : MchV w lo2 hi2 u X) : ∃ s A n c A2 m d M q e L l lc T r tc B b B2 b2 N e' L' lc' T' tc',
    v = .agg #[.string s, .slice A n c, .slice A2 m d, .slice M q e, .int .i64 X.sp, .int .i64 X.w, .int .i64 X.t, .int .i64 X.k, .slice L l lc, .slice T r tc]
    ∧ u = .agg #[.string s, .slice B n b, .slice B2 m b2, .slice N q e', .int .i64 X.sp, .int .i64 X.w, .int .i64 X.t, .int .i64 X.k, .slice L' l lc', .slice T' r tc']
    ∧ FontV w lo hi (.agg #[.string s, .slice A n c, .slice A2 m d]) X.f ∧ FontV w lo2 hi2 (.agg #[.string s, .slice B n b, .slice B2 m b2]) X.f
    ∧ X.ms.length = q ∧ MagI w lo hi M X.ms ∧ MagI w lo2 hi2 N X.ms ∧ X.ln.length = l ∧ MatsI w lo hi L X.ln ∧ MatsI w lo2 hi2 L' X.ln ∧ X.wt.length = r ∧ MatsI w lo hi T X.wt ∧ MatsI w lo2 hi2 T' X.wt := by
  obtain ⟨A, c, A2, d, M, e, L, lc, T, tc, hv, hp⟩ := h
  obtain ⟨B, b, B2, b2, N, e', L', lc', T', tc', hu, hp2⟩ := h2
  exact ⟨_, A, _, c, A2, _, d, M, _, e, L, _, lc, T, _, tc, B, b, B2, b2, N, e', L', lc', T', tc', hv, hu, hp.font, hp2.font, rfl, hp.mag, hp2.mag, rfl, hp.line, hp2.line, rfl, hp.wait, hp2.wait⟩
set_option maxRecDepth 100000 in
set_option maxHeartbeats 3200000 in
theorem eqMachine_same (lo hi lo2 hi2 : Nat) (v u : Value) (X : Mch) (w : World) (h : MchV w lo hi v X) (h2 : MchV w lo2 hi2 u X) (hhi : hi ≤ w.heap.size) (hhi2 : hi2 ≤ w.heap.size) (hs : SmallX X) :
    Calls Tryz.prog 11 #[v, u] w fun e w' => e = .returned (.bool true) ∧ Below w.heap.size w w' := by
  obtain ⟨s, A, n, c, A2, m, d, M, q, e0, L, l, lc, T, r, tc, B, b, B2, b2, N, e', L', lc', T', tc', rfl, rfl, hf, hf2, hq, hM, hM2, hl, hL, hL2, hr, hT, hT2⟩ := h.again h2
  have Hq := Lib.hid hq; have Hl := Lib.hid hl; have Hr := Lib.hid hr; have HS := Lib.hid hs
  have hq1 : q ≤ 1048576 := by rw [← hq]; exact hs.ms
  have hl1 : l ≤ 1048576 := by rw [← hl]; exact hs.ln
  have hr1 : r ≤ 1048576 := by rw [← hr]; exact hs.wt
  obtain ⟨sp, hsp⟩ : ∃ x, X.sp = x := ⟨_, rfl⟩
  obtain ⟨W, hW⟩ : ∃ x, X.w = x := ⟨_, rfl⟩
  obtain ⟨t, ht⟩ : ∃ x, X.t = x := ⟨_, rfl⟩
  obtain ⟨k, hk⟩ : ∃ x, X.k = x := ⟨_, rfl⟩
  rw [hsp, hW, ht, hk] at h h2 ⊢
  have b1 : (sp != sp) = false := by simp
  obtain ⟨w0, hw0, hb0, hz0, K0⟩ := mxWorld w #[.string s, .slice A n c, .slice A2 m d, .slice M q e0, .int .i64 sp, .int .i64 W, .int .i64 t, .int .i64 k, .slice L l lc, .slice T r tc] 37
  obtain ⟨w1, hw1, hb1, hz1, J1⟩ := mxWorld w0 #[.string s, .slice B n b, .slice B2 m b2, .slice N q e', .int .i64 sp, .int .i64 W, .int .i64 t, .int .i64 k, .slice L' l lc', .slice T' r tc'] 37
  have K1 := Lib.hid (K0.below hb1 (by omega))
  have hb01 := hb0.trans (hb1.mono (by omega))
  have J1 := Lib.hid J1; have T1 := Lib.hid hb01
  have F1 := Lib.hid (hf.below hhi hb01); have G1 := Lib.hid (hf2.below hhi2 hb01)
  have M1 := Lib.hid (hM.below hhi hb01); have N1 := Lib.hid (hM2.below hhi2 hb01)
  have L1 := Lib.hid (hL.below hhi hb01); have L1' := Lib.hid (hL2.below hhi2 hb01)
  have W1 := Lib.hid (hT.below hhi hb01); have W1' := Lib.hid (hT2.below hhi2 hb01)
  have Z1 : Hid (w1.heap.size = w.heap.size + 2) := by show _ = _; omega
  have Z0 := Lib.hid hz0
  clear h h2 hf hf2 hM hM2 hL hL2 hT hT2 hq hl hr hs hsp hW ht hk hb0 hb1 hb01 K0 hz0 hz1
  have z0 : w0.heap.size ≤ w.heap.size + 1 := by have := Z0.out; omega
  obtain ⟨c0, c1, c2, c3, c4, c5, c6, c7, c8, c9⟩ := K1.out.ten
  obtain ⟨dc0, dc1, dc2, dc3, dc4, dc5, dc6, dc7, dc8, dc9⟩ := J1.out.ten
  have z1 := Z1.out
  have tok1 : True := trivial
  clear Z0 Z1
  go_enter Tryz.func11, Tryz.ntmps11
  go_wp2_with (first
      | (go_at_call 42; clear hw0 hw1; refine (eqFont_same lo hi lo2 hi2 _ _ X.f w1 F1.out G1.out (by omega) (by omega) HS.out.f).mono ?_; rintro e w2 ⟨rfl, hb⟩; have K2 := Lib.hid (K1.out.below hb (by omega)); have J2 := Lib.hid (J1.out.below hb (by omega)); have T2 := Lib.hid (T1.out.trans (hb.mono (by omega))); have z2 : w.heap.size + 2 ≤ w2.heap.size := (by have := hb.size; omega); have M2 := Lib.hid (M1.out.below (by omega) hb); have N2 := Lib.hid (N1.out.below (by omega) hb); have L2 := Lib.hid (L1.out.below (by omega) hb); have L2' := Lib.hid (L1'.out.below (by omega) hb); have W2 := Lib.hid (W1.out.below (by omega) hb); have W2' := Lib.hid (W1'.out.below (by omega) hb); clear hb c0 c1 c2 c3 c4 c5 c6 c7 c8 c9 dc0 dc1 dc2 dc3 dc4 dc5 dc6 dc7 dc8 dc9; obtain ⟨c0, c1, c2, c3, c4, c5, c6, c7, c8, c9⟩ := K2.out.ten; obtain ⟨dc0, dc1, dc2, dc3, dc4, dc5, dc6, dc7, dc8, dc9⟩ := J2.out.ten)
      | (go_at_call 43; refine (eqMatrixSS_same lo hi lo2 hi2 _ _ _ _ _ X.ms w2 Hq.out hq1 HS.out.row (by omega) (by omega) M2.out N2.out).mono ?_; rintro e w3 ⟨rfl, hb⟩; have K3 := Lib.hid (K2.out.below hb (by omega)); have J3 := Lib.hid (J2.out.below hb (by omega)); have T3 := Lib.hid (T2.out.trans (hb.mono (by omega))); have z3 : w.heap.size + 2 ≤ w3.heap.size := (by have := hb.size; omega); have L3 := Lib.hid (L2.out.below (by omega) hb); have L3' := Lib.hid (L2'.out.below (by omega) hb); have W3 := Lib.hid (W2.out.below (by omega) hb); have W3' := Lib.hid (W2'.out.below (by omega) hb); clear hb c0 c1 c2 c3 c4 c5 c6 c7 c8 c9 dc0 dc1 dc2 dc3 dc4 dc5 dc6 dc7 dc8 dc9; obtain ⟨c0, c1, c2, c3, c4, c5, c6, c7, c8, c9⟩ := K3.out.ten; obtain ⟨dc0, dc1, dc2, dc3, dc4, dc5, dc6, dc7, dc8, dc9⟩ := J3.out.ten)
      | (go_at_call 44; refine (eqMeasure_any W t k w3).mono ?_; rintro e w4 ⟨rfl, hb⟩; have K4 := Lib.hid (K3.out.below hb (by omega)); have J4 := Lib.hid (J3.out.below hb (by omega)); have T4 := Lib.hid (T3.out.trans (hb.mono (by omega))); have z4 : w.heap.size + 2 ≤ w4.heap.size := (by have := hb.size; omega); have L4 := Lib.hid (L3.out.below (by omega) hb); have L4' := Lib.hid (L3'.out.below (by omega) hb); have W4 := Lib.hid (W3.out.below (by omega) hb); have W4' := Lib.hid (W3'.out.below (by omega) hb); clear hb c0 c1 c2 c3 c4 c5 c6 c7 c8 c9 dc0 dc1 dc2 dc3 dc4 dc5 dc6 dc7 dc8 dc9; obtain ⟨c0, c1, c2, c3, c4, c5, c6, c7, c8, c9⟩ := K4.out.ten; obtain ⟨dc0, dc1, dc2, dc3, dc4, dc5, dc6, dc7, dc8, dc9⟩ := J4.out.ten)
      | (go_at_call 45; clear tok1; refine (eqMatrixS_same lo hi lo2 hi2 _ _ _ _ _ X.ln w4 Hl.out hl1 (by omega) (by omega) L4.out L4'.out).mono ?_; rintro e w5 ⟨rfl, hb⟩; have K5 := Lib.hid (K4.out.below hb (by omega)); have J5 := Lib.hid (J4.out.below hb (by omega)); have T5 := Lib.hid (T4.out.trans (hb.mono (by omega))); have z5 : w.heap.size + 2 ≤ w5.heap.size := (by have := hb.size; omega); have W5 := Lib.hid (W4.out.below (by omega) hb); have W5' := Lib.hid (W4'.out.below (by omega) hb); clear hb c0 c1 c2 c3 c4 c5 c6 c7 c8 c9 dc0 dc1 dc2 dc3 dc4 dc5 dc6 dc7 dc8 dc9; obtain ⟨c0, c1, c2, c3, c4, c5, c6, c7, c8, c9⟩ := K5.out.ten; obtain ⟨dc0, dc1, dc2, dc3, dc4, dc5, dc6, dc7, dc8, dc9⟩ := J5.out.ten)
      | (go_at_call 45; refine (eqMatrixS_same lo hi lo2 hi2 _ _ _ _ _ X.wt w5 Hr.out hr1 (by omega) (by omega) W5.out W5'.out).mono ?_; rintro e w6 ⟨rfl, hb⟩; have K6 := Lib.hid (K5.out.below hb (by omega)); have J6 := Lib.hid (J5.out.below hb (by omega)); have T6 := Lib.hid (T5.out.trans (hb.mono (by omega))); have z6 : w.heap.size + 2 ≤ w6.heap.size := (by have := hb.size; omega); clear hb c0 c1 c2 c3 c4 c5 c6 c7 c8 c9 dc0 dc1 dc2 dc3 dc4 dc5 dc6 dc7 dc8 dc9; obtain ⟨c0, c1, c2, c3, c4, c5, c6, c7, c8, c9⟩ := K6.out.ten; obtain ⟨dc0, dc1, dc2, dc3, dc4, dc5, dc6, dc7, dc8, dc9⟩ := J6.out.ten))
  go_ret
  exact ⟨rfl, T6.out⟩

end Go.Proofs.YtimhnkpccbcohaaGreatDoor
