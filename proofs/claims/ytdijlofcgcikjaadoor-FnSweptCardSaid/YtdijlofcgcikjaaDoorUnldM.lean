/-
  unload by contract: what lies in the channels becomes a magazine of the call's own.
-/
import Derived.Test.YtdijlofcgcikjaaDoorLoadM
namespace Go.Proofs.YtdijlofcgcikjaaDoor
open Go.RowKit Go.Conc
set_option linter.unusedVariables false
set_option linter.unusedSimpArgs false

theorem Chg.upon {lo hi a b : Nat} {w w2 w3 : World} (h : Chg lo hi w w2) (k : Chg a b w2 w3) (ha : w.heap.size ≤ a) : Chg lo hi w w3 :=
  ⟨k.os.trans h.os, k.tape.trans h.tape, k.output.trans h.output, Nat.le_trans h.size k.size, fun i hi hn => (k.block i (Nat.lt_of_lt_of_le hi h.size) (by omega)).trans (h.block i hi hn)⟩
theorem run_len_chan {w : World} {c s r : Nat} {buf : Array Value} (ty : TypeId) (hc : w.heap[c]? = some (.chan 20 buf false s r false)) : (Builtin.len_ #[103] ty #[.chan (some c)]).run Tryd.prog w = .ok (.int .i64 (buf.size : Int)) w := by
  have hg : (getObj c).run Tryd.prog w = .ok (.chan 20 buf false s r false) w := by simp [getObj, Sem.run, hc]
  simp [Builtin.len_, run_underlying Tryd.underlying103, hg, goInt, Result.andThen]
theorem OwnMag.wid {w : World} {B hi hi' : Nat} {v : Value} {hs : List Value} {ms : List (List Mat)} (h : OwnMag w B hi v hs ms) (hle : hi ≤ hi') : OwnMag w B hi' v hs ms :=
  ⟨h.outer, h.rows, h.apart, fun i x g a b => ⟨(h.other i x g a b).1, Nat.lt_of_lt_of_le (h.other i x g a b).2 hle⟩, fun g a => Nat.lt_of_lt_of_le (h.top g a) hle⟩
section
variable {ops : Array Oper} {rest : List Oper} {o : Oper} {a : Act} {Q : Exit → Act → World → Prop}
theorem wpl_len_chan (w : World) (hg : o.guard = none) (m : Operand) (hop : o.op = Op.call { callee := Callee.builtin Builtin.len, args := #[m], argTypes := #[103] })
    (c : Nat) (xs : List Mat) (s r : Nat) (hm : a.eval m = .chan (some c)) (hc : w.heap[c]? = some (.chan 20 (bufM xs) false s r false)) (l : Nat) (hl : xs.length = l) (hK : wpList Tryd.prog ops Q rest (a.put o.dst (.int .i64 l)) w) :
    wpList Tryd.prog ops Q (o :: rest) a w := by
  refine wpList_plain hg fun K' hK' => ?_
  have hr := run_len_chan o.type hc
  rw [bufM_size, hl] at hr
  unfold Oper.wp
  simp [execOp, hop, resolve, invoke, builtin, hm, hr, Result.andThen]
  exact hK' _ _ hK
/-- append of one matrix, just made, to a row of the call's own: its run -/
theorem run_push_one {o : Oper} {a : Act} (w : World) (s x : Operand) (ho : o.op = .call { callee := .builtin .append, args := #[s, x], argTypes := #[34, 34] })
    (B : Nat) (v : Value) (xs : List Mat) (y : Mat) (hs : a.eval s = v) (hx : a.eval x = .slice (some ⟨w.heap.size, 0, none⟩) 1 1) (hown : OwnM w B v xs) (hB : B ≤ w.heap.size) (hlen : xs.length ≤ 1048576) :
    ∃ v' w', (execOp a.eval o).run Tryd.prog (w.alloc (.cells #[.int .i64 y.1, .int .i64 y.2] 30)) = .ok (.value v') w' ∧ OwnM w' B v' (xs ++ [y]) ∧ w.grownBy w' v.ownBlock ∧ (v'.ownBlock = v.ownBlock ∨ ∀ k, v'.ownBlock = some k → w.heap.size ≤ k) := by
  obtain ⟨i0, hi, hz0, hz1, hz2⟩ := info_parts matInfo
  obtain ⟨v', w', hr, h2, h3, _, hlie⟩ := run_append_own_at (P := Tryd.prog) (w := w.alloc (.cells #[.int .i64 y.1, .int .i64 y.2] 30)) B 34 o.type 30 i0 (.agg #[.int .i64 0, .int .i64 0]) 2 16 Tryd.underlying34 hi hz0 hz1 hz2 rfl (by decide) v xs.length (mcells xs) (World.ownsRow.alloc hown _) ⟨w.heap.size, 0, none⟩ 1 1 [.int .i64 y.1, .int .i64 y.2] rfl (by
    intro j u hj
    match j, hj with
    | 0, hj =>
      simp at hj; subst hj
      rw [add_zero_at, World.cell?_alloc_at _ _ _ _ rfl]
      rfl
    | 1, hj =>
      simp at hj; subst hj
      rw [addr_next, add_zero_at, World.cell?_alloc_at _ _ _ _ rfl]
      rfl) (by
    intro u hu
    simp at hu
    rcases hu with rfl | rfl <;> rfl) (by unfold maxLen; omega) (by omega) (by simp; omega)
  refine ⟨v', w', ?_, ?_, (World.grownBy_alloc _ _ _).trans h3, ?_⟩
  · unfold execOp
    simp only [ho, resolve, invoke, builtin, Sem.run_bind, Sem.run_pure, Result.andThen_ok, List.map_toArray, List.map_cons, List.map_nil, hs, hx, hr]
  · unfold OwnM
    rw [mcells_snoc, List.length_append]
    exact h2
  · rcases hlie with h4 | h4
    · exact .inl h4
    · refine .inr fun k hk => ?_
      rw [h4] at hk
      have e2 := Option.some.inj hk
      simp at e2
      omega
theorem planC_push {S : World → Prop} {i : Nat} {p : PlanT} (w : World) (hi : ops.toList[i]? = some o) (hw : Region.wanted o (yielded ops a.tmps) = true) (s x : Operand) (ho : o.op = .call { callee := .builtin .append, args := #[s, x], argTypes := #[34, 34] })
    (B : Nat) (v : Value) (xs : List Mat) (y : Mat) (hs : a.eval s = v) (hx : a.eval x = .slice (some ⟨w.heap.size, 0, none⟩) 1 1) (hown : OwnM w B v xs) (hB : B ≤ w.heap.size) (hlen : xs.length ≤ 1048576)
    (hK : ∀ v' w', OwnM w' B v' (xs ++ [y]) → w.grownBy w' v.ownBlock → (v'.ownBlock = v.ownBlock ∨ ∀ k, v'.ownBlock = some k → w.heap.size ≤ k) → S w' ∧ wpPlanC Tryd.prog ops Q S p (a.put o.dst v') w') :
    wpPlanC Tryd.prog ops Q S (.one i p) a (w.alloc (.cells #[.int .i64 y.1, .int .i64 y.2] 30)) := by
  obtain ⟨v', w', hr, h1, h2, h3⟩ := run_push_one w s x ho B v xs y hs hx hown hB hlen
  exact planC_value hi hw hr (hK v' w' h1 h2 h3).1 (hK v' w' h1 h2 h3).2
end
/-- rows that are empty up to i -/
def drn (ms : List (List Mat)) (i : Nat) : List (List Mat) := List.replicate i [] ++ ms.drop i
theorem drn_len {ms : List (List Mat)} {n i : Nat} (hn : ms.length = n) (hi : i ≤ n) : (drn ms i).length = n := by unfold drn; simp; omega
theorem drn_get {ms : List (List Mat)} {i : Nat} {xs : List Mat} (hx : ms[i]? = some xs) : (drn ms i)[i]? = some xs := by
  unfold drn
  rw [List.getElem?_append_right (by simp), List.length_replicate, Nat.sub_self, List.getElem?_drop]; exact hx
theorem drn_set {ms : List (List Mat)} {i : Nat} (hi : i < ms.length) : (drn ms i).set i [] = drn ms (i + 1) := by
  apply List.ext_getElem?
  intro k
  unfold drn
  by_cases h1 : k = i
  · subst h1
    rw [List.getElem?_set_self (by simp; omega), List.getElem?_append_left (by simp), List.getElem?_replicate, if_pos (by omega)]
  · rw [List.getElem?_set_ne (fun e => h1 e.symm)]
    by_cases h2 : k < i
    · rw [List.getElem?_append_left (by simpa using h2), List.getElem?_append_left (by simp; omega), List.getElem?_replicate, List.getElem?_replicate, if_pos h2, if_pos (by omega)]
    · rw [List.getElem?_append_right (by simp; omega), List.getElem?_append_right (by simp; omega), List.length_replicate, List.length_replicate, List.getElem?_drop, List.getElem?_drop]
      congr 1; omega
/-- row i without its first j -/
def drnJ (ms : List (List Mat)) (i j : Nat) (xs : List Mat) : List (List Mat) := (drn ms i).set i (xs.drop j)
theorem drnJ_zero {ms : List (List Mat)} {i : Nat} {xs : List Mat} (hx : ms[i]? = some xs) : drnJ ms i 0 xs = drn ms i := by unfold drnJ; exact set_same (drn_get hx)
theorem drnJ_set {ms : List (List Mat)} {i j : Nat} {xs : List Mat} : (drnJ ms i j xs).set i (xs.drop (j + 1)) = drnJ ms i (j + 1) xs := by unfold drnJ; rw [List.set_set]
theorem drnJ_all {ms : List (List Mat)} {i l : Nat} {xs : List Mat} (hx : ms[i]? = some xs) (hl : xs.length = l) : drnJ ms i l xs = drn ms (i + 1) := by
  unfold drnJ; rw [← hl, List.drop_length]; exact drn_set (List.getElem?_eq_some_iff.1 hx).1
theorem drnJ_get {ms : List (List Mat)} {i j : Nat} {xs : List Mat} (hx : ms[i]? = some xs) : (drnJ ms i j xs)[i]? = some (xs.drop j) := by
  unfold drnJ; exact List.getElem?_set_self (by have := (List.getElem?_eq_some_iff.1 (drn_get hx)).1; exact this)
theorem drop_next {α : Type} {l : List α} {j : Nat} {x : α} (h : l[j]? = some x) : l.drop j = x :: l.drop (j + 1) := by
  obtain ⟨h1, h2⟩ := List.getElem?_eq_some_iff.1 h
  rw [List.drop_eq_getElem_cons h1, h2]
theorem rowJ_get {ms : List (List Mat)} {n i j : Nat} {xs : List Mat} (hn : ms.length = n) (hi : i < n) : (rowJ ms n i j xs)[i]? = some (xs.take j) := by
  unfold rowJ; exact List.getElem?_set_self (by rw [halfMM_len hn (by omega)]; exact hi)
theorem rowJ_zero {ms : List (List Mat)} {n i : Nat} {xs : List Mat} (hn : ms.length = n) (hi : i < n) : rowJ ms n i 0 xs = halfMM ms n i := by unfold rowJ; rw [List.take_zero]; exact set_same (halfMM_get hn hi)
theorem rowJ_len {ms : List (List Mat)} {n i j : Nat} {xs : List Mat} (hn : ms.length = n) (hi : i ≤ n) : (rowJ ms n i j xs).length = n := by unfold rowJ; rw [List.length_set]; exact halfMM_len hn hi
set_option maxRecDepth 100000 in
set_option maxHeartbeats 12800000 in
theorem unload_any (cv : Value) (hcv : cv.oneCell' = true) (B hi n : Nat) (hs : List (Option Nat)) (ms : List (List Mat)) (w : World) (hn : ms.length = n) (hm : n ≤ 1048576) (hlim : ∀ xs ∈ ms, xs.length ≤ 20) (hmd : Made hs n n) (h : ChM w B hi (.slice (some ⟨B, 0, none⟩) n n) hs ms) (hhi : hi ≤ w.heap.size) :
    Calls Tryd.prog 43 #[.agg #[cv, .slice (some ⟨B, 0, none⟩) n n]] w fun e w' => ∃ v' hs', e = .returned v' ∧ OwnMag w' w.heap.size w'.heap.size v' hs' ms ∧ Chg B hi w w' := by
  have hBh := h.top B rfl
  have hBw : B < w.heap.size := by omega
  obtain ⟨w1, hw1, hb1, hz1, R1⟩ := mxWorld w #[cv, .slice (some ⟨B, 0, none⟩) n n] 69
  have H1 := Lib.hid (h.below hhi hb1)
  have Hn := Lib.hid hn; have HLIM := Lib.hid hlim; have HMD := Lib.hid hmd
  clear h hn hlim hmd
  go_enter Tryd.func43, Tryd.ntmps43
  have q1 := cellOfBlk R1 1
  go_wp2_with (at_make; refine wpl_make_mag _ rfl (.tmp 8) rfl n _ rfl rfl hm ?_; intro w2 hM2 hb2 hz2; have q2 := (hb2.cell (p := ⟨w.heap.size, 1, none⟩) (show w.heap.size < w1.heap.size by omega)).trans q1)
  rw [hz1] at hM2 hb2 hz2
  have T2 : Hid (Chg B hi w w2) := Chg.of_below (hb1.trans (hb2.mono (by omega)))
  have R2 : Hid (Blk w2 w.heap.size #[cv, .slice (some ⟨B, 0, none⟩) n n] 69) := R1.below hb2 (by omega)
  have H2 : Hid (ChM w2 B hi (.slice (some ⟨B, 0, none⟩) n n) hs (drn ms 0)) := by show ChM _ _ _ _ _ _; have h9 := H1.out.keep (w' := w2) (fun b _ h2 => hb2.block b (by omega)); unfold drn; simpa using h9
  have M2 : Hid (OwnMag w2 (w.heap.size + 1) w2.heap.size (.slice (some ⟨w.heap.size + 1, 0, none⟩) n n) (List.replicate n (.slice none 0 0)) (halfMM ms n 0)) := by show OwnMag _ _ _ _ _ _; unfold halfMM; simpa using hM2
  have Z2 := Lib.hid hz2
  clear hw1 hb1 hz1 R1 H1 hM2 hb2 hz2 q1 q2
  go_loopw [13] (fun iv wr => ∃ (i : Nat) (hs2 : List Value), i ≤ n ∧ iv = .int .i64 i ∧ Hid (Chg B hi w wr) ∧ Hid (w.heap.size + 1 < wr.heap.size) ∧ Hid (Blk wr w.heap.size #[cv, .slice (some ⟨B, 0, none⟩) n n] 69) ∧ Hid (OwnMag wr (w.heap.size + 1) wr.heap.size (.slice (some ⟨w.heap.size + 1, 0, none⟩) n n) hs2 (halfMM ms n i)) ∧ Hid (ChM wr B hi (.slice (some ⟨B, 0, none⟩) n n) hs (drn ms i))) (fun iv _ => n - (intOf iv).toNat)
  case atStart => exact ⟨0, _, Nat.zero_le _, rfl, T2.out, Z2.out, R2.out, M2.out, H2.out⟩
  case round =>
    clear T2 Z2 R2 M2 H2
    obtain ⟨i, hs2, hin, rfl, T3, Z3, R3, M3, H3⟩ := hrel
    obtain ⟨w3, h3⟩ : ∃ x, x = wr := ⟨_, rfl⟩
    subst h3
    by_cases hlt : i < n
    · obtain ⟨c, hci⟩ := HMD.out.2.1 i hlt
      have HCI := Lib.hid hci
      obtain ⟨xs, hx⟩ : ∃ xs, ms[i]? = some xs := ⟨_, List.getElem?_eq_getElem (by rw [Hn.out]; exact hlt)⟩
      have hxl := HLIM.out xs (List.mem_of_getElem? hx)
      have HX := Lib.hid hx
      obtain ⟨l, hl⟩ : ∃ y, xs.length = y := ⟨_, rfl⟩
      rw [hl] at hxl
      have HL := Lib.hid hl
      have ho := H3.out.outer
      rw [HMD.out.1] at ho
      have ce1 := (ho.cellAt i (by omega)).trans (show (hs.map Value.chan)[i]? = some (.chan (some c)) from by rw [List.getElem?_map, hci]; rfl)
      obtain ⟨sN, rN, hch⟩ := H3.out.at_ hci (drn_get hx)
      have hini : (i : Int) < (n : Int) := by omega
      clear ho hx hci hl
      go_wp2_with (refine wpl_len_chan _ rfl (.tmp 18) rfl c xs sN rN rfl hch l HL.out ?_)
      have M4 : Hid (OwnMag w3 (w.heap.size + 1) w3.heap.size (.slice (some ⟨w.heap.size + 1, 0, none⟩) n n) hs2 (rowJ ms n i 0 xs)) := by show OwnMag _ _ _ _ _ _; rw [rowJ_zero Hn.out hlt]; exact M3.out
      have H4 : Hid (ChM w3 B hi (.slice (some ⟨B, 0, none⟩) n n) hs (drnJ ms i 0 xs)) := by show ChM _ _ _ _ _ _; rw [drnJ_zero HX.out]; exact H3.out
      clear M3 H3 ce1 hch hini
      go_loopw [20] (fun jv wq => ∃ (j : Nat) (hs5 : List Value), j ≤ l ∧ jv = .int .i64 j ∧ Hid (Chg B hi w wq) ∧ Hid (w.heap.size + 1 < wq.heap.size) ∧ Hid (Blk wq w.heap.size #[cv, .slice (some ⟨B, 0, none⟩) n n] 69) ∧ Hid (OwnMag wq (w.heap.size + 1) wq.heap.size (.slice (some ⟨w.heap.size + 1, 0, none⟩) n n) hs5 (rowJ ms n i j xs)) ∧ Hid (ChM wq B hi (.slice (some ⟨B, 0, none⟩) n n) hs (drnJ ms i j xs))) (fun jv _ => l - (intOf jv).toNat)
      case atStart => exact ⟨0, _, Nat.zero_le _, rfl, T3.out, Z3.out, R3.out, M4.out, H4.out⟩
      case round =>
        clear T3 Z3 R3 M4 H4
        obtain ⟨j, hs5, hjl, rfl, T5, Z5, R5, M5, H5⟩ := hrel
        obtain ⟨w5, h5⟩ : ∃ x, x = wr := ⟨_, rfl⟩
        subst h5
        by_cases hj : j < l
        · have hji : (j : Int) < (l : Int) := by omega
          obtain ⟨z, hz⟩ : ∃ z, xs[j]? = some z := ⟨_, List.getElem?_eq_getElem (by rw [HL.out]; exact hj)⟩
          obtain ⟨k1, k2⟩ := z
          have HZ := Lib.hid hz
          clear hz
          obtain ⟨h0, hh0, hO0⟩ := M5.out.rows i _ (rowJ_get Hn.out hlt)
          have HH0 := Lib.hid hh0
          have HO0 := Lib.hid hO0
          have ho := H5.out.outer
          rw [HMD.out.1] at ho
          have hm := M5.out.outer
          rw [rowJ_len Hn.out (by omega)] at hm
          have d1 := (hm.cellAt i (by omega)).trans hh0
          have f1 := hm.frozenAt i
          obtain ⟨sN, rN, hch⟩ := H5.out.at_ HCI.out (drnJ_get HX.out)
          clear ho hm hh0 hO0
          go_upto_region 7 with fail
          have hne : 0 < (bufM (xs.drop j)).size := by rw [bufM_size, List.length_drop, HL.out]; omega
          refine wp_region_planC 11 (.take 0 (.take 1 (.take 2 (.take 3 (.take 4 (.take 5 (.take 6 (.one 7 (.one 8 (.one 9 (.take 10 (.last 11)))))))))))) (fun w' => w'.cell? ⟨w.heap.size + 1, i, none⟩ = some h0) (by kernel_rfl) (by kernel_rfl) (by kernel_rfl) d1 ?_
          refine planC_quiet rfl (by rfl) (v := ?_) ?_ ?_; rotate_left; (intro w1 hSw; have h0c := hSw; go_simp; try (with_reducible rfl)); (try simp only [Act.put, List.setIfInBounds_toArray, List.set_cons_zero, List.set_cons_succ])
          refine planC_quiet rfl (by rfl) (v := ?_) ?_ ?_; rotate_left; (intro w1 hSw; have h0c := hSw; go_simp; try (with_reducible rfl)); (try simp only [Act.put, List.setIfInBounds_toArray, List.set_cons_zero, List.set_cons_succ])
          refine planC_quiet rfl (by rfl) (v := ?_) ?_ ?_; rotate_left; (intro w1 hSw; have h0c := hSw; go_simp; try (with_reducible rfl)); (try simp only [Act.put, List.setIfInBounds_toArray, List.set_cons_zero, List.set_cons_succ])
          refine planC_quiet rfl (by rfl) (v := ?_) ?_ ?_; rotate_left; (intro w1 hSw; have h0c := hSw; go_simp; try (with_reducible rfl)); (try simp only [Act.put, List.setIfInBounds_toArray, List.set_cons_zero, List.set_cons_succ])
          refine planC_quiet rfl (by rfl) (v := ?_) ?_ ?_; rotate_left; (intro w1 hSw; have h0c := hSw; go_simp; try (with_reducible rfl)); (try simp only [Act.put, List.setIfInBounds_toArray, List.set_cons_zero, List.set_cons_succ])
          refine planC_quiet rfl (by rfl) (v := ?_) ?_ ?_; rotate_left; (intro w1 hSw; have h0c := hSw; go_simp; try (with_reducible rfl)); (try simp only [Act.put, List.setIfInBounds_toArray, List.set_cons_zero, List.set_cons_succ])
          refine planC_quiet rfl (by rfl) (v := ?_) ?_ ?_; rotate_left; (intro w1 hSw; have h0c := hSw; go_simp; try (with_reducible rfl)); (try simp only [Act.put, List.setIfInBounds_toArray, List.set_cons_zero, List.set_cons_succ])
          have hdr : xs.drop j = (k1, k2) :: xs.drop (j + 1) := drop_next HZ.out
          rw [hdr] at hch hne
          have hcB := (H5.out.place i c HCI.out).1
          have hch2 := (H5.out.place i c HCI.out).2.1
          have hT := T5.out.size
          have hZ := Z5.out
          have hcg : Chg c (c + 1) w5.drew (w5.drew.setChan c 20 ((bufM ((k1, k2) :: xs.drop (j + 1))).extract 1 (bufM ((k1, k2) :: xs.drop (j + 1))).size) false sN (rN + 1) false) := chg_setChan _ _ _ _ _ _ _ _
          have hdz : w5.drew.heap.size = w5.heap.size := rfl
          refine planC_comm rfl (by rfl) (by go_simp; rfl) (LoneComm.recv (w := w5.drew) (z := .agg #[.int .i64 0, .int .i64 0]) hch hne) ?_ ?_
          · exact (hcg.cell (p := ⟨w.heap.size + 1, i, none⟩) (by show w.heap.size + 1 < w5.heap.size; omega) (by show ¬(c ≤ w.heap.size + 1 ∧ w.heap.size + 1 < c + 1); omega)).trans d1
          rw [bufM_head]
          (try simp only [Act.put, List.setIfInBounds_toArray, List.set_cons_zero, List.set_cons_succ])
          rw [bufM_tail] at hcg ⊢
          unfold cvM
          obtain ⟨w6, hw6⟩ : ∃ x, w5.drew.setChan c 20 (bufM (xs.drop (j + 1))) false sN (rN + 1) false = x := ⟨_, rfl⟩
          have hd5 : Below w5.heap.size w5 w5.drew := (Below.refl _ _).drew
          have H6 : Hid (ChM w6 B hi (.slice (some ⟨B, 0, none⟩) n n) hs (drnJ ms i (j + 1) xs)) := by show ChM _ _ _ _ _ _; rw [← hw6, ← drnJ_set]; exact (H5.out.below (by omega) hd5).comm HCI.out _ _ _
          rw [hw6] at hcg ⊢
          have b6 : Below B w5 w6 := (hd5.mono (by omega)).trans ((hcg.below (by omega)).mono hcB)
          have hz6 := hcg.size
          have c6 : Chg c (c + 1) w5 w6 := (Chg.of_below hd5).trans hcg
          have T6 : Hid (Chg B hi w w6) := T5.out.trans (c6.wide hcB (by omega))
          have R6 : Hid (Blk w6 w.heap.size #[cv, .slice (some ⟨B, 0, none⟩) n n] 69) := (c6.block w.heap.size (by omega) (by omega)).trans R5.out
          have M6 : Hid (OwnMag w6 (w.heap.size + 1) w6.heap.size (.slice (some ⟨w.heap.size + 1, 0, none⟩) n n) hs5 (rowJ ms n i j xs)) := (M5.out.chg c6 (.inr (by omega))).wid (by omega)
          have d6 : w6.cell? ⟨w.heap.size + 1, i, none⟩ = some h0 := (c6.cell (p := ⟨w.heap.size + 1, i, none⟩) (by show w.heap.size + 1 < w5.heap.size; omega) (by show ¬(c ≤ w.heap.size + 1 ∧ w.heap.size + 1 < c + 1); omega)).trans d1
          have HO6 : Hid (OwnM w6 (w.heap.size + 1) h0 (xs.take j)) := by obtain ⟨h9, e9, o9⟩ := M6.out.rows i _ (rowJ_get Hn.out hlt); rw [HH0.out] at e9; injection e9 with e9; subst e9; exact o9
          refine planC_value rfl (by rfl) (u := .slice (some ⟨w6.heap.size, 0, none⟩) 1 1) (w' := w6.alloc (.cells #[.int .i64 k1, .int .i64 k2] 30)) (by go_simp) ?_ ?_
          · exact (((Below.refl _ w6).alloc (Nat.le_refl _) _).cell (p := ⟨w.heap.size + 1, i, none⟩) (by show w.heap.size + 1 < w6.heap.size; omega)).trans d6
          (try simp only [Act.put, List.setIfInBounds_toArray, List.set_cons_zero, List.set_cons_succ])
          refine planC_push w6 rfl (by rfl) (.tmp 27) (.tmp 30) rfl (w.heap.size + 1) h0 (xs.take j) (k1, k2) rfl rfl HO6.out (by omega) (by rw [List.length_take]; omega) ?_
          intro v7 w7 hO7 hg7 hf7
          have hk7 := M6.out.kept HH0.out hg7
          rw [rowJ_len Hn.out (by omega)] at hk7
          have d7 := (hk7.cellAt i (by omega)).trans HH0.out
          have f7 := hk7.frozenAt i
          refine ⟨d7, ?_⟩
          have hst := M6.out.store (rowJ_get Hn.out hlt) HH0.out hg7 hO7 hf7 (Nat.le_refl _)
          rw [← take_next HZ.out, rowJ_set] at hst
          obtain ⟨A7, c7, rfl, -⟩ := hO7.form
          have e7 : (xs.take j ++ [(k1, k2)]).length = j + 1 := by rw [List.length_append, List.length_take, HL.out, Nat.min_eq_left (by omega)]; rfl
          rw [e7] at hst ⊢
          (try simp only [Act.put, List.setIfInBounds_toArray, List.set_cons_zero, List.set_cons_succ])
          refine planC_quiet rfl (by rfl) (v := ?_) ?_ ?_; rotate_left; (intro w1 hSw; have h0c := hSw; go_simp; try (with_reducible rfl)); (try simp only [Act.put, List.setIfInBounds_toArray, List.set_cons_zero, List.set_cons_succ])
          refine planC_lastSkip rfl (by rfl) (w' := w7.setCell ⟨w.heap.size + 1, i, none⟩ (.slice A7 (j + 1) c7)) (by go_simp) ?_
          (try simp only [Act.put, List.setIfInBounds_toArray, List.set_cons_zero, List.set_cons_succ])
          have hgs := hg7.size
          obtain ⟨w8, hw8⟩ : ∃ x, w7.setCell ⟨w.heap.size + 1, i, none⟩ (.slice A7 (j + 1) c7) = x := ⟨_, rfl⟩
          rw [hw8] at hst ⊢
          have c8 : Chg (w.heap.size + 1) w6.heap.size w6 w8 := by rw [← hw8]; exact (Chg.of_grown hg7 (fun g hg => ⟨(M6.out.blocks i _ g HH0.out hg).1, (M6.out.blocks i _ g HH0.out hg).2⟩)).trans ((chg_one _ _ _ _).wide (Nat.le_refl _) (by omega))
          have b8 := c8.below (by omega)
          have T8 : Hid (Chg B hi w w8) := T6.out.upon c8 (by omega)
          have R8 : Hid (Blk w8 w.heap.size #[cv, .slice (some ⟨B, 0, none⟩) n n] 69) := (b8.block w.heap.size (by omega)).trans R6.out
          have H8 : Hid (ChM w8 B hi (.slice (some ⟨B, 0, none⟩) n n) hs (drnJ ms i (j + 1) xs)) := H6.out.keep fun b _ h2 => b8.block b (by omega)
          have hz8 := c8.size
          have Z8 : Hid (w.heap.size + 1 < w8.heap.size) := by show _ < _; omega
          have M8 := Lib.hid hst
          have hj1 : j + 1 ≤ l := by omega
          clear hst hg7 hf7 hO7 hk7 d7 f7 d6 HO6 M6 R6 T6 H6 c6 b6 c8 b8 hw8 hw6 hcg hd5 hz6 hch hne hdr T5 Z5 R5 M5 H5 d1 f1 HH0 HO0 hgs hz8
          go_wp2
          exact ⟨⟨j + 1, _, hj1, rfl, T8, Z8, R8, M8, H8⟩, by simp [intOf]; omega⟩
        · have hje : j = l := by omega
          subst hje
          have hjf : decide ((j : Int) < (j : Int)) = false := by simp
          have H6 : Hid (ChM w5 B hi (.slice (some ⟨B, 0, none⟩) n n) hs (drn ms (i + 1))) := by show ChM _ _ _ _ _ _; rw [← drnJ_all HX.out HL.out]; exact H5.out
          have M6 : Hid (OwnMag w5 (w.heap.size + 1) w5.heap.size (.slice (some ⟨w.heap.size + 1, 0, none⟩) n n) hs5 (halfMM ms n (i + 1))) := by show OwnMag _ _ _ _ _ _; rw [← rowJ_all Hn.out HX.out HL.out]; exact M5.out
          go_wp2
          exact ⟨⟨i + 1, hs5, by omega, rfl, T5, Z5, R5, M6, H6⟩, by simp [intOf]; omega⟩
    · have hie : i = n := by omega
      subst hie
      have hnf : decide ((i : Int) < (i : Int)) = false := by simp
      go_wp2
      have hM := M3.out
      rw [halfMM_full Hn.out] at hM
      go_ret
      exact ⟨_, hs2, rfl, hM.base (by omega), T3.out⟩
end Go.Proofs.YtdijlofcgcikjaaDoor
