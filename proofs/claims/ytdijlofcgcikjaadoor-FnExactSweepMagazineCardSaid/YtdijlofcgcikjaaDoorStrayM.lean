/-
  takeStrays by contract: each channel keeps its own matrices in their order; the others come out. Condition: channels of at most 20.
-/
import Derived.Test.YtdijlofcgcikjaaDoorSwpL
import Derived.Test.YtdijlofcgcikjaaDoorTakeM
namespace Go.Proofs.YtdijlofcgcikjaaDoor
open Go.RowKit Go.Conc
set_option linter.unusedVariables false
set_option linter.unusedSimpArgs false

theorem ownM_nil (w : World) (B : Nat) : OwnM w B (.slice none 0 0) [] := ⟨rfl, .inl ⟨rfl, rfl⟩⟩
set_option maxRecDepth 100000 in
set_option maxHeartbeats 12800000 in
theorem strays_any (cv : Value) (B hi n : Nat) (hs : List (Option Nat)) (ms : List (List Mat)) (w : World) (hn : ms.length = n) (hm : n ≤ 40) (hlim : ∀ xs ∈ ms, xs.length ≤ 20) (hmd : Made hs n n) (h : ChM w B hi (.slice (some ⟨B, 0, none⟩) n n) hs ms) (hhi : hi ≤ w.heap.size) :
    Calls Tryd.prog 88 #[.agg #[cv, .slice (some ⟨B, 0, none⟩) n n]] w fun e w' => ∃ v', e = .returned v' ∧ OwnM w' (w.heap.size + 1) v' (strs ms n) ∧ ChM w' B hi (.slice (some ⟨B, 0, none⟩) n n) hs (hom ms n) ∧ Chg B hi w w' := by
  have hBh := h.top B rfl
  have hBw : B < w.heap.size := by omega
  obtain ⟨w1, hw1, hb1, hz1, R1⟩ := mxWorld w #[cv, .slice (some ⟨B, 0, none⟩) n n] 69
  have q1 := cellOfBlk R1 1
  have H1 : Hid (ChM w1 B hi (.slice (some ⟨B, 0, none⟩) n n) hs (hom ms 0)) := by show ChM _ _ _ _ _ _; rw [hom_zero]; exact h.below hhi hb1
  have Hn := Lib.hid hn; have HLIM := Lib.hid hlim; have HMD := Lib.hid hmd
  have hlen := strs_le hlim
  have HSL := Lib.hid hlen
  clear h hn hlim hmd hlen
  have T1 : Hid (Chg B hi w w1) := Chg.of_below hb1
  have Z1 : Hid (w.heap.size < w1.heap.size) := by show _ < _; omega
  have R1 := Lib.hid R1
  have O1 : Hid (OwnM w1 (w.heap.size + 1) (.slice none 0 0) (strs ms 0)) := ownM_nil _ _
  go_enter Tryd.func88, Tryd.ntmps88
  clear hb1 hz1
  go_wp2
  go_loopw [3, 10] (fun ov iv wr => ∃ (i : Nat), i ≤ n ∧ iv = .int .i64 i ∧ Hid (Chg B hi w wr) ∧ Hid (w.heap.size < wr.heap.size) ∧ Hid (Blk wr w.heap.size #[cv, .slice (some ⟨B, 0, none⟩) n n] 69) ∧ Hid (OwnM wr (w.heap.size + 1) ov (strs ms i)) ∧ Hid (ChM wr B hi (.slice (some ⟨B, 0, none⟩) n n) hs (hom ms i))) (fun ov iv _ => n - (intOf iv).toNat)
  case atStart => exact ⟨0, Nat.zero_le _, rfl, T1, Z1, R1, O1, H1⟩
  case round =>
    clear T1 Z1 R1 O1 H1
    obtain ⟨i, hin, rfl, T3, Z3, R3, O3, H3⟩ := hrel
    obtain ⟨w3, h3⟩ : ∃ x, x = wr := ⟨_, rfl⟩
    subst h3
    by_cases hlt : i < n
    · obtain ⟨c, hci⟩ := HMD.out.2.1 i hlt
      have HCI := Lib.hid hci
      obtain ⟨xs, hx⟩ : ∃ xs, ms[i]? = some xs := ⟨_, List.getElem?_eq_getElem (by rw [Hn.out]; exact hlt)⟩
      have hxl := HLIM.out xs (List.mem_of_getElem? hx)
      have HX := Lib.hid hx
      obtain ⟨l, hl⟩ : ∃ y, xs.length = y := ⟨_, rfl⟩
      rw [hl] at hxl
      have HL := Lib.hid hl
      have ho := H3.out.outer
      rw [HMD.out.1] at ho
      have ce1 := (ho.cellAt i (by omega)).trans (show (hs.map Value.chan)[i]? = some (.chan (some c)) from by rw [List.getElem?_map, hci]; rfl)
      have hg3 := hom_get (i := i) hx
      rw [if_neg (by omega)] at hg3
      obtain ⟨sN, rN, hch⟩ := H3.out.at_ hci hg3
      have hini : (i : Int) < (n : Int) := by omega
      clear ho hx hci hl hg3
      go_wp2_with (refine wpl_len_chan _ rfl (.tmp 15) rfl c xs sN rN rfl hch l HL.out ?_)
      have O4 : Hid (OwnM w3 (w.heap.size + 1) u3 (strs ms i ++ strK i (xs.take 0))) := by show OwnM _ _ _ _; simpa [strK] using O3.out
      have H4 : Hid (ChM w3 B hi (.slice (some ⟨B, 0, none⟩) n n) hs (homJ ms i 0 xs)) := by show ChM _ _ _ _ _ _; rw [homJ_zero HX.out]; exact H3.out
      clear O3 H3 ce1 hch hini
      go_loopw [3, 17] (fun qv jv wq => ∃ (j : Nat), j ≤ l ∧ jv = .int .i64 j ∧ Hid (Chg B hi w wq) ∧ Hid (w.heap.size < wq.heap.size) ∧ Hid (Blk wq w.heap.size #[cv, .slice (some ⟨B, 0, none⟩) n n] 69) ∧ Hid (OwnM wq (w.heap.size + 1) qv (strs ms i ++ strK i (xs.take j))) ∧ Hid (ChM wq B hi (.slice (some ⟨B, 0, none⟩) n n) hs (homJ ms i j xs))) (fun qv jv _ => l - (intOf jv).toNat)
      case atStart => exact ⟨0, Nat.zero_le _, rfl, T3, Z3, R3, O4, H4⟩
      case round =>
        clear T3 Z3 R3 O4 H4
        obtain ⟨j, hjl, rfl, T5, Z5, R5, O5, H5⟩ := hrel
        obtain ⟨w5, h5⟩ : ∃ x, x = wr := ⟨_, rfl⟩
        subst h5
        by_cases hj : j < l
        · have hji : (j : Int) < (l : Int) := by omega
          obtain ⟨z, hz⟩ : ∃ z, xs[j]? = some z := ⟨_, List.getElem?_eq_getElem (by rw [HL.out]; exact hj)⟩
          obtain ⟨k1, k2⟩ := z
          have HZ := Lib.hid hz
          clear hz
          obtain ⟨sN, rN, hch⟩ := H5.out.at_ HCI.out (homJ_get HX.out)
          have hcB := (H5.out.place i c HCI.out).1
          have hch2 := (H5.out.place i c HCI.out).2.1
          have hT := T5.out.size
          have hZ := Z5.out
          have hOl := O5.out.lt
          have hdr : xs.drop j ++ keepK i (xs.take j) = (k1, k2) :: (xs.drop (j + 1) ++ keepK i (xs.take j)) := by rw [drop_next HZ.out]; rfl
          rw [hdr] at hch
          obtain ⟨rs, hrs⟩ : ∃ rs, xs.drop (j + 1) ++ keepK i (xs.take j) = rs := ⟨_, rfl⟩
          rw [hrs] at hch hdr
          have hrl : rs.length < 20 := by have h2 := HL.out; have h1 := keepK_le i (xs.take j); rw [List.length_take] at h1; rw [← hrs, List.length_append, List.length_drop]; omega
          go_upto_region 7 with fail
          refine RegTo.region ?_
          refine RegTo.value (rest := [1, 2, 3]) rfl (by rfl) (v := .chan (some c)) (w' := w5) (by go_simp) ?_
          simp only [List.getElem_toArray, List.getElem_cons_zero, List.getElem_cons_succ, Act.put, List.setIfInBounds_toArray, List.set_cons_zero, List.set_cons_succ]
          refine RegTo.recv (rest := [2, 3]) rfl (by rfl) (by go_simp; rfl) (z := .agg #[.int .i64 0, .int .i64 0]) hch (by rw [bufM_size]; simp) ?_
          rw [bufM_head, bufM_tail]
          simp only [List.getElem_toArray, List.getElem_cons_zero, List.getElem_cons_succ, Act.put, List.setIfInBounds_toArray, List.set_cons_zero, List.set_cons_succ]
          have hcg := chg_setChan w5 c 20 (bufM rs) false sN (rN + 1) false
          have H6 : Hid (ChM (w5.setChan c 20 (bufM rs) false sN (rN + 1) false) B hi (.slice (some ⟨B, 0, none⟩) n n) hs ((hom ms i).set i rs)) := by show ChM _ _ _ _ _ _; rw [← homJ_set (j := j) (xs := xs)]; exact H5.out.comm HCI.out rs sN (rN + 1)
          obtain ⟨w6, hw6⟩ : ∃ y, w5.setChan c 20 (bufM rs) false sN (rN + 1) false = y := ⟨_, rfl⟩
          rw [hw6] at hcg H6 ⊢
          have hz6 := hcg.size
          have T6 : Hid (Chg B hi w w6) := T5.out.trans (hcg.wide hcB (by omega))
          have R6 : Hid (Blk w6 w.heap.size #[cv, .slice (some ⟨B, 0, none⟩) n n] 69) := (hcg.block w.heap.size (by omega) (by omega)).trans R5.out
          have O6 : Hid (OwnM w6 (w.heap.size + 1) u3 (strs ms i ++ strK i (xs.take j))) := O5.out.chg hcg (fun k hk => by have := hOl k hk; omega)
          clear T5 R5 O5 H5 hcg hw6 hch
          unfold cvM
          obtain ⟨w7, hw7, hb7, hz7, X7⟩ := mxWorld w6 #[.int .i64 0, .int .i64 0] 30
          have e0 := cellOfBlk X7 0
          have e1 := cellOfBlk X7 1
          have f0 := X7.warm 0
          have f1 := X7.warm 1
          have hxl7 := X7.lt
          refine RegTo.value (rest := [3]) rfl (by rfl) (v := .pointer (some ⟨w6.heap.size, 0, none⟩)) (w' := w7) (by rw [← hw7]; go_simp) ?_
          simp only [List.getElem_toArray, List.getElem_cons_zero, List.getElem_cons_succ, Act.put, List.setIfInBounds_toArray, List.set_cons_zero, List.set_cons_succ]
          refine RegTo.skip (rest := []) rfl (by rfl) (w' := (w7.setCell ⟨w6.heap.size, 0, none⟩ (.int .i64 k1)).setCell ⟨w6.heap.size, 1, none⟩ (.int .i64 k2)) (by go_simp) ?_
          simp only [List.getElem_toArray, List.getElem_cons_zero, List.getElem_cons_succ, Act.put, List.setIfInBounds_toArray, List.set_cons_zero, List.set_cons_succ]
          refine RegTo.nil ?_
          have X8 := X7.fill2 (.int .i64 k1) (.int .i64 k2)
          have hcg := chg_two w7 w6.heap.size (.int .i64 k1) (.int .i64 k2)
          obtain ⟨w8, hw8⟩ : ∃ y, (w7.setCell ⟨w6.heap.size, 0, none⟩ (.int .i64 k1)).setCell ⟨w6.heap.size, 1, none⟩ (.int .i64 k2) = y := ⟨_, rfl⟩
          rw [hw8] at hcg X8 ⊢
          have hz8 := hcg.size
          have b8 : Below w6.heap.size w6 w8 := hb7.trans (hcg.below (by omega))
          have T8 : Hid (Chg B hi w w8) := T6.out.trans (Chg.of_below b8)
          have T8 : Hid (Chg B hi w w8) := T6.out.trans (Chg.of_below b8)
          have R8 : Hid (Blk w8 w.heap.size #[cv, .slice (some ⟨B, 0, none⟩) n n] 69) := (b8.block w.heap.size (by omega)).trans R6.out
          have O8 : Hid (OwnM w8 (w.heap.size + 1) u3 (strs ms i ++ strK i (xs.take j))) := O6.out.below b8
          have H8 : Hid (ChM w8 B hi (.slice (some ⟨B, 0, none⟩) n n) hs ((hom ms i).set i rs)) := H6.out.below (by omega) b8
          have X8 := Lib.hid X8
          clear T6 R6 O6 H6 hw8 hcg e0 e1 f0 f1 X7 hw7 hb7 b8
          have k0 := cellOfBlk X8.out 0
          have k1c := cellOfBlk X8.out 1
          by_cases hk : k1 = (i : Int)
          · subst hk
            have hkd : decide ((i : Int) = (i : Int)) = true := by simp
            obtain ⟨sM, rM, hch⟩ := H8.out.at_ HCI.out (List.getElem?_set_self (by rw [hom_len]; exact (List.getElem?_eq_some_iff.1 HX.out).1))
            go_upto_region 9 with fail
            refine RegTo.region ?_
            refine RegTo.value (rest := [1, 2]) rfl (by rfl) (v := .chan (some c)) (w' := w8) (by go_simp) ?_
            simp only [List.getElem_toArray, List.getElem_cons_zero, List.getElem_cons_succ, Act.put, List.setIfInBounds_toArray, List.set_cons_zero, List.set_cons_succ]
            refine RegTo.value (rest := [2]) rfl (by rfl) (v := .agg #[.int .i64 (i : Int), .int .i64 k2]) (w' := w8) (by go_simp) ?_
            simp only [List.getElem_toArray, List.getElem_cons_zero, List.getElem_cons_succ, Act.put, List.setIfInBounds_toArray, List.set_cons_zero, List.set_cons_succ]
            refine RegTo.send (rest := []) rfl (by rfl) (v := .agg #[.int .i64 (i : Int), .int .i64 k2]) (z := .tuple #[]) (by go_simp; rfl) hch (by rw [bufM_size]; exact hrl) ?_
            rw [show (Value.agg #[.int .i64 (i : Int), .int .i64 k2]) = cvM ((i : Int), k2) from rfl, bufM_push]
            simp only [List.getElem_toArray, List.getElem_cons_zero, List.getElem_cons_succ, Act.put, List.setIfInBounds_toArray, List.set_cons_zero, List.set_cons_succ]
            refine RegTo.nil ?_
            have hcg := chg_setChan w8 c 20 (bufM (rs ++ [((i : Int), k2)])) false (sM + 1) rM false
            have hrow : rs ++ [((i : Int), k2)] = xs.drop (j + 1) ++ keepK i (xs.take (j + 1)) := by rw [keepK_take HZ.out, if_pos rfl, ← hrs, List.append_assoc]
            have H9 : Hid (ChM (w8.setChan c 20 (bufM (rs ++ [((i : Int), k2)])) false (sM + 1) rM false) B hi (.slice (some ⟨B, 0, none⟩) n n) hs (homJ ms i (j + 1) xs)) := by show ChM _ _ _ _ _ _; have h9 := H8.out.comm HCI.out (rs ++ [((i : Int), k2)]) (sM + 1) rM; rw [List.set_set] at h9; unfold homJ; rw [← hrow]; exact h9
            obtain ⟨w9, hw9⟩ : ∃ y, w8.setChan c 20 (bufM (rs ++ [((i : Int), k2)])) false (sM + 1) rM false = y := ⟨_, rfl⟩
            rw [hw9] at hcg H9 ⊢
            have hz9 := hcg.size
            have hO8 := O8.out.lt
            have T9 : Hid (Chg B hi w w9) := T8.out.trans (hcg.wide hcB (by omega))
            have R9 : Hid (Blk w9 w.heap.size #[cv, .slice (some ⟨B, 0, none⟩) n n] 69) := (hcg.block w.heap.size (by omega) (by omega)).trans R8.out
            have O9 : Hid (OwnM w9 (w.heap.size + 1) u3 (strs ms i ++ strK i (xs.take (j + 1)))) := by show OwnM _ _ _ _; rw [strK_take HZ.out, if_pos rfl]; exact O8.out.chg hcg (fun k hk => by have := hO8 k hk; omega)
            have Z9 : Hid (w.heap.size < w9.heap.size) := by show _ < _; omega
            have hj1 : j + 1 ≤ l := by omega
            go_wp2
            exact ⟨⟨j + 1, hj1, rfl, T9, Z9, R9, O9, H9⟩, by simp [intOf]; omega⟩
          · have hkd : decide (k1 = (i : Int)) = false := decide_eq_false hk
            go_wp2_with (refine wpl_push_mat w8 rfl (.tmp 27) (.tmp 29) rfl (w.heap.size + 1) u3 _ (k1, k2) rfl rfl O8.out (by omega) (by have h1 := HSL.out i (by rw [Hn.out]; omega); have h2 := strK_le i (xs.take j); rw [List.length_take] at h2; rw [List.length_append]; omega) ?_; intro v9 w9 hO9 hg9 hf9)
            have hO8 := O8.out.lt
            have c9 : Chg (w.heap.size + 1) w8.heap.size w8 w9 := Chg.of_grown hg9 (fun g hg => hO8 g hg)
            have b9 := c9.below (by omega)
            have hz9 := c9.size
            have T9 : Hid (Chg B hi w w9) := T8.out.upon c9 (by omega)
            have R9 : Hid (Blk w9 w.heap.size #[cv, .slice (some ⟨B, 0, none⟩) n n] 69) := (b9.block w.heap.size (by omega)).trans R8.out
            have hrow : rs = xs.drop (j + 1) ++ keepK i (xs.take (j + 1)) := by rw [keepK_take HZ.out, if_neg hk, hrs]
            have H9 : Hid (ChM w9 B hi (.slice (some ⟨B, 0, none⟩) n n) hs (homJ ms i (j + 1) xs)) := by show ChM _ _ _ _ _ _; unfold homJ; rw [← hrow]; exact H8.out.keep fun b _ h2 => b9.block b (by omega)
            have O9 : Hid (OwnM w9 (w.heap.size + 1) v9 (strs ms i ++ strK i (xs.take (j + 1)))) := by show OwnM _ _ _ _; rw [strK_take HZ.out, if_neg hk, ← List.append_assoc]; exact hO9
            have Z9 : Hid (w.heap.size < w9.heap.size) := by show _ < _; omega
            have hj1 : j + 1 ≤ l := by omega
            clear hg9 hf9 hO9 c9 b9
            go_wp2
            exact ⟨⟨j + 1, hj1, rfl, T9, Z9, R9, O9, H9⟩, by simp [intOf]; omega⟩
        · have hje : j = l := by omega
          subst hje
          have hjf : decide ((j : Int) < (j : Int)) = false := by simp
          have H6 : Hid (ChM w5 B hi (.slice (some ⟨B, 0, none⟩) n n) hs (hom ms (i + 1))) := by show ChM _ _ _ _ _ _; rw [← homJ_all HX.out HL.out]; exact H5.out
          have O6 : Hid (OwnM w5 (w.heap.size + 1) u3 (strs ms (i + 1))) := by show OwnM _ _ _ _; rw [← strs_next HX.out]; have h9 := O5.out; rw [List.take_of_length_le (by rw [HL.out]; exact Nat.le_refl _)] at h9; exact h9
          go_wp2
          exact ⟨⟨i + 1, by omega, rfl, T5, Z5, R5, O6, H6⟩, by simp [intOf]; omega⟩
    · have hie : i = n := by omega
      subst hie
      have hnf : decide ((i : Int) < (i : Int)) = false := by simp
      go_wp2
      go_ret
      exact ⟨_, rfl, O3.out, H3.out, T3.out⟩
end Go.Proofs.YtdijlofcgcikjaaDoor
