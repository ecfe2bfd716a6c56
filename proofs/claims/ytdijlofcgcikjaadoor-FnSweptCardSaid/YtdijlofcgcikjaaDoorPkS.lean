/-
  Contracts and plain mathematics (StrayM, SweepM, SweepI), each with its conditions in its own statement.
-/
import Derived.Test.YtdijlofcgcikjaaDoorSwpL
import Derived.Test.YtdijlofcgcikjaaDoorTakeM
namespace Go.Proofs.YtdijlofcgcikjaaDoor
open Go.RowKit Go.Conc
set_option linter.unusedVariables false
set_option linter.unusedSimpArgs false

theorem ownM_nil (w : World) (B : Nat) : OwnM w B (.slice none 0 0) [] := ⟨rfl, .inl ⟨rfl, rfl⟩⟩
set_option maxRecDepth 100000 in
set_option maxHeartbeats 12800000 in
theorem strays_any (cv : Value) (B hi n : Nat) (hs : List (Option Nat)) (ms : List (List Mat)) (w : World) (hn : ms.length = n) (hm : n ≤ 40) (hlim : ∀ xs ∈ ms, xs.length ≤ 20) (hmd : Made hs n n) (h : ChM w B hi (.slice (some ⟨B, 0, none⟩) n n) hs ms) (hhi : hi ≤ w.heap.size) :
    Calls Tryd.prog 88 #[.agg #[cv, .slice (some ⟨B, 0, none⟩) n n]] w fun e w' => ∃ v', e = .returned v' ∧ OwnM w' (w.heap.size + 1) v' (strs ms n) ∧ ChM w' B hi (.slice (some ⟨B, 0, none⟩) n n) hs (hom ms n) ∧ Chg B hi w w' := by
  have hBh := h.top B rfl
  have hBw : B < w.heap.size := by omega
  obtain ⟨w1, hw1, hb1, hz1, R1⟩ := mxWorld w #[cv, .slice (some ⟨B, 0, none⟩) n n] 69
  have q1 := cellOfBlk R1 1
  have H1 : Hid (ChM w1 B hi (.slice (some ⟨B, 0, none⟩) n n) hs (hom ms 0)) := by show ChM _ _ _ _ _ _; rw [hom_zero]; exact h.below hhi hb1
  have Hn := Lib.hid hn; have HLIM := Lib.hid hlim; have HMD := Lib.hid hmd
  have hlen := strs_le hlim
  have HSL := Lib.hid hlen
  clear h hn hlim hmd hlen
  have T1 : Hid (Chg B hi w w1) := Chg.of_below hb1
  have Z1 : Hid (w.heap.size < w1.heap.size) := by show _ < _; omega
  have R1 := Lib.hid R1
  have O1 : Hid (OwnM w1 (w.heap.size + 1) (.slice none 0 0) (strs ms 0)) := ownM_nil _ _
  go_enter Tryd.func88, Tryd.ntmps88
  clear hb1 hz1
  go_wp2
  go_loopw [3, 10] (fun ov iv wr => ∃ (i : Nat), i ≤ n ∧ iv = .int .i64 i ∧ Hid (Chg B hi w wr) ∧ Hid (w.heap.size < wr.heap.size) ∧ Hid (Blk wr w.heap.size #[cv, .slice (some ⟨B, 0, none⟩) n n] 69) ∧ Hid (OwnM wr (w.heap.size + 1) ov (strs ms i)) ∧ Hid (ChM wr B hi (.slice (some ⟨B, 0, none⟩) n n) hs (hom ms i))) (fun ov iv _ => n - (intOf iv).toNat)
  case atStart => exact ⟨0, Nat.zero_le _, rfl, T1, Z1, R1, O1, H1⟩
  case round =>
    clear T1 Z1 R1 O1 H1
    obtain ⟨i, hin, rfl, T3, Z3, R3, O3, H3⟩ := hrel
    obtain ⟨w3, h3⟩ : ∃ x, x = wr := ⟨_, rfl⟩
    subst h3
    by_cases hlt : i < n
    · obtain ⟨c, hci⟩ := HMD.out.2.1 i hlt
      have HCI := Lib.hid hci
      obtain ⟨xs, hx⟩ : ∃ xs, ms[i]? = some xs := ⟨_, List.getElem?_eq_getElem (by rw [Hn.out]; exact hlt)⟩
      have hxl := HLIM.out xs (List.mem_of_getElem? hx)
      have HX := Lib.hid hx
      obtain ⟨l, hl⟩ : ∃ y, xs.length = y := ⟨_, rfl⟩
      rw [hl] at hxl
      have HL := Lib.hid hl
      have ho := H3.out.outer
      rw [HMD.out.1] at ho
      have ce1 := (ho.cellAt i (by omega)).trans (show (hs.map Value.chan)[i]? = some (.chan (some c)) from by rw [List.getElem?_map, hci]; rfl)
      have hg3 := hom_get (i := i) hx
      rw [if_neg (by omega)] at hg3
      obtain ⟨sN, rN, hch⟩ := H3.out.at_ hci hg3
      have hini : (i : Int) < (n : Int) := by omega
      clear ho hx hci hl hg3
      go_wp2_with (refine wpl_len_chan _ rfl (.tmp 15) rfl c xs sN rN rfl hch l HL.out ?_)
      have O4 : Hid (OwnM w3 (w.heap.size + 1) u3 (strs ms i ++ strK i (xs.take 0))) := by show OwnM _ _ _ _; simpa [strK] using O3.out
      have H4 : Hid (ChM w3 B hi (.slice (some ⟨B, 0, none⟩) n n) hs (homJ ms i 0 xs)) := by show ChM _ _ _ _ _ _; rw [homJ_zero HX.out]; exact H3.out
      clear O3 H3 ce1 hch hini
      go_loopw [3, 17] (fun qv jv wq => ∃ (j : Nat), j ≤ l ∧ jv = .int .i64 j ∧ Hid (Chg B hi w wq) ∧ Hid (w.heap.size < wq.heap.size) ∧ Hid (Blk wq w.heap.size #[cv, .slice (some ⟨B, 0, none⟩) n n] 69) ∧ Hid (OwnM wq (w.heap.size + 1) qv (strs ms i ++ strK i (xs.take j))) ∧ Hid (ChM wq B hi (.slice (some ⟨B, 0, none⟩) n n) hs (homJ ms i j xs))) (fun qv jv _ => l - (intOf jv).toNat)
      case atStart => exact ⟨0, Nat.zero_le _, rfl, T3, Z3, R3, O4, H4⟩
      case round =>
        clear T3 Z3 R3 O4 H4
        obtain ⟨j, hjl, rfl, T5, Z5, R5, O5, H5⟩ := hrel
        obtain ⟨w5, h5⟩ : ∃ x, x = wr := ⟨_, rfl⟩
        subst h5
        by_cases hj : j < l
        · have hji : (j : Int) < (l : Int) := by omega
          obtain ⟨z, hz⟩ : ∃ z, xs[j]? = some z := ⟨_, List.getElem?_eq_getElem (by rw [HL.out]; exact hj)⟩
          obtain ⟨k1, k2⟩ := z
          have HZ := Lib.hid hz
          clear hz
          obtain ⟨sN, rN, hch⟩ := H5.out.at_ HCI.out (homJ_get HX.out)
          have hcB := (H5.out.place i c HCI.out).1
          have hch2 := (H5.out.place i c HCI.out).2.1
          have hT := T5.out.size
          have hZ := Z5.out
          have hOl := O5.out.lt
          have hdr : xs.drop j ++ keepK i (xs.take j) = (k1, k2) :: (xs.drop (j + 1) ++ keepK i (xs.take j)) := by rw [drop_next HZ.out]; rfl
          rw [hdr] at hch
          obtain ⟨rs, hrs⟩ : ∃ rs, xs.drop (j + 1) ++ keepK i (xs.take j) = rs := ⟨_, rfl⟩
          rw [hrs] at hch hdr
          have hrl : rs.length < 20 := by have h2 := HL.out; have h1 := keepK_le i (xs.take j); rw [List.length_take] at h1; rw [← hrs, List.length_append, List.length_drop]; omega
          go_upto_region 7 with fail
          refine RegTo.region ?_
          refine RegTo.value (rest := [1, 2, 3]) rfl (by rfl) (v := .chan (some c)) (w' := w5) (by go_simp) ?_
          simp only [List.getElem_toArray, List.getElem_cons_zero, List.getElem_cons_succ, Act.put, List.setIfInBounds_toArray, List.set_cons_zero, List.set_cons_succ]
          refine RegTo.recv (rest := [2, 3]) rfl (by rfl) (by go_simp; rfl) (z := .agg #[.int .i64 0, .int .i64 0]) hch (by rw [bufM_size]; simp) ?_
          rw [bufM_head, bufM_tail]
          simp only [List.getElem_toArray, List.getElem_cons_zero, List.getElem_cons_succ, Act.put, List.setIfInBounds_toArray, List.set_cons_zero, List.set_cons_succ]
          have hcg := chg_setChan w5 c 20 (bufM rs) false sN (rN + 1) false
          have H6 : Hid (ChM (w5.setChan c 20 (bufM rs) false sN (rN + 1) false) B hi (.slice (some ⟨B, 0, none⟩) n n) hs ((hom ms i).set i rs)) := by show ChM _ _ _ _ _ _; rw [← homJ_set (j := j) (xs := xs)]; exact H5.out.comm HCI.out rs sN (rN + 1)
          obtain ⟨w6, hw6⟩ : ∃ y, w5.setChan c 20 (bufM rs) false sN (rN + 1) false = y := ⟨_, rfl⟩
          rw [hw6] at hcg H6 ⊢
          have hz6 := hcg.size
          have T6 : Hid (Chg B hi w w6) := T5.out.trans (hcg.wide hcB (by omega))
          have R6 : Hid (Blk w6 w.heap.size #[cv, .slice (some ⟨B, 0, none⟩) n n] 69) := (hcg.block w.heap.size (by omega) (by omega)).trans R5.out
          have O6 : Hid (OwnM w6 (w.heap.size + 1) u3 (strs ms i ++ strK i (xs.take j))) := O5.out.chg hcg (fun k hk => by have := hOl k hk; omega)
          clear T5 R5 O5 H5 hcg hw6 hch
          unfold cvM
          obtain ⟨w7, hw7, hb7, hz7, X7⟩ := mxWorld w6 #[.int .i64 0, .int .i64 0] 30
          have e0 := cellOfBlk X7 0
          have e1 := cellOfBlk X7 1
          have f0 := X7.warm 0
          have f1 := X7.warm 1
          have hxl7 := X7.lt
          refine RegTo.value (rest := [3]) rfl (by rfl) (v := .pointer (some ⟨w6.heap.size, 0, none⟩)) (w' := w7) (by rw [← hw7]; go_simp) ?_
          simp only [List.getElem_toArray, List.getElem_cons_zero, List.getElem_cons_succ, Act.put, List.setIfInBounds_toArray, List.set_cons_zero, List.set_cons_succ]
          refine RegTo.skip (rest := []) rfl (by rfl) (w' := (w7.setCell ⟨w6.heap.size, 0, none⟩ (.int .i64 k1)).setCell ⟨w6.heap.size, 1, none⟩ (.int .i64 k2)) (by go_simp) ?_
          simp only [List.getElem_toArray, List.getElem_cons_zero, List.getElem_cons_succ, Act.put, List.setIfInBounds_toArray, List.set_cons_zero, List.set_cons_succ]
          refine RegTo.nil ?_
          have X8 := X7.fill2 (.int .i64 k1) (.int .i64 k2)
          have hcg := chg_two w7 w6.heap.size (.int .i64 k1) (.int .i64 k2)
          obtain ⟨w8, hw8⟩ : ∃ y, (w7.setCell ⟨w6.heap.size, 0, none⟩ (.int .i64 k1)).setCell ⟨w6.heap.size, 1, none⟩ (.int .i64 k2) = y := ⟨_, rfl⟩
          rw [hw8] at hcg X8 ⊢
          have hz8 := hcg.size
          have b8 : Below w6.heap.size w6 w8 := hb7.trans (hcg.below (by omega))
          have T8 : Hid (Chg B hi w w8) := T6.out.trans (Chg.of_below b8)
          have T8 : Hid (Chg B hi w w8) := T6.out.trans (Chg.of_below b8)
          have R8 : Hid (Blk w8 w.heap.size #[cv, .slice (some ⟨B, 0, none⟩) n n] 69) := (b8.block w.heap.size (by omega)).trans R6.out
          have O8 : Hid (OwnM w8 (w.heap.size + 1) u3 (strs ms i ++ strK i (xs.take j))) := O6.out.below b8
          have H8 : Hid (ChM w8 B hi (.slice (some ⟨B, 0, none⟩) n n) hs ((hom ms i).set i rs)) := H6.out.below (by omega) b8
          have X8 := Lib.hid X8
          clear T6 R6 O6 H6 hw8 hcg e0 e1 f0 f1 X7 hw7 hb7 b8
          have k0 := cellOfBlk X8.out 0
          have k1c := cellOfBlk X8.out 1
          by_cases hk : k1 = (i : Int)
          · subst hk
            have hkd : decide ((i : Int) = (i : Int)) = true := by simp
            obtain ⟨sM, rM, hch⟩ := H8.out.at_ HCI.out (List.getElem?_set_self (by rw [hom_len]; exact (List.getElem?_eq_some_iff.1 HX.out).1))
            go_upto_region 9 with fail
            refine RegTo.region ?_
            refine RegTo.value (rest := [1, 2]) rfl (by rfl) (v := .chan (some c)) (w' := w8) (by go_simp) ?_
            simp only [List.getElem_toArray, List.getElem_cons_zero, List.getElem_cons_succ, Act.put, List.setIfInBounds_toArray, List.set_cons_zero, List.set_cons_succ]
            refine RegTo.value (rest := [2]) rfl (by rfl) (v := .agg #[.int .i64 (i : Int), .int .i64 k2]) (w' := w8) (by go_simp) ?_
            simp only [List.getElem_toArray, List.getElem_cons_zero, List.getElem_cons_succ, Act.put, List.setIfInBounds_toArray, List.set_cons_zero, List.set_cons_succ]
            refine RegTo.send (rest := []) rfl (by rfl) (v := .agg #[.int .i64 (i : Int), .int .i64 k2]) (z := .tuple #[]) (by go_simp; rfl) hch (by rw [bufM_size]; exact hrl) ?_
            rw [show (Value.agg #[.int .i64 (i : Int), .int .i64 k2]) = cvM ((i : Int), k2) from rfl, bufM_push]
            simp only [List.getElem_toArray, List.getElem_cons_zero, List.getElem_cons_succ, Act.put, List.setIfInBounds_toArray, List.set_cons_zero, List.set_cons_succ]
            refine RegTo.nil ?_
            have hcg := chg_setChan w8 c 20 (bufM (rs ++ [((i : Int), k2)])) false (sM + 1) rM false
            have hrow : rs ++ [((i : Int), k2)] = xs.drop (j + 1) ++ keepK i (xs.take (j + 1)) := by rw [keepK_take HZ.out, if_pos rfl, ← hrs, List.append_assoc]
            have H9 : Hid (ChM (w8.setChan c 20 (bufM (rs ++ [((i : Int), k2)])) false (sM + 1) rM false) B hi (.slice (some ⟨B, 0, none⟩) n n) hs (homJ ms i (j + 1) xs)) := by show ChM _ _ _ _ _ _; have h9 := H8.out.comm HCI.out (rs ++ [((i : Int), k2)]) (sM + 1) rM; rw [List.set_set] at h9; unfold homJ; rw [← hrow]; exact h9
            obtain ⟨w9, hw9⟩ : ∃ y, w8.setChan c 20 (bufM (rs ++ [((i : Int), k2)])) false (sM + 1) rM false = y := ⟨_, rfl⟩
            rw [hw9] at hcg H9 ⊢
            have hz9 := hcg.size
            have hO8 := O8.out.lt
            have T9 : Hid (Chg B hi w w9) := T8.out.trans (hcg.wide hcB (by omega))
            have R9 : Hid (Blk w9 w.heap.size #[cv, .slice (some ⟨B, 0, none⟩) n n] 69) := (hcg.block w.heap.size (by omega) (by omega)).trans R8.out
            have O9 : Hid (OwnM w9 (w.heap.size + 1) u3 (strs ms i ++ strK i (xs.take (j + 1)))) := by show OwnM _ _ _ _; rw [strK_take HZ.out, if_pos rfl]; exact O8.out.chg hcg (fun k hk => by have := hO8 k hk; omega)
            have Z9 : Hid (w.heap.size < w9.heap.size) := by show _ < _; omega
            have hj1 : j + 1 ≤ l := by omega
            go_wp2
            exact ⟨⟨j + 1, hj1, rfl, T9, Z9, R9, O9, H9⟩, by simp [intOf]; omega⟩
          · have hkd : decide (k1 = (i : Int)) = false := decide_eq_false hk
            go_wp2_with (refine wpl_push_mat w8 rfl (.tmp 27) (.tmp 29) rfl (w.heap.size + 1) u3 _ (k1, k2) rfl rfl O8.out (by omega) (by have h1 := HSL.out i (by rw [Hn.out]; omega); have h2 := strK_le i (xs.take j); rw [List.length_take] at h2; rw [List.length_append]; omega) ?_; intro v9 w9 hO9 hg9 hf9)
            have hO8 := O8.out.lt
            have c9 : Chg (w.heap.size + 1) w8.heap.size w8 w9 := Chg.of_grown hg9 (fun g hg => hO8 g hg)
            have b9 := c9.below (by omega)
            have hz9 := c9.size
            have T9 : Hid (Chg B hi w w9) := T8.out.upon c9 (by omega)
            have R9 : Hid (Blk w9 w.heap.size #[cv, .slice (some ⟨B, 0, none⟩) n n] 69) := (b9.block w.heap.size (by omega)).trans R8.out
            have hrow : rs = xs.drop (j + 1) ++ keepK i (xs.take (j + 1)) := by rw [keepK_take HZ.out, if_neg hk, hrs]
            have H9 : Hid (ChM w9 B hi (.slice (some ⟨B, 0, none⟩) n n) hs (homJ ms i (j + 1) xs)) := by show ChM _ _ _ _ _ _; unfold homJ; rw [← hrow]; exact H8.out.keep fun b _ h2 => b9.block b (by omega)
            have O9 : Hid (OwnM w9 (w.heap.size + 1) v9 (strs ms i ++ strK i (xs.take (j + 1)))) := by show OwnM _ _ _ _; rw [strK_take HZ.out, if_neg hk, ← List.append_assoc]; exact hO9
            have Z9 : Hid (w.heap.size < w9.heap.size) := by show _ < _; omega
            have hj1 : j + 1 ≤ l := by omega
            clear hg9 hf9 hO9 c9 b9
            go_wp2
            exact ⟨⟨j + 1, hj1, rfl, T9, Z9, R9, O9, H9⟩, by simp [intOf]; omega⟩
        · have hje : j = l := by omega
          subst hje
          have hjf : decide ((j : Int) < (j : Int)) = false := by simp
          have H6 : Hid (ChM w5 B hi (.slice (some ⟨B, 0, none⟩) n n) hs (hom ms (i + 1))) := by show ChM _ _ _ _ _ _; rw [← homJ_all HX.out HL.out]; exact H5.out
          have O6 : Hid (OwnM w5 (w.heap.size + 1) u3 (strs ms (i + 1))) := by show OwnM _ _ _ _; rw [← strs_next HX.out]; have h9 := O5.out; rw [List.take_of_length_le (by rw [HL.out]; exact Nat.le_refl _)] at h9; exact h9
          go_wp2
          exact ⟨⟨i + 1, by omega, rfl, T5, Z5, R5, O6, H6⟩, by simp [intOf]; omega⟩
    · have hie : i = n := by omega
      subst hie
      have hnf : decide ((i : Int) < (i : Int)) = false := by simp
      go_wp2
      go_ret
      exact ⟨_, rfl, O3.out, H3.out, T3.out⟩
end Go.Proofs.YtdijlofcgcikjaaDoor

namespace Go.Proofs.YtdijlofcgcikjaaDoor
open Go.RowKit Go.Conc
set_option linter.unusedVariables false
set_option linter.unusedSimpArgs false

set_option maxRecDepth 100000 in
set_option maxHeartbeats 12800000 in
theorem sweep_any (cv : Value) (hcv : cv.oneCell' = true) (B hi n : Nat) (hs : List (Option Nat)) (ms : List (List Mat)) (w : World) (hn : ms.length = n) (hm : n ≤ 40) (hlim : ∀ xs ∈ ms, xs.length ≤ 20) (hmd : Made hs n n) (h : ChM w B hi (.slice (some ⟨B, 0, none⟩) n n) hs ms) (hhi : hi ≤ w.heap.size) (hB2 : 2 < B)
    (hk : ∀ x ∈ strs ms n, 0 ≤ x.1 ∧ x.1.toNat < n) (ct : TypeId) (cu : Value) (hg : w.cell? ⟨2, 0, none⟩ = some (.iface ct cu)) :
    Calls Tryd.prog 52 #[.agg #[cv, .slice (some ⟨B, 0, none⟩) n n]] w fun e w' => ((∃ L, sweepGo (hom ms n) (strs ms n) = some L ∧ e = .returned (.tuple #[.int .i64 ((strs ms n).length : Int), .nilIface]) ∧ ChM w' B hi (.slice (some ⟨B, 0, none⟩) n n) hs L) ∨ (sweepGo (hom ms n) (strs ms n) = none ∧ ∃ k : Int, e = .returned (.tuple #[.int .i64 0, .iface 105 (.agg #[.int .i64 k, .iface ct cu])]))) ∧ Chg B hi w w' := by
  have hBh := h.top B rfl
  have hBw : B < w.heap.size := by omega
  obtain ⟨w0, hw0⟩ : ∃ x, w = x := ⟨_, rfl⟩
  have hww : w.heap.size = w0.heap.size := by rw [hw0]
  rw [hw0]
  have hslen := strs_le hlim n (by omega)
  have hLlen := hom_len ms n
  rw [hn] at hLlen
  have hLlim := hom_lim hlim n
  have HMD := Lib.hid hmd; have Hn := Lib.hid hn; have HLIM := Lib.hid hlim
  obtain ⟨S, hS⟩ : ∃ S, strs ms n = S := ⟨_, rfl⟩
  obtain ⟨L0, hL0⟩ : ∃ L, hom ms n = L := ⟨_, rfl⟩
  rw [hS] at hk hslen ⊢
  rw [hL0] at hLlen hLlim ⊢
  obtain ⟨l, hl⟩ : ∃ l, S.length = l := ⟨_, rfl⟩
  rw [hl] at hslen ⊢
  have HSS := Lib.hid hS; have HL0 := Lib.hid hL0; have HL := Lib.hid hl; have HK := Lib.hid hk; have HLL := Lib.hid hLlim
  clear hS hL0 hl hk hLlim
  have C0 : Hid (Chg B hi w0 w0) := Chg.of_below (Below.refl _ _)
  have H0 : Hid (ChM w0 B hi (.slice (some ⟨B, 0, none⟩) n n) hs ms) := by show ChM _ _ _ _ _ _; rw [← hw0]; exact h
  have G0 : Hid (w0.cell? ⟨2, 0, none⟩ = some (.iface ct cu)) := by rw [← hw0]; exact hg
  clear h hg hmd hn hlim
  obtain ⟨w1, hw1, hb1, hz1, hX1⟩ := mxWorld w0 #[cv, .slice (some ⟨B, 0, none⟩) n n] 69
  have C1 : Hid (Chg B hi w0 w1) := C0.out.trans (Chg.of_below hb1)
  have H1 : Hid (ChM w1 B hi (.slice (some ⟨B, 0, none⟩) n n) hs ms) := H0.out.below (by omega) hb1
  have G1 : Hid (w1.cell? ⟨2, 0, none⟩ = some (.iface ct cu)) := (hb1.cell (p := ⟨2, 0, none⟩) (by show 2 < _; omega)).trans G0.out
  have sz1 : w0.heap.size ≤ w1.heap.size := hb1.size
  clear C0 H0 G0
  have R1 : Hid (Blk w1 (w0.heap.size) #[cv, .slice (some ⟨B, 0, none⟩) n n] 69) := by show Blk _ _ _ _; exact hX1
  have r0 := cellOfBlk R1.out 0
  have r1 := cellOfBlk R1.out 1
  go_enter Tryd.func52, Tryd.ntmps52
  go_wp2_with fail
  refine (strays_any cv B hi n hs ms w1 Hn.out hm HLIM.out HMD.out H1.out (by omega)).mono ?_
  rintro e w2 ⟨v1, rfl, hO, hH, hc⟩
  rw [HSS.out] at hO
  rw [HL0.out] at hH
  obtain ⟨A, c, rfl, hlc, hcm, -, -⟩ := hO.form
  rw [HL.out] at hO hlc ⊢
  clear H1
  have hb2 := hc.below (by omega)
  have C2 : Hid (Chg B hi w0 w2) := C1.out.trans hc
  have O2 : Hid (OwnM w2 (w1.heap.size + 1) (.slice A l c) S) := hO
  have H2 : Hid (ChM w2 B hi (.slice (some ⟨B, 0, none⟩) n n) hs L0) := hH
  have R2 : Hid (Blk w2 (w0.heap.size) #[cv, .slice (some ⟨B, 0, none⟩) n n] 69) := (hc.block _ (by omega) (by omega)).trans R1.out
  have G2 : Hid (w2.cell? ⟨2, 0, none⟩ = some (.iface ct cu)) := (hc.cell (p := ⟨2, 0, none⟩) (by show 2 < _; omega) (by show ¬(B ≤ 2 ∧ 2 < hi); omega)).trans G1.out
  have sz2 : w1.heap.size ≤ w2.heap.size := hb2.size
  clear C1 R1 G1
  clear hc hO hH r0 r1
  go_wp2
  obtain ⟨b, hbz⟩ : ∃ b, w1.heap.size = b := ⟨_, rfl⟩
  rw [hbz] at O2
  have P2 : Hid (sweepGo L0 (S.take 0) = some L0) := rfl
  go_loopw [12] (fun jv wr => ∃ (j : Nat) (L : List (List Mat)), j ≤ l ∧ jv = .int .i64 j ∧ Hid (Chg B hi w0 wr) ∧ Hid (ChM wr B hi (.slice (some ⟨B, 0, none⟩) n n) hs L) ∧ Hid (Blk wr (w0.heap.size) #[cv, .slice (some ⟨B, 0, none⟩) n n] 69) ∧ Hid (wr.cell? ⟨2, 0, none⟩ = some (.iface ct cu)) ∧ Hid (OwnM wr (b + 1) (.slice A l c) S) ∧ Hid (sweepGo L0 (S.take j) = some L) ∧ w2.heap.size ≤ wr.heap.size) (fun jv _ => l - (intOf jv).toNat)
  case atStart => exact ⟨0, L0, Nat.zero_le _, rfl, C2, H2, R2, G2, O2, P2, Nat.le_refl _⟩
  case round =>
    clear C2 H2 R2 G2 O2 P2
    obtain ⟨j, L, hjl, rfl, C3, H3, R3, G3, O3, hP, hsz⟩ := hrel
    obtain ⟨w3, hwk⟩ : ∃ x, x = wr := ⟨_, rfl⟩
    subst hwk
    have hLn := sweepGo_len hP.out
    rw [hLlen] at hLn
    have HLm := Lib.hid (sweepGo_lim HLL.out hP.out)
    by_cases hj : j < l
    · obtain ⟨ad, x, hA, hx, c0, c1⟩ := (O3.out.reads).at_ (k := j) (by rw [HL.out]; exact hj)
      obtain ⟨k1, k2⟩ := x
      obtain ⟨kx0, kx1⟩ := HK.out _ (List.mem_of_getElem? hx.out)
      simp only at kx0 kx1 c0 c1
      obtain ⟨m, rfl⟩ := Int.eq_ofNat_of_zero_le kx0
      have hmn : m < n := by simpa using kx1
      obtain ⟨xs, hxs⟩ : ∃ xs, L[m]? = some xs := ⟨_, List.getElem?_eq_getElem (by omega)⟩
      have HXS := Lib.hid hxs
      have hra : rowAt L (m : Int) = xs := rowAt_of hxs
      have HRA := Lib.hid hra
      have hxl := HLm.out xs (List.mem_of_getElem? hxs)
      have hji : (j : Int) < (l : Int) := by omega
      clear hxs hra kx0 kx1
      have hA2 := hA
      subst hA2
      obtain ⟨w4, hw4, hb4, hz4, hX4⟩ := mxWorld w3 #[.int .i64 (m : Int), .int .i64 k2] 30
      have C4 : Hid (Chg B hi w0 w4) := C3.out.trans (Chg.of_below hb4)
      have H4 : Hid (ChM w4 B hi (.slice (some ⟨B, 0, none⟩) n n) hs L) := H3.out.below (by omega) hb4
      have R4 : Hid (Blk w4 (w0.heap.size) #[cv, .slice (some ⟨B, 0, none⟩) n n] 69) := R3.out.below hb4 (by omega)
      have G4 : Hid (w4.cell? ⟨2, 0, none⟩ = some (.iface ct cu)) := (hb4.cell (p := ⟨2, 0, none⟩) (by show 2 < _; omega)).trans G3.out
      have O4 : Hid (OwnM w4 (b + 1) (.slice (some ad) l c) S) := O3.out.below hb4
      have sz4 : w3.heap.size ≤ w4.heap.size := hb4.size
      clear C3 H3 R3 G3 O3
      have X4 : Hid (Blk w4 (w3.heap.size) #[.int .i64 (m : Int), .int .i64 k2] 30) := by show Blk _ _ _ _; exact hX4
      have r0 := cellOfBlk R4.out 0
      have r1 := cellOfBlk R4.out 1
      have x0 := cellOfBlk X4.out 0
      have x1 := cellOfBlk X4.out 1
      go_wp2_with fail
      by_cases hr : xs.length < 20
      · refine (put_room cv B hi n hs L m w4 HMD.out H4.out (by omega) hmn (m : Int) k2 xs HXS.out hr).mono ?_
        rintro e w5 ⟨rfl, hH, hc⟩
        clear X4
        have hb5 := hc.below (by omega)
        have C5 : Hid (Chg B hi w0 w5) := C4.out.trans hc
        have O5 : Hid (OwnM w5 (b + 1) (.slice (some ad) l c) S) := O4.out.chg hc (fun q hq => by have := O4.out.lt q hq; omega)
        have H5 : Hid (ChM w5 B hi (.slice (some ⟨B, 0, none⟩) n n) hs (L.set m (xs ++ [((m : Int), k2)]))) := hH
        have R5 : Hid (Blk w5 (w0.heap.size) #[cv, .slice (some ⟨B, 0, none⟩) n n] 69) := (hc.block _ (by omega) (by omega)).trans R4.out
        have G5 : Hid (w5.cell? ⟨2, 0, none⟩ = some (.iface ct cu)) := (hc.cell (p := ⟨2, 0, none⟩) (by show 2 < _; omega) (by show ¬(B ≤ 2 ∧ 2 < hi); omega)).trans G4.out
        have sz5 : w4.heap.size ≤ w5.heap.size := hb5.size
        clear C4 O4 H4 R4 G4
        have hP2 : Hid (sweepGo L0 (S.take (j + 1)) = some (L.set m (xs ++ [((m : Int), k2)]))) := by have h9 := sweepGo_next hP.out hx.out (by show (rowAt L (m : Int)).length < 20; rw [HRA.out]; exact hr); rw [show ((m : Int), k2).1.toNat = m from Int.toNat_natCast m] at h9; show _ = _; rw [h9]; show some (L.set m (rowAt L (m : Int) ++ _)) = _; rw [HRA.out]
        clear hc hH hP r0 r1 x0 x1 c0 c1
        go_wp2
        exact ⟨⟨j + 1, _, by omega, rfl, C5, H5, R5, G5, O5, hP2, by omega⟩, by simp [intOf]; omega⟩
      · refine (put_full cv B hi n hs L m w4 HMD.out H4.out (by omega) hmn (m : Int) k2 xs ct cu G4.out HXS.out (by omega)).mono ?_
        rintro e w5 ⟨rfl, hH, hc⟩
        have hstop := sweepGo_stop hP.out hx.out (by show 20 ≤ (rowAt L (m : Int)).length; rw [HRA.out]; omega)
        have Cz := C4.out.trans hc
        have hbz2 := hc.below (by omega)
        clear hc hH r0 r1 x0 x1 c0 c1
        go_wp2
        go_ret2
        exact ⟨.inr ⟨hstop, _, rfl⟩, Cz⟩
    · have hje : j = l := by omega
      subst hje
      have hjf : decide ((j : Int) < (j : Int)) = false := by simp
      have hall := hP.out
      rw [List.take_of_length_le (by rw [HL.out]; exact Nat.le_refl _)] at hall
      go_wp2
      go_ret2
      exact ⟨.inl ⟨L, hall, rfl, H3.out⟩, C3.out⟩
end Go.Proofs.YtdijlofcgcikjaaDoor

namespace Go.Proofs.YtdijlofcgcikjaaDoor
open Go.RowKit Go.Conc
set_option linter.unusedVariables false
set_option linter.unusedSimpArgs false

theorem sweep_off {f : Fnt} {ms : List (List Mat)} (h : sweepOk f ms = false) : sweepL f ms = [] ∧ sweepI f ms = 0 := by
  unfold sweepL sweepI; rw [h]; exact ⟨rfl, rfl⟩
theorem sweep_on {f : Fnt} {ms L : List (List Mat)} (hm : magB f ms = true) (h : swept ms = some L) : sweepOk f ms = true ∧ sweepL f ms = L ∧ sweepI f ms = ((strs ms ms.length).length : Int) := by
  have h0 : sweepOk f ms = true := by unfold sweepOk; rw [hm, h]; rfl
  refine ⟨h0, ?_, ?_⟩
  · unfold sweepL; rw [if_pos h0, h]; rfl
  · unfold sweepI; rw [if_pos h0]
theorem sweep_none {f : Fnt} {ms : List (List Mat)} (h : swept ms = none) : sweepOk f ms = false := by unfold sweepOk; rw [h]; simp
set_option maxRecDepth 100000 in
set_option maxHeartbeats 3200000 in
theorem implSweep_no (lo hi0 lo2 hi2 : Nat) (v : Value) (f : Fnt) (A : Option Addr) (n c : Nat) (ms : List (List Mat)) (w : World) (h : FontV w lo hi0 v f) (hhi : hi0 ≤ w.heap.size) (hs : Small f) (hn : ms.length = n) (hm : n ≤ 1048576) (hM : MagI w lo2 hi2 A ms) (hhi2 : hi2 ≤ w.heap.size) (wf : wfM ms) (hmag : magB f ms = false) :
    Calls Tryd.prog 17 #[v, .slice A n c] w fun e w' => ∃ u hs', e = .returned (.tuple #[u, .int .i64 (sweepI f ms), .bool (sweepOk f ms)]) ∧ OwnMag w' w.heap.size w'.heap.size u hs' (sweepL f ms) ∧ Below w.heap.size w w' := by
  have hok : sweepOk f ms = false := by unfold sweepOk; rw [hmag]; rfl
  obtain ⟨B1, d1, B2, d2, hv⟩ := fontForm h
  obtain ⟨s, hs0⟩ : ∃ y, f.s = y := ⟨_, rfl⟩
  obtain ⟨p, hp⟩ : ∃ y, f.ws.length = y := ⟨_, rfl⟩
  obtain ⟨q, hq⟩ : ∃ y, f.cs.length = y := ⟨_, rfl⟩
  rw [hs0, hp, hq] at hv
  rw [hv] at h
  rw [hv]
  have Hn := Lib.hid hn; have Hwf := Lib.hid wf
  obtain ⟨w0, hw0⟩ : ∃ x, w = x := ⟨_, rfl⟩
  have hww : w.heap.size = w0.heap.size := by rw [hw0]
  have HQ := Lib.hid hq; have HPS := Lib.hid (And.intro hs0 hp)
  have T0 : Hid (Below w0.heap.size w0 w0) := Below.refl _ _
  have V0 : Hid (FontV w0 lo hi0 (.agg #[.string s, .slice B1 p d1, .slice B2 q d2]) f) := by rw [← hw0]; exact h
  have M0 : Hid (MagI w0 lo2 hi2 A ms) := by rw [← hw0]; exact hM
  clear h hM hn wf hs0 hp hq hv
  obtain ⟨w1, hw1, hb1, hz1, hX1⟩ := mxWorld w0 #[.string s, .slice B1 p d1, .slice B2 q d2] 25
  have T1 : Hid (Below w0.heap.size w0 w1) := T0.out.trans (hb1.mono (by omega))
  have V1 : Hid (FontV w1 lo hi0 (.agg #[.string s, .slice B1 p d1, .slice B2 q d2]) f) := V0.out.below (by omega) hb1
  have M1 : Hid (MagI w1 lo2 hi2 A ms) := M0.out.below (by omega) hb1
  have sz1 : w0.heap.size ≤ w1.heap.size := hb1.size
  clear T0 V0 M0
  have F1 : Hid (Blk w1 (w0.heap.size) #[.string s, .slice B1 p d1, .slice B2 q d2] 25) := by show Blk _ _ _ _; exact hX1
  have y0 := cellOfBlk F1.out 0
  have y1 := cellOfBlk F1.out 1
  have y2 := cellOfBlk F1.out 2
  rw [hw0]
  go_enter Tryd.func17, Tryd.ntmps17
  go_wp2_with fail
  refine (implMagOk_any lo hi0 lo2 hi2 _ f _ _ _ ms _ V1.out (by omega) hs Hn.out hm M1.out (by omega) Hwf.out).mono ?_
  rintro e w2 ⟨rfl, hb2⟩
  rw [hmag]
  have T2 : Hid (Below w0.heap.size w0 w2) := T1.out.trans (hb2.mono (by omega))
  have V2 : Hid (FontV w2 lo hi0 (.agg #[.string s, .slice B1 p d1, .slice B2 q d2]) f) := V1.out.below (by omega) hb2
  have M2 : Hid (MagI w2 lo2 hi2 A ms) := M1.out.below (by omega) hb2
  have F2 : Hid (Blk w2 (w0.heap.size) #[.string s, .slice B1 p d1, .slice B2 q d2] 25) := F1.out.below hb2 (by omega)
  have sz2 : w1.heap.size ≤ w2.heap.size := hb2.size
  clear T1 V1 M1 F1
  go_wp2
  go_ret3
  obtain ⟨e2, e3⟩ := sweep_off hok
  rw [hok, e2, e3]
  exact ⟨_, [], rfl, wait_none _ _ _, T2.out⟩
set_option maxRecDepth 100000 in
set_option maxHeartbeats 3200000 in
theorem implSweep_yes (lo hi0 lo2 hi2 : Nat) (v : Value) (f : Fnt) (A : Option Addr) (n c : Nat) (ms : List (List Mat)) (w : World) (h : FontV w lo hi0 v f) (hhi : hi0 ≤ w.heap.size) (hs : Small f) (hn : ms.length = n) (hm : n ≤ 1048576) (hM : MagI w lo2 hi2 A ms) (hhi2 : hi2 ≤ w.heap.size) (wf : wfM ms) (ct : TypeId) (cu : Value) (hg : w.cell? ⟨2, 0, none⟩ = some (.iface ct cu)) (he : ErrH w) (hmag : magB f ms = true) :
    Calls Tryd.prog 17 #[v, .slice A n c] w fun e w' => ∃ u hs', e = .returned (.tuple #[u, .int .i64 (sweepI f ms), .bool (sweepOk f ms)]) ∧ OwnMag w' w.heap.size w'.heap.size u hs' (sweepL f ms) ∧ Below w.heap.size w w' := by
  obtain ⟨B1, d1, B2, d2, hv⟩ := fontForm h
  obtain ⟨s, hs0⟩ : ∃ y, f.s = y := ⟨_, rfl⟩
  obtain ⟨p, hp⟩ : ∃ y, f.ws.length = y := ⟨_, rfl⟩
  obtain ⟨q, hq⟩ : ∃ y, f.cs.length = y := ⟨_, rfl⟩
  rw [hs0, hp, hq] at hv
  rw [hv] at h
  rw [hv]
  have Hn := Lib.hid hn; have Hwf := Lib.hid wf
  obtain ⟨w0, hw0⟩ : ∃ x, w = x := ⟨_, rfl⟩
  have hww : w.heap.size = w0.heap.size := by rw [hw0]
  have HQ := Lib.hid hq; have HPS := Lib.hid (And.intro hs0 hp)
  have hg2 := World.block_lt_of_cell? _ _ hg
  simp only at hg2
  have T0 : Hid (Below w0.heap.size w0 w0) := Below.refl _ _
  have V0 : Hid (FontV w0 lo hi0 (.agg #[.string s, .slice B1 p d1, .slice B2 q d2]) f) := by rw [← hw0]; exact h
  have M0 : Hid (MagI w0 lo2 hi2 A ms) := by rw [← hw0]; exact hM
  have G0 : Hid (w0.cell? ⟨2, 0, none⟩ = some (.iface ct cu)) := by rw [← hw0]; exact hg
  have E0 : Hid (ErrH w0) := by rw [← hw0]; exact he
  clear h hM hn wf hs0 hp hq hv hg he
  obtain ⟨hf, hlen, hrows⟩ := magB_rows hmag
  have hfs := fontB_size hf
  rw [Hn.out] at hlen
  have hn40 : n ≤ 40 := by omega
  have hlim : ∀ xs ∈ ms, xs.length ≤ 20 := fun xs hx => (hrows xs hx).1
  have hkin := kind_in hmag
  rw [Hn.out] at hkin
  have HLIM := Lib.hid hlim; have HK := Lib.hid hkin
  clear hrows hlim hkin hlen hfs
  obtain ⟨w1, hw1, hb1, hz1, hX1⟩ := mxWorld w0 #[.string s, .slice B1 p d1, .slice B2 q d2] 25
  have T1 : Hid (Below w0.heap.size w0 w1) := T0.out.trans (hb1.mono (by omega))
  have V1 : Hid (FontV w1 lo hi0 (.agg #[.string s, .slice B1 p d1, .slice B2 q d2]) f) := V0.out.below (by omega) hb1
  have M1 : Hid (MagI w1 lo2 hi2 A ms) := M0.out.below (by omega) hb1
  have G1 : Hid (w1.cell? ⟨2, 0, none⟩ = some (.iface ct cu)) := (hb1.cell (p := ⟨2, 0, none⟩) (by show 2 < _; omega)).trans G0.out
  have E1 : Hid (ErrH w1) := (hb1.cell (p := ⟨1, 0, none⟩) (by show 1 < _; omega)).trans E0.out
  have sz1 : w0.heap.size ≤ w1.heap.size := hb1.size
  clear T0 V0 M0 G0 E0
  have F1 : Hid (Blk w1 (w0.heap.size) #[.string s, .slice B1 p d1, .slice B2 q d2] 25) := by show Blk _ _ _ _; exact hX1
  have y0 := cellOfBlk F1.out 0
  have y1 := cellOfBlk F1.out 1
  have y2 := cellOfBlk F1.out 2
  rw [hw0]
  go_enter Tryd.func17, Tryd.ntmps17
  go_wp2_with fail
  refine (implMagOk_any lo hi0 lo2 hi2 _ f _ _ _ ms _ V1.out (by omega) hs Hn.out hm M1.out (by omega) Hwf.out).mono ?_
  rintro e w2 ⟨rfl, hb2⟩
  rw [hmag]
  have T2 : Hid (Below w0.heap.size w0 w2) := T1.out.trans (hb2.mono (by omega))
  have V2 : Hid (FontV w2 lo hi0 (.agg #[.string s, .slice B1 p d1, .slice B2 q d2]) f) := V1.out.below (by omega) hb2
  have M2 : Hid (MagI w2 lo2 hi2 A ms) := M1.out.below (by omega) hb2
  have G2 : Hid (w2.cell? ⟨2, 0, none⟩ = some (.iface ct cu)) := (hb2.cell (p := ⟨2, 0, none⟩) (by show 2 < _; omega)).trans G1.out
  have E2 : Hid (ErrH w2) := (hb2.cell (p := ⟨1, 0, none⟩) (by show 1 < _; omega)).trans E1.out
  have F2 : Hid (Blk w2 (w0.heap.size) #[.string s, .slice B1 p d1, .slice B2 q d2] 25) := F1.out.below hb2 (by omega)
  have sz2 : w1.heap.size ≤ w2.heap.size := hb2.size
  clear T1 V1 M1 G1 E1 F1
  clear y0 y1 y2
  have y0 := cellOfBlk F2.out 0
  have y1 := cellOfBlk F2.out 1
  have y2 := cellOfBlk F2.out 2
  go_wp2_with fail
  refine (load_any lo hi0 lo2 hi2 _ f _ n _ ms _ V2.out Hn.out hm HLIM.out M2.out (by omega)).mono ?_
  rintro e w3 ⟨Bc, dc, B, hi, hs9, ⟨X1, x1, hfo⟩, rfl, hmd, hBw, hhi9, hC, hb3⟩
  obtain ⟨eb, ed⟩ : B2 = Bc ∧ d2 = dc := by
    injection hfo with hfo
    injection hfo with hfo
    simp only [List.cons.injEq, Value.slice.injEq] at hfo
    exact ⟨hfo.2.2.1.1, hfo.2.2.1.2.2⟩
  subst eb; subst ed
  rw [HQ.out]
  have T3 : Hid (Below w0.heap.size w0 w3) := T2.out.trans (hb3.mono (by omega))
  have G3 : Hid (w3.cell? ⟨2, 0, none⟩ = some (.iface ct cu)) := (hb3.cell (p := ⟨2, 0, none⟩) (by show 2 < _; omega)).trans G2.out
  have E3 : Hid (ErrH w3) := (hb3.cell (p := ⟨1, 0, none⟩) (by show 1 < _; omega)).trans E2.out
  have sz3 : w2.heap.size ≤ w3.heap.size := hb3.size
  clear T2 V2 M2 G2 E2 F2
  clear hfo y0 y1 y2
  have C3 : Hid (ChM w3 B hi (.slice (some ⟨B, 0, none⟩) n n) hs9 ms) := hC
  have HMD := Lib.hid hmd
  have hBh := hC.top B rfl
  clear hC hmd
  obtain ⟨w4, hw4, hb4, hz4, hX4⟩ := mxWorld w3 #[.slice B2 q d2, .slice (some ⟨B, 0, none⟩) n n] 69
  have T4 : Hid (Below w0.heap.size w0 w4) := T3.out.trans (hb4.mono (by omega))
  have G4 : Hid (w4.cell? ⟨2, 0, none⟩ = some (.iface ct cu)) := (hb4.cell (p := ⟨2, 0, none⟩) (by show 2 < _; omega)).trans G3.out
  have E4 : Hid (ErrH w4) := (hb4.cell (p := ⟨1, 0, none⟩) (by show 1 < _; omega)).trans E3.out
  have C4 : Hid (ChM w4 B hi (.slice (some ⟨B, 0, none⟩) n n) hs9 ms) := C3.out.below (by omega) hb4
  have sz4 : w3.heap.size ≤ w4.heap.size := hb4.size
  clear T3 G3 E3 C3
  have R4 : Hid (Blk w4 (w3.heap.size) #[.slice B2 q d2, .slice (some ⟨B, 0, none⟩) n n] 69) := by show Blk _ _ _ _; exact hX4
  have r0 := cellOfBlk R4.out 0
  have r1 := cellOfBlk R4.out 1
  go_wp2_with fail
  refine (sweep_any (.slice B2 q d2) rfl B hi n hs9 ms w4 Hn.out hn40 HLIM.out HMD.out C4.out (by omega) (by omega) HK.out ct cu G4.out).mono ?_
  rintro e w5 ⟨hres, hc5⟩
  have hb5 := hc5.below (by omega)
  have R5 : Hid (Blk w5 (w3.heap.size) #[.slice B2 q d2, .slice (some ⟨B, 0, none⟩) n n] 69) := (hc5.block _ (by omega) (by omega)).trans R4.out
  have T5 : Hid (Below w0.heap.size w0 w5) := T4.out.trans (hb5.mono (by omega))
  have G5 : Hid (w5.cell? ⟨2, 0, none⟩ = some (.iface ct cu)) := (hb5.cell (p := ⟨2, 0, none⟩) (by show 2 < _; omega)).trans G4.out
  have E5 : Hid (ErrH w5) := (hb5.cell (p := ⟨1, 0, none⟩) (by show 1 < _; omega)).trans E4.out
  have sz5 : w4.heap.size ≤ w5.heap.size := hb5.size
  clear T4 G4 E4 C4 R4
  clear r0 r1
  have r0 := cellOfBlk R5.out 0
  have r1 := cellOfBlk R5.out 1
  rcases hres with ⟨L, hL, rfl, hC⟩ | ⟨hL, kk, rfl⟩
  · have hsw : swept ms = some L := by unfold swept; rw [Hn.out]; exact hL
    obtain ⟨e1, e2, e3⟩ := sweep_on hmag hsw
    rw [Hn.out] at e3
    have hLn : L.length = n := by rw [sweepGo_len hL, hom_len, Hn.out]
    have hLm := sweepGo_lim (hom_lim HLIM.out n) hL
    have C5 : Hid (ChM w5 B hi (.slice (some ⟨B, 0, none⟩) n n) hs9 L) := hC
    clear hC hL hsw
    go_wp2_with fail
    refine (stopped_nil w5).mono ?_
    rintro e w6 ⟨rfl, hb6⟩
    have T6 : Hid (Below w0.heap.size w0 w6) := T5.out.trans (hb6.mono (by omega))
    have G6 : Hid (w6.cell? ⟨2, 0, none⟩ = some (.iface ct cu)) := (hb6.cell (p := ⟨2, 0, none⟩) (by show 2 < _; omega)).trans G5.out
    have E6 : Hid (ErrH w6) := (hb6.cell (p := ⟨1, 0, none⟩) (by show 1 < _; omega)).trans E5.out
    have R6 : Hid (Blk w6 (w3.heap.size) #[.slice B2 q d2, .slice (some ⟨B, 0, none⟩) n n] 69) := R5.out.below hb6 (by omega)
    have C6 : Hid (ChM w6 B hi (.slice (some ⟨B, 0, none⟩) n n) hs9 L) := C5.out.below (by omega) hb6
    have sz6 : w5.heap.size ≤ w6.heap.size := hb6.size
    clear T5 G5 E5 R5 C5
    clear r0 r1
    have r0 := cellOfBlk R6.out 0
    have r1 := cellOfBlk R6.out 1
    go_wp2_with fail
    refine (unload_any (.slice B2 q d2) rfl B hi n hs9 L w6 hLn hm hLm HMD.out C6.out (by omega)).mono ?_
    rintro e w7 ⟨v9, hs8, rfl, hO, hc7⟩
    go_wp2
    go_ret3
    rw [e1, e2, e3]
    exact ⟨_, hs8, rfl, hO.base (by omega), T6.out.trans ((hc7.below (by omega)).mono (by omega))⟩
  · have hsw : swept ms = none := by unfold swept; rw [Hn.out]; exact hL
    have hok := sweep_none (f := f) hsw
    obtain ⟨e2, e3⟩ := sweep_off hok
    go_wp2_with fail
    refine (stopped_err _ (.iface ct cu) w5 rfl E5.out).mono ?_
    rintro e w6 ⟨rfl, hb6⟩
    go_wp2
    go_ret3
    rw [hok, e2, e3]
    exact ⟨_, [], rfl, wait_none _ _ _, T5.out.trans (hb6.mono (by omega))⟩
theorem implSweep_any (lo hi0 lo2 hi2 : Nat) (v : Value) (f : Fnt) (A : Option Addr) (n c : Nat) (ms : List (List Mat)) (w : World) (h : FontV w lo hi0 v f) (hhi : hi0 ≤ w.heap.size) (hs : Small f) (hn : ms.length = n) (hm : n ≤ 1048576) (hM : MagI w lo2 hi2 A ms) (hhi2 : hi2 ≤ w.heap.size) (wf : wfM ms) (ct : TypeId) (cu : Value) (hg : w.cell? ⟨2, 0, none⟩ = some (.iface ct cu)) (he : ErrH w) :
    Calls Tryd.prog 17 #[v, .slice A n c] w fun e w' => ∃ u hs', e = .returned (.tuple #[u, .int .i64 (sweepI f ms), .bool (sweepOk f ms)]) ∧ OwnMag w' w.heap.size w'.heap.size u hs' (sweepL f ms) ∧ Below w.heap.size w w' := by
  cases hmag : magB f ms
  · exact implSweep_no lo hi0 lo2 hi2 v f A n c ms w h hhi hs hn hm hM hhi2 wf hmag
  · exact implSweep_yes lo hi0 lo2 hi2 v f A n c ms w h hhi hs hn hm hM hhi2 wf ct cu hg he hmag
end Go.Proofs.YtdijlofcgcikjaaDoor
