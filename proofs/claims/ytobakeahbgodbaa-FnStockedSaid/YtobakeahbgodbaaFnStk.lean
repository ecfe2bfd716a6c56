/-
  FnStocked: its walk. No condition.
-/
import Derived.Test.YtobakeahbgodbaaDrawFi
import Derived.Test.YtobakeahbgodbaaStk
import Derived.Test.YtobakeahbgodbaaLawKit
namespace Go.Proofs.Ytobakeahbgodbaa
open Go.RowKit
set_option linter.unusedVariables false

theorem fills_bd {E : Int} (h : E ∈ fillsA) : -1 ≤ E ∧ E ≤ 21 := by
  simp [fillsA] at h
  omega
theorem fillOk_no {f : Fnt} {E : Int} (h : fillOk f E = false) (hf : fontB f = true) : E < 0 ∨ 20 < E := by
  unfold fillOk at h
  rw [hf, Bool.true_and] at h
  by_cases h0 : 0 ≤ E
  · refine .inr ?_
    by_cases h1 : E ≤ 20
    · rw [(inB_iff _ _ _).2 ⟨h0, h1⟩] at h; cases h
    · omega
  · exact .inl (by omega)

set_option maxRecDepth 100000 in
set_option maxHeartbeats 3200000 in
theorem fnStocked_walk (A : Option Addr) (n c : Nat) (bs : List Int) (w : World) (hn : bs.length = n) (hm : n ≤ maxLen) (h : Bytes w A bs) (wf : ∀ z ∈ bs, (Lit.int .u8 z).wf = true) :
    Calls Try.prog 4 #[.slice A n c] w fun e w' => e = .returned (.bool true) ∧ Below w.heap.size w w' := by
  have H := Lib.hid h; have Hn := Lib.hid hn; have Hwf := Lib.hid wf
  clear h hn wf
  have hm0 := hm
  unfold maxLen at hm
  by_cases hbig : 1048576 < n
  · go_enter Try.func4, Try.ntmps4
    go_wp2
    go_ret
    exact ⟨rfl, Below.refl _ _⟩
  go_enter Try.func4, Try.ntmps4
  go_wp2_with fail
  refine (drawFill_any _ _ _ bs _ Hn.out hm0 H.out Hwf.out).mono ?_
  rintro e w1 ⟨v, ⟨s, ws, cs⟩, E, rfl, hF, hs24, hw24, hc24, hE, hb1⟩
  simp only at hs24 hw24 hc24
  obtain ⟨B1, d1, B2, d2, rfl⟩ := fontForm hF
  have hSm : Small ⟨s, ws, cs⟩ := ⟨by show s.size ≤ _; omega, by show ws.length ≤ _; omega, by show cs.length ≤ _; omega⟩
  have hbd := fills_bd hE
  obtain ⟨w2, hw2, hb2, hz2, hK2⟩ := mxWorld w1 #[.string s, .slice B1 ws.length d1, .slice B2 cs.length d2] 25
  have z1 := hb1.size
  obtain ⟨b, hb⟩ : ∃ b, w1.heap.size = b := ⟨_, rfl⟩
  have T2 := Lib.hid (hb1.trans (hb2.mono z1))
  have F2 := Lib.hid (hF.below (Nat.le_refl _) hb2)
  have HS := Lib.hid hSm
  rw [hb] at F2 hK2 hz2 z1
  have K2 := Lib.hid hK2
  clear hF hE hb1 hb2 hK2 hSm
  obtain ⟨b0, b1, b2⟩ := (show w2.cell? ⟨b, 0, none⟩ = some (.string s) ∧ w2.cell? ⟨b, 1, none⟩ = some (.slice B1 ws.length d1) ∧ w2.cell? ⟨b, 2, none⟩ = some (.slice B2 cs.length d2) from ⟨cellOfBlk K2.out 0, cellOfBlk K2.out 1, cellOfBlk K2.out 2⟩)
  go_wp2_with fail
  clear hw2 hb b0 b1 b2
  refine (implFill_any w.heap.size b _ ⟨s, ws, cs⟩ E w2 F2.out (by omega) HS.out).mono ?_
  rintro e w3 ⟨u, hs', rfl, hO, hb3⟩
  have z3 := hb3.size
  have T3 := Lib.hid (T2.out.trans (hb3.mono (by omega))); have F3 := Lib.hid (F2.out.below (by omega) hb3); have K3 := Lib.hid (K2.out.below hb3 (by omega))
  clear T2 F2 K2 hb3
  obtain ⟨b0, b1, b2⟩ := (show w3.cell? ⟨b, 0, none⟩ = some (.string s) ∧ w3.cell? ⟨b, 1, none⟩ = some (.slice B1 ws.length d1) ∧ w3.cell? ⟨b, 2, none⟩ = some (.slice B2 cs.length d2) from ⟨cellOfBlk K3.out 0, cellOfBlk K3.out 1, cellOfBlk K3.out 2⟩)
  obtain ⟨r, hr⟩ : ∃ r, fillOk ⟨s, ws, cs⟩ E = r := ⟨_, rfl⟩
  rw [hr]
  have HR := Lib.hid hr
  clear hr
  cases r
  · clear hO
    go_wp2_with fail
    refine (specFontOk_any w.heap.size b _ ⟨s, ws, cs⟩ w3 F3.out (by omega) HS.out).mono ?_
    rintro e w4 ⟨rfl, hb4⟩
    have T4 := Lib.hid (T3.out.trans (hb4.mono (by omega)))
    clear hb4 T3 b0 b1 b2
    obtain ⟨q, hq⟩ : ∃ q, fontB ⟨s, ws, cs⟩ = q := ⟨_, rfl⟩
    rw [hq]
    cases q
    · clear hq
      go_wp2
      go_ret
      exact ⟨rfl, T4.out⟩
    · have hno := fillOk_no HR.out hq
      clear hq
      by_cases hE0 : E < 0
      · clear hno
        go_wp2
        go_ret
        exact ⟨rfl, T4.out⟩
      · have hE1 : 20 < E := by omega
        clear hno
        go_wp2
        go_ret
        exact ⟨rfl, T4.out⟩
  obtain ⟨hf, hE0, hE1, hms⟩ := fillL_eq HR.out
  have hcod := fontB_codes hf
  have hbl := bar_len hcod.2.2
  simp only at hms hcod hbl
  obtain ⟨e, rfl⟩ := Int.eq_ofNat_of_zero_le hE0
  have he20 : e ≤ 20 := by omega
  rw [Int.toNat_natCast] at hms
  have hST := fill_strays HR.out; have hWO := fill_worn HR.out; have hKI := fill_kinds HR.out; have hWF := fill_wf HR.out
  have HLE : Hid (∀ i, i < cs.length → lettersL ⟨s, ws, cs⟩ (fillRow ⟨s, ws, cs⟩ e i) = lets ⟨s, ws, cs⟩ (fillRow ⟨s, ws, cs⟩ e i)) := fun i hi => by have := fill_letters HR.out (i := i) hi; rwa [Int.toNat_natCast] at this
  have HFB := Lib.hid hf
  obtain ⟨m, hcm⟩ : ∃ m, cs.length = m := ⟨_, rfl⟩
  rw [hcm] at hms hcod HLE hbl
  have hlen : (fillL ⟨s, ws, cs⟩ (e : Int)).length = m := by rw [hms]; simp
  obtain ⟨ms, hmm⟩ : ∃ ms, fillL ⟨s, ws, cs⟩ (e : Int) = ms := ⟨_, rfl⟩
  rw [hmm] at hms hST hWO hKI hWF hO hlen
  obtain ⟨A1, c1, rfl, hc1, hcm1, -, -⟩ := hO.form
  have M3 := Lib.hid hO.reads
  rw [hlen] at hc1 hKI ⊢
  have hsm : s.size = m := hcod.1
  have HMS := Lib.hid hms; have HST := Lib.hid hST; have HWO := Lib.hid hWO; have HKI := Lib.hid hKI; have HWF := Lib.hid hWF; have HLN := Lib.hid hlen; have HCM := Lib.hid hcm
  obtain ⟨lo, hlo⟩ : ∃ lo, w2.heap.size = lo := ⟨_, rfl⟩
  rw [hlo] at M3 z3 hz2
  clear hms hST hWO hKI hWF hlen hmm hcod hf hO hlo hE0 hE1 hcm
  go_wp2_with fail
  refine (implStrays_any w.heap.size b lo w3.heap.size _ ⟨s, ws, cs⟩ A1 m c1 ms w3 F3.out (by omega) HS.out HLN.out (by omega) M3.out (Nat.le_refl _) HWF.out).mono ?_
  rintro e4 w4 ⟨rfl, hb4⟩
  rw [HST.out]
  have z4 := hb4.size
  have T4 := Lib.hid (T3.out.trans (hb4.mono (by omega))); have F4 := Lib.hid (F3.out.below (by omega) hb4); have K4 := Lib.hid (K3.out.below hb4 (by omega)); have M4 := Lib.hid (M3.out.below (Nat.le_refl _) hb4)
  clear T3 F3 K3 M3 hb4 b0 b1 b2
  obtain ⟨b0, b1, b2⟩ := (show w4.cell? ⟨b, 0, none⟩ = some (.string s) ∧ w4.cell? ⟨b, 1, none⟩ = some (.slice B1 ws.length d1) ∧ w4.cell? ⟨b, 2, none⟩ = some (.slice B2 cs.length d2) from ⟨cellOfBlk K4.out 0, cellOfBlk K4.out 1, cellOfBlk K4.out 2⟩)
  go_wp2_with fail
  refine (implWorn_any w.heap.size b lo w3.heap.size _ ⟨s, ws, cs⟩ A1 m c1 ms w4 F4.out (by omega) HS.out HLN.out (by omega) M4.out z4 HWF.out).mono ?_
  rintro e5 w5 ⟨rfl, hb5⟩
  rw [HWO.out]
  have z5 := hb5.size
  have T5 := Lib.hid (T4.out.trans (hb5.mono (by omega))); have F5 := Lib.hid (F4.out.below (by omega) hb5); have K5 := Lib.hid (K4.out.below hb5 (by omega)); have M5 := Lib.hid (M4.out.below z4 hb5)
  clear T4 F4 K4 M4 hb5 b0 b1 b2
  go_wp2
  go_loopw [57] (fun i wr => ∃ k : Nat, k ≤ m ∧ i = .int .i64 k ∧ Hid (Below w5.heap.size w5 wr)) (fun i _ => m - (intOf i).toNat)
  case atStart => exact ⟨0, Nat.zero_le _, rfl, Below.refl _ _⟩
  case round =>
    obtain ⟨k, hk, rfl, hwr⟩ := hrel
    have z6 := hwr.size
    have T6 := Lib.hid (T5.out.trans (hwr.mono (by omega))); have F6 := Lib.hid (F5.out.below (by omega) hwr); have K6 := Lib.hid (K5.out.below hwr (by omega)); have M6 := Lib.hid (M5.out.below (by omega) hwr); have W6 := Lib.hid hwr
    clear T5 F5 K5 M5 hwr
    by_cases hlt : k < m
    · have hrow : ms[k]? = some (fillRow ⟨s, ws, cs⟩ e k) := by rw [HMS.out]; exact fill_get hlt
      obtain ⟨ad, rfl, hlo1, hlo2, hrows⟩ := M6.out (by rw [HLN.out]; omega)
      obtain ⟨Aj, cj, hcell, hcj, hcjm, hMats⟩ := hrows k _ hrow
      rw [fillRow_len] at hcell hcj
      have HMR := Lib.hid hMats
      have HRW := Lib.hid (HWF.out _ (List.mem_of_getElem? hrow))
      clear hrows hMats hrow
      have h00 : lets ⟨s, ws, cs⟩ (fillRow ⟨s, ws, cs⟩ 0 k) = ⟨#[]⟩ := rfl
      have H00 := Lib.hid h00
      clear h00
      go_wp2
      go_loopw [9] (fun v wq => ∃ j : Nat, j ≤ e ∧ v = .string (lets ⟨s, ws, cs⟩ (fillRow ⟨s, ws, cs⟩ j k)) ∧ wq = wr) (fun v _ => e - (match v with | .string t => t.size | _ => 0))
      case atStart => exact ⟨0, Nat.zero_le _, by rw [H00.out], rfl⟩
      case round =>
        obtain ⟨j, hj, rfl, rfl⟩ := hrel
        obtain ⟨t, ht⟩ : ∃ t, lets ⟨s, ws, cs⟩ (fillRow ⟨s, ws, cs⟩ j k) = t := ⟨_, rfl⟩
        have hts : t.size = j := by rw [← ht, lets_size, fillRow_len]
        rw [ht]
        have HT := Lib.hid ht
        clear ht H00
        by_cases hje : j < e
        · obtain ⟨k1, hk1⟩ : ∃ k1, k + 1 = k1 := ⟨_, rfl⟩
          obtain ⟨x, hx⟩ : ∃ x, s.extract k k1 = x := ⟨_, rfl⟩
          have hxs : x.size = 1 := by rw [← hx, ← hk1, ByteArray.size_extract]; omega
          have a1 : (k : Int) + 1 = (k1 : Int) := by omega
          have a2 : IntKind.i64.wrap (k1 : Int) = (k1 : Int) := by rw [IntKind.wrap_i64]; omega
          have a3 : (k1 : Int) ≤ (m : Int) := by omega
          have a4 : k1 ≤ m := by omega
          have a5 : k ≤ k1 := by omega
          have hss : ¬ (9223372036854775807 < j + 1) := by omega
          have HN : Hid (t ++ x = lets ⟨s, ws, cs⟩ (fillRow ⟨s, ws, cs⟩ (j + 1) k)) := by show _ = _; rw [← HT.out, ← hx, ← hk1]; exact fill_snoc (f := ⟨s, ws, cs⟩) (by show k < s.size; omega)
          have HK1 := Lib.hid hk1
          clear hk1
          obtain ⟨b0, b1, b2⟩ := (show wr.cell? ⟨b, 0, none⟩ = some (.string s) ∧ wr.cell? ⟨b, 1, none⟩ = some (.slice B1 ws.length d1) ∧ wr.cell? ⟨b, 2, none⟩ = some (.slice B2 cs.length d2) from ⟨cellOfBlk K6.out 0, cellOfBlk K6.out 1, cellOfBlk K6.out 2⟩)
          go_wp2
          go_roundw
          case rel => exact ⟨j + 1, by omega, by rw [HN.out], trivial⟩
          case measure => simp only [ByteArray.size_append, hxs, hts]; omega
        · have hje2 : j = e := by omega
          subst hje2
          go_wp2
          have hks : k < s.size := by omega
          have hks2 : (k : Int) < (s.size : Int) := by omega
          have hk0 : ¬ ((k : Int) < 0) := by omega
          clear hsm
          refine wp_region_plan (.take 0 (.take 1 (.take 2 (.take 3 (.take 4 (.take 5 (.take 6 (.take 8 (.one 7 (.take 9 (.take 10 (.take 11 (.take 12 (.take 13 (.take 14 (.take 15 (.take 16 (.take 17 (.take 19 (.one 18 (.take 20 (.take 21 .done)))))))))))))))))))))) (fun w' => w'.cell? ⟨b, 0, none⟩ = some (.string s) ∧ w'.cell? ⟨b, 1, none⟩ = some (.slice B1 ws.length d1) ∧ w'.cell? ⟨b, 2, none⟩ = some (.slice B2 cs.length d2)) (by kernel_rfl) (by kernel_rfl) (by kernel_rfl) (by intro c a d v w h; cases d <;> exact h) ⟨cellOfBlk K6.out 0, cellOfBlk K6.out 1, cellOfBlk K6.out 2⟩ ?_
          refine plan_quiet rfl (by rfl) (v := ?_) ?_ ?_; rotate_left; (intro w1 hSw; obtain ⟨h0, h1, h2⟩ := hSw; go_simp; try (with_reducible rfl)); (try simp only [Act.put, List.setIfInBounds_toArray, List.set_cons_zero, List.set_cons_succ])
          refine plan_quiet rfl (by rfl) (v := ?_) ?_ ?_; rotate_left; (intro w1 hSw; obtain ⟨h0, h1, h2⟩ := hSw; go_simp; try (with_reducible rfl)); (try simp only [Act.put, List.setIfInBounds_toArray, List.set_cons_zero, List.set_cons_succ])
          refine plan_quiet rfl (by rfl) (v := ?_) ?_ ?_; rotate_left; (intro w1 hSw; obtain ⟨h0, h1, h2⟩ := hSw; go_simp; try (with_reducible rfl)); (try simp only [Act.put, List.setIfInBounds_toArray, List.set_cons_zero, List.set_cons_succ])
          refine plan_quiet rfl (by rfl) (v := ?_) ?_ ?_; rotate_left; (intro w1 hSw; obtain ⟨h0, h1, h2⟩ := hSw; go_simp; try (with_reducible rfl)); (try simp only [Act.put, List.setIfInBounds_toArray, List.set_cons_zero, List.set_cons_succ])
          refine plan_quiet rfl (by rfl) (v := ?_) ?_ ?_; rotate_left; (intro w1 hSw; obtain ⟨h0, h1, h2⟩ := hSw; go_simp; try (with_reducible rfl)); (try simp only [Act.put, List.setIfInBounds_toArray, List.set_cons_zero, List.set_cons_succ])
          refine plan_quiet rfl (by rfl) (v := ?_) ?_ ?_; rotate_left; (intro w1 hSw; obtain ⟨h0, h1, h2⟩ := hSw; go_simp; try (with_reducible rfl)); (try simp only [Act.put, List.setIfInBounds_toArray, List.set_cons_zero, List.set_cons_succ])
          refine plan_quiet rfl (by rfl) (v := ?_) ?_ ?_; rotate_left; (intro w1 hSw; obtain ⟨h0, h1, h2⟩ := hSw; go_simp; try (with_reducible rfl)); (try simp only [Act.put, List.setIfInBounds_toArray, List.set_cons_zero, List.set_cons_succ])
          refine plan_quiet rfl (by rfl) (v := ?_) ?_ ?_; rotate_left; (intro w1 hSw; obtain ⟨h0, h1, h2⟩ := hSw; go_simp; try (with_reducible rfl)); (try simp only [Act.put, List.setIfInBounds_toArray, List.set_cons_zero, List.set_cons_succ])
          refine plan_step rfl (fun Kc hK => ?_)
          rw [if_pos (by rfl)]
          go_simp
          obtain ⟨wd, hwd⟩ : ∃ x, wr.drew = x := ⟨_, rfl⟩
          have F7 : Hid (FontV wd w.heap.size b (.agg #[.string s, .slice B1 ws.length d1, .slice B2 cs.length d2]) ⟨s, ws, cs⟩) := by show FontV _ _ _ _ _; rw [← hwd]; exact F6.out
          have K7 : Hid (Blk wd b #[.string s, .slice B1 ws.length d1, .slice B2 cs.length d2] 25) := by show Blk _ _ _ _; rw [← hwd]; exact K6.out
          have M7 : Hid (MatsI wd lo w3.heap.size Aj (fillRow ⟨s, ws, cs⟩ j k)) := by show MatsI _ _ _ _ _; rw [← hwd]; exact HMR.out
          have W7 : Hid (Below w5.heap.size w5 wd) := by show Below _ _ _; rw [← hwd]; exact W6.out.drew
          have z7 : wr.heap.size ≤ wd.heap.size := by rw [← hwd]; exact Nat.le_refl _
          rw [hwd]
          clear hwd F6 K6 M6 W6 HMR
          refine (implLetters_any w.heap.size b lo w3.heap.size _ ⟨s, ws, cs⟩ Aj j cj (fillRow ⟨s, ws, cs⟩ j k) wd F7.out (by omega) HS.out fillRow_len (by omega) M7.out (by omega) HRW.out).mono ?_
          rintro e8 w8 ⟨rfl, hb8⟩
          rw [HLE.out k hlt, HT.out]
          have z8 := hb8.size
          have F8 := Lib.hid (F7.out.below (by omega) hb8); have K8 := Lib.hid (K7.out.below hb8 (by omega)); have W8 := Lib.hid (W7.out.trans (hb8.mono (by omega)))
          clear F7 K7 M7 W7 hb8
          refine hK.out _ _ ⟨cellOfBlk K8.out 0, cellOfBlk K8.out 1, cellOfBlk K8.out 2⟩ ?_
          clear hK Kc
          refine plan_quiet rfl (by rfl) (v := ?_) ?_ ?_; rotate_left; (intro w1 hSw; obtain ⟨h0, h1, h2⟩ := hSw; go_simp; try (with_reducible rfl)); (try simp only [Act.put, List.setIfInBounds_toArray, List.set_cons_zero, List.set_cons_succ])
          refine plan_quiet rfl (by rfl) (v := ?_) ?_ ?_; rotate_left; (intro w1 hSw; obtain ⟨h0, h1, h2⟩ := hSw; go_simp; try (with_reducible rfl)); (try simp only [Act.put, List.setIfInBounds_toArray, List.set_cons_zero, List.set_cons_succ])
          refine plan_quiet rfl (by rfl) (v := ?_) ?_ ?_; rotate_left; (intro w1 hSw; obtain ⟨h0, h1, h2⟩ := hSw; go_simp; try (with_reducible rfl)); (try simp only [Act.put, List.setIfInBounds_toArray, List.set_cons_zero, List.set_cons_succ])
          refine plan_quiet rfl (by rfl) (v := ?_) ?_ ?_; rotate_left; (intro w1 hSw; obtain ⟨h0, h1, h2⟩ := hSw; go_simp; try (with_reducible rfl)); (try simp only [Act.put, List.setIfInBounds_toArray, List.set_cons_zero, List.set_cons_succ])
          refine plan_quiet rfl (by rfl) (v := ?_) ?_ ?_; rotate_left; (intro w1 hSw; obtain ⟨h0, h1, h2⟩ := hSw; go_simp; try (with_reducible rfl)); (try simp only [Act.put, List.setIfInBounds_toArray, List.set_cons_zero, List.set_cons_succ])
          refine plan_quiet rfl (by rfl) (v := ?_) ?_ ?_; rotate_left; (intro w1 hSw; obtain ⟨h0, h1, h2⟩ := hSw; go_simp; try (with_reducible rfl)); (try simp only [Act.put, List.setIfInBounds_toArray, List.set_cons_zero, List.set_cons_succ])
          refine plan_quiet rfl (by rfl) (v := ?_) ?_ ?_; rotate_left; (intro w1 hSw; obtain ⟨h0, h1, h2⟩ := hSw; go_simp; try (with_reducible rfl)); (try simp only [Act.put, List.setIfInBounds_toArray, List.set_cons_zero, List.set_cons_succ])
          refine plan_quiet rfl (by rfl) (v := ?_) ?_ ?_; rotate_left; (intro w1 hSw; obtain ⟨h0, h1, h2⟩ := hSw; go_simp; try (with_reducible rfl)); (try simp only [Act.put, List.setIfInBounds_toArray, List.set_cons_zero, List.set_cons_succ])
          refine plan_quiet rfl (by rfl) (v := ?_) ?_ ?_; rotate_left; (intro w1 hSw; obtain ⟨h0, h1, h2⟩ := hSw; go_simp; try (with_reducible rfl)); (try simp only [Act.put, List.setIfInBounds_toArray, List.set_cons_zero, List.set_cons_succ])
          refine plan_quiet rfl (by rfl) (v := ?_) ?_ ?_; rotate_left; (intro w1 hSw; obtain ⟨h0, h1, h2⟩ := hSw; go_simp; try (with_reducible rfl)); (try simp only [Act.put, List.setIfInBounds_toArray, List.set_cons_zero, List.set_cons_succ])
          refine plan_step rfl (fun Kc hK => ?_)
          rw [if_pos (by rfl)]
          go_simp
          have hby : IntKind.i64.wrap ((s[k]'hks).toNat : Int) = (byt s k : Int) := by
            have h9 := byt_lt s k
            rw [byt_eq hks] at h9 ⊢
            rw [IntKind.wrap_i64]; omega
          rw [hby]
          refine (implKeyOf_any w.heap.size b _ ⟨s, ws, cs⟩ (byt s k) w8 F8.out (by omega) HS.out).mono ?_
          rintro e9 w9 ⟨rfl, hb9⟩
          rw [show keyI ⟨s, ws, cs⟩ (byt s k : Int) = k from fill_key (f := ⟨s, ws, cs⟩) HFB.out hks]
          have z9 := hb9.size
          have K9 := Lib.hid (K8.out.below hb9 (by omega)); have W9 := Lib.hid (W8.out.trans (hb9.mono (by omega)))
          clear F8 K8 W8 hb9 hby
          refine hK.out _ _ ⟨cellOfBlk K9.out 0, cellOfBlk K9.out 1, cellOfBlk K9.out 2⟩ ?_
          clear hK Kc
          refine plan_quiet rfl (by rfl) (v := ?_) ?_ ?_; rotate_left; (intro w1 hSw; obtain ⟨h0, h1, h2⟩ := hSw; go_simp; try (with_reducible rfl)); (try simp only [Act.put, List.setIfInBounds_toArray, List.set_cons_zero, List.set_cons_succ])
          refine plan_quiet rfl (by rfl) (v := ?_) ?_ ?_; rotate_left; (intro w1 hSw; obtain ⟨h0, h1, h2⟩ := hSw; go_simp; try (with_reducible rfl)); (try simp only [Act.put, List.setIfInBounds_toArray, List.set_cons_zero, List.set_cons_succ])
          refine plan_end ?_
          go_wp2
          go_roundw
          case rel => exact ⟨k + 1, by omega, by go_num, W9.out⟩
          case measure => simp [intOf]; omega
    · have hkm : k = m := by omega
      rw [hkm]
      obtain ⟨b0, b1, b2⟩ := (show wr.cell? ⟨b, 0, none⟩ = some (.string s) ∧ wr.cell? ⟨b, 1, none⟩ = some (.slice B1 ws.length d1) ∧ wr.cell? ⟨b, 2, none⟩ = some (.slice B2 cs.length d2) from ⟨cellOfBlk K6.out 0, cellOfBlk K6.out 1, cellOfBlk K6.out 2⟩)
      clear hkm hlt hk hsm
      go_wp2_with fail
      refine (implKind_any w.heap.size b lo w3.heap.size _ ⟨s, ws, cs⟩ A1 m c1 ms wr F6.out (by omega) HS.out HLN.out (by omega) M6.out (by omega) HWF.out).mono ?_
      rintro e7 w7 ⟨u, rfl, hO, hb7⟩
      rw [HKI.out] at hO
      obtain ⟨A7, c7, rfl, hI, -, -, -⟩ := hO.form
      have hll : (List.replicate m (e : Int)).length = m := by simp
      have HL7 := Lib.hid hll
      rw [hll]
      have hct : (cntOf (List.replicate m (e : Int)) (e : Int) : Int) = m := by unfold cntOf; simp
      have HI7 := Lib.hid hI; have T7 := Lib.hid (T6.out.trans (hb7.mono (by omega))); have HC7 := Lib.hid hct
      clear hO hI hb7 hll hct b0 b1 b2
      go_wp2_with fail
      refine (lawCount_any A7 m c7 (List.replicate m (e : Int)) (e : Int) w7 HL7.out (by unfold maxLen; omega) HI7.out).mono ?_
      rintro e8 w8 ⟨rfl, rfl⟩
      rw [HC7.out]
      go_wp2
      go_ret
      exact ⟨by simp, T7.out⟩
end Go.Proofs.Ytobakeahbgodbaa
