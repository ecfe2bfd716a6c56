/-
  loadMagazine by contract: the channels hold the magazine. Conditions: rows of at most 20 matrices.
-/
import Derived.Test.YtdijlofcgcikjaaDoorChM
import Derived.Test.YtdijlofcgcikjaaDoorPlanC
import Derived.Test.YtdijlofcgcikjaaDoorMagW
import Derived.Test.YtdijlofcgcikjaaDoorCopy
import Derived.Test.YtdijlofcgcikjaaDoorPkG
import Derived.Deep.Cut
namespace Go.Proofs.YtdijlofcgcikjaaDoor
open Go.RowKit Go.Conc
set_option linter.unusedVariables false
set_option linter.unusedSimpArgs false

theorem chInfo : (Tryd.prog.info? 103).map (fun i => (i.zero, i.size, i.bytes)) = some (some (.chan none), 1, 8) := by kernel_rfl
theorem made_chan (n : Nat) : (madeCells (Value.chan none).cells (n * 1)).toList = List.replicate n (.chan none) := by
  apply List.ext_getElem
  · simp [madeCells, Value.cells]
  · intro i h1 h2
    simp [madeCells, Value.cells, Nat.mod_one]
theorem set_same {α : Type} : ∀ {l : List α} {i : Nat} {x : α}, l[i]? = some x → l.set i x = l
  | _ :: _, 0, _, h => by have := Option.some.inj h; subst this; rfl
  | y :: l, i + 1, _, h => by rw [List.set_cons_succ, set_same (l := l) h]
theorem chM_zero {w : World} {B n : Nat} (h : w.ownsRow B 103 1 (.slice (some ⟨B, 0, none⟩) n n) n (List.replicate n (.chan none))) (hl : B < w.heap.size) : ChM w B w.heap.size (.slice (some ⟨B, 0, none⟩) n n) (List.replicate n none) (List.replicate n []) where
  len := by rw [List.length_replicate, List.length_replicate]
  outer := by rw [List.length_replicate, List.map_replicate]; exact h
  chans := fun i c hc => by rw [List.getElem?_replicate] at hc; split at hc <;> simp at hc
  place := fun i c hc => by rw [List.getElem?_replicate] at hc; split at hc <;> simp at hc
  apart := fun i j c hc => by rw [List.getElem?_replicate] at hc; split at hc <;> simp at hc
  top := fun g hg => by have e : B = g := Option.some.inj hg; omega
section
variable {ops : Array Oper} {rest : List Oper} {o : Oper} {a : Act} {Q : Exit → Act → World → Prop}
set_option maxRecDepth 100000 in
/-- a row of n empty channels' handles, new -/
theorem wpl_make_chs (w : World) (hg : o.guard = none) (l : Operand) (hop : o.op = Op.makeSlice 67 l l) (n : Nat) (L : Int) (hl : a.eval l = .int .i64 L) (hL : L = (n : Int)) (hn : n ≤ 1048576)
    (hK : ∀ w', ChM w' w.heap.size w'.heap.size (.slice (some ⟨w.heap.size, 0, none⟩) n n) (List.replicate n none) (List.replicate n []) → Below w.heap.size w w' → w.heap.size < w'.heap.size → wpList Tryd.prog ops Q rest (a.put o.dst (.slice (some ⟨w.heap.size, 0, none⟩) n n)) w') :
    wpList Tryd.prog ops Q (o :: rest) a w := by
  obtain ⟨i0, hi, hz0, hz1, hz2⟩ := info_parts chInfo
  refine wpList_make_full w hg l l 67 hop w.heap.size 103 i0 (.chan none) 1 Tryd.underlying67 hi hz0 hz1 .i64 .i64 L L n hl hl hL hL (by rw [hz2]; omega) (by unfold maxLen; omega) (Nat.le_refl _) ?_
  intro w' h1 h2
  rw [made_chan] at h1
  have hlt := (World.ownsRow.lt h1 w.heap.size rfl).2
  exact hK w' (chM_zero h1 hlt) ((Below.refl _ _).grown h2 (Nat.le_refl _) (fun k hk => by cases hk)) hlt
end
theorem mkChan (w : World) : (Instr.makeChan 103 (.int .i64 20)).run Tryd.prog w = .ok (.chan (some w.heap.size)) (w.alloc (.chan 20 #[] false 0 0 false)) := by kernel_rfl
theorem planC_done {P : Program} {ops : Array Oper} {Q : Exit → Act → World → Prop} {S : World → Prop} {a : Act} {w : World} (h : Q .normal a w) : wpPlanC P ops Q S .done a w := h
theorem Blk.fill2 {w : World} {B : Nat} {a0 a1 : Value} {T : TypeId} (h : Blk w B #[a0, a1] T) (u0 u1 : Value) : Blk ((w.setCell ⟨B, 0, none⟩ u0).setCell ⟨B, 1, none⟩ u1) B #[u0, u1] T := heapSet (i := 1) (heapSet (i := 0) h u0) u1
theorem chg_one (w : World) (B i : Nat) (u : Value) : Chg B (B + 1) w (w.setCell ⟨B, i, none⟩ u) := ⟨rfl, rfl, rfl, by simp [World.setCell], fun k hk hn => Below.heap_setCell _ _ _ _ (by show k ≠ B; omega)⟩
theorem chg_two (w : World) (B : Nat) (u0 u1 : Value) : Chg B (B + 1) w ((w.setCell ⟨B, 0, none⟩ u0).setCell ⟨B, 1, none⟩ u1) := (chg_one w B 0 u0).trans (chg_one _ B 1 u1)
/-- the first i channels are made -/
def Made (hs : List (Option Nat)) (n i : Nat) : Prop := hs.length = n ∧ (∀ j, j < i → ∃ c, hs[j]? = some (some c)) ∧ ∀ j, i ≤ j → j < n → hs[j]? = some none
theorem made_step {hs : List (Option Nat)} {n i c : Nat} (h : Made hs n i) (hi : i < n) : Made (hs.set i (some c)) n (i + 1) := by
  obtain ⟨h1, h2, h3⟩ := h
  refine ⟨by rw [List.length_set]; exact h1, fun j hj => ?_, fun j hj hn => by rw [List.getElem?_set_ne (by omega)]; exact h3 j (by omega) hn⟩
  by_cases e : j = i
  · subst e; exact ⟨c, List.getElem?_set_self (by omega)⟩
  · rw [List.getElem?_set_ne (fun e2 => e e2.symm)]; exact h2 j (by omega)
/-- row i with j of its matrices -/
def rowJ (ms : List (List Mat)) (n i j : Nat) (xs : List Mat) : List (List Mat) := (halfMM ms n i).set i (xs.take j)
theorem rowJ_set {ms : List (List Mat)} {n i j : Nat} {xs : List Mat} : (rowJ ms n i j xs).set i (xs.take (j + 1)) = rowJ ms n i (j + 1) xs := by unfold rowJ; rw [List.set_set]
theorem rowJ_all {ms : List (List Mat)} {n i l : Nat} {xs : List Mat} (hn : ms.length = n) (hx : ms[i]? = some xs) (hl : xs.length = l) : rowJ ms n i l xs = halfMM ms n (i + 1) := by unfold rowJ; rw [← hl, List.take_length]; exact halfMM_set hn hx
theorem halfMM_full {ms : List (List Mat)} {n : Nat} (hn : ms.length = n) : halfMM ms n n = ms := by unfold halfMM; rw [Nat.sub_self, ← hn, List.take_length]; simp
theorem take_next {α : Type} {l : List α} {j : Nat} {x : α} (h : l[j]? = some x) : l.take (j + 1) = l.take j ++ [x] := by rw [List.take_add_one, h]; rfl
set_option maxRecDepth 100000 in
set_option maxHeartbeats 12800000 in
theorem load_any (lo hi0 lo2 hi2 : Nat) (v : Value) (f : Fnt) (A : Option Addr) (n c : Nat) (ms : List (List Mat)) (w : World) (h : FontV w lo hi0 v f) (hn : ms.length = n) (hm : n ≤ 1048576) (hlim : ∀ xs ∈ ms, xs.length ≤ 20) (hM : MagI w lo2 hi2 A ms) (hhi2 : hi2 ≤ w.heap.size) :
    Calls Tryd.prog 40 #[v, .slice A n c] w fun e w' => ∃ (Bc : Option Addr) (dc B hi : Nat) (hs : List (Option Nat)), (∃ B1 d1, v = .agg #[.string f.s, .slice B1 f.ws.length d1, .slice Bc f.cs.length dc]) ∧ e = .returned (.agg #[.slice Bc f.cs.length dc, .slice (some ⟨B, 0, none⟩) n n]) ∧ Made hs n n ∧ w.heap.size ≤ B ∧ hi ≤ w'.heap.size ∧ ChM w' B hi (.slice (some ⟨B, 0, none⟩) n n) hs ms ∧ Below w.heap.size w w' := by
  obtain ⟨B1, d1, B2, d2, hv⟩ := fontForm h
  obtain ⟨s, hs0⟩ : ∃ y, f.s = y := ⟨_, rfl⟩
  obtain ⟨p, hp⟩ : ∃ y, f.ws.length = y := ⟨_, rfl⟩
  obtain ⟨q, hq⟩ : ∃ y, f.cs.length = y := ⟨_, rfl⟩
  rw [hs0, hp, hq] at hv
  have HV : Hid (∃ X1 x1, (Value.agg #[.string s, .slice B1 p d1, .slice B2 q d2]) = .agg #[.string f.s, .slice X1 f.ws.length x1, .slice B2 f.cs.length d2]) := ⟨B1, d1, by rw [hs0, hp, hq]⟩
  have HQ := Lib.hid hq
  clear h hs0 hp hq
  rw [hv]
  obtain ⟨wa, hwa, hba, hza, Ra⟩ := mxWorld w #[.string s, .slice B1 p d1, .slice B2 q d2] 25
  obtain ⟨w1, hw1, hb1, hz1, E1⟩ := mxWorld wa #[.slice none 0 0, .slice none 0 0] 69
  rw [hza] at E1 hz1
  have T1 : Below w.heap.size w w1 := hba.trans (hb1.mono (by omega))
  have R1 := Ra.below hb1 (by omega)
  have M1 := hM.below hhi2 T1
  have Hn := Lib.hid hn; have HLIM := Lib.hid hlim
  go_enter Tryd.func40, Tryd.ntmps40
  clear hz1
  go_wp2_with (at_make; refine wpl_make_chs _ rfl (.tmp 11) rfl n _ rfl rfl hm ?_; intro w2 hC2 hb2 hz2)
  have T2 := Lib.hid (T1.trans (hb2.mono T1.size)); have R2 := Lib.hid (R1.below hb2 R1.lt); have E2 := Lib.hid (E1.below hb2 E1.lt); have M2 := Lib.hid (M1.below (Nat.le_trans hhi2 T1.size) hb2); have H2 := Lib.hid hC2
  have zh2 : w2.heap.size ≤ w2.heap.size := Nat.le_refl _
  clear hza
  obtain ⟨B, hB⟩ : ∃ y, w1.heap.size = y := ⟨_, rfl⟩
  rw [hB] at H2 hz2 ⊢
  have hBw : w.heap.size + 1 < B := by have := E1.lt; omega
  clear hwa hba Ra hw1 hb1 E1 T1 R1 M1 hC2 hb2 hB hM hn hlim hv
  have H0 : Hid (ChM w2 B w2.heap.size (.slice (some ⟨B, 0, none⟩) n n) (List.replicate n none) (halfMM ms n 0)) := by show ChM _ _ _ _ _ _; unfold halfMM; simpa using H2.out
  have HMD : Hid (Made (List.replicate n (none : Option Nat)) n 0) := ⟨List.length_replicate, fun j hj => by omega, fun j _ hj => by rw [List.getElem?_replicate, if_pos hj]⟩
  go_loopw [15] (fun iv wr => ∃ (i : Nat) (hs : List (Option Nat)) (hi : Nat), i ≤ n ∧ iv = .int .i64 i ∧ Hid (Made hs n i) ∧ Hid (Below w.heap.size w wr) ∧ Hid (Blk wr w.heap.size #[.string s, .slice B1 p d1, .slice B2 q d2] 25) ∧ Hid (Blk wr (w.heap.size + 1) #[.slice none 0 0, .slice none 0 0] 69) ∧ Hid (MagI wr lo2 hi2 A ms) ∧ Hid (ChM wr B hi (.slice (some ⟨B, 0, none⟩) n n) hs (halfMM ms n i)) ∧ hi ≤ wr.heap.size) (fun iv _ => n - (intOf iv).toNat)
  case atStart => exact ⟨0, _, _, Nat.zero_le _, rfl, HMD.out, T2.out, R2.out, E2.out, M2.out, H0.out, zh2⟩
  case round =>
    clear T2 R2 E2 M2 H2 H0 HMD zh2
    obtain ⟨i, hs, hi, hin, rfl, HM, T3, R3, E3, M3, H3, zh3⟩ := hrel
    obtain ⟨w3, h3⟩ : ∃ x, x = wr := ⟨_, rfl⟩
    subst h3
    by_cases hlt : i < n
    · have hmi : hs[i]? = some none := HM.out.2.2 i (Nat.le_refl _) hlt
      have hxi : (halfMM ms n i)[i]? = some [] := halfMM_get Hn.out hlt
      obtain ⟨ad, xs, Aj, cj, rfl, hx, hcell, -, -, hI⟩ := M3.out.at_ (k := i) (by rw [Hn.out]; exact hlt)
      have hxl := HLIM.out xs (List.mem_of_getElem? hx.out)
      have HX := Lib.hid (hx.out)
      have HI3 := Lib.hid hI
      obtain ⟨l, hl⟩ : ∃ y, xs.length = y := ⟨_, rfl⟩
      rw [hl] at hcell hxl
      have HL := Lib.hid hl
      clear hl hx hI
      have ho := H3.out.outer
      rw [HM.out.1] at ho
      have ce1 := (ho.cellAt i (by omega)).trans (show (hs.map Value.chan)[i]? = some (.chan none) from by rw [List.getElem?_map, hmi]; rfl)
      have f1 := ho.frozenAt i
      have hBl := H3.out.top B rfl
      have hBw3 : B < w3.heap.size := by omega
      have mk := mkChan
      have hsz3 := T3.out.size
      have hini : (i : Int) < (n : Int) := by omega
      clear ho
      go_upto_region 6 with fail
      have H4 := Lib.hid (H3.out.make hmi hxi zh3)
      obtain ⟨c, hc⟩ : ∃ y, w3.heap.size = y := ⟨_, rfl⟩
      have hb4 : Below w3.heap.size w3 (w3.alloc (.chan 20 #[] false 0 0 false)) := (Below.refl _ _).alloc (Nat.le_refl _) _
      obtain ⟨w4, hw4⟩ : ∃ x, (w3.alloc (.chan 20 #[] false 0 0 false)).setCell ⟨B, i, none⟩ (.chan (some w3.heap.size)) = x := ⟨_, rfl⟩
      have T4 : Hid (Below w.heap.size w w4) := by show Below _ _ _; rw [← hw4]; exact (T3.out.trans (hb4.mono hsz3)).setCell (p := ⟨B, i, none⟩) (by show w.heap.size ≤ B; omega) _
      have R4 : Hid (Blk w4 w.heap.size #[.string s, .slice B1 p d1, .slice B2 q d2] 25) := by show Blk _ _ _ _; rw [← hw4]; exact (R3.out.below hb4 R3.out.lt).other ⟨B, i, none⟩ _ (by show w.heap.size ≠ B; omega)
      have E4 : Hid (Blk w4 (w.heap.size + 1) #[.slice none 0 0, .slice none 0 0] 69) := by show Blk _ _ _ _; rw [← hw4]; exact (E3.out.below hb4 E3.out.lt).other ⟨B, i, none⟩ _ (by show w.heap.size + 1 ≠ B; omega)
      have hch : Chg B (B + 1) (w3.alloc (.chan 20 #[] false 0 0 false)) w4 := by rw [← hw4]; exact ⟨rfl, rfl, rfl, by simp [World.setCell], fun k hk hn => Below.heap_setCell _ _ _ _ (by show k ≠ B; omega)⟩
      have M4 := Lib.hid ((M3.out.below (Nat.le_trans hhi2 hsz3) hb4).chg hch (by have := hb4.size; omega) (.inl (by omega)))
      have HI4 : Hid (MatsI w4 lo2 hi2 Aj xs) := (HI3.out.below (Nat.le_trans hhi2 hsz3) hb4).keep (fun p _ h2 => hch.cell (by have := hb4.size; omega) (by omega))
      rw [← World.setCell_alloc_past _ B i _ hBw3]
      rw [hw4] at H4 ⊢
      have hz4 : w4.heap.size = w3.heap.size + 1 := by rw [← hw4]; simp [World.setCell]
      rw [hc] at H4
      have zh4 : c + 1 ≤ w4.heap.size := by omega
      have HM4 := Lib.hid (made_step (c := c) HM.out hlt)
      have hci : (hs.set i (some c))[i]? = some (some c) := List.getElem?_set_self (by rw [HM.out.1]; exact hlt)
      have HCI := Lib.hid hci
      (try rw [hc])
      clear hci hw4 hc hch hb4 hz4 HI3 T3 R3 E3 M3 H3 zh3 HM hmi hxi hcell ce1 f1 hBl mk
      obtain ⟨hs4, hhs4⟩ : ∃ y, hs.set i (some c) = y := ⟨_, rfl⟩
      rw [hhs4] at H4 HM4 HCI
      clear hhs4
      have hr0 : rowJ ms n i 0 xs = halfMM ms n i := by unfold rowJ; rw [List.take_zero]; exact set_same (halfMM_get Hn.out hlt)
      rw [← hr0] at H4
      clear hr0
      go_wp2
      go_loopw [26] (fun jv wq => ∃ j : Nat, j ≤ l ∧ jv = .int .i64 j ∧ Hid (MatsI wq lo2 hi2 Aj xs) ∧ Hid (Below w.heap.size w wq) ∧ Hid (Blk wq w.heap.size #[.string s, .slice B1 p d1, .slice B2 q d2] 25) ∧ Hid (Blk wq (w.heap.size + 1) #[.slice none 0 0, .slice none 0 0] 69) ∧ Hid (MagI wq lo2 hi2 (some ad) ms) ∧ Hid (ChM wq B (c + 1) (.slice (some ⟨B, 0, none⟩) n n) hs4 (rowJ ms n i j xs)) ∧ (c + 1) ≤ wq.heap.size) (fun jv _ => l - (intOf jv).toNat)
      case atStart => exact ⟨0, Nat.zero_le _, rfl, HI4.out, T4.out, R4.out, E4.out, M4.out, H4.out, zh4⟩
      case round =>
        clear HI4 T4 R4 E4 M4 H4 zh4
        obtain ⟨j, hjl, rfl, HI5, T5, R5, E5, M5, H5, zh5⟩ := hrel
        obtain ⟨w5, h5⟩ : ∃ x, x = wr := ⟨_, rfl⟩
        subst h5
        by_cases hj : j < l
        · obtain ⟨bd, z, rfl, hz, c1, c2⟩ := HI5.out.at_ (k := j) (by rw [HL.out]; exact hj)
          obtain ⟨k1, k2⟩ := z
          simp only at c1 c2
          have HZ := Lib.hid hz.out
          have hji : (j : Int) < (l : Int) := by omega
          go_upto_region 9 with fail
          obtain ⟨w6, hw6, hb6, hz6, hX6⟩ := mxWorld w5 #[.int .i64 k1, .int .i64 k2] 30
          obtain ⟨cb, hcb⟩ : ∃ y, w5.heap.size = y := ⟨_, rfl⟩
          rw [hw6, hcb]
          have hBl := H5.out.top B rfl
          have hcc : c + 1 ≤ cb := by omega
          have HI6 := Lib.hid (HI5.out.below (Nat.le_trans hhi2 T5.out.size) hb6)
          have zh6 : (c + 1) ≤ w6.heap.size := by have := hb6.size; omega
          have T6 := Lib.hid (T5.out.trans (hb6.mono T5.out.size)); have R6 := Lib.hid (R5.out.below hb6 R5.out.lt); have E6 := Lib.hid (E5.out.below hb6 E5.out.lt); have M6 := Lib.hid (M5.out.below (Nat.le_trans hhi2 T5.out.size) hb6); have H6 := Lib.hid (H5.out.below zh5 hb6)
          clear T5 R5 E5 M5 H5
          rw [hcb] at hX6
          have X6 := Lib.hid hX6
          clear hb6 hX6 hw6 hcb hz6 c1 c2 hz HI5
          have ho := H6.out.outer
          rw [HM4.out.1] at ho
          have ce1 := (ho.cellAt i (by omega)).trans (show (hs4.map Value.chan)[i]? = some (.chan (some c)) from by rw [List.getElem?_map, HCI.out]; rfl)
          have hxj : (rowJ ms n i j xs)[i]? = some (xs.take j) := List.getElem?_set_self (by rw [halfMM_len Hn.out (by omega)]; exact hlt)
          obtain ⟨sN, rN, hch⟩ := H6.out.at_ HCI.out hxj
          have hbz : (bufM (xs.take j)).size < 20 := by rw [bufM_size, List.length_take]; omega
          clear ho
          refine wp_region_planC 6 (.take 0 (.take 1 (.take 2 (.take 3 (.take 4 (.one 5 .done)))))) (fun w' => w'.cell? ⟨B, i, none⟩ = some (.chan (some c)) ∧ w'.cell? ⟨cb, 0, none⟩ = some (.int .i64 k1) ∧ w'.cell? ⟨cb, 1, none⟩ = some (.int .i64 k2)) (by kernel_rfl) (by kernel_rfl) (by kernel_rfl) ⟨ce1, cellOfBlk X6.out 0, cellOfBlk X6.out 1⟩ ?_
          refine planC_quiet rfl (by rfl) (v := ?_) ?_ ?_; rotate_left; (intro w1 hSw; obtain ⟨h0, h1, h2⟩ := hSw; go_simp; try (with_reducible rfl)); (try simp only [Act.put, List.setIfInBounds_toArray, List.set_cons_zero, List.set_cons_succ])
          refine planC_quiet rfl (by rfl) (v := ?_) ?_ ?_; rotate_left; (intro w1 hSw; obtain ⟨h0, h1, h2⟩ := hSw; go_simp; try (with_reducible rfl)); (try simp only [Act.put, List.setIfInBounds_toArray, List.set_cons_zero, List.set_cons_succ])
          refine planC_quiet rfl (by rfl) (v := ?_) ?_ ?_; rotate_left; (intro w1 hSw; obtain ⟨h0, h1, h2⟩ := hSw; go_simp; try (with_reducible rfl)); (try simp only [Act.put, List.setIfInBounds_toArray, List.set_cons_zero, List.set_cons_succ])
          refine planC_quiet rfl (by rfl) (v := ?_) ?_ ?_; rotate_left; (intro w1 hSw; obtain ⟨h0, h1, h2⟩ := hSw; go_simp; try (with_reducible rfl)); (try simp only [Act.put, List.setIfInBounds_toArray, List.set_cons_zero, List.set_cons_succ])
          refine planC_quiet rfl (by rfl) (v := ?_) ?_ ?_; rotate_left; (intro w1 hSw; obtain ⟨h0, h1, h2⟩ := hSw; go_simp; try (with_reducible rfl)); (try simp only [Act.put, List.setIfInBounds_toArray, List.set_cons_zero, List.set_cons_succ])
          have hcB : c ≠ B := fun e => (H6.out.place i c HCI.out).2.2 (by rw [e]; rfl)
          have hccb : c ≠ cb := by omega
          have hBc : B ≤ c := (H6.out.place i c HCI.out).1
          have hszd : w6.drew.heap.size = w6.heap.size := rfl
          have hcl : c < w6.heap.size := by have := (H6.out.place i c HCI.out).2.1; omega
          have hcbl := X6.out.lt
          have hcg : Chg c (c + 1) w6.drew (w6.drew.setChan c 20 ((bufM (xs.take j)).push (.agg #[.int .i64 k1, .int .i64 k2])) false (sN + 1) rN false) := chg_setChan _ _ _ _ _ _ _ _
          refine planC_comm rfl (by rfl) (by go_simp; rfl) (LoneComm.send (w := w6.drew) (v := .agg #[.int .i64 k1, .int .i64 k2]) (z := .tuple #[]) hch hbz) ⟨?_, ?_, ?_⟩ ?_
          · exact (hcg.cell (p := ⟨B, i, none⟩) (by show B < w6.heap.size; omega) (by show ¬(c ≤ B ∧ B < c + 1); omega)).trans ce1
          · exact (hcg.cell (p := ⟨cb, 0, none⟩) (by show cb < w6.heap.size; omega) (by show ¬(c ≤ cb ∧ cb < c + 1); omega)).trans (cellOfBlk X6.out 0)
          · exact (hcg.cell (p := ⟨cb, 1, none⟩) (by show cb < w6.heap.size; omega) (by show ¬(c ≤ cb ∧ cb < c + 1); omega)).trans (cellOfBlk X6.out 1)
          (try simp only [Act.put, List.setIfInBounds_toArray, List.set_cons_zero, List.set_cons_succ])
          have HCG := Lib.hid hcg
          have hd6 : Below w6.heap.size w6 w6.drew := (Below.refl _ _).drew
          obtain ⟨ws, hws⟩ : ∃ x, w6.drew.setChan c 20 ((bufM (xs.take j)).push (.agg #[.int .i64 k1, .int .i64 k2])) false (sN + 1) rN false = x := ⟨_, rfl⟩
          have hq : ((bufM (xs.take j)).push (.agg #[.int .i64 k1, .int .i64 k2])) = bufM (xs.take (j + 1)) := by rw [show (Value.agg #[.int .i64 k1, .int .i64 k2]) = cvM (k1, k2) from rfl, bufM_push]; congr 1; exact (take_next HZ.out).symm
          have H7 : Hid (ChM ws B (c + 1) (.slice (some ⟨B, 0, none⟩) n n) hs4 (rowJ ms n i (j + 1) xs)) := by show ChM _ _ _ _ _ _; rw [← hws, hq, ← rowJ_set]; exact (H6.out.below zh6 hd6).comm HCI.out _ _ _
          rw [hws] at HCG ⊢
          have hz7 : w6.heap.size ≤ ws.heap.size := HCG.out.size
          have zh7 : c + 1 ≤ ws.heap.size := by omega
          have b7 : Below B w6 ws := (hd6.mono (by omega)).trans ((HCG.out.below (by omega)).mono hBc)
          have T7 : Hid (Below w.heap.size w ws) := T6.out.trans (b7.mono (by omega))
          have R7 : Hid (Blk ws w.heap.size #[.string s, .slice B1 p d1, .slice B2 q d2] 25) := R6.out.below b7 (by omega)
          have E7 : Hid (Blk ws (w.heap.size + 1) #[.slice none 0 0, .slice none 0 0] 69) := E6.out.below b7 (by omega)
          have M7 : Hid (MagI ws lo2 hi2 (some ad) ms) := M6.out.below (by omega) b7
          have HI7 : Hid (MatsI ws lo2 hi2 (some bd) xs) := HI6.out.below (by omega) b7
          have hj1 : j + 1 ≤ l := by omega
          clear hws HCG hcg b7 hd6 T6 R6 E6 M6 H6 HI6 X6 HZ hq hch hbz zh6 ce1 hcl hcB hccb hszd hcbl hz7
          refine planC_done ?_
          go_wp2
          exact ⟨⟨j + 1, hj1, rfl, HI7, T7, R7, E7, M7, H7, zh7⟩, by simp [intOf]; omega⟩
        · have hje : j = l := by omega
          subst hje
          have hjf : decide ((j : Int) < (j : Int)) = false := by simp
          go_wp2
          have H6 : Hid (ChM w5 B (c + 1) (.slice (some ⟨B, 0, none⟩) n n) hs4 (halfMM ms n (i + 1))) := by show ChM _ _ _ _ _ _; rw [← rowJ_all Hn.out HX.out HL.out]; exact H5.out
          exact ⟨⟨i + 1, hs4, c + 1, by omega, rfl, HM4, T5, R5, E5, M5, H6, zh5⟩, by simp [intOf]; omega⟩
    · have hie : i = n := by omega
      subst hie
      have hnf : decide ((i : Int) < (i : Int)) = false := by simp
      have r2 := cellOfBlk R3.out 2
      have e0 := cellOfBlk E3.out 0
      have e1 := cellOfBlk E3.out 1
      have f0 := E3.out.warm 0
      have f1 := E3.out.warm 1
      go_wp2
      have hcg := chg_two w3 (w.heap.size + 1) (.slice B2 q d2) (.slice (some ⟨B, 0, none⟩) i i)
      have ry := E3.out.fill2 (.slice B2 q d2) (.slice (some ⟨B, 0, none⟩) i i)
      obtain ⟨y, hy⟩ : ∃ x, (w3.setCell ⟨w.heap.size + 1, 0, none⟩ (.slice B2 q d2)).setCell ⟨w.heap.size + 1, 1, none⟩ (.slice (some ⟨B, 0, none⟩) i i) = x := ⟨_, rfl⟩
      rw [hy] at hcg ry ⊢
      have y0 := cellOfBlk ry 0
      have y1 := cellOfBlk ry 1
      obtain ⟨X1, x1, hx⟩ := HV.out
      have hq := HQ.out
      have hE := E3.out.lt
      have hzz := hcg.size
      have HC : ChM y B hi (.slice (some ⟨B, 0, none⟩) i i) hs ms := by have h8 := H3.out.chg zh3 hcg (.inr (by omega)); rw [halfMM_full Hn.out] at h8; exact h8
      refine bodyPost_ret (v := .agg #[.slice B2 q d2, .slice (some ⟨B, 0, none⟩) i i]) (by simp [results, Tryd.results40, go_sem, y0, y1]) rfl ?_
      exact ⟨B2, d2, B, hi, hs, ⟨X1, x1, hx⟩, by rw [hq], HM.out, by omega, by omega, HC, T3.out.trans ((hcg.below (by omega)).mono (by omega))⟩
end Go.Proofs.YtdijlofcgcikjaaDoor
