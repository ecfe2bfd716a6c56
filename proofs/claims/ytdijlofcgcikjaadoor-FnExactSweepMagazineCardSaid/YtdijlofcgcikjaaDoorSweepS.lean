/-
  SweepMagazine of the model by contract. Condition: lengths of at most 2^20.
-/
import Derived.Test.YtdijlofcgcikjaaDoorSweepI
import Derived.Test.YtdijlofcgcikjaaDoorTwoM
import Derived.Test.YtdijlofcgcikjaaDoorCopyS
namespace Go.Proofs.YtdijlofcgcikjaaDoor
open Go.RowKit Go.Conc
set_option linter.unusedVariables false
set_option linter.unusedSimpArgs false

theorem halfMM_row {ms : List (List Mat)} {n k : Nat} {xs ys : List Mat} (hn : ms.length = n) (hx : ms[k]? = some xs) (he : ys = xs) : (halfMM ms n k).set k ys = halfMM ms n (k + 1) := by rw [he]; exact halfMM_set hn hx
set_option maxRecDepth 100000 in
set_option maxHeartbeats 6400000 in
theorem specSweep_no (lo hi0 lo2 hi2 : Nat) (v : Value) (f : Fnt) (A : Option Addr) (n c : Nat) (ms : List (List Mat)) (w : World) (h : FontV w lo hi0 v f) (hhi : hi0 ≤ w.heap.size) (hs : Small f) (hn : ms.length = n) (hm : n ≤ 1048576) (hM : MagI w lo2 hi2 A ms) (hhi2 : hi2 ≤ w.heap.size) (wf : wfM ms) (hmag : magB f ms = false) :
    Calls Tryd.prog 35 #[v, .slice A n c] w fun e w' => ∃ u hs', e = .returned (.tuple #[u, .int .i64 (sweepI f ms), .bool (sweepOk f ms)]) ∧ OwnMag w' w.heap.size w'.heap.size u hs' (sweepL f ms) ∧ Below w.heap.size w w' := by
  have hok : sweepOk f ms = false := by unfold sweepOk; rw [hmag]; rfl
  obtain ⟨B1, d1, B2, d2, hv⟩ := fontForm h
  obtain ⟨s, hs0⟩ : ∃ y, f.s = y := ⟨_, rfl⟩
  obtain ⟨p, hp⟩ : ∃ y, f.ws.length = y := ⟨_, rfl⟩
  obtain ⟨q, hq⟩ : ∃ y, f.cs.length = y := ⟨_, rfl⟩
  rw [hs0, hp, hq] at hv
  rw [hv] at h
  rw [hv]
  have Hn := Lib.hid hn; have Hwf := Lib.hid wf
  obtain ⟨w0, hw0⟩ : ∃ x, w = x := ⟨_, rfl⟩
  have hww : w.heap.size = w0.heap.size := by rw [hw0]
  have HQ := Lib.hid hq; have HPS := Lib.hid (And.intro hs0 hp)
  have T0 : Hid (Below w0.heap.size w0 w0) := Below.refl _ _
  have V0 : Hid (FontV w0 lo hi0 (.agg #[.string s, .slice B1 p d1, .slice B2 q d2]) f) := by rw [← hw0]; exact h
  have M0 : Hid (MagI w0 lo2 hi2 A ms) := by rw [← hw0]; exact hM
  clear h hM hn wf hs0 hp hq hv
  obtain ⟨w1, hw1, hb1, hz1, hX1⟩ := mxWorld w0 #[.string s, .slice B1 p d1, .slice B2 q d2] 25
  have T1 : Hid (Below w0.heap.size w0 w1) := T0.out.trans (hb1.mono (by omega))
  have V1 : Hid (FontV w1 lo hi0 (.agg #[.string s, .slice B1 p d1, .slice B2 q d2]) f) := V0.out.below (by omega) hb1
  have M1 : Hid (MagI w1 lo2 hi2 A ms) := M0.out.below (by omega) hb1
  have sz1 : w0.heap.size ≤ w1.heap.size := hb1.size
  clear T0 V0 M0
  have F1 : Hid (Blk w1 (w0.heap.size) #[.string s, .slice B1 p d1, .slice B2 q d2] 25) := by show Blk _ _ _ _; exact hX1
  have y0 := cellOfBlk F1.out 0
  have y1 := cellOfBlk F1.out 1
  have y2 := cellOfBlk F1.out 2
  rw [hw0]
  go_enter Tryd.func35, Tryd.ntmps35
  go_wp2_with fail
  refine (specMagOk_any lo hi0 lo2 hi2 _ f _ _ _ ms _ V1.out (by omega) hs Hn.out hm M1.out (by omega)).mono ?_
  rintro e w2 ⟨rfl, hb2⟩
  rw [hmag]
  have T2 : Hid (Below w0.heap.size w0 w2) := T1.out.trans (hb2.mono (by omega))
  have M2 : Hid (MagI w2 lo2 hi2 A ms) := M1.out.below (by omega) hb2
  have sz2 : w1.heap.size ≤ w2.heap.size := hb2.size
  clear T1 V1 M1 F1
  go_wp2
  go_ret3
  obtain ⟨e2, e3⟩ := sweep_off hok
  rw [hok, e2, e3]
  exact ⟨_, [], rfl, wait_none _ _ _, T2.out⟩
set_option maxRecDepth 100000 in
set_option maxHeartbeats 6400000 in
theorem specSweep_yes (lo hi0 lo2 hi2 : Nat) (v : Value) (f : Fnt) (A : Option Addr) (n c : Nat) (ms : List (List Mat)) (w : World) (h : FontV w lo hi0 v f) (hhi : hi0 ≤ w.heap.size) (hs : Small f) (hn : ms.length = n) (hm : n ≤ 1048576) (hM : MagI w lo2 hi2 A ms) (hhi2 : hi2 ≤ w.heap.size) (wf : wfM ms) (hmag : magB f ms = true) :
    Calls Tryd.prog 35 #[v, .slice A n c] w fun e w' => ∃ u hs', e = .returned (.tuple #[u, .int .i64 (sweepI f ms), .bool (sweepOk f ms)]) ∧ OwnMag w' w.heap.size w'.heap.size u hs' (sweepL f ms) ∧ Below w.heap.size w w' := by
  obtain ⟨B1, d1, B2, d2, hv⟩ := fontForm h
  obtain ⟨s, hs0⟩ : ∃ y, f.s = y := ⟨_, rfl⟩
  obtain ⟨p, hp⟩ : ∃ y, f.ws.length = y := ⟨_, rfl⟩
  obtain ⟨q, hq⟩ : ∃ y, f.cs.length = y := ⟨_, rfl⟩
  rw [hs0, hp, hq] at hv
  rw [hv] at h
  rw [hv]
  have Hn := Lib.hid hn; have Hwf := Lib.hid wf
  obtain ⟨w0, hw0⟩ : ∃ x, w = x := ⟨_, rfl⟩
  have hww : w.heap.size = w0.heap.size := by rw [hw0]
  have HQ := Lib.hid hq; have HPS := Lib.hid (And.intro hs0 hp)
  have T0 : Hid (Below w0.heap.size w0 w0) := Below.refl _ _
  have V0 : Hid (FontV w0 lo hi0 (.agg #[.string s, .slice B1 p d1, .slice B2 q d2]) f) := by rw [← hw0]; exact h
  have M0 : Hid (MagI w0 lo2 hi2 A ms) := by rw [← hw0]; exact hM
  clear h hM hn wf hs0 hp hq hv
  obtain ⟨hf, hlen, hrows⟩ := magB_rows hmag
  have hfs := fontB_size hf
  rw [Hn.out] at hlen
  have hn40 : n ≤ 40 := by omega
  have hlim : ∀ xs ∈ ms, xs.length ≤ 20 := fun xs hx => (hrows xs hx).1
  have hkin := kind_in hmag
  rw [Hn.out] at hkin
  have hslen := strs_le hlim
  rw [Hn.out] at hslen
  have hLlim := hom_lim hlim n
  have hLlen := hom_len ms n
  rw [Hn.out] at hLlen
  have HLIM := Lib.hid hlim; have HK := Lib.hid hkin; have HSL := Lib.hid hslen; have HLL := Lib.hid hLlim; have HLN := Lib.hid hLlen
  clear hrows hlim hkin hlen hfs hslen hLlim hLlen
  obtain ⟨w1, hw1, hb1, hz1, hX1⟩ := mxWorld w0 #[.string s, .slice B1 p d1, .slice B2 q d2] 25
  have T1 : Hid (Below w0.heap.size w0 w1) := T0.out.trans (hb1.mono (by omega))
  have V1 : Hid (FontV w1 lo hi0 (.agg #[.string s, .slice B1 p d1, .slice B2 q d2]) f) := V0.out.below (by omega) hb1
  have M1 : Hid (MagI w1 lo2 hi2 A ms) := M0.out.below (by omega) hb1
  have sz1 : w0.heap.size ≤ w1.heap.size := hb1.size
  clear T0 V0 M0
  have F1 : Hid (Blk w1 (w0.heap.size) #[.string s, .slice B1 p d1, .slice B2 q d2] 25) := by show Blk _ _ _ _; exact hX1
  have y0 := cellOfBlk F1.out 0
  have y1 := cellOfBlk F1.out 1
  have y2 := cellOfBlk F1.out 2
  rw [hw0]
  go_enter Tryd.func35, Tryd.ntmps35
  go_wp2_with fail
  refine (specMagOk_any lo hi0 lo2 hi2 _ f _ _ _ ms _ V1.out (by omega) hs Hn.out hm M1.out (by omega)).mono ?_
  rintro e w2 ⟨rfl, hb2⟩
  rw [hmag]
  have T2 : Hid (Below w0.heap.size w0 w2) := T1.out.trans (hb2.mono (by omega))
  have M2 : Hid (MagI w2 lo2 hi2 A ms) := M1.out.below (by omega) hb2
  have sz2 : w1.heap.size ≤ w2.heap.size := hb2.size
  clear T1 V1 M1 F1
  clear y0 y1 y2
  go_wp2_with (at_make; refine wpl_make_mag _ rfl (.tmp 20) rfl n _ rfl rfl hm ?_; intro w3 hM3 hb3 hz3)
  obtain ⟨g, hg⟩ : ∃ g, w2.heap.size = g := ⟨_, rfl⟩
  have HE := Lib.hid (show OwnM (w3.alloc (.cells #[] 30)) w3.heap.size (.slice (some ⟨w3.heap.size, 0, none⟩) 0 0) [] from World.ownsRow_lit w3 #[] 0 (Nat.le_refl _) (Nat.zero_le _) rfl)
  have hb4 : Below w3.heap.size w3 (w3.alloc (.cells #[] 30)) := (Below.refl _ _).alloc (Nat.le_refl _) _
  have hz4 : (w3.alloc (.cells #[] 30)).heap.size = w3.heap.size + 1 := by simp
  obtain ⟨w4, hw4⟩ : ∃ x, w3.alloc (.cells #[] 30) = x := ⟨_, rfl⟩
  rw [hw4] at HE hb4 hz4 ⊢
  have hbb : Below w2.heap.size w2 w4 := hb3.trans (hb4.mono (by omega))
  rw [hg] at hM3 hz3 ⊢
  have D4 : Hid (TwoM w4 g n (List.replicate n (.slice none 0 0)) (halfMM (hom ms n) n 0) (.slice (some ⟨w3.heap.size, 0, none⟩) 0 0) (strs ms 0)) := ⟨by have h9 := (hM3.below hb4).wid (hi' := w4.heap.size) (by omega); unfold halfMM; simpa using h9, HE.out.base (by omega), fun q hq => by
    have e : w3.heap.size = q := by simpa [Value.ownBlock] using hq
    refine ⟨by omega, fun a b hab => ?_⟩
    rw [List.getElem?_replicate] at hab
    split at hab
    · injection hab with hab; subst hab; simp [Value.ownBlock]
    · cases hab⟩
  have T4 : Hid (Below w0.heap.size w0 w4) := T2.out.trans (hbb.mono (by omega))
  have M4 : Hid (MagI w4 lo2 hi2 A ms) := M2.out.below (by omega) hbb
  have sz4 : w2.heap.size ≤ w4.heap.size := hbb.size
  clear T2 M2
  have hgk : g < w4.heap.size := by omega
  clear hM3 HE hb3 hb4 hz3 hbb hw4
  go_loopw [8, 25] (fun ov iv wr => ∃ (i : Nat) (hs2 : List Value), i ≤ n ∧ iv = .int .i64 i ∧ Hid (Below w0.heap.size w0 wr) ∧ Hid (MagI wr lo2 hi2 A ms) ∧ Hid (TwoM wr g n hs2 (halfMM (hom ms n) n i) ov (strs ms i)) ∧ w4.heap.size ≤ wr.heap.size) (fun ov iv _ => n - (intOf iv).toNat)
  case atStart => exact ⟨0, _, Nat.zero_le _, rfl, T4, M4, D4, Nat.le_refl _⟩
  case round =>
    clear T4 M4 D4
    obtain ⟨i, hs2, hin, rfl, T5, M5, D5, hsz5⟩ := hrel
    obtain ⟨w5, hwq⟩ : ∃ x, x = wr := ⟨_, rfl⟩
    subst hwq
    by_cases hlt : i < n
    · obtain ⟨ad, xs, Aj, cj, hA, hx, hcell, -, -, hI⟩ := M5.out.at_ (k := i) (by rw [Hn.out]; exact hlt)
      have hA2 := hA
      subst hA2
      have hxl := HLIM.out xs (List.mem_of_getElem? hx.out)
      have hini : (i : Int) < (n : Int) := by omega
      have hh := hom_get (i := n) hx.out
      rw [if_pos hlt] at hh
      have HH := Lib.hid hh
      obtain ⟨l, hl⟩ : ∃ l, xs.length = l := ⟨_, rfl⟩
      rw [hl] at hcell hxl
      have HL := Lib.hid hl
      clear hh hl
      have I5 := Lib.hid hI
      clear hI
      go_wp2
      have D0 : Hid (TwoM w5 g n hs2 ((halfMM (hom ms n) n i).set i (keepK i (xs.take 0))) u8 (strs ms i ++ strK i (xs.take 0))) := by show TwoM _ _ _ _ _ _ _; have h9 := D5.out; rw [show keepK i (xs.take 0) = [] from rfl, show strK i (xs.take 0) = [] from rfl, List.append_nil, set_same (halfMM_get HLN.out hlt)]; exact h9
      clear hcell
      go_loopw [8, 32] (fun qv jv wr => ∃ (j : Nat) (hs5 : List Value), j ≤ l ∧ jv = .int .i64 j ∧ Hid (Below w0.heap.size w0 wr) ∧ Hid (MagI wr lo2 hi2 (some ad) ms) ∧ Hid (MatsI wr lo2 hi2 Aj xs) ∧ Hid (TwoM wr g n hs5 ((halfMM (hom ms n) n i).set i (keepK i (xs.take j))) qv (strs ms i ++ strK i (xs.take j))) ∧ w4.heap.size ≤ wr.heap.size) (fun qv jv _ => l - (intOf jv).toNat)
      case atStart => exact ⟨0, _, Nat.zero_le _, rfl, T5, M5, I5, D0, hsz5⟩
      case round =>
        clear T5 M5 I5 D0 D5
        obtain ⟨j, hs5, hjl, rfl, T6, M6, I6, D6, hsz6⟩ := hrel
        obtain ⟨w6, hwq⟩ : ∃ x, x = wr := ⟨_, rfl⟩
        subst hwq
        by_cases hj : j < l
        · obtain ⟨ad2, z, hA2, hz, c0, c1⟩ := I6.out.at_ (k := j) (by rw [HL.out]; exact hj)
          obtain ⟨k1, k2⟩ := z
          simp only at c0 c1
          have hA3 := hA2
          subst hA3
          have hji : (j : Int) < (l : Int) := by omega
          have HXO : Hid (∀ (a : Nat) (h : Value) (q : Nat), hs5[a]? = some h → h.ownBlock = some q → q < w6.heap.size) := fun a h q h1 h2 => (D6.out.mag.other a h q h1 h2).2
          obtain ⟨w7, hw7, hb7, hz7, hX7⟩ := mxWorld w6 #[.int .i64 k1, .int .i64 k2] 30
          have T7 : Hid (Below w0.heap.size w0 w7) := T6.out.trans (hb7.mono (by omega))
          have M7 : Hid (MagI w7 lo2 hi2 (some ad) ms) := M6.out.below (by omega) hb7
          have I7 : Hid (MatsI w7 lo2 hi2 (some ad2) xs) := I6.out.below (by omega) hb7
          have D7 : Hid (TwoM w7 g n hs5 ((halfMM (hom ms n) n i).set i (keepK i (xs.take j))) u8 (strs ms i ++ strK i (xs.take j))) := D6.out.below hb7
          have sz7 : w6.heap.size ≤ w7.heap.size := hb7.size
          clear T6 M6 I6 D6
          have X7 : Hid (Blk w7 (w6.heap.size) #[.int .i64 k1, .int .i64 k2] 30) := by show Blk _ _ _ _; exact hX7
          have x0 := cellOfBlk X7.out 0
          have x1 := cellOfBlk X7.out 1
          by_cases hk : k1 = (i : Int)
          · subst hk
            have hkd : decide ((i : Int) = (i : Int)) = true := by simp
            have hrg : ((halfMM (hom ms n) n i).set i (keepK i (xs.take j)))[i]? = some (keepK i (xs.take j)) := List.getElem?_set_self (by rw [halfMM_len HLN.out (by omega)]; exact hlt)
            have HRG := Lib.hid hrg
            clear hrg
            obtain ⟨h0, hh0, hO0⟩ := D7.out.mag.rows i _ HRG.out
            have HH0 := Lib.hid hh0; have HO0 := Lib.hid hO0
            have ho := D7.out.mag.outer
            rw [List.length_set, halfMM_len HLN.out (by omega)] at ho
            have d1 := (ho.cellAt i (by omega)).trans hh0
            have f1 := ho.frozenAt i
            clear ho hh0 hO0
            go_upto_region 12 with fail
            refine wp_region_planC 10 (.take 0 (.take 1 (.take 2 (.take 3 (.take 4 (.take 5 (.take 6 (.one 7 (.one 8 (.take 9 (.last 10))))))))))) (fun w' => w'.cell? ⟨g, i, none⟩ = some h0 ∧ w'.cell? ⟨w6.heap.size, 0, none⟩ = some (.int .i64 (i : Int)) ∧ w'.cell? ⟨w6.heap.size, 1, none⟩ = some (.int .i64 k2)) (by kernel_rfl) (by kernel_rfl) (by kernel_rfl) ⟨d1, x0, x1⟩ ?_
            refine planC_quiet rfl (by rfl) (v := ?_) ?_ ?_; rotate_left; (intro w1 hSw; obtain ⟨z0, z1, z2⟩ := hSw; go_simp; try (with_reducible rfl)); (try simp only [Act.put, List.setIfInBounds_toArray, List.set_cons_zero, List.set_cons_succ])
            refine planC_quiet rfl (by rfl) (v := ?_) ?_ ?_; rotate_left; (intro w1 hSw; obtain ⟨z0, z1, z2⟩ := hSw; go_simp; try (with_reducible rfl)); (try simp only [Act.put, List.setIfInBounds_toArray, List.set_cons_zero, List.set_cons_succ])
            refine planC_quiet rfl (by rfl) (v := ?_) ?_ ?_; rotate_left; (intro w1 hSw; obtain ⟨z0, z1, z2⟩ := hSw; go_simp; try (with_reducible rfl)); (try simp only [Act.put, List.setIfInBounds_toArray, List.set_cons_zero, List.set_cons_succ])
            refine planC_quiet rfl (by rfl) (v := ?_) ?_ ?_; rotate_left; (intro w1 hSw; obtain ⟨z0, z1, z2⟩ := hSw; go_simp; try (with_reducible rfl)); (try simp only [Act.put, List.setIfInBounds_toArray, List.set_cons_zero, List.set_cons_succ])
            refine planC_quiet rfl (by rfl) (v := ?_) ?_ ?_; rotate_left; (intro w1 hSw; obtain ⟨z0, z1, z2⟩ := hSw; go_simp; try (with_reducible rfl)); (try simp only [Act.put, List.setIfInBounds_toArray, List.set_cons_zero, List.set_cons_succ])
            refine planC_quiet rfl (by rfl) (v := ?_) ?_ ?_; rotate_left; (intro w1 hSw; obtain ⟨z0, z1, z2⟩ := hSw; go_simp; try (with_reducible rfl)); (try simp only [Act.put, List.setIfInBounds_toArray, List.set_cons_zero, List.set_cons_succ])
            refine planC_quiet rfl (by rfl) (v := ?_) ?_ ?_; rotate_left; (intro w1 hSw; obtain ⟨z0, z1, z2⟩ := hSw; go_simp; try (with_reducible rfl)); (try simp only [Act.put, List.setIfInBounds_toArray, List.set_cons_zero, List.set_cons_succ])
            have hdz : w7.drew.heap.size = w7.heap.size := rfl
            refine planC_value rfl (by rfl) (u := .slice (some ⟨w7.drew.heap.size, 0, none⟩) 1 1) (w' := w7.drew.alloc (.cells #[.int .i64 (i : Int), .int .i64 k2] 30)) (by go_simp) ⟨?_, ?_, ?_⟩ ?_
            · exact (((Below.refl _ w7.drew).alloc (Nat.le_refl _) _).cell (p := ⟨g, i, none⟩) (by show g < w7.heap.size; omega)).trans d1
            · exact (((Below.refl _ w7.drew).alloc (Nat.le_refl _) _).cell (p := ⟨w6.heap.size, 0, none⟩) (by show w6.heap.size < w7.heap.size; omega)).trans x0
            · exact (((Below.refl _ w7.drew).alloc (Nat.le_refl _) _).cell (p := ⟨w6.heap.size, 1, none⟩) (by show w6.heap.size < w7.heap.size; omega)).trans x1
            (try simp only [Act.put, List.setIfInBounds_toArray, List.set_cons_zero, List.set_cons_succ])
            have hd : Below w7.heap.size w7 w7.drew := (Below.refl _ _).drew
            have HOd := D7.out.below hd
            have HO0d : OwnM w7.drew g h0 (keepK i (xs.take j)) := HO0.out.below hd
            have hkl : (keepK i (xs.take j)).length ≤ 20 := by have h1 := keepK_le i (xs.take j); rw [List.length_take] at h1; omega
            refine planC_push w7.drew rfl (by rfl) (.tmp 45) (.tmp 47) rfl g h0 (keepK i (xs.take j)) ((i : Int), k2) rfl rfl HO0d (by show g ≤ w7.heap.size; omega) (by omega) ?_
            intro v7 wz7 hO7 hg7 hf7
            have hk7 := HOd.mag.kept HH0.out hg7
            rw [List.length_set, halfMM_len HLN.out (by omega)] at hk7
            have d7 := (hk7.cellAt i (by omega)).trans HH0.out
            have f7 := hk7.frozenAt i
            have hgs := hg7.size
            have b7 : Below g w7 wz7 := (hd.mono (by omega)).trans ((Below.refl _ _).grown hg7 (by show g ≤ w7.heap.size; omega) (fun k hk => (HOd.mag.blocks i h0 k HH0.out hk).1))
            have hxo : ∀ q, h0.ownBlock = some q → q < w6.heap.size := fun q hq => HXO.out i h0 q HH0.out hq
            have c7 : Chg g w6.heap.size w7.drew wz7 := Chg.of_grown hg7 (fun q hq => ⟨(HOd.mag.blocks i h0 q HH0.out hq).1, hxo q hq⟩)
            have x0 := (c7.cell (p := ⟨w6.heap.size, 0, none⟩) (by show w6.heap.size < w7.heap.size; omega) (by show ¬(g ≤ w6.heap.size ∧ w6.heap.size < w6.heap.size); omega)).trans x0
            have x1 := (c7.cell (p := ⟨w6.heap.size, 1, none⟩) (by show w6.heap.size < w7.heap.size; omega) (by show ¬(g ≤ w6.heap.size ∧ w6.heap.size < w6.heap.size); omega)).trans x1
            refine ⟨⟨d7, x0, x1⟩, ?_⟩
            have hst := HOd.store HRG.out HH0.out hg7 hO7 hf7
            rw [List.set_set, show keepK i (xs.take j) ++ [((i : Int), k2)] = keepK i (xs.take (j + 1)) by rw [keepK_take hz.out, if_pos rfl]] at hst
            obtain ⟨A7, c7x, rfl, -⟩ := hO7.form
            rw [show keepK i (xs.take j) ++ [((i : Int), k2)] = keepK i (xs.take (j + 1)) by rw [keepK_take hz.out, if_pos rfl]] at hst ⊢
            obtain ⟨lr, hlr⟩ : ∃ lr, (keepK i (xs.take (j + 1))).length = lr := ⟨_, rfl⟩
            rw [hlr] at hst ⊢
            (try simp only [Act.put, List.setIfInBounds_toArray, List.set_cons_zero, List.set_cons_succ])
            refine planC_quiet rfl (by rfl) (v := ?_) ?_ ?_; rotate_left; (intro w1 hSw; obtain ⟨z0, z1, z2⟩ := hSw; go_simp; try (with_reducible rfl)); (try simp only [Act.put, List.setIfInBounds_toArray, List.set_cons_zero, List.set_cons_succ])
            refine planC_lastSkip rfl (by rfl) (w' := wz7.setCell ⟨g, i, none⟩ (.slice A7 lr c7x)) (by go_simp) ?_
            (try simp only [Act.put, List.setIfInBounds_toArray, List.set_cons_zero, List.set_cons_succ])
            have b8 : Below g w7 (wz7.setCell ⟨g, i, none⟩ (.slice A7 lr c7x)) := b7.setCell (p := ⟨g, i, none⟩) (Nat.le_refl _) _
            obtain ⟨wz8, hw8⟩ : ∃ x, wz7.setCell ⟨g, i, none⟩ (.slice A7 lr c7x) = x := ⟨_, rfl⟩
            rw [hw8] at hst b8 ⊢
            have T8 := Lib.hid (T7.out.trans (b8.mono (by omega)))
            have M8 := Lib.hid (M7.out.below (by omega) b8)
            have I8 := Lib.hid (I7.out.below (by omega) b8)
            have hz8 := b8.size
            have D8 : Hid (TwoM wz8 g n (hs5.set i (.slice A7 lr c7x)) ((halfMM (hom ms n) n i).set i (keepK i (xs.take (j + 1)))) u8 (strs ms i ++ strK i (xs.take (j + 1)))) := by show TwoM _ _ _ _ _ _ _; rw [strK_take hz.out, if_pos rfl]; exact hst
            have hj1 : j + 1 ≤ l := by omega
            clear hst b8 b7 hg7 hf7 hO7 hk7 d7 f7 HOd HO0d x0 x1 d1 f1 c0 c1
            go_wp2
            exact ⟨⟨j + 1, _, hj1, rfl, T8, M8, I8, D8, by omega⟩, by simp [intOf]; omega⟩
          · have hkd : decide (k1 = (i : Int)) = false := decide_eq_false hk
            have hsl : (strs ms i ++ strK i (xs.take j)).length ≤ 1048576 := by have h1 := HSL.out i (by omega); have h2 := strK_le i (xs.take j); rw [List.length_take] at h2; rw [List.length_append]; omega
            go_wp2_with (refine wpl_push_mat w7 rfl (.tmp 50) (.tmp 52) rfl g u8 (strs ms i ++ strK i (xs.take j)) (k1, k2) (by go_simp) (by go_simp) D7.out.row (by omega) hsl ?_; intro v7 wz7 hO7 hg7 hf7)
            have hst := D7.out.push hg7 hO7 hf7
            have b7 : Below g w7 wz7 := (Below.refl _ _).grown hg7 (by omega) (fun k hk => (D7.out.row.lt k hk).1)
            have T7 := Lib.hid (T7.out.trans (b7.mono (by omega)))
            have M7 := Lib.hid (M7.out.below (by omega) b7)
            have I7 := Lib.hid (I7.out.below (by omega) b7)
            have hz7 := b7.size
            have D7 : Hid (TwoM wz7 g n hs5 ((halfMM (hom ms n) n i).set i (keepK i (xs.take (j + 1)))) v7 (strs ms i ++ strK i (xs.take (j + 1)))) := by show TwoM _ _ _ _ _ _ _; rw [strK_take hz.out, if_neg hk, keepK_take hz.out, if_neg hk, ← List.append_assoc]; exact hst
            have hj1 : j + 1 ≤ l := by omega
            clear hst b7 hg7 hf7 hO7 x0 x1 c0 c1
            go_wp2
            exact ⟨⟨j + 1, _, hj1, rfl, T7, M7, I7, D7, by omega⟩, by simp [intOf]; omega⟩
        · have hje : j = l := by omega
          subst hje
          have hjf : decide ((j : Int) < (j : Int)) = false := by simp
          have D9 : Hid (TwoM w6 g n hs5 (halfMM (hom ms n) n (i + 1)) u8 (strs ms (i + 1))) := by show TwoM _ _ _ _ _ _ _; have h9 := D6.out; rw [List.take_of_length_le (by rw [HL.out]; exact Nat.le_refl _), halfMM_set HLN.out HH.out, strs_next hx.out] at h9; exact h9
          go_wp2
          exact ⟨⟨i + 1, hs5, by omega, rfl, T6, M6, D9, by omega⟩, by simp [intOf]; omega⟩
    · have hie : n = i := by omega
      subst hie
      have hnf : decide ((n : Int) < (n : Int)) = false := by simp
      have D9 : Hid (TwoM w5 g n hs2 (hom ms n) u8 (strs ms n)) := by show TwoM _ _ _ _ _ _ _; have h9 := D5.out; rw [halfMM_full HLN.out] at h9; exact h9
      clear D5 M5
      obtain ⟨S, hS⟩ : ∃ S, strs ms n = S := ⟨_, rfl⟩
      obtain ⟨L0, hL0⟩ : ∃ L, hom ms n = L := ⟨_, rfl⟩
      have hk9 := HK.out
      have hl9 := HSL.out n (by omega)
      have hll9 := HLL.out
      have hln9 := HLN.out
      rw [hS] at D9 hk9 hl9
      rw [hL0] at D9 hll9 hln9
      obtain ⟨l, hl⟩ : ∃ l, S.length = l := ⟨_, rfl⟩
      rw [hl] at hl9
      obtain ⟨A8, c8, e8, -⟩ := D9.out.row.form
      subst e8
      rw [hl] at D9 ⊢
      have HS := Lib.hid hS; have HL0 := Lib.hid hL0; have HK9 := Lib.hid hk9; have HLL9 := Lib.hid hll9; have HLN9 := Lib.hid hln9; have HL := Lib.hid hl
      clear hS hL0 hk9 hll9 hln9 hl
      go_wp2
      have P5 : Hid (sweepGo L0 (S.take 0) = some L0) := rfl
      go_loopw [58] (fun jv wr => ∃ (j : Nat) (hs5 : List Value) (L : List (List Mat)), j ≤ l ∧ jv = .int .i64 j ∧ Hid (Below w0.heap.size w0 wr) ∧ Hid (TwoM wr g n hs5 L (.slice A8 l c8) S) ∧ Hid (sweepGo L0 (S.take j) = some L) ∧ w4.heap.size ≤ wr.heap.size) (fun jv _ => l - (intOf jv).toNat)
      case atStart => exact ⟨0, hs2, L0, Nat.zero_le _, rfl, T5, D9, P5, hsz5⟩
      case round =>
        clear T5 D9 P5
        obtain ⟨j, hs5, L, hjl, rfl, T6, D6, hP, hsz6⟩ := hrel
        obtain ⟨w6, hwq⟩ : ∃ x, x = wr := ⟨_, rfl⟩
        subst hwq
        have hLn := sweepGo_len hP.out
        rw [HLN9.out] at hLn
        have HLm := Lib.hid (sweepGo_lim HLL9.out hP.out)
        by_cases hj : j < l
        · obtain ⟨ad, x, hA, hx, c0, c1⟩ := (OwnM.reads D6.out.row).at_ (k := j) (by rw [HL.out]; exact hj)
          obtain ⟨k1, k2⟩ := x
          obtain ⟨kx0, kx1⟩ := HK9.out _ (List.mem_of_getElem? hx.out)
          simp only at kx0 kx1 c0 c1
          obtain ⟨m, rfl⟩ := Int.eq_ofNat_of_zero_le kx0
          have hmn : m < n := by simpa using kx1
          obtain ⟨xs, hxs⟩ : ∃ xs, L[m]? = some xs := ⟨_, List.getElem?_eq_getElem (by omega)⟩
          have HXS := Lib.hid hxs
          have hra : rowAt L (m : Int) = xs := rowAt_of hxs
          have HRA := Lib.hid hra
          have hxl := HLm.out xs (List.mem_of_getElem? hxs)
          have hji : (j : Int) < (l : Int) := by omega
          have hmi : (m : Int) < (n : Int) := by omega
          clear hxs hra kx0 kx1
          have hA2 := hA
          subst hA2
          have HXO : Hid (∀ (a : Nat) (h : Value) (q : Nat), hs5[a]? = some h → h.ownBlock = some q → q < w6.heap.size) := fun a h q h1 h2 => (D6.out.mag.other a h q h1 h2).2
          obtain ⟨w7, hw7, hb7, hz7, hX7⟩ := mxWorld w6 #[.int .i64 (m : Int), .int .i64 k2] 30
          have T7 : Hid (Below w0.heap.size w0 w7) := T6.out.trans (hb7.mono (by omega))
          have D7 : Hid (TwoM w7 g n hs5 L (.slice (some ad) l c8) S) := D6.out.below hb7
          have sz7 : w6.heap.size ≤ w7.heap.size := hb7.size
          clear T6 D6
          have X7 : Hid (Blk w7 (w6.heap.size) #[.int .i64 (m : Int), .int .i64 k2] 30) := by show Blk _ _ _ _; exact hX7
          have x0 := cellOfBlk X7.out 0
          have x1 := cellOfBlk X7.out 1
          obtain ⟨h0, hh0, hO0⟩ := D7.out.mag.rows m _ HXS.out
          have HH0 := Lib.hid hh0; have HO0 := Lib.hid hO0
          have ho := D7.out.mag.outer
          rw [hLn] at ho
          have d1 := (ho.cellAt m (by omega)).trans hh0
          have f1 := ho.frozenAt m
          obtain ⟨A0, c00, e0, -⟩ := hO0.form
          subst e0
          obtain ⟨lr, hlr⟩ : ∃ lr, xs.length = lr := ⟨_, rfl⟩
          rw [hlr] at d1 HH0 HO0 hxl
          have HLR := Lib.hid hlr
          clear ho hh0 hO0 hlr
          by_cases hr : lr < 20
          · have h20 : ((lr : Int) == 20) = false := by simp; omega
            go_upto_region 21 with fail
            refine wp_region_planC 12 (.take 0 (.take 1 (.take 2 (.take 3 (.take 4 (.take 5 (.take 6 (.take 7 (.take 8 (.one 9 (.one 10 (.take 11 (.last 12))))))))))))) (fun w' => w'.cell? ⟨g, m, none⟩ = some (.slice A0 lr c00) ∧ w'.cell? ⟨w6.heap.size, 0, none⟩ = some (.int .i64 (m : Int)) ∧ w'.cell? ⟨w6.heap.size, 1, none⟩ = some (.int .i64 k2)) (by kernel_rfl) (by kernel_rfl) (by kernel_rfl) ⟨d1, x0, x1⟩ ?_
            refine planC_quiet rfl (by rfl) (v := ?_) ?_ ?_; rotate_left; (intro w1 hSw; obtain ⟨z0, z1, z2⟩ := hSw; go_simp; try (with_reducible rfl)); (try simp only [Act.put, List.setIfInBounds_toArray, List.set_cons_zero, List.set_cons_succ])
            refine planC_quiet rfl (by rfl) (v := ?_) ?_ ?_; rotate_left; (intro w1 hSw; obtain ⟨z0, z1, z2⟩ := hSw; go_simp; try (with_reducible rfl)); (try simp only [Act.put, List.setIfInBounds_toArray, List.set_cons_zero, List.set_cons_succ])
            refine planC_quiet rfl (by rfl) (v := ?_) ?_ ?_; rotate_left; (intro w1 hSw; obtain ⟨z0, z1, z2⟩ := hSw; go_simp; try (with_reducible rfl)); (try simp only [Act.put, List.setIfInBounds_toArray, List.set_cons_zero, List.set_cons_succ])
            refine planC_quiet rfl (by rfl) (v := ?_) ?_ ?_; rotate_left; (intro w1 hSw; obtain ⟨z0, z1, z2⟩ := hSw; go_simp; try (with_reducible rfl)); (try simp only [Act.put, List.setIfInBounds_toArray, List.set_cons_zero, List.set_cons_succ])
            refine planC_quiet rfl (by rfl) (v := ?_) ?_ ?_; rotate_left; (intro w1 hSw; obtain ⟨z0, z1, z2⟩ := hSw; go_simp; try (with_reducible rfl)); (try simp only [Act.put, List.setIfInBounds_toArray, List.set_cons_zero, List.set_cons_succ])
            refine planC_quiet rfl (by rfl) (v := ?_) ?_ ?_; rotate_left; (intro w1 hSw; obtain ⟨z0, z1, z2⟩ := hSw; go_simp; try (with_reducible rfl)); (try simp only [Act.put, List.setIfInBounds_toArray, List.set_cons_zero, List.set_cons_succ])
            refine planC_quiet rfl (by rfl) (v := ?_) ?_ ?_; rotate_left; (intro w1 hSw; obtain ⟨z0, z1, z2⟩ := hSw; go_simp; try (with_reducible rfl)); (try simp only [Act.put, List.setIfInBounds_toArray, List.set_cons_zero, List.set_cons_succ])
            refine planC_quiet rfl (by rfl) (v := ?_) ?_ ?_; rotate_left; (intro w1 hSw; obtain ⟨z0, z1, z2⟩ := hSw; go_simp; try (with_reducible rfl)); (try simp only [Act.put, List.setIfInBounds_toArray, List.set_cons_zero, List.set_cons_succ])
            refine planC_quiet rfl (by rfl) (v := ?_) ?_ ?_; rotate_left; (intro w1 hSw; obtain ⟨z0, z1, z2⟩ := hSw; go_simp; try (with_reducible rfl)); (try simp only [Act.put, List.setIfInBounds_toArray, List.set_cons_zero, List.set_cons_succ])
            have hdz : w7.drew.heap.size = w7.heap.size := rfl
            refine planC_value rfl (by rfl) (u := .slice (some ⟨w7.drew.heap.size, 0, none⟩) 1 1) (w' := w7.drew.alloc (.cells #[.int .i64 (m : Int), .int .i64 k2] 30)) (by go_simp) ⟨?_, ?_, ?_⟩ ?_
            · exact (((Below.refl _ w7.drew).alloc (Nat.le_refl _) _).cell (p := ⟨g, m, none⟩) (by show g < w7.heap.size; omega)).trans d1
            · exact (((Below.refl _ w7.drew).alloc (Nat.le_refl _) _).cell (p := ⟨w6.heap.size, 0, none⟩) (by show w6.heap.size < w7.heap.size; omega)).trans x0
            · exact (((Below.refl _ w7.drew).alloc (Nat.le_refl _) _).cell (p := ⟨w6.heap.size, 1, none⟩) (by show w6.heap.size < w7.heap.size; omega)).trans x1
            (try simp only [Act.put, List.setIfInBounds_toArray, List.set_cons_zero, List.set_cons_succ])
            have hd : Below w7.heap.size w7 w7.drew := (Below.refl _ _).drew
            have HOd := D7.out.below hd
            have HO0d : OwnM w7.drew g (.slice A0 lr c00) xs := HO0.out.below hd
            refine planC_push w7.drew rfl (by rfl) (.tmp 76) (.tmp 78) rfl g (.slice A0 lr c00) xs ((m : Int), k2) (by first | rfl | go_simp) (by first | rfl | go_simp) HO0d (by show g ≤ w7.heap.size; omega) (by rw [HLR.out]; omega) ?_
            intro v7 wz7 hO7 hg7 hf7
            have hk7 := HOd.mag.kept HH0.out hg7
            rw [hLn] at hk7
            have d7 := (hk7.cellAt m (by omega)).trans HH0.out
            have f7 := hk7.frozenAt m
            have hgs := hg7.size
            have b7 : Below g w7 wz7 := (hd.mono (by omega)).trans ((Below.refl _ _).grown hg7 (by show g ≤ w7.heap.size; omega) (fun k hk => (HOd.mag.blocks m _ k HH0.out hk).1))
            have hxo : ∀ q, (Value.slice A0 lr c00).ownBlock = some q → q < w6.heap.size := fun q hq => HXO.out m _ q HH0.out hq
            have c7 : Chg g w6.heap.size w7.drew wz7 := Chg.of_grown hg7 (fun q hq => ⟨(HOd.mag.blocks m _ q HH0.out hq).1, hxo q hq⟩)
            have x0 := (c7.cell (p := ⟨w6.heap.size, 0, none⟩) (by show w6.heap.size < w7.heap.size; omega) (by show ¬(g ≤ w6.heap.size ∧ w6.heap.size < w6.heap.size); omega)).trans x0
            have x1 := (c7.cell (p := ⟨w6.heap.size, 1, none⟩) (by show w6.heap.size < w7.heap.size; omega) (by show ¬(g ≤ w6.heap.size ∧ w6.heap.size < w6.heap.size); omega)).trans x1
            refine ⟨⟨d7, x0, x1⟩, ?_⟩
            have hst := HOd.store HXS.out HH0.out hg7 hO7 hf7
            obtain ⟨A7, c7x, rfl, -⟩ := hO7.form
            rw [show (xs ++ [((m : Int), k2)]).length = lr + 1 by rw [List.length_append, HLR.out]; rfl] at hst ⊢
            (try simp only [Act.put, List.setIfInBounds_toArray, List.set_cons_zero, List.set_cons_succ])
            refine planC_quiet rfl (by rfl) (v := ?_) ?_ ?_; rotate_left; (intro w1 hSw; obtain ⟨z0, z1, z2⟩ := hSw; go_simp; try (with_reducible rfl)); (try simp only [Act.put, List.setIfInBounds_toArray, List.set_cons_zero, List.set_cons_succ])
            refine planC_lastSkip rfl (by rfl) (w' := wz7.setCell ⟨g, m, none⟩ (.slice A7 (lr + 1) c7x)) (by go_simp) ?_
            (try simp only [Act.put, List.setIfInBounds_toArray, List.set_cons_zero, List.set_cons_succ])
            have b8 : Below g w7 (wz7.setCell ⟨g, m, none⟩ (.slice A7 (lr + 1) c7x)) := b7.setCell (p := ⟨g, m, none⟩) (Nat.le_refl _) _
            obtain ⟨wz8, hw8⟩ : ∃ x, wz7.setCell ⟨g, m, none⟩ (.slice A7 (lr + 1) c7x) = x := ⟨_, rfl⟩
            rw [hw8] at hst b8 ⊢
            have T8 := Lib.hid (T7.out.trans (b8.mono (by omega)))
            have hz8 := b8.size
            have D8 := Lib.hid hst
            have hP2 : Hid (sweepGo L0 (S.take (j + 1)) = some (L.set m (xs ++ [((m : Int), k2)]))) := by have h9 := sweepGo_next hP.out hx.out (by show (rowAt L (m : Int)).length < 20; rw [HRA.out, HLR.out]; exact hr); rw [show ((m : Int), k2).1.toNat = m from Int.toNat_natCast m] at h9; show _ = _; rw [h9]; show some (L.set m (rowAt L (m : Int) ++ _)) = _; rw [HRA.out]
            have hj1 : j + 1 ≤ l := by omega
            clear hst b8 b7 hg7 hf7 hO7 hk7 d7 f7 HOd HO0d x0 x1 d1 f1 c0 c1
            go_wp2
            exact ⟨⟨j + 1, _, _, hj1, rfl, T8, D8, hP2, by omega⟩, by simp [intOf]; omega⟩
          · have h20 : ((lr : Int) == 20) = true := by simp; omega
            have hstop := sweepGo_stop hP.out hx.out (by show 20 ≤ (rowAt L (m : Int)).length; rw [HRA.out, HLR.out]; omega)
            have hsw : swept ms = none := by unfold swept; rw [Hn.out, HL0.out, HS.out]; exact hstop
            have HSW := Lib.hid hsw
            clear hstop hsw
            go_wp2
            go_ret3
            have hok := sweep_none (f := f) HSW.out
            obtain ⟨e2, e3⟩ := sweep_off hok
            rw [hok, e2, e3]
            first | exact ⟨_, [], rfl, wait_none _ _ _, T7.out⟩ | exact ⟨_, rfl, ⟨[], wait_none _ _ _⟩, T7.out⟩
        · have hje : j = l := by omega
          subst hje
          have hjf : decide ((j : Int) < (j : Int)) = false := by simp
          have hall := hP.out
          rw [List.take_of_length_le (by rw [HL.out]; exact Nat.le_refl _)] at hall
          have hsw : swept ms = some L := by unfold swept; rw [Hn.out, HL0.out, HS.out]; exact hall
          have HSW := Lib.hid hsw
          clear hall hsw hP
          go_wp2
          go_ret3
          obtain ⟨e1, e2, e3⟩ := sweep_on hmag HSW.out
          rw [Hn.out, HS.out, HL.out] at e3
          rw [e1, e2, e3]
          exact ⟨_, hs5, rfl, D6.out.mag.base (by omega), T6.out⟩
theorem specSweep_any (lo hi0 lo2 hi2 : Nat) (v : Value) (f : Fnt) (A : Option Addr) (n c : Nat) (ms : List (List Mat)) (w : World) (h : FontV w lo hi0 v f) (hhi : hi0 ≤ w.heap.size) (hs : Small f) (hn : ms.length = n) (hm : n ≤ 1048576) (hM : MagI w lo2 hi2 A ms) (hhi2 : hi2 ≤ w.heap.size) (wf : wfM ms) :
    Calls Tryd.prog 35 #[v, .slice A n c] w fun e w' => ∃ u hs', e = .returned (.tuple #[u, .int .i64 (sweepI f ms), .bool (sweepOk f ms)]) ∧ OwnMag w' w.heap.size w'.heap.size u hs' (sweepL f ms) ∧ Below w.heap.size w w' := by
  cases hmag : magB f ms
  · exact specSweep_no lo hi0 lo2 hi2 v f A n c ms w h hhi hs hn hm hM hhi2 wf hmag
  · exact specSweep_yes lo hi0 lo2 hi2 v f A n c ms w h hhi hs hn hm hM hhi2 wf hmag
end Go.Proofs.YtdijlofcgcikjaaDoor
