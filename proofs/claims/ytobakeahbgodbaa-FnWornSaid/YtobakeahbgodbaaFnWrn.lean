/-
  FnWorn: its walk. No condition.
-/
import Derived.Test.YtobakeahbgodbaaDrawWr
import Derived.Test.YtobakeahbgodbaaWornM
import Derived.Test.YtobakeahbgodbaaWearI
import Derived.Test.YtobakeahbgodbaaLawKit
import Derived.Test.YtobakeahbgodbaaPkD
namespace Go.Proofs.Ytobakeahbgodbaa
open Go.RowKit
set_option linter.unusedVariables false

set_option maxRecDepth 100000 in
set_option maxHeartbeats 12800000 in
theorem fnWorn_walk (A : Option Addr) (n c : Nat) (bs : List Int) (w : World) (hn : bs.length = n) (hm : n ≤ maxLen) (h : Bytes w A bs) (wf : ∀ z ∈ bs, (Lit.int .u8 z).wf = true) :
    Calls Try.prog 3 #[.slice A n c] w fun e w' => e = .returned (.bool true) ∧ Below w.heap.size w w' := by
  have H := Lib.hid h; have Hn := Lib.hid hn; have Hwf := Lib.hid wf
  clear h hn wf
  have hm0 := hm
  unfold maxLen at hm
  by_cases hbig : 1048576 < n
  · go_enter Try.func3, Try.ntmps3
    go_wp2
    go_ret
    exact ⟨rfl, Below.refl _ _⟩
  go_enter Try.func3, Try.ntmps3
  go_wp2_with fail
  refine (drawWear_any _ _ _ bs _ Hn.out hm0 H.out Hwf.out).mono ?_
  rintro e w1 ⟨u, v, ⟨s, ws, cs⟩, ms, ch, i, t, rfl, hMD⟩
  obtain ⟨B, nn, cc, rfl, hs24, hw24, hc24, hbd, hml, hnc, hcc, hst, hF, hI, hb1⟩ := hMD
  simp only at hs24 hw24 hc24 hbd
  obtain ⟨ad, had⟩ : ∃ y, (⟨B, 0, none⟩ : Addr) = y := ⟨_, rfl⟩
  rw [had] at hI ⊢
  clear had
  have HS : Hid (Small ⟨s, ws, cs⟩) := ⟨by show s.size ≤ _; omega, by show ws.length ≤ _; omega, by show cs.length ≤ _; omega⟩
  have HWF := Lib.hid (stk_wf hst); have HML := Lib.hid hml; have HST := Lib.hid hst
  obtain ⟨B1, d1, B2, d2, rfl, hIC⟩ := fontForm2 hF
  have z1 := hb1.size
  have Q1 := Lib.hid hIC
  have F1 := Lib.hid hF; have I1 := Lib.hid hI; have T1 := Lib.hid hb1
  clear hF hI hb1 hml hst hbd H Hn Hwf hIC
  go_wp2_with fail
  obtain ⟨w2, hw2, hb2, hz2, hK2⟩ := mxWorld w1 #[.string s, .slice B1 ws.length d1, .slice B2 cs.length d2] 25
  obtain ⟨b, hb⟩ : ∃ y, w1.heap.size = y := ⟨_, rfl⟩
  have F2 := Lib.hid (F1.out.below (Nat.le_refl _) hb2); have M2 := Lib.hid (I1.out.below (Nat.le_refl _) hb2); have Q2 := Lib.hid (Q1.out.below (Nat.le_refl _) hb2); have T2 := Lib.hid (T1.out.trans (hb2.mono z1))
  rw [hw2, hb]
  rw [hb] at F2 M2 Q2 hK2 hz2 z1
  have K2 := Lib.hid hK2
  have z2 : b < w2.heap.size := by omega
  clear F1 I1 T1 Q1 hb2 hK2 hz2 hw2 hb
  refine (implWear_any w.heap.size b w.heap.size b _ ⟨s, ws, cs⟩ (some ad) nn cc ch i t ms w2 F2.out (by omega) HS.out HML.out (by omega) M2.out (by omega) HWF.out).mono ?_
  rintro e3 w3 ⟨u3, hs3, rfl, hO3, hb3⟩
  have z3 : b < w3.heap.size := by have := hb3.size; omega
  have F3 := Lib.hid (F2.out.below (by omega) hb3); have K3 := Lib.hid (K2.out.below hb3 (by omega)); have M3 := Lib.hid (M2.out.below (by omega) hb3); have Q3 := Lib.hid (Q2.out.below (by omega) hb3); have T3 := Lib.hid (T2.out.trans (hb3.mono (by omega)))
  clear F2 K2 M2 Q2 T2 hb3
  cases hok : wearOk ⟨s, ws, cs⟩ ms ch i t
  · have hL : wearL ⟨s, ws, cs⟩ ms ch i t = [] := by unfold wearL; rw [hok]; rfl
    rw [hL] at hO3
    obtain ⟨A9, c9, rfl, -⟩ := hO3.form
    clear hO3 hL
    have HOK := Lib.hid hok
    clear hok
    obtain ⟨b0, b1, b2⟩ := (show w3.cell? ⟨b, 0, none⟩ = some (.string s) ∧ w3.cell? ⟨b, 1, none⟩ = some (.slice B1 ws.length d1) ∧ w3.cell? ⟨b, 2, none⟩ = some (.slice B2 cs.length d2) from ⟨cellOfBlk K3.out 0, cellOfBlk K3.out 1, cellOfBlk K3.out 2⟩)
    go_wp2_with fail
    refine (specMagOk_any w.heap.size b w.heap.size b _ ⟨s, ws, cs⟩ (some ad) nn cc ms w3 F3.out (by omega) HS.out HML.out (by omega) M3.out (by omega)).mono ?_
    rintro e4 w4 ⟨rfl, hb4⟩
    clear b0 b1 b2
    have z4 : b < w4.heap.size := by have := hb4.size; omega
    have F4 := Lib.hid (F3.out.below (by omega) hb4); have K4 := Lib.hid (K3.out.below hb4 (by omega)); have M4 := Lib.hid (M3.out.below (by omega) hb4); have Q4 := Lib.hid (Q3.out.below (by omega) hb4); have T4 := Lib.hid (T3.out.trans (hb4.mono (by omega)))
    clear F3 K3 M3 Q3 T3 hb4
    cases hmb : magB ⟨s, ws, cs⟩ ms
    · go_wp2
      go_ret
      exact ⟨rfl, T4.out⟩
    by_cases h1 : ch < 0
    · go_wp2
      go_ret
      exact ⟨rfl, T4.out⟩
    by_cases h2 : (nn : Int) ≤ ch
    · go_wp2
      go_ret
      exact ⟨rfl, T4.out⟩
    by_cases h3 : i < 0
    · go_wp2
      go_ret
      exact ⟨rfl, T4.out⟩
    obtain ⟨q, rfl⟩ := Int.eq_ofNat_of_zero_le (by omega : 0 ≤ ch)
    obtain ⟨p, rfl⟩ := Int.eq_ofNat_of_zero_le (by omega : 0 ≤ i)
    have hqn : q < nn := by omega
    have hqi : (q : Int) < (nn : Int) := by omega
    obtain ⟨ad2, xs, Aj, cj, hA, hx, hcell, hcap, hcm, hI⟩ := M4.out.at_ (k := q) (by rw [HML.out]; omega)
    injection hA with hA
    subst hA
    obtain ⟨l, hl⟩ : ∃ y, xs.length = y := ⟨_, rfl⟩
    rw [hl] at hcell hcap
    have HL := Lib.hid hl
    have HIX := Lib.hid hI
    clear hI hl h1 h2 h3
    by_cases h4 : (l : Int) ≤ (p : Int)
    · go_wp2
      go_ret
      exact ⟨rfl, T4.out⟩
    by_cases h5 : t < 0
    · go_wp2
      go_ret
      exact ⟨rfl, T4.out⟩
    by_cases h6 : 6 < t
    · go_wp2
      go_ret
      exact ⟨rfl, T4.out⟩
    obtain ⟨tt, rfl⟩ := Int.eq_ofNat_of_zero_le (by omega : 0 ≤ t)
    have hpl : p < l := by omega
    have hpi : (p : Int) < (l : Int) := by omega
    obtain ⟨bd, z, rfl, hz, c1, c2⟩ := HIX.out.at_ (k := p) (by rw [HL.out]; exact hpl)
    obtain ⟨k1, k2⟩ := z
    simp only at c1 c2
    have hmr := magB_rows hmb
    have hzm := (hmr.2.2 xs (List.mem_of_getElem? hx.out)).2 (k1, k2) (List.mem_of_getElem? hz.out)
    have hset : setB k2 = true := by unfold matB at hzm; rw [Bool.and_eq_true, Bool.and_eq_true] at hzm; exact hzm.2.1
    unfold setB at hset
    obtain ⟨s0, s1⟩ := of_decide_eq_true hset
    have hbt : bt k2 tt = false := by
      have h := HOK.out
      have hrow : rowAt ms (q : Int) = xs := by unfold rowAt; rw [Int.toNat_natCast, List.getD, hx.out]; rfl
      have hzz : xs.getD (p : Int).toNat (0, 0) = (k1, k2) := by rw [Int.toNat_natCast, List.getD, hz.out]; rfl
      unfold wearOk at h
      rw [hmb, hrow, hzz, show inB (q : Int) 0 ((ms.length : Int) - 1) = true from by rw [inB_iff, HML.out]; omega, show inB (tt : Int) 0 6 = true from by rw [inB_iff]; omega, show inB (p : Int) 0 ((xs.length : Int) - 1) = true from by rw [inB_iff, HL.out]; omega, Int.toNat_natCast] at h
      simpa using h
    have hb0 : (bits .and .i64 (k2 / 2 ^ tt) 1 == 0) = true := by have := shr_zero (tt : Int) (by omega) (by omega) k2 s0 s1 (by rw [Int.toNat_natCast]; exact hbt); rwa [Int.toNat_natCast] at this
    clear hmr hzm hset hbt hx hz HIX h4
    go_wp2
    go_ret
    exact ⟨rfl, T4.out⟩
  · obtain ⟨q, p, tt, xs, ⟨k1, k2⟩, yy, rfl, rfl, rfl, htt, hq, hp, hLe, hy, hmag, s0, s1, y0, y1, k0, kl, hmag2, hki, hstr, hwo, hwf2⟩ := wear_all hok
    simp only at hy s0 s1 y0 y1 k0 kl hwo hLe
    obtain ⟨ms2, hms2⟩ : ∃ y, wearL ⟨s, ws, cs⟩ ms (q : Int) (p : Int) (tt : Int) = y := ⟨_, rfl⟩
    rw [hms2] at hO3 hLe hmag2 hki hstr hwo hwf2
    have hqn : q < nn := by have := (List.getElem?_eq_some_iff.1 hq).1; have := HML.out; omega
    have hpl : p < xs.length := (List.getElem?_eq_some_iff.1 hp).1
    have hl2 : ms2.length = nn := by rw [hLe, List.length_set]; exact HML.out
    have hq2 : ms2[q]? = some (xs.set p (k1, yy)) := by rw [hLe]; exact List.getElem?_set_self (by rw [HML.out]; exact hqn)
    have hp2 : (xs.set p (k1, yy))[p]? = some (k1, yy) := List.getElem?_set_self hpl
    obtain ⟨A9, c9, rfl, hnc9, hc9, -, hA9⟩ := hO3.form
    obtain ⟨ad9, rfl⟩ := hA9 (by omega)
    rw [hl2] at hnc9
    have N3 := Lib.hid (hO3.reads)
    rw [hl2]
    obtain ⟨lo, hlo⟩ : ∃ y, w2.heap.size = y := ⟨_, rfl⟩
    obtain ⟨h9, hh9⟩ : ∃ y, w3.heap.size = y := ⟨_, rfl⟩
    rw [hlo] at N3
    have N3 : Hid (MagI w3 lo h9 (some ad9) ms2) := by show MagI _ _ _ _ _; rw [← hh9]; exact N3.out
    have hz9 : h9 ≤ w3.heap.size := by omega
    obtain ⟨kn, rfl⟩ := Int.eq_ofNat_of_zero_le k0
    have hkn : kn < cs.length := by omega
    obtain ⟨l, hl⟩ : ∃ y, xs.length = y := ⟨_, rfl⟩
    have hl3 : (xs.set p ((kn : Int), yy)).length = l := by rw [List.length_set]; exact hl
    obtain ⟨ys, hys⟩ : ∃ y, xs.set p ((kn : Int), yy) = y := ⟨_, rfl⟩
    rw [hys] at hq2 hp2 hl3
    rw [hl] at hpl
    have HQ := Lib.hid hq; have HP := Lib.hid hp; have HQ2 := Lib.hid hq2; have HP2 := Lib.hid hp2; have HL := Lib.hid hl; have HL2 := Lib.hid hl2; have HL3 := Lib.hid hl3; have HKI := Lib.hid hki; have HSR := Lib.hid hstr; have HWO := Lib.hid hwo; have HW2 := Lib.hid hwf2; have HY := Lib.hid hy
    clear hq hp hLe hmag hmag2 hki hstr hwo hwf2 hms2 hl2 hq2 hp2 hO3 hlo hh9 hok hl hl3 hys hy k0
    have zq3 : h9 ≤ w3.heap.size := hz9
    obtain ⟨ad2, xs2, Aj, cj, hA, hx, hcell, -, -, hI⟩ := M3.out.at_ (k := q) (by rw [HML.out]; exact hqn)
    injection hA with hA
    subst hA
    obtain rfl : xs = xs2 := by have h := HQ.out; rw [hx.out] at h; injection h with h; exact h.symm
    rw [HL.out] at hcell
    obtain ⟨ad3, ys2, Ak, ck, hA, hx2, hcell2, -, -, hI2⟩ := N3.out.at_ (k := q) (by rw [HL2.out]; exact hqn)
    injection hA with hA
    subst hA
    obtain rfl : ys = ys2 := by have h := HQ2.out; rw [hx2.out] at h; injection h with h; exact h.symm
    rw [HL3.out] at hcell2
    have HI := Lib.hid hI; have HI2 := Lib.hid hI2
    clear hx hx2 hI hI2
    have hqi : (q : Int) < (nn : Int) := by omega
    have hpi : (p : Int) < (l : Int) := by omega
    go_wp2_with fail
    refine wp_region_plan (.take 0 (.take 1 (.take 2 (.take 3 (.take 4 (.take 5 (.take 6 (.take 7 (.take 8 (.take 9 (.take 10 (.take 11 (.take 12 (.take 13 (.take 14 (.take 15 (.take 16 (.take 17 (.take 18 (.take 19 (.take 20 (.take 22 (.take 23 (.one 21 (.one 24 (.one 25 (.take 26 (.take 27 (.take 28 (.take 29 (.take 30 (.take 32 (.take 33 (.one 31 (.one 34 (.take 35 (.take 36 .done))))))))))))))))))))))))))))))))))))) (fun w' => w'.cell? ⟨b, 0, none⟩ = some (.string s) ∧ w'.cell? ⟨b, 1, none⟩ = some (.slice B1 ws.length d1) ∧ w'.cell? ⟨b, 2, none⟩ = some (.slice B2 cs.length d2) ∧ w'.cell? (ad.add q) = some (.slice Aj l cj) ∧ w'.cell? (ad9.add q) = some (.slice Ak l ck)) (by kernel_rfl) (by kernel_rfl) (by kernel_rfl) (by intro c a d v w h; cases d <;> exact h) ⟨cellOfBlk K3.out 0, cellOfBlk K3.out 1, cellOfBlk K3.out 2, hcell, hcell2⟩ ?_
    replace hcell : w3.drew.cell? (ad.add q) = some (.slice Aj l cj) := hcell
    replace hcell2 : w3.drew.cell? (ad9.add q) = some (.slice Ak l ck) := hcell2
    have HIr : Hid (MatsI w3.drew w.heap.size b Aj xs) := HI; have HI2r : Hid (MatsI w3.drew lo h9 Ak ys) := HI2
    clear HI HI2
    obtain ⟨w4, hwd⟩ : ∃ x, w3.drew = x := ⟨_, rfl⟩
    have F4 : Hid (FontV w4 w.heap.size b (.agg #[.string s, .slice B1 ws.length d1, .slice B2 cs.length d2]) ⟨s, ws, cs⟩) := by show FontV w4 w.heap.size b (.agg #[.string s, .slice B1 ws.length d1, .slice B2 cs.length d2]) ⟨s, ws, cs⟩; rw [← hwd]; exact F3.out
    have K4 : Hid (Blk w4 b #[.string s, .slice B1 ws.length d1, .slice B2 cs.length d2] 25) := by show Blk w4 b #[.string s, .slice B1 ws.length d1, .slice B2 cs.length d2] 25; rw [← hwd]; exact K3.out
    have M4 : Hid (MagI w4 w.heap.size b (some ad) ms) := by show MagI w4 w.heap.size b (some ad) ms; rw [← hwd]; exact M3.out
    have Q4 : Hid (IntsI w4 w.heap.size b B2 cs) := by show IntsI w4 w.heap.size b B2 cs; rw [← hwd]; exact Q3.out
    have T4 : Hid (Below w.heap.size w w4) := by show Below w.heap.size w w4; rw [← hwd]; exact T3.out.drew
    have N4 : Hid (MagI w4 lo h9 (some ad9) ms2) := by show MagI w4 lo h9 (some ad9) ms2; rw [← hwd]; exact N3.out
    have z4 : b < w4.heap.size := by rw [← hwd]; exact z3
    have zq4 : h9 ≤ w4.heap.size := by rw [← hwd]; exact zq3
    rw [hwd] at hcell hcell2 HIr HI2r ⊢
    have I4 := HIr; have J4 := HI2r
    clear hwd HIr HI2r F3 K3 M3 Q3 T3 N3 z3
    refine plan_quiet rfl (by rfl) (v := ?_) ?_ ?_; rotate_left; (intro w1 hSw; obtain ⟨h0, h1, h2, h3, h4⟩ := hSw; go_simp; try (with_reducible rfl)); (try simp only [Act.put, List.setIfInBounds_toArray, List.set_cons_zero, List.set_cons_succ])
    refine plan_quiet rfl (by rfl) (v := ?_) ?_ ?_; rotate_left; (intro w1 hSw; obtain ⟨h0, h1, h2, h3, h4⟩ := hSw; go_simp; try (with_reducible rfl)); (try simp only [Act.put, List.setIfInBounds_toArray, List.set_cons_zero, List.set_cons_succ])
    refine plan_quiet rfl (by rfl) (v := ?_) ?_ ?_; rotate_left; (intro w1 hSw; obtain ⟨h0, h1, h2, h3, h4⟩ := hSw; go_simp; try (with_reducible rfl)); (try simp only [Act.put, List.setIfInBounds_toArray, List.set_cons_zero, List.set_cons_succ])
    refine plan_quiet rfl (by rfl) (v := ?_) ?_ ?_; rotate_left; (intro w1 hSw; obtain ⟨h0, h1, h2, h3, h4⟩ := hSw; go_simp; try (with_reducible rfl)); (try simp only [Act.put, List.setIfInBounds_toArray, List.set_cons_zero, List.set_cons_succ])
    refine plan_quiet rfl (by rfl) (v := ?_) ?_ ?_; rotate_left; (intro w1 hSw; obtain ⟨h0, h1, h2, h3, h4⟩ := hSw; go_simp; try (with_reducible rfl)); (try simp only [Act.put, List.setIfInBounds_toArray, List.set_cons_zero, List.set_cons_succ])
    refine plan_quiet rfl (by rfl) (v := ?_) ?_ ?_; rotate_left; (intro w1 hSw; obtain ⟨h0, h1, h2, h3, h4⟩ := hSw; go_simp; try (with_reducible rfl)); (try simp only [Act.put, List.setIfInBounds_toArray, List.set_cons_zero, List.set_cons_succ])
    refine plan_quiet rfl (by rfl) (v := ?_) ?_ ?_; rotate_left; (intro w1 hSw; obtain ⟨h0, h1, h2, h3, h4⟩ := hSw; go_simp; try (with_reducible rfl)); (try simp only [Act.put, List.setIfInBounds_toArray, List.set_cons_zero, List.set_cons_succ])
    refine plan_quiet rfl (by rfl) (v := ?_) ?_ ?_; rotate_left; (intro w1 hSw; obtain ⟨h0, h1, h2, h3, h4⟩ := hSw; go_simp; try (with_reducible rfl)); (try simp only [Act.put, List.setIfInBounds_toArray, List.set_cons_zero, List.set_cons_succ])
    refine plan_quiet rfl (by rfl) (v := ?_) ?_ ?_; rotate_left; (intro w1 hSw; obtain ⟨h0, h1, h2, h3, h4⟩ := hSw; go_simp; try (with_reducible rfl)); (try simp only [Act.put, List.setIfInBounds_toArray, List.set_cons_zero, List.set_cons_succ])
    refine plan_quiet rfl (by rfl) (v := ?_) ?_ ?_; rotate_left; (intro w1 hSw; obtain ⟨h0, h1, h2, h3, h4⟩ := hSw; go_simp; try (with_reducible rfl)); (try simp only [Act.put, List.setIfInBounds_toArray, List.set_cons_zero, List.set_cons_succ])
    refine plan_quiet rfl (by rfl) (v := ?_) ?_ ?_; rotate_left; (intro w1 hSw; obtain ⟨h0, h1, h2, h3, h4⟩ := hSw; go_simp; try (with_reducible rfl)); (try simp only [Act.put, List.setIfInBounds_toArray, List.set_cons_zero, List.set_cons_succ])
    refine plan_quiet rfl (by rfl) (v := ?_) ?_ ?_; rotate_left; (intro w1 hSw; obtain ⟨h0, h1, h2, h3, h4⟩ := hSw; go_simp; try (with_reducible rfl)); (try simp only [Act.put, List.setIfInBounds_toArray, List.set_cons_zero, List.set_cons_succ])
    refine plan_quiet rfl (by rfl) (v := ?_) ?_ ?_; rotate_left; (intro w1 hSw; obtain ⟨h0, h1, h2, h3, h4⟩ := hSw; go_simp; try (with_reducible rfl)); (try simp only [Act.put, List.setIfInBounds_toArray, List.set_cons_zero, List.set_cons_succ])
    refine plan_quiet rfl (by rfl) (v := ?_) ?_ ?_; rotate_left; (intro w1 hSw; obtain ⟨h0, h1, h2, h3, h4⟩ := hSw; go_simp; try (with_reducible rfl)); (try simp only [Act.put, List.setIfInBounds_toArray, List.set_cons_zero, List.set_cons_succ])
    refine plan_quiet rfl (by rfl) (v := ?_) ?_ ?_; rotate_left; (intro w1 hSw; obtain ⟨h0, h1, h2, h3, h4⟩ := hSw; go_simp; try (with_reducible rfl)); (try simp only [Act.put, List.setIfInBounds_toArray, List.set_cons_zero, List.set_cons_succ])
    refine plan_quiet rfl (by rfl) (v := ?_) ?_ ?_; rotate_left; (intro w1 hSw; obtain ⟨h0, h1, h2, h3, h4⟩ := hSw; go_simp; try (with_reducible rfl)); (try simp only [Act.put, List.setIfInBounds_toArray, List.set_cons_zero, List.set_cons_succ])
    refine plan_quiet rfl (by rfl) (v := ?_) ?_ ?_; rotate_left; (intro w1 hSw; obtain ⟨h0, h1, h2, h3, h4⟩ := hSw; go_simp; try (with_reducible rfl)); (try simp only [Act.put, List.setIfInBounds_toArray, List.set_cons_zero, List.set_cons_succ])
    refine plan_quiet rfl (by rfl) (v := ?_) ?_ ?_; rotate_left; (intro w1 hSw; obtain ⟨h0, h1, h2, h3, h4⟩ := hSw; go_simp; try (with_reducible rfl)); (try simp only [Act.put, List.setIfInBounds_toArray, List.set_cons_zero, List.set_cons_succ])
    refine plan_quiet rfl (by rfl) (v := ?_) ?_ ?_; rotate_left; (intro w1 hSw; obtain ⟨h0, h1, h2, h3, h4⟩ := hSw; go_simp; try (with_reducible rfl)); (try simp only [Act.put, List.setIfInBounds_toArray, List.set_cons_zero, List.set_cons_succ])
    refine plan_quiet rfl (by rfl) (v := ?_) ?_ ?_; rotate_left; (intro w1 hSw; obtain ⟨h0, h1, h2, h3, h4⟩ := hSw; go_simp; try (with_reducible rfl)); (try simp only [Act.put, List.setIfInBounds_toArray, List.set_cons_zero, List.set_cons_succ])
    refine plan_quiet rfl (by rfl) (v := ?_) ?_ ?_; rotate_left; (intro w1 hSw; obtain ⟨h0, h1, h2, h3, h4⟩ := hSw; go_simp; try (with_reducible rfl)); (try simp only [Act.put, List.setIfInBounds_toArray, List.set_cons_zero, List.set_cons_succ])
    refine plan_quiet rfl (by rfl) (v := ?_) ?_ ?_; rotate_left; (intro w1 hSw; obtain ⟨h0, h1, h2, h3, h4⟩ := hSw; go_simp; try (with_reducible rfl)); (try simp only [Act.put, List.setIfInBounds_toArray, List.set_cons_zero, List.set_cons_succ])
    refine plan_quiet rfl (by rfl) (v := ?_) ?_ ?_; rotate_left; (intro w1 hSw; obtain ⟨h0, h1, h2, h3, h4⟩ := hSw; go_simp; try (with_reducible rfl)); (try simp only [Act.put, List.setIfInBounds_toArray, List.set_cons_zero, List.set_cons_succ])
    refine plan_step rfl (fun Kc hK => ?_)
    rw [if_pos (by rfl)]
    go_simp
    refine (implKind_any w.heap.size b lo h9 _ ⟨s, ws, cs⟩ (some ad9) nn c9 ms2 w4 F4.out (by omega) HS.out HL2.out (by omega) N4.out zq4 HW2.out).mono ?_
    rintro e5 w5 ⟨u5, rfl, hO5, hb5⟩
    obtain ⟨A5, c5, rfl, hI5, -, hc5, hcm5⟩ := hO5.form
    rw [HKI.out] at hI5 hc5 ⊢
    obtain ⟨kl2, hkl⟩ : ∃ y, (kindL ⟨s, ws, cs⟩ ms).length = y := ⟨_, rfl⟩
    rw [hkl] at hc5 ⊢
    have HKL := Lib.hid hkl
    clear hkl hO5
    have hcellx := (hb5.cell (World.block_lt_of_cell? _ _ hcell)).trans hcell
    have hcelly := (hb5.cell (World.block_lt_of_cell? _ _ hcell2)).trans hcell2
    clear hcell hcell2
    have hcell := hcellx; have hcell2 := hcelly
    clear hcellx hcelly
    have zq5 : h9 ≤ w5.heap.size := by have := hb5.size; omega
    have z5 : b < w5.heap.size := by have := hb5.size; omega
    have F5 := Lib.hid (F4.out.below (by omega) hb5); have K5 := Lib.hid (K4.out.below hb5 (by omega)); have M5 := Lib.hid (M4.out.below (by omega) hb5); have Q5 := Lib.hid (Q4.out.below (by omega) hb5); have T5 := Lib.hid (T4.out.trans (hb5.mono (by omega)))
    have N5 := Lib.hid (N4.out.below zq4 hb5)
    have I5 := Lib.hid (I4.out.below (by omega) hb5)
    have J5 := Lib.hid (J4.out.below zq4 hb5)
    clear F4 K4 M4 Q4 T4 N4 I4 J4 hb5
    have V5 := Lib.hid hI5
    clear hI5
    refine hK.out _ _ ⟨cellOfBlk K5.out 0, cellOfBlk K5.out 1, cellOfBlk K5.out 2, hcell, hcell2⟩ ?_
    clear hK Kc
    refine plan_step rfl (fun Kc hK => ?_)
    rw [if_pos (by rfl)]
    go_simp
    refine (implKind_any w.heap.size b w.heap.size b _ ⟨s, ws, cs⟩ (some ad) nn cc ms w5 F5.out (by omega) HS.out HML.out (by omega) M5.out (by omega) HWF.out).mono ?_
    rintro e6 w6 ⟨u6, rfl, hO6, hb6⟩
    obtain ⟨A6, c6, rfl, hI6, -, hc6, hcm6⟩ := hO6.form
    rw [HKL.out] at hc6 ⊢
    clear hO6
    have hcellx := (hb6.cell (World.block_lt_of_cell? _ _ hcell)).trans hcell
    have hcelly := (hb6.cell (World.block_lt_of_cell? _ _ hcell2)).trans hcell2
    clear hcell hcell2
    have hcell := hcellx; have hcell2 := hcelly
    clear hcellx hcelly
    have zq6 : h9 ≤ w6.heap.size := by have := hb6.size; omega
    have z6 : b < w6.heap.size := by have := hb6.size; omega
    have F6 := Lib.hid (F5.out.below (by omega) hb6); have K6 := Lib.hid (K5.out.below hb6 (by omega)); have M6 := Lib.hid (M5.out.below (by omega) hb6); have Q6 := Lib.hid (Q5.out.below (by omega) hb6); have T6 := Lib.hid (T5.out.trans (hb6.mono (by omega)))
    have N6 := Lib.hid (N5.out.below zq5 hb6)
    have I6 := Lib.hid (I5.out.below (by omega) hb6)
    have J6 := Lib.hid (J5.out.below zq5 hb6)
    have V6 := Lib.hid (V5.out.below hb6)
    clear F5 K5 M5 Q5 T5 N5 I5 J5 V5 hb6
    have U6 := Lib.hid hI6
    clear hI6
    refine hK.out _ _ ⟨cellOfBlk K6.out 0, cellOfBlk K6.out 1, cellOfBlk K6.out 2, hcell, hcell2⟩ ?_
    clear hK Kc
    refine plan_step rfl (fun Kc hK => ?_)
    rw [if_pos (by rfl)]
    go_simp
    have hkm : kl2 ≤ maxLen := by omega
    refine (lawInts_any A5 A6 kl2 c5 kl2 c6 _ _ w6 HKL.out HKL.out hkm hkm V6.out U6.out).mono ?_
    rintro e7 w7 ⟨dk, rfl, rfl⟩
    rw [decide_eq_true rfl]
    obtain ⟨w7, hwd⟩ : ∃ x, w6.drewN dk = x := ⟨_, rfl⟩
    have F7 : Hid (FontV w7 w.heap.size b (.agg #[.string s, .slice B1 ws.length d1, .slice B2 cs.length d2]) ⟨s, ws, cs⟩) := by show FontV w7 w.heap.size b (.agg #[.string s, .slice B1 ws.length d1, .slice B2 cs.length d2]) ⟨s, ws, cs⟩; rw [← hwd]; exact F6.out
    have K7 : Hid (Blk w7 b #[.string s, .slice B1 ws.length d1, .slice B2 cs.length d2] 25) := by show Blk w7 b #[.string s, .slice B1 ws.length d1, .slice B2 cs.length d2] 25; rw [← hwd]; exact K6.out
    have M7 : Hid (MagI w7 w.heap.size b (some ad) ms) := by show MagI w7 w.heap.size b (some ad) ms; rw [← hwd]; exact M6.out
    have Q7 : Hid (IntsI w7 w.heap.size b B2 cs) := by show IntsI w7 w.heap.size b B2 cs; rw [← hwd]; exact Q6.out
    have T7 : Hid (Below w.heap.size w w7) := by show Below w.heap.size w w7; rw [← hwd]; exact below_drewN T6.out dk
    have N7 : Hid (MagI w7 lo h9 (some ad9) ms2) := by show MagI w7 lo h9 (some ad9) ms2; rw [← hwd]; exact N6.out
    have I7 : Hid (MatsI w7 w.heap.size b Aj xs) := by show MatsI w7 w.heap.size b Aj xs; rw [← hwd]; exact I6.out
    have J7 : Hid (MatsI w7 lo h9 Ak ys) := by show MatsI w7 lo h9 Ak ys; rw [← hwd]; exact J6.out
    have V7 : Hid (Ints w7 A5 (kindL ⟨s, ws, cs⟩ ms)) := by show Ints w7 A5 (kindL ⟨s, ws, cs⟩ ms); rw [← hwd]; exact V6.out
    have U7 : Hid (Ints w7 A6 (kindL ⟨s, ws, cs⟩ ms)) := by show Ints w7 A6 (kindL ⟨s, ws, cs⟩ ms); rw [← hwd]; exact U6.out
    have z7 : b < w7.heap.size := by rw [← hwd]; exact z6
    have zq7 : h9 ≤ w7.heap.size := by rw [← hwd]; exact zq6
    replace hcell : w7.cell? (ad.add q) = some (.slice Aj l cj) := by rw [← hwd]; exact hcell
    replace hcell2 : w7.cell? (ad9.add q) = some (.slice Ak l ck) := by rw [← hwd]; exact hcell2
    rw [hwd]
    clear hwd F6 K6 M6 Q6 T6 N6 I6 J6 V6 U6
    refine hK.out _ _ ⟨cellOfBlk K7.out 0, cellOfBlk K7.out 1, cellOfBlk K7.out 2, hcell, hcell2⟩ ?_
    clear hK Kc
    refine plan_quiet rfl (by rfl) (v := ?_) ?_ ?_; rotate_left; (intro w1 hSw; obtain ⟨h0, h1, h2, h3, h4⟩ := hSw; go_simp; try (with_reducible rfl)); (try simp only [Act.put, List.setIfInBounds_toArray, List.set_cons_zero, List.set_cons_succ])
    refine plan_quiet rfl (by rfl) (v := ?_) ?_ ?_; rotate_left; (intro w1 hSw; obtain ⟨h0, h1, h2, h3, h4⟩ := hSw; go_simp; try (with_reducible rfl)); (try simp only [Act.put, List.setIfInBounds_toArray, List.set_cons_zero, List.set_cons_succ])
    refine plan_quiet rfl (by rfl) (v := ?_) ?_ ?_; rotate_left; (intro w1 hSw; obtain ⟨h0, h1, h2, h3, h4⟩ := hSw; go_simp; try (with_reducible rfl)); (try simp only [Act.put, List.setIfInBounds_toArray, List.set_cons_zero, List.set_cons_succ])
    refine plan_quiet rfl (by rfl) (v := ?_) ?_ ?_; rotate_left; (intro w1 hSw; obtain ⟨h0, h1, h2, h3, h4⟩ := hSw; go_simp; try (with_reducible rfl)); (try simp only [Act.put, List.setIfInBounds_toArray, List.set_cons_zero, List.set_cons_succ])
    refine plan_quiet rfl (by rfl) (v := ?_) ?_ ?_; rotate_left; (intro w1 hSw; obtain ⟨h0, h1, h2, h3, h4⟩ := hSw; go_simp; try (with_reducible rfl)); (try simp only [Act.put, List.setIfInBounds_toArray, List.set_cons_zero, List.set_cons_succ])
    refine plan_quiet rfl (by rfl) (v := ?_) ?_ ?_; rotate_left; (intro w1 hSw; obtain ⟨h0, h1, h2, h3, h4⟩ := hSw; go_simp; try (with_reducible rfl)); (try simp only [Act.put, List.setIfInBounds_toArray, List.set_cons_zero, List.set_cons_succ])
    refine plan_quiet rfl (by rfl) (v := ?_) ?_ ?_; rotate_left; (intro w1 hSw; obtain ⟨h0, h1, h2, h3, h4⟩ := hSw; go_simp; try (with_reducible rfl)); (try simp only [Act.put, List.setIfInBounds_toArray, List.set_cons_zero, List.set_cons_succ])
    refine plan_step rfl (fun Kc hK => ?_)
    rw [if_pos (by rfl)]
    go_simp
    refine (implStrays_any w.heap.size b lo h9 _ ⟨s, ws, cs⟩ (some ad9) nn c9 ms2 w7 F7.out (by omega) HS.out HL2.out (by omega) N7.out zq7 HW2.out).mono ?_
    rintro e8 w8 ⟨rfl, hb8⟩
    rw [HSR.out]
    have hcellx := (hb8.cell (World.block_lt_of_cell? _ _ hcell)).trans hcell
    have hcelly := (hb8.cell (World.block_lt_of_cell? _ _ hcell2)).trans hcell2
    clear hcell hcell2
    have hcell := hcellx; have hcell2 := hcelly
    clear hcellx hcelly
    have zq8 : h9 ≤ w8.heap.size := by have := hb8.size; omega
    have z8 : b < w8.heap.size := by have := hb8.size; omega
    have F8 := Lib.hid (F7.out.below (by omega) hb8); have K8 := Lib.hid (K7.out.below hb8 (by omega)); have M8 := Lib.hid (M7.out.below (by omega) hb8); have Q8 := Lib.hid (Q7.out.below (by omega) hb8); have T8 := Lib.hid (T7.out.trans (hb8.mono (by omega)))
    have N8 := Lib.hid (N7.out.below zq7 hb8)
    have I8 := Lib.hid (I7.out.below (by omega) hb8)
    have J8 := Lib.hid (J7.out.below zq7 hb8)
    have V8 := Lib.hid (V7.out.below hb8)
    have U8 := Lib.hid (U7.out.below hb8)
    clear F7 K7 M7 Q7 T7 N7 I7 J7 V7 U7 hb8
    refine hK.out _ _ ⟨cellOfBlk K8.out 0, cellOfBlk K8.out 1, cellOfBlk K8.out 2, hcell, hcell2⟩ ?_
    clear hK Kc
    refine plan_step rfl (fun Kc hK => ?_)
    rw [if_pos (by rfl)]
    go_simp
    refine (implStrays_any w.heap.size b w.heap.size b _ ⟨s, ws, cs⟩ (some ad) nn cc ms w8 F8.out (by omega) HS.out HML.out (by omega) M8.out (by omega) HWF.out).mono ?_
    rintro e9 w9 ⟨rfl, hb9⟩
    have hcellx := (hb9.cell (World.block_lt_of_cell? _ _ hcell)).trans hcell
    have hcelly := (hb9.cell (World.block_lt_of_cell? _ _ hcell2)).trans hcell2
    clear hcell hcell2
    have hcell := hcellx; have hcell2 := hcelly
    clear hcellx hcelly
    have zq9 : h9 ≤ w9.heap.size := by have := hb9.size; omega
    have z9 : b < w9.heap.size := by have := hb9.size; omega
    have F9 := Lib.hid (F8.out.below (by omega) hb9); have K9 := Lib.hid (K8.out.below hb9 (by omega)); have M9 := Lib.hid (M8.out.below (by omega) hb9); have Q9 := Lib.hid (Q8.out.below (by omega) hb9); have T9 := Lib.hid (T8.out.trans (hb9.mono (by omega)))
    have N9 := Lib.hid (N8.out.below zq8 hb9)
    have I9 := Lib.hid (I8.out.below (by omega) hb9)
    have J9 := Lib.hid (J8.out.below zq8 hb9)
    have V9 := Lib.hid (V8.out.below hb9)
    have U9 := Lib.hid (U8.out.below hb9)
    clear F8 K8 M8 Q8 T8 N8 I8 J8 V8 U8 hb9
    refine hK.out _ _ ⟨cellOfBlk K9.out 0, cellOfBlk K9.out 1, cellOfBlk K9.out 2, hcell, hcell2⟩ ?_
    clear hK Kc
    refine plan_quiet rfl (by rfl) (v := ?_) ?_ ?_; rotate_left; (intro w1 hSw; obtain ⟨h0, h1, h2, h3, h4⟩ := hSw; go_simp; try (with_reducible rfl)); (try simp only [Act.put, List.setIfInBounds_toArray, List.set_cons_zero, List.set_cons_succ])
    refine plan_quiet rfl (by rfl) (v := ?_) ?_ ?_; rotate_left; (intro w1 hSw; obtain ⟨h0, h1, h2, h3, h4⟩ := hSw; go_simp; try (with_reducible rfl)); (try simp only [Act.put, List.setIfInBounds_toArray, List.set_cons_zero, List.set_cons_succ])
    refine plan_end ?_
    obtain ⟨bd, z, rfl, hz, c1, c2⟩ := I9.out.at_ (k := p) (by rw [HL.out]; exact hpl)
    obtain rfl : ((kn : Int), k2) = z := by have h := HP.out; rw [hz.out] at h; injection h with h; exact h.symm
    obtain ⟨bd9, z9, rfl, hz9, c3, c4⟩ := J9.out.at_ (k := p) (by rw [HL3.out]; exact hpl)
    obtain rfl : ((kn : Int), yy) = z9 := by have h := HP2.out; rw [hz9.out] at h; injection h with h; exact h.symm
    simp only at c1 c2 c3 c4
    clear hz hz9
    go_upto_region 10 with fail
    obtain ⟨w10, hw10, hb10, hz10, hX10⟩ := mxWorld w9 #[.int .i64 (kn : Int), .int .i64 k2] 34
    obtain ⟨Xb, hnb⟩ : ∃ y, w9.heap.size = y := ⟨_, rfl⟩
    rw [hw10, hnb]
    rw [hnb] at hX10 hz10
    have hXb : b < Xb := by omega
    have Xz10 : Xb < w10.heap.size := by omega
    clear hw10 hnb hz10
    replace hcell := (hb10.cell (World.block_lt_of_cell? _ _ hcell)).trans hcell
    replace hcell2 := (hb10.cell (World.block_lt_of_cell? _ _ hcell2)).trans hcell2
    replace c1 := (hb10.cell (World.block_lt_of_cell? _ _ c1)).trans c1
    replace c2 := (hb10.cell (World.block_lt_of_cell? _ _ c2)).trans c2
    replace c3 := (hb10.cell (World.block_lt_of_cell? _ _ c3)).trans c3
    replace c4 := (hb10.cell (World.block_lt_of_cell? _ _ c4)).trans c4
    have zq10 : h9 ≤ w10.heap.size := by have := hb10.size; omega
    have z10 : b < w10.heap.size := by have := hb10.size; omega
    have F10 := Lib.hid (F9.out.below (by omega) hb10); have K10 := Lib.hid (K9.out.below hb10 (by omega)); have M10 := Lib.hid (M9.out.below (by omega) hb10); have Q10 := Lib.hid (Q9.out.below (by omega) hb10); have T10 := Lib.hid (T9.out.trans (hb10.mono (by omega)))
    have N10 := Lib.hid (N9.out.below zq9 hb10)
    have I10 := Lib.hid (I9.out.below (by omega) hb10)
    have J10 := Lib.hid (J9.out.below zq9 hb10)
    have V10 := Lib.hid (V9.out.below hb10)
    have U10 := Lib.hid (U9.out.below hb10)
    clear F9 K9 M9 Q9 T9 N9 I9 J9 V9 U9 hb10
    have X10 := Lib.hid hX10
    clear hX10
    go_upto_region 11 with fail
    obtain ⟨w11, hw11, hb11, hz11, hX11⟩ := mxWorld w10 #[.int .i64 (kn : Int), .int .i64 yy] 34
    obtain ⟨Yb, hnb⟩ : ∃ y, w10.heap.size = y := ⟨_, rfl⟩
    rw [hw11, hnb]
    rw [hnb] at hX11 hz11
    have hYb : b < Yb := by omega
    have hxb : Xb < Yb := by omega
    have Yz11 : Yb < w11.heap.size := by omega
    clear hw11 hnb hz11
    replace hcell := (hb11.cell (World.block_lt_of_cell? _ _ hcell)).trans hcell
    replace hcell2 := (hb11.cell (World.block_lt_of_cell? _ _ hcell2)).trans hcell2
    replace c1 := (hb11.cell (World.block_lt_of_cell? _ _ c1)).trans c1
    replace c2 := (hb11.cell (World.block_lt_of_cell? _ _ c2)).trans c2
    replace c3 := (hb11.cell (World.block_lt_of_cell? _ _ c3)).trans c3
    replace c4 := (hb11.cell (World.block_lt_of_cell? _ _ c4)).trans c4
    have zq11 : h9 ≤ w11.heap.size := by have := hb11.size; omega
    have z11 : b < w11.heap.size := by have := hb11.size; omega
    have F11 := Lib.hid (F10.out.below (by omega) hb11); have K11 := Lib.hid (K10.out.below hb11 (by omega)); have M11 := Lib.hid (M10.out.below (by omega) hb11); have Q11 := Lib.hid (Q10.out.below (by omega) hb11); have T11 := Lib.hid (T10.out.trans (hb11.mono (by omega)))
    have N11 := Lib.hid (N10.out.below zq10 hb11)
    have I11 := Lib.hid (I10.out.below (by omega) hb11)
    have J11 := Lib.hid (J10.out.below zq10 hb11)
    have V11 := Lib.hid (V10.out.below hb11)
    have U11 := Lib.hid (U10.out.below hb11)
    have X11 := Lib.hid (X10.out.below hb11 X10.out.lt)
    clear F10 K10 M10 Q10 T10 N10 I10 J10 V10 U10 X10 hb11
    have Y11 := Lib.hid hX11
    clear hX11
    clear hcell hcell2 c1 c2 c3 c4
    obtain ⟨ad5, cv, hA, hcv, hcc5⟩ := (Q11.out.ints).at_ (k := kn) hkn
    subst hA
    have hgd : cs.getD kn 0 = cv := by rw [List.getD, hcv.out]; rfl
    have HGD := Lib.hid hgd
    clear hgd hcv
    go_upto_region 12 with fail
    refine wp_region_plan (.take 0 (.take 1 (.take 2 (.take 3 (.take 4 (.take 5 (.take 6 (.take 7 (.take 8 .done))))))))) (fun w' => w'.cell? ⟨b, 0, none⟩ = some (.string s) ∧ w'.cell? ⟨b, 1, none⟩ = some (.slice B1 ws.length d1) ∧ w'.cell? ⟨b, 2, none⟩ = some (.slice (some ad5) cs.length d2) ∧ w'.cell? ⟨Xb, 0, none⟩ = some (.int .i64 (kn : Int)) ∧ w'.cell? ⟨Xb, 1, none⟩ = some (.int .i64 k2) ∧ w'.cell? (ad5.add kn) = some (.int .i64 cv)) (by kernel_rfl) (by kernel_rfl) (by kernel_rfl) (by intro c a d v w h; cases d <;> exact h) ⟨cellOfBlk K11.out 0, cellOfBlk K11.out 1, cellOfBlk K11.out 2, cellOfBlk X11.out 0, cellOfBlk X11.out 1, hcc5⟩ ?_
    clear hcc5
    obtain ⟨w12, hwd⟩ : ∃ x, w11.drew = x := ⟨_, rfl⟩
    have F12 : Hid (FontV w12 w.heap.size b (.agg #[.string s, .slice B1 ws.length d1, .slice (some ad5) cs.length d2]) ⟨s, ws, cs⟩) := by show FontV w12 w.heap.size b (.agg #[.string s, .slice B1 ws.length d1, .slice (some ad5) cs.length d2]) ⟨s, ws, cs⟩; rw [← hwd]; exact F11.out
    have K12 : Hid (Blk w12 b #[.string s, .slice B1 ws.length d1, .slice (some ad5) cs.length d2] 25) := by show Blk w12 b #[.string s, .slice B1 ws.length d1, .slice (some ad5) cs.length d2] 25; rw [← hwd]; exact K11.out
    have M12 : Hid (MagI w12 w.heap.size b (some ad) ms) := by show MagI w12 w.heap.size b (some ad) ms; rw [← hwd]; exact M11.out
    have Q12 : Hid (IntsI w12 w.heap.size b (some ad5) cs) := by show IntsI w12 w.heap.size b (some ad5) cs; rw [← hwd]; exact Q11.out
    have T12 : Hid (Below w.heap.size w w12) := by show Below w.heap.size w w12; rw [← hwd]; exact T11.out.drew
    have N12 : Hid (MagI w12 lo h9 (some ad9) ms2) := by show MagI w12 lo h9 (some ad9) ms2; rw [← hwd]; exact N11.out
    have I12 : Hid (MatsI w12 w.heap.size b (some bd) xs) := by show MatsI w12 w.heap.size b (some bd) xs; rw [← hwd]; exact I11.out
    have J12 : Hid (MatsI w12 lo h9 (some bd9) ys) := by show MatsI w12 lo h9 (some bd9) ys; rw [← hwd]; exact J11.out
    have V12 : Hid (Ints w12 A5 (kindL ⟨s, ws, cs⟩ ms)) := by show Ints w12 A5 (kindL ⟨s, ws, cs⟩ ms); rw [← hwd]; exact V11.out
    have U12 : Hid (Ints w12 A6 (kindL ⟨s, ws, cs⟩ ms)) := by show Ints w12 A6 (kindL ⟨s, ws, cs⟩ ms); rw [← hwd]; exact U11.out
    have X12 : Hid (Blk w12 Xb #[.int .i64 (kn : Int), .int .i64 k2] 34) := by show Blk w12 Xb #[.int .i64 (kn : Int), .int .i64 k2] 34; rw [← hwd]; exact X11.out
    have Y12 : Hid (Blk w12 Yb #[.int .i64 (kn : Int), .int .i64 yy] 34) := by show Blk w12 Yb #[.int .i64 (kn : Int), .int .i64 yy] 34; rw [← hwd]; exact Y11.out
    have z12 : b < w12.heap.size := by rw [← hwd]; exact z11
    have zq12 : h9 ≤ w12.heap.size := by rw [← hwd]; exact zq11
    rw [hwd]
    clear hwd F11 K11 M11 Q11 T11 N11 I11 J11 V11 U11 X11 Y11
    refine plan_quiet rfl (by rfl) (v := ?_) ?_ ?_; rotate_left; (intro w1 hSw; obtain ⟨h0, h1, h2, h3, h4, h5⟩ := hSw; go_simp; try (with_reducible rfl)); (try simp only [Act.put, List.setIfInBounds_toArray, List.set_cons_zero, List.set_cons_succ])
    refine plan_quiet rfl (by rfl) (v := ?_) ?_ ?_; rotate_left; (intro w1 hSw; obtain ⟨h0, h1, h2, h3, h4, h5⟩ := hSw; go_simp; try (with_reducible rfl)); (try simp only [Act.put, List.setIfInBounds_toArray, List.set_cons_zero, List.set_cons_succ])
    refine plan_quiet rfl (by rfl) (v := ?_) ?_ ?_; rotate_left; (intro w1 hSw; obtain ⟨h0, h1, h2, h3, h4, h5⟩ := hSw; go_simp; try (with_reducible rfl)); (try simp only [Act.put, List.setIfInBounds_toArray, List.set_cons_zero, List.set_cons_succ])
    refine plan_quiet rfl (by rfl) (v := ?_) ?_ ?_; rotate_left; (intro w1 hSw; obtain ⟨h0, h1, h2, h3, h4, h5⟩ := hSw; go_simp; try (with_reducible rfl)); (try simp only [Act.put, List.setIfInBounds_toArray, List.set_cons_zero, List.set_cons_succ])
    refine plan_quiet rfl (by rfl) (v := ?_) ?_ ?_; rotate_left; (intro w1 hSw; obtain ⟨h0, h1, h2, h3, h4, h5⟩ := hSw; go_simp; try (with_reducible rfl)); (try simp only [Act.put, List.setIfInBounds_toArray, List.set_cons_zero, List.set_cons_succ])
    refine plan_quiet rfl (by rfl) (v := ?_) ?_ ?_; rotate_left; (intro w1 hSw; obtain ⟨h0, h1, h2, h3, h4, h5⟩ := hSw; go_simp; try (with_reducible rfl)); (try simp only [Act.put, List.setIfInBounds_toArray, List.set_cons_zero, List.set_cons_succ])
    refine plan_quiet rfl (by rfl) (v := ?_) ?_ ?_; rotate_left; (intro w1 hSw; obtain ⟨h0, h1, h2, h3, h4, h5⟩ := hSw; go_simp; try (with_reducible rfl)); (try simp only [Act.put, List.setIfInBounds_toArray, List.set_cons_zero, List.set_cons_succ])
    refine plan_quiet rfl (by rfl) (v := ?_) ?_ ?_; rotate_left; (intro w1 hSw; obtain ⟨h0, h1, h2, h3, h4, h5⟩ := hSw; go_simp; try (with_reducible rfl)); (try simp only [Act.put, List.setIfInBounds_toArray, List.set_cons_zero, List.set_cons_succ])
    refine plan_quiet rfl (by rfl) (v := ?_) ?_ ?_; rotate_left; (intro w1 hSw; obtain ⟨h0, h1, h2, h3, h4, h5⟩ := hSw; go_simp; try (with_reducible rfl)); (try simp only [Act.put, List.setIfInBounds_toArray, List.set_cons_zero, List.set_cons_succ])
    refine plan_end ?_
    obtain ⟨PP, hPP⟩ : ∃ y : Int, (2 : Int) ^ tt = y := ⟨_, rfl⟩
    have hPb := pow_bd7 htt
    rw [hPP] at hPb
    have hy := HY.out
    rw [hPP] at hy
    have eP : IntKind.i64.wrap (2 ^ tt) = PP := by rw [hPP, IntKind.wrap_i64]; omega
    have eS : IntKind.i64.wrap yy = yy := by rw [IntKind.wrap_i64]; omega
    have hcb := cntI_bd (f := ⟨s, ws, cs⟩) (pr := wornP ⟨s, ws, cs⟩) (fun xs hx => (HST.out xs hx).1) HML.out
    have hcb2 : ((21 * nn : Nat) : Int) ≤ 504 := by omega
    have HYe := Lib.hid hy; have HPe := Lib.hid eP; have HSe := Lib.hid eS
    clear hy eP eS hPP
    by_cases hkc : k2 = cv
    · have hkb : (k2 == cv) = true := by rw [hkc]; simp
      obtain ⟨C1, hC1⟩ : ∃ y, cntI ⟨s, ws, cs⟩ ms (wornP ⟨s, ws, cs⟩) = y := ⟨_, rfl⟩
      obtain ⟨C2, hC2⟩ : ∃ y, cntI ⟨s, ws, cs⟩ ms2 (wornP ⟨s, ws, cs⟩) = y := ⟨_, rfl⟩
      rw [hC1] at hcb
      have hCC : C2 = C1 + 1 := by rw [← hC1, ← hC2, HWO.out, Int.toNat_natCast, HGD.out, if_pos hkc]
      have HC1 := Lib.hid hC1; have HC2 := Lib.hid hC2
      clear hC1 hC2
      have e1 : C1 + 1 = C2 := hCC.symm
      have e2 : IntKind.i64.wrap C2 = C2 := by rw [IntKind.wrap_i64]; omega
      clear hCC hkc
      go_upto_region 14 with fail
      refine wp_region_plan (.take 0 (.take 1 (.take 2 (.take 3 (.take 4 (.take 5 (.take 6 (.take 7 (.take 8 (.take 9 (.take 10 (.take 11 (.take 12 (.take 13 (.take 14 (.take 15 (.take 16 (.take 17 (.take 19 (.take 20 (.take 22 (.one 18 (.one 21 (.take 23 (.take 24 (.take 25 (.take 26 .done))))))))))))))))))))))))))) (fun w' => w'.cell? ⟨b, 0, none⟩ = some (.string s) ∧ w'.cell? ⟨b, 1, none⟩ = some (.slice B1 ws.length d1) ∧ w'.cell? ⟨b, 2, none⟩ = some (.slice (some ad5) cs.length d2) ∧ w'.cell? ⟨Xb, 0, none⟩ = some (.int .i64 (kn : Int)) ∧ w'.cell? ⟨Xb, 1, none⟩ = some (.int .i64 k2) ∧ w'.cell? ⟨Yb, 0, none⟩ = some (.int .i64 (kn : Int)) ∧ w'.cell? ⟨Yb, 1, none⟩ = some (.int .i64 yy)) (by kernel_rfl) (by kernel_rfl) (by kernel_rfl) (by intro c a d v w h; cases d <;> exact h) ⟨cellOfBlk K12.out 0, cellOfBlk K12.out 1, cellOfBlk K12.out 2, cellOfBlk X12.out 0, cellOfBlk X12.out 1, cellOfBlk Y12.out 0, cellOfBlk Y12.out 1⟩ ?_
      obtain ⟨w13, hwd⟩ : ∃ x, w12.drew = x := ⟨_, rfl⟩
      have F13 : Hid (FontV w13 w.heap.size b (.agg #[.string s, .slice B1 ws.length d1, .slice (some ad5) cs.length d2]) ⟨s, ws, cs⟩) := by show FontV w13 w.heap.size b (.agg #[.string s, .slice B1 ws.length d1, .slice (some ad5) cs.length d2]) ⟨s, ws, cs⟩; rw [← hwd]; exact F12.out
      have K13 : Hid (Blk w13 b #[.string s, .slice B1 ws.length d1, .slice (some ad5) cs.length d2] 25) := by show Blk w13 b #[.string s, .slice B1 ws.length d1, .slice (some ad5) cs.length d2] 25; rw [← hwd]; exact K12.out
      have M13 : Hid (MagI w13 w.heap.size b (some ad) ms) := by show MagI w13 w.heap.size b (some ad) ms; rw [← hwd]; exact M12.out
      have Q13 : Hid (IntsI w13 w.heap.size b (some ad5) cs) := by show IntsI w13 w.heap.size b (some ad5) cs; rw [← hwd]; exact Q12.out
      have T13 : Hid (Below w.heap.size w w13) := by show Below w.heap.size w w13; rw [← hwd]; exact T12.out.drew
      have N13 : Hid (MagI w13 lo h9 (some ad9) ms2) := by show MagI w13 lo h9 (some ad9) ms2; rw [← hwd]; exact N12.out
      have I13 : Hid (MatsI w13 w.heap.size b (some bd) xs) := by show MatsI w13 w.heap.size b (some bd) xs; rw [← hwd]; exact I12.out
      have J13 : Hid (MatsI w13 lo h9 (some bd9) ys) := by show MatsI w13 lo h9 (some bd9) ys; rw [← hwd]; exact J12.out
      have V13 : Hid (Ints w13 A5 (kindL ⟨s, ws, cs⟩ ms)) := by show Ints w13 A5 (kindL ⟨s, ws, cs⟩ ms); rw [← hwd]; exact V12.out
      have U13 : Hid (Ints w13 A6 (kindL ⟨s, ws, cs⟩ ms)) := by show Ints w13 A6 (kindL ⟨s, ws, cs⟩ ms); rw [← hwd]; exact U12.out
      have X13 : Hid (Blk w13 Xb #[.int .i64 (kn : Int), .int .i64 k2] 34) := by show Blk w13 Xb #[.int .i64 (kn : Int), .int .i64 k2] 34; rw [← hwd]; exact X12.out
      have Y13 : Hid (Blk w13 Yb #[.int .i64 (kn : Int), .int .i64 yy] 34) := by show Blk w13 Yb #[.int .i64 (kn : Int), .int .i64 yy] 34; rw [← hwd]; exact Y12.out
      have z13 : b < w13.heap.size := by rw [← hwd]; exact z12
      have zq13 : h9 ≤ w13.heap.size := by rw [← hwd]; exact zq12
      rw [hwd]
      clear hwd F12 K12 M12 Q12 T12 N12 I12 J12 V12 U12 X12 Y12
      have eP := HPe.out; have eS := HSe.out; have hy := HYe.out
      refine plan_quiet rfl (by rfl) (v := ?_) ?_ ?_; rotate_left; (intro w1 hSw; obtain ⟨h0, h1, h2, h3, h4, h5, h6⟩ := hSw; go_simp; try (with_reducible rfl)); (try simp only [Act.put, List.setIfInBounds_toArray, List.set_cons_zero, List.set_cons_succ])
      refine plan_quiet rfl (by rfl) (v := ?_) ?_ ?_; rotate_left; (intro w1 hSw; obtain ⟨h0, h1, h2, h3, h4, h5, h6⟩ := hSw; go_simp; try (with_reducible rfl)); (try simp only [Act.put, List.setIfInBounds_toArray, List.set_cons_zero, List.set_cons_succ])
      refine plan_quiet rfl (by rfl) (v := ?_) ?_ ?_; rotate_left; (intro w1 hSw; obtain ⟨h0, h1, h2, h3, h4, h5, h6⟩ := hSw; go_simp; try (with_reducible rfl)); (try simp only [Act.put, List.setIfInBounds_toArray, List.set_cons_zero, List.set_cons_succ])
      refine plan_quiet rfl (by rfl) (v := ?_) ?_ ?_; rotate_left; (intro w1 hSw; obtain ⟨h0, h1, h2, h3, h4, h5, h6⟩ := hSw; go_simp; try (with_reducible rfl)); (try simp only [Act.put, List.setIfInBounds_toArray, List.set_cons_zero, List.set_cons_succ])
      refine plan_quiet rfl (by rfl) (v := ?_) ?_ ?_; rotate_left; (intro w1 hSw; obtain ⟨h0, h1, h2, h3, h4, h5, h6⟩ := hSw; go_simp; try (with_reducible rfl)); (try simp only [Act.put, List.setIfInBounds_toArray, List.set_cons_zero, List.set_cons_succ])
      refine plan_quiet rfl (by rfl) (v := ?_) ?_ ?_; rotate_left; (intro w1 hSw; obtain ⟨h0, h1, h2, h3, h4, h5, h6⟩ := hSw; go_simp; try (with_reducible rfl)); (try simp only [Act.put, List.setIfInBounds_toArray, List.set_cons_zero, List.set_cons_succ])
      refine plan_quiet rfl (by rfl) (v := ?_) ?_ ?_; rotate_left; (intro w1 hSw; obtain ⟨h0, h1, h2, h3, h4, h5, h6⟩ := hSw; go_simp; try (with_reducible rfl)); (try simp only [Act.put, List.setIfInBounds_toArray, List.set_cons_zero, List.set_cons_succ])
      refine plan_quiet rfl (by rfl) (v := ?_) ?_ ?_; rotate_left; (intro w1 hSw; obtain ⟨h0, h1, h2, h3, h4, h5, h6⟩ := hSw; go_simp; try (with_reducible rfl)); (try simp only [Act.put, List.setIfInBounds_toArray, List.set_cons_zero, List.set_cons_succ])
      refine plan_quiet rfl (by rfl) (v := ?_) ?_ ?_; rotate_left; (intro w1 hSw; obtain ⟨h0, h1, h2, h3, h4, h5, h6⟩ := hSw; go_simp; try (with_reducible rfl)); (try simp only [Act.put, List.setIfInBounds_toArray, List.set_cons_zero, List.set_cons_succ])
      refine plan_quiet rfl (by rfl) (v := ?_) ?_ ?_; rotate_left; (intro w1 hSw; obtain ⟨h0, h1, h2, h3, h4, h5, h6⟩ := hSw; go_simp; try (with_reducible rfl)); (try simp only [Act.put, List.setIfInBounds_toArray, List.set_cons_zero, List.set_cons_succ])
      refine plan_quiet rfl (by rfl) (v := ?_) ?_ ?_; rotate_left; (intro w1 hSw; obtain ⟨h0, h1, h2, h3, h4, h5, h6⟩ := hSw; go_simp; try (with_reducible rfl)); (try simp only [Act.put, List.setIfInBounds_toArray, List.set_cons_zero, List.set_cons_succ])
      refine plan_quiet rfl (by rfl) (v := ?_) ?_ ?_; rotate_left; (intro w1 hSw; obtain ⟨h0, h1, h2, h3, h4, h5, h6⟩ := hSw; go_simp; try (with_reducible rfl)); (try simp only [Act.put, List.setIfInBounds_toArray, List.set_cons_zero, List.set_cons_succ])
      refine plan_quiet rfl (by rfl) (v := ?_) ?_ ?_; rotate_left; (intro w1 hSw; obtain ⟨h0, h1, h2, h3, h4, h5, h6⟩ := hSw; go_simp; try (with_reducible rfl)); (try simp only [Act.put, List.setIfInBounds_toArray, List.set_cons_zero, List.set_cons_succ])
      refine plan_quiet rfl (by rfl) (v := ?_) ?_ ?_; rotate_left; (intro w1 hSw; obtain ⟨h0, h1, h2, h3, h4, h5, h6⟩ := hSw; go_simp; try (with_reducible rfl)); (try simp only [Act.put, List.setIfInBounds_toArray, List.set_cons_zero, List.set_cons_succ])
      refine plan_quiet rfl (by rfl) (v := ?_) ?_ ?_; rotate_left; (intro w1 hSw; obtain ⟨h0, h1, h2, h3, h4, h5, h6⟩ := hSw; go_simp; try (with_reducible rfl)); (try simp only [Act.put, List.setIfInBounds_toArray, List.set_cons_zero, List.set_cons_succ])
      refine plan_quiet rfl (by rfl) (v := ?_) ?_ ?_; rotate_left; (intro w1 hSw; obtain ⟨h0, h1, h2, h3, h4, h5, h6⟩ := hSw; go_simp; try (with_reducible rfl)); (try simp only [Act.put, List.setIfInBounds_toArray, List.set_cons_zero, List.set_cons_succ])
      refine plan_quiet rfl (by rfl) (v := ?_) ?_ ?_; rotate_left; (intro w1 hSw; obtain ⟨h0, h1, h2, h3, h4, h5, h6⟩ := hSw; go_simp; try (with_reducible rfl)); (try simp only [Act.put, List.setIfInBounds_toArray, List.set_cons_zero, List.set_cons_succ])
      refine plan_quiet rfl (by rfl) (v := ?_) ?_ ?_; rotate_left; (intro w1 hSw; obtain ⟨h0, h1, h2, h3, h4, h5, h6⟩ := hSw; go_simp; try (with_reducible rfl)); (try simp only [Act.put, List.setIfInBounds_toArray, List.set_cons_zero, List.set_cons_succ])
      refine plan_quiet rfl (by rfl) (v := ?_) ?_ ?_; rotate_left; (intro w1 hSw; obtain ⟨h0, h1, h2, h3, h4, h5, h6⟩ := hSw; go_simp; try (with_reducible rfl)); (try simp only [Act.put, List.setIfInBounds_toArray, List.set_cons_zero, List.set_cons_succ])
      refine plan_quiet rfl (by rfl) (v := ?_) ?_ ?_; rotate_left; (intro w1 hSw; obtain ⟨h0, h1, h2, h3, h4, h5, h6⟩ := hSw; go_simp; try (with_reducible rfl)); (try simp only [Act.put, List.setIfInBounds_toArray, List.set_cons_zero, List.set_cons_succ])
      refine plan_quiet rfl (by rfl) (v := ?_) ?_ ?_; rotate_left; (intro w1 hSw; obtain ⟨h0, h1, h2, h3, h4, h5, h6⟩ := hSw; go_simp; try (with_reducible rfl)); (try simp only [Act.put, List.setIfInBounds_toArray, List.set_cons_zero, List.set_cons_succ])
      refine plan_step rfl (fun Kc hK => ?_)
      rw [if_pos (by rfl)]
      go_simp
      refine (implWorn_any w.heap.size b lo h9 _ ⟨s, ws, cs⟩ (some ad9) nn c9 ms2 w13 F13.out (by omega) HS.out HL2.out (by omega) N13.out zq13 HW2.out).mono ?_
      rintro e8 w14 ⟨rfl, hb8⟩
      rw [HC2.out]
      have zq14 : h9 ≤ w14.heap.size := by have := hb8.size; omega
      have z14 : b < w14.heap.size := by have := hb8.size; omega
      have F14 := Lib.hid (F13.out.below (by omega) hb8); have K14 := Lib.hid (K13.out.below hb8 (by omega)); have M14 := Lib.hid (M13.out.below (by omega) hb8); have Q14 := Lib.hid (Q13.out.below (by omega) hb8); have T14 := Lib.hid (T13.out.trans (hb8.mono (by omega)))
      have N14 := Lib.hid (N13.out.below zq13 hb8)
      have I14 := Lib.hid (I13.out.below (by omega) hb8)
      have J14 := Lib.hid (J13.out.below zq13 hb8)
      have V14 := Lib.hid (V13.out.below hb8)
      have U14 := Lib.hid (U13.out.below hb8)
      have X14 := Lib.hid (X13.out.below hb8 X13.out.lt)
      have Y14 := Lib.hid (Y13.out.below hb8 Y13.out.lt)
      clear F13 K13 M13 Q13 T13 N13 I13 J13 V13 U13 X13 Y13 hb8
      refine hK.out _ _ ⟨cellOfBlk K14.out 0, cellOfBlk K14.out 1, cellOfBlk K14.out 2, cellOfBlk X14.out 0, cellOfBlk X14.out 1, cellOfBlk Y14.out 0, cellOfBlk Y14.out 1⟩ ?_
      clear hK Kc
      refine plan_step rfl (fun Kc hK => ?_)
      rw [if_pos (by rfl)]
      go_simp
      refine (implWorn_any w.heap.size b w.heap.size b _ ⟨s, ws, cs⟩ (some ad) nn cc ms w14 F14.out (by omega) HS.out HML.out (by omega) M14.out (by omega) HWF.out).mono ?_
      rintro e9 w15 ⟨rfl, hb9⟩
      rw [HC1.out]
      have zq15 : h9 ≤ w15.heap.size := by have := hb9.size; omega
      have z15 : b < w15.heap.size := by have := hb9.size; omega
      have F15 := Lib.hid (F14.out.below (by omega) hb9); have K15 := Lib.hid (K14.out.below hb9 (by omega)); have M15 := Lib.hid (M14.out.below (by omega) hb9); have Q15 := Lib.hid (Q14.out.below (by omega) hb9); have T15 := Lib.hid (T14.out.trans (hb9.mono (by omega)))
      have N15 := Lib.hid (N14.out.below zq14 hb9)
      have I15 := Lib.hid (I14.out.below (by omega) hb9)
      have J15 := Lib.hid (J14.out.below zq14 hb9)
      have V15 := Lib.hid (V14.out.below hb9)
      have U15 := Lib.hid (U14.out.below hb9)
      have X15 := Lib.hid (X14.out.below hb9 X14.out.lt)
      have Y15 := Lib.hid (Y14.out.below hb9 Y14.out.lt)
      clear F14 K14 M14 Q14 T14 N14 I14 J14 V14 U14 X14 Y14 hb9
      refine hK.out _ _ ⟨cellOfBlk K15.out 0, cellOfBlk K15.out 1, cellOfBlk K15.out 2, cellOfBlk X15.out 0, cellOfBlk X15.out 1, cellOfBlk Y15.out 0, cellOfBlk Y15.out 1⟩ ?_
      clear hK Kc
      refine plan_quiet rfl (by rfl) (v := ?_) ?_ ?_; rotate_left; (intro w1 hSw; obtain ⟨h0, h1, h2, h3, h4, h5, h6⟩ := hSw; go_simp; try (with_reducible rfl)); (try simp only [Act.put, List.setIfInBounds_toArray, List.set_cons_zero, List.set_cons_succ])
      refine plan_quiet rfl (by rfl) (v := ?_) ?_ ?_; rotate_left; (intro w1 hSw; obtain ⟨h0, h1, h2, h3, h4, h5, h6⟩ := hSw; go_simp; try (with_reducible rfl)); (try simp only [Act.put, List.setIfInBounds_toArray, List.set_cons_zero, List.set_cons_succ])
      refine plan_quiet rfl (by rfl) (v := ?_) ?_ ?_; rotate_left; (intro w1 hSw; obtain ⟨h0, h1, h2, h3, h4, h5, h6⟩ := hSw; go_simp; try (with_reducible rfl)); (try simp only [Act.put, List.setIfInBounds_toArray, List.set_cons_zero, List.set_cons_succ])
      refine plan_quiet rfl (by rfl) (v := ?_) ?_ ?_; rotate_left; (intro w1 hSw; obtain ⟨h0, h1, h2, h3, h4, h5, h6⟩ := hSw; go_simp; try (with_reducible rfl)); (try simp only [Act.put, List.setIfInBounds_toArray, List.set_cons_zero, List.set_cons_succ])
      refine plan_end ?_
      go_wp2
      go_ret
      exact ⟨rfl, T15.out⟩
    · have hkb : (k2 == cv) = false := by simpa using hkc
      obtain ⟨C1, hC1⟩ : ∃ y, cntI ⟨s, ws, cs⟩ ms (wornP ⟨s, ws, cs⟩) = y := ⟨_, rfl⟩
      obtain ⟨C2, hC2⟩ : ∃ y, cntI ⟨s, ws, cs⟩ ms2 (wornP ⟨s, ws, cs⟩) = y := ⟨_, rfl⟩
      rw [hC1] at hcb
      have hCC : C2 = C1 + 0 := by rw [← hC1, ← hC2, HWO.out, Int.toNat_natCast, HGD.out, if_neg hkc]
      have HC1 := Lib.hid hC1; have HC2 := Lib.hid hC2
      clear hC1 hC2
      have e0 : C2 = C1 := by omega
      subst e0
      have e2 : IntKind.i64.wrap C2 = C2 := by rw [IntKind.wrap_i64]; omega
      clear hCC hkc
      go_upto_region 14 with fail
      refine wp_region_plan (.take 0 (.take 1 (.take 2 (.take 3 (.take 4 (.take 5 (.take 6 (.take 7 (.take 8 (.take 9 (.take 10 (.take 11 (.take 12 (.take 13 (.take 14 (.take 15 (.take 16 (.take 17 (.take 19 (.take 20 (.take 22 (.one 18 (.one 21 (.take 23 (.take 24 (.take 25 (.take 26 .done))))))))))))))))))))))))))) (fun w' => w'.cell? ⟨b, 0, none⟩ = some (.string s) ∧ w'.cell? ⟨b, 1, none⟩ = some (.slice B1 ws.length d1) ∧ w'.cell? ⟨b, 2, none⟩ = some (.slice (some ad5) cs.length d2) ∧ w'.cell? ⟨Xb, 0, none⟩ = some (.int .i64 (kn : Int)) ∧ w'.cell? ⟨Xb, 1, none⟩ = some (.int .i64 k2) ∧ w'.cell? ⟨Yb, 0, none⟩ = some (.int .i64 (kn : Int)) ∧ w'.cell? ⟨Yb, 1, none⟩ = some (.int .i64 yy)) (by kernel_rfl) (by kernel_rfl) (by kernel_rfl) (by intro c a d v w h; cases d <;> exact h) ⟨cellOfBlk K12.out 0, cellOfBlk K12.out 1, cellOfBlk K12.out 2, cellOfBlk X12.out 0, cellOfBlk X12.out 1, cellOfBlk Y12.out 0, cellOfBlk Y12.out 1⟩ ?_
      obtain ⟨w13, hwd⟩ : ∃ x, w12.drew = x := ⟨_, rfl⟩
      have F13 : Hid (FontV w13 w.heap.size b (.agg #[.string s, .slice B1 ws.length d1, .slice (some ad5) cs.length d2]) ⟨s, ws, cs⟩) := by show FontV w13 w.heap.size b (.agg #[.string s, .slice B1 ws.length d1, .slice (some ad5) cs.length d2]) ⟨s, ws, cs⟩; rw [← hwd]; exact F12.out
      have K13 : Hid (Blk w13 b #[.string s, .slice B1 ws.length d1, .slice (some ad5) cs.length d2] 25) := by show Blk w13 b #[.string s, .slice B1 ws.length d1, .slice (some ad5) cs.length d2] 25; rw [← hwd]; exact K12.out
      have M13 : Hid (MagI w13 w.heap.size b (some ad) ms) := by show MagI w13 w.heap.size b (some ad) ms; rw [← hwd]; exact M12.out
      have Q13 : Hid (IntsI w13 w.heap.size b (some ad5) cs) := by show IntsI w13 w.heap.size b (some ad5) cs; rw [← hwd]; exact Q12.out
      have T13 : Hid (Below w.heap.size w w13) := by show Below w.heap.size w w13; rw [← hwd]; exact T12.out.drew
      have N13 : Hid (MagI w13 lo h9 (some ad9) ms2) := by show MagI w13 lo h9 (some ad9) ms2; rw [← hwd]; exact N12.out
      have I13 : Hid (MatsI w13 w.heap.size b (some bd) xs) := by show MatsI w13 w.heap.size b (some bd) xs; rw [← hwd]; exact I12.out
      have J13 : Hid (MatsI w13 lo h9 (some bd9) ys) := by show MatsI w13 lo h9 (some bd9) ys; rw [← hwd]; exact J12.out
      have V13 : Hid (Ints w13 A5 (kindL ⟨s, ws, cs⟩ ms)) := by show Ints w13 A5 (kindL ⟨s, ws, cs⟩ ms); rw [← hwd]; exact V12.out
      have U13 : Hid (Ints w13 A6 (kindL ⟨s, ws, cs⟩ ms)) := by show Ints w13 A6 (kindL ⟨s, ws, cs⟩ ms); rw [← hwd]; exact U12.out
      have X13 : Hid (Blk w13 Xb #[.int .i64 (kn : Int), .int .i64 k2] 34) := by show Blk w13 Xb #[.int .i64 (kn : Int), .int .i64 k2] 34; rw [← hwd]; exact X12.out
      have Y13 : Hid (Blk w13 Yb #[.int .i64 (kn : Int), .int .i64 yy] 34) := by show Blk w13 Yb #[.int .i64 (kn : Int), .int .i64 yy] 34; rw [← hwd]; exact Y12.out
      have z13 : b < w13.heap.size := by rw [← hwd]; exact z12
      have zq13 : h9 ≤ w13.heap.size := by rw [← hwd]; exact zq12
      rw [hwd]
      clear hwd F12 K12 M12 Q12 T12 N12 I12 J12 V12 U12 X12 Y12
      have eP := HPe.out; have eS := HSe.out; have hy := HYe.out
      refine plan_quiet rfl (by rfl) (v := ?_) ?_ ?_; rotate_left; (intro w1 hSw; obtain ⟨h0, h1, h2, h3, h4, h5, h6⟩ := hSw; go_simp; try (with_reducible rfl)); (try simp only [Act.put, List.setIfInBounds_toArray, List.set_cons_zero, List.set_cons_succ])
      refine plan_quiet rfl (by rfl) (v := ?_) ?_ ?_; rotate_left; (intro w1 hSw; obtain ⟨h0, h1, h2, h3, h4, h5, h6⟩ := hSw; go_simp; try (with_reducible rfl)); (try simp only [Act.put, List.setIfInBounds_toArray, List.set_cons_zero, List.set_cons_succ])
      refine plan_quiet rfl (by rfl) (v := ?_) ?_ ?_; rotate_left; (intro w1 hSw; obtain ⟨h0, h1, h2, h3, h4, h5, h6⟩ := hSw; go_simp; try (with_reducible rfl)); (try simp only [Act.put, List.setIfInBounds_toArray, List.set_cons_zero, List.set_cons_succ])
      refine plan_quiet rfl (by rfl) (v := ?_) ?_ ?_; rotate_left; (intro w1 hSw; obtain ⟨h0, h1, h2, h3, h4, h5, h6⟩ := hSw; go_simp; try (with_reducible rfl)); (try simp only [Act.put, List.setIfInBounds_toArray, List.set_cons_zero, List.set_cons_succ])
      refine plan_quiet rfl (by rfl) (v := ?_) ?_ ?_; rotate_left; (intro w1 hSw; obtain ⟨h0, h1, h2, h3, h4, h5, h6⟩ := hSw; go_simp; try (with_reducible rfl)); (try simp only [Act.put, List.setIfInBounds_toArray, List.set_cons_zero, List.set_cons_succ])
      refine plan_quiet rfl (by rfl) (v := ?_) ?_ ?_; rotate_left; (intro w1 hSw; obtain ⟨h0, h1, h2, h3, h4, h5, h6⟩ := hSw; go_simp; try (with_reducible rfl)); (try simp only [Act.put, List.setIfInBounds_toArray, List.set_cons_zero, List.set_cons_succ])
      refine plan_quiet rfl (by rfl) (v := ?_) ?_ ?_; rotate_left; (intro w1 hSw; obtain ⟨h0, h1, h2, h3, h4, h5, h6⟩ := hSw; go_simp; try (with_reducible rfl)); (try simp only [Act.put, List.setIfInBounds_toArray, List.set_cons_zero, List.set_cons_succ])
      refine plan_quiet rfl (by rfl) (v := ?_) ?_ ?_; rotate_left; (intro w1 hSw; obtain ⟨h0, h1, h2, h3, h4, h5, h6⟩ := hSw; go_simp; try (with_reducible rfl)); (try simp only [Act.put, List.setIfInBounds_toArray, List.set_cons_zero, List.set_cons_succ])
      refine plan_quiet rfl (by rfl) (v := ?_) ?_ ?_; rotate_left; (intro w1 hSw; obtain ⟨h0, h1, h2, h3, h4, h5, h6⟩ := hSw; go_simp; try (with_reducible rfl)); (try simp only [Act.put, List.setIfInBounds_toArray, List.set_cons_zero, List.set_cons_succ])
      refine plan_quiet rfl (by rfl) (v := ?_) ?_ ?_; rotate_left; (intro w1 hSw; obtain ⟨h0, h1, h2, h3, h4, h5, h6⟩ := hSw; go_simp; try (with_reducible rfl)); (try simp only [Act.put, List.setIfInBounds_toArray, List.set_cons_zero, List.set_cons_succ])
      refine plan_quiet rfl (by rfl) (v := ?_) ?_ ?_; rotate_left; (intro w1 hSw; obtain ⟨h0, h1, h2, h3, h4, h5, h6⟩ := hSw; go_simp; try (with_reducible rfl)); (try simp only [Act.put, List.setIfInBounds_toArray, List.set_cons_zero, List.set_cons_succ])
      refine plan_quiet rfl (by rfl) (v := ?_) ?_ ?_; rotate_left; (intro w1 hSw; obtain ⟨h0, h1, h2, h3, h4, h5, h6⟩ := hSw; go_simp; try (with_reducible rfl)); (try simp only [Act.put, List.setIfInBounds_toArray, List.set_cons_zero, List.set_cons_succ])
      refine plan_quiet rfl (by rfl) (v := ?_) ?_ ?_; rotate_left; (intro w1 hSw; obtain ⟨h0, h1, h2, h3, h4, h5, h6⟩ := hSw; go_simp; try (with_reducible rfl)); (try simp only [Act.put, List.setIfInBounds_toArray, List.set_cons_zero, List.set_cons_succ])
      refine plan_quiet rfl (by rfl) (v := ?_) ?_ ?_; rotate_left; (intro w1 hSw; obtain ⟨h0, h1, h2, h3, h4, h5, h6⟩ := hSw; go_simp; try (with_reducible rfl)); (try simp only [Act.put, List.setIfInBounds_toArray, List.set_cons_zero, List.set_cons_succ])
      refine plan_quiet rfl (by rfl) (v := ?_) ?_ ?_; rotate_left; (intro w1 hSw; obtain ⟨h0, h1, h2, h3, h4, h5, h6⟩ := hSw; go_simp; try (with_reducible rfl)); (try simp only [Act.put, List.setIfInBounds_toArray, List.set_cons_zero, List.set_cons_succ])
      refine plan_quiet rfl (by rfl) (v := ?_) ?_ ?_; rotate_left; (intro w1 hSw; obtain ⟨h0, h1, h2, h3, h4, h5, h6⟩ := hSw; go_simp; try (with_reducible rfl)); (try simp only [Act.put, List.setIfInBounds_toArray, List.set_cons_zero, List.set_cons_succ])
      refine plan_quiet rfl (by rfl) (v := ?_) ?_ ?_; rotate_left; (intro w1 hSw; obtain ⟨h0, h1, h2, h3, h4, h5, h6⟩ := hSw; go_simp; try (with_reducible rfl)); (try simp only [Act.put, List.setIfInBounds_toArray, List.set_cons_zero, List.set_cons_succ])
      refine plan_quiet rfl (by rfl) (v := ?_) ?_ ?_; rotate_left; (intro w1 hSw; obtain ⟨h0, h1, h2, h3, h4, h5, h6⟩ := hSw; go_simp; try (with_reducible rfl)); (try simp only [Act.put, List.setIfInBounds_toArray, List.set_cons_zero, List.set_cons_succ])
      refine plan_quiet rfl (by rfl) (v := ?_) ?_ ?_; rotate_left; (intro w1 hSw; obtain ⟨h0, h1, h2, h3, h4, h5, h6⟩ := hSw; go_simp; try (with_reducible rfl)); (try simp only [Act.put, List.setIfInBounds_toArray, List.set_cons_zero, List.set_cons_succ])
      refine plan_quiet rfl (by rfl) (v := ?_) ?_ ?_; rotate_left; (intro w1 hSw; obtain ⟨h0, h1, h2, h3, h4, h5, h6⟩ := hSw; go_simp; try (with_reducible rfl)); (try simp only [Act.put, List.setIfInBounds_toArray, List.set_cons_zero, List.set_cons_succ])
      refine plan_quiet rfl (by rfl) (v := ?_) ?_ ?_; rotate_left; (intro w1 hSw; obtain ⟨h0, h1, h2, h3, h4, h5, h6⟩ := hSw; go_simp; try (with_reducible rfl)); (try simp only [Act.put, List.setIfInBounds_toArray, List.set_cons_zero, List.set_cons_succ])
      refine plan_step rfl (fun Kc hK => ?_)
      rw [if_pos (by rfl)]
      go_simp
      refine (implWorn_any w.heap.size b lo h9 _ ⟨s, ws, cs⟩ (some ad9) nn c9 ms2 w13 F13.out (by omega) HS.out HL2.out (by omega) N13.out zq13 HW2.out).mono ?_
      rintro e8 w14 ⟨rfl, hb8⟩
      rw [HC2.out]
      have zq14 : h9 ≤ w14.heap.size := by have := hb8.size; omega
      have z14 : b < w14.heap.size := by have := hb8.size; omega
      have F14 := Lib.hid (F13.out.below (by omega) hb8); have K14 := Lib.hid (K13.out.below hb8 (by omega)); have M14 := Lib.hid (M13.out.below (by omega) hb8); have Q14 := Lib.hid (Q13.out.below (by omega) hb8); have T14 := Lib.hid (T13.out.trans (hb8.mono (by omega)))
      have N14 := Lib.hid (N13.out.below zq13 hb8)
      have I14 := Lib.hid (I13.out.below (by omega) hb8)
      have J14 := Lib.hid (J13.out.below zq13 hb8)
      have V14 := Lib.hid (V13.out.below hb8)
      have U14 := Lib.hid (U13.out.below hb8)
      have X14 := Lib.hid (X13.out.below hb8 X13.out.lt)
      have Y14 := Lib.hid (Y13.out.below hb8 Y13.out.lt)
      clear F13 K13 M13 Q13 T13 N13 I13 J13 V13 U13 X13 Y13 hb8
      refine hK.out _ _ ⟨cellOfBlk K14.out 0, cellOfBlk K14.out 1, cellOfBlk K14.out 2, cellOfBlk X14.out 0, cellOfBlk X14.out 1, cellOfBlk Y14.out 0, cellOfBlk Y14.out 1⟩ ?_
      clear hK Kc
      refine plan_step rfl (fun Kc hK => ?_)
      rw [if_pos (by rfl)]
      go_simp
      refine (implWorn_any w.heap.size b w.heap.size b _ ⟨s, ws, cs⟩ (some ad) nn cc ms w14 F14.out (by omega) HS.out HML.out (by omega) M14.out (by omega) HWF.out).mono ?_
      rintro e9 w15 ⟨rfl, hb9⟩
      rw [HC1.out]
      have zq15 : h9 ≤ w15.heap.size := by have := hb9.size; omega
      have z15 : b < w15.heap.size := by have := hb9.size; omega
      have F15 := Lib.hid (F14.out.below (by omega) hb9); have K15 := Lib.hid (K14.out.below hb9 (by omega)); have M15 := Lib.hid (M14.out.below (by omega) hb9); have Q15 := Lib.hid (Q14.out.below (by omega) hb9); have T15 := Lib.hid (T14.out.trans (hb9.mono (by omega)))
      have N15 := Lib.hid (N14.out.below zq14 hb9)
      have I15 := Lib.hid (I14.out.below (by omega) hb9)
      have J15 := Lib.hid (J14.out.below zq14 hb9)
      have V15 := Lib.hid (V14.out.below hb9)
      have U15 := Lib.hid (U14.out.below hb9)
      have X15 := Lib.hid (X14.out.below hb9 X14.out.lt)
      have Y15 := Lib.hid (Y14.out.below hb9 Y14.out.lt)
      clear F14 K14 M14 Q14 T14 N14 I14 J14 V14 U14 X14 Y14 hb9
      refine hK.out _ _ ⟨cellOfBlk K15.out 0, cellOfBlk K15.out 1, cellOfBlk K15.out 2, cellOfBlk X15.out 0, cellOfBlk X15.out 1, cellOfBlk Y15.out 0, cellOfBlk Y15.out 1⟩ ?_
      clear hK Kc
      refine plan_quiet rfl (by rfl) (v := ?_) ?_ ?_; rotate_left; (intro w1 hSw; obtain ⟨h0, h1, h2, h3, h4, h5, h6⟩ := hSw; go_simp; try (with_reducible rfl)); (try simp only [Act.put, List.setIfInBounds_toArray, List.set_cons_zero, List.set_cons_succ])
      refine plan_quiet rfl (by rfl) (v := ?_) ?_ ?_; rotate_left; (intro w1 hSw; obtain ⟨h0, h1, h2, h3, h4, h5, h6⟩ := hSw; go_simp; try (with_reducible rfl)); (try simp only [Act.put, List.setIfInBounds_toArray, List.set_cons_zero, List.set_cons_succ])
      refine plan_quiet rfl (by rfl) (v := ?_) ?_ ?_; rotate_left; (intro w1 hSw; obtain ⟨h0, h1, h2, h3, h4, h5, h6⟩ := hSw; go_simp; try (with_reducible rfl)); (try simp only [Act.put, List.setIfInBounds_toArray, List.set_cons_zero, List.set_cons_succ])
      refine plan_quiet rfl (by rfl) (v := ?_) ?_ ?_; rotate_left; (intro w1 hSw; obtain ⟨h0, h1, h2, h3, h4, h5, h6⟩ := hSw; go_simp; try (with_reducible rfl)); (try simp only [Act.put, List.setIfInBounds_toArray, List.set_cons_zero, List.set_cons_succ])
      refine plan_end ?_
      go_wp2
      go_ret
      exact ⟨rfl, T15.out⟩
end Go.Proofs.Ytobakeahbgodbaa
