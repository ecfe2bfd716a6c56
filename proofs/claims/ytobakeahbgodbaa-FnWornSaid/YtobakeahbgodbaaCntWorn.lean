/-
  CountWorn by contract, model and program. Conditions: lengths of at most 2^20; for the program the teeth are in the range of int.
-/
import Derived.Test.YtobakeahbgodbaaCntMag
namespace Go.Proofs.Ytobakeahbgodbaa
open Go.RowKit
set_option linter.unusedVariables false

set_option maxRecDepth 100000 in
set_option maxHeartbeats 3200000 in
theorem countWorn_any (lo hi lo2 hi2 : Nat) (v : Value) (f : Fnt) (A : Option Addr) (n c : Nat) (ms : List (List Mat)) (w : World) (h : FontV w lo hi v f) (hhi : hi ≤ w.heap.size) (hs : Small f) (hn : ms.length = n) (hm : n ≤ 1048576) (hM : MagI w lo2 hi2 A ms) (hhi2 : hi2 ≤ w.heap.size) (wf : wfM ms) (g : Nat) (GB GB2 : Option Addr) (gs : ByteArray) (gp gd gq gd2 : Nat) (hg : g < w.heap.size) (hG : w.cell? ⟨g, 0, none⟩ = some (.string gs) ∧ w.cell? ⟨g, 1, none⟩ = some (.slice GB gp gd) ∧ w.cell? ⟨g, 2, none⟩ = some (.slice GB2 gq gd2)) (hgv : FontV w lo hi (.agg #[.string gs, .slice GB gp gd, .slice GB2 gq gd2]) f) :
    Calls Try.prog 56 #[v, .slice A n c, .func (.func 58) #[] #[.pointer (some ⟨g, 0, none⟩)]] w fun e w' => e = .returned (.int .i64 (cntI f ms (wornP f))) ∧ Below w.heap.size w w' := by
  obtain ⟨B, d, B2, d2, hv, hI2⟩ := fontForm2 h
  obtain ⟨s, hs0⟩ : ∃ s, f.s = s := ⟨_, rfl⟩
  obtain ⟨p, hp⟩ : ∃ n, f.ws.length = n := ⟨_, rfl⟩
  obtain ⟨q, hq⟩ : ∃ m, f.cs.length = m := ⟨_, rfl⟩
  rw [hs0, hp, hq] at hv
  rw [hv] at h
  rw [hv]
  have hW : Below w.heap.size w (w.alloc (.cells #[.string s, .slice B p d, .slice B2 q d2] 25)) := (Below.refl _ _).alloc (Nat.le_refl _) _
  have V0 := Lib.hid (h.below hhi hW)
  have M0 := Lib.hid (hM.below hhi2 hW)
  have X0 := Lib.hid (new3 w (.string s) (.slice B p d) (.slice B2 q d2) 25)
  have T0 := Lib.hid hW
  have C0 := Lib.hid (hI2.below hhi hW)
  have G0 := Lib.hid (keep3 hW hg hG)
  have GV0 := Lib.hid (hgv.below hhi hW)
  clear hG hgv
  have Hn := Lib.hid hn
  have HS := Lib.hid hs
  have Hq := Lib.hid hq
  clear hs0 hp hq h hW hM hn hs hv hI2
  cases hmg : magB f ms
  · have HR : Hid (cntI f ms (wornP f) = -1) := by show _ = _; unfold cntI; rw [hmg]; rfl
    go_enter Try.func56, Try.ntmps56
    go_wp2_with (go_at_call 49; refine (implMagOk_any lo hi lo2 hi2 _ f _ _ _ ms _ V0.out (by simp; omega) HS.out Hn.out hm M0.out (by simp; omega) wf).mono ?_; rintro e w1 ⟨rfl, hb1⟩; have T1 := Lib.hid (T0.out.trans (hb1.mono (by simp))); clear hb1)
    go_ret
    exact ⟨ret_int HR.out.symm, T1.out⟩
  obtain ⟨hf, hlen, hrows⟩ := magB_rows hmg
  have hfs := fontB_size hf
  have HR : Hid (cntI f ms (wornP f) = cntM (wornP f) ms n) := by show _ = _; unfold cntI; rw [hmg, Hn.out]; rfl
  have HF := Lib.hid hf; have Hrows := Lib.hid hrows
  have hn40 : n ≤ 40 := by rw [← Hn.out, hlen]; omega
  have HL := Lib.hid (cntM_le (p := wornP f) (fun xs hx => (hrows xs hx).1))
  clear hf hlen hrows hfs
  go_enter Try.func56, Try.ntmps56
  go_wp2_with fail
  refine (implMagOk_any lo hi lo2 hi2 _ f _ _ _ ms _ V0.out (by simp; omega) HS.out Hn.out hm M0.out (by simp; omega) wf).mono ?_
  rintro e w1 ⟨rfl, hb1⟩
  have T1 := Lib.hid (T0.out.trans (hb1.mono (by simp)))
  have V1 := Lib.hid (V0.out.below (by simp; omega) hb1)
  have M1 := Lib.hid (M0.out.below (by simp; omega) hb1)
  have X1 := Lib.hid (keep3 hb1 (by simp) X0.out)
  have C1 := Lib.hid (C0.out.below (by simp; omega) hb1)
  have G1 := Lib.hid (keep3 hb1 (by simp; omega) G0.out)
  have GV1 := Lib.hid (GV0.out.below (by simp; omega) hb1)
  clear G0 GV0
  have s1 := hb1.size
  simp only [World.size_alloc] at s1
  clear hb1 V0 M0 X0 T0 C0
  go_wp2
  go_loopw [7, 18] (fun u i wr => ∃ k : Nat, k ≤ n ∧ i = .int .i64 k ∧ u = .int .i64 (cntM (wornP f) ms k) ∧ Below w1.heap.size w1 wr) (fun _ i _ => n - (intOf i).toNat)
  case atStart => exact ⟨0, Nat.zero_le _, rfl, rfl, Below.refl _ _⟩
  case round =>
    obtain ⟨k, hk, rfl, rfl, hb⟩ := hrel
    have HB := Lib.hid hb
    have hc0 := HL.out k (by rw [Hn.out]; exact hk)
    clear hb
    by_cases hlt : k < n
    · obtain ⟨ad, xs, Aj, cj, rfl, hx, hc, hcap, hcm, hI⟩ := (M1.out.below (by omega) HB.out).at_ (k := k) (by rw [Hn.out]; exact hlt)
      obtain ⟨l, hl⟩ : ∃ l, xs.length = l := ⟨_, rfl⟩
      have hl20 : l ≤ 20 := by rw [← hl]; exact (Hrows.out xs (List.mem_of_getElem? hx.out)).1
      rw [hl] at hc hcap
      have HI := Lib.hid hI; have HLx := Lib.hid hl
      have HC := Lib.hid (cntM_succ (p := wornP f) hx.out)
      clear hI hcap hcm hl
      go_wp2
      go_loopw [7, 25] (fun u i wr => ∃ j : Nat, j ≤ l ∧ i = .int .i64 j ∧ u = .int .i64 (cntM (wornP f) ms k + cntR ((wornP f) k) (xs.take j) : Nat) ∧ Below w1.heap.size w1 wr) (fun _ i _ => l - (intOf i).toNat)
      case atStart => exact ⟨0, Nat.zero_le _, rfl, by simp [cntR], HB.out⟩
      case round =>
        obtain ⟨j, hj, rfl, rfl, hb2⟩ := hrel
        have HB2 := Lib.hid hb2
        have hcj := cntR_le ((wornP f) k) xs j
        clear hb2
        by_cases hjl : j < l
        · obtain ⟨bd, x, rfl, hxj, d1, e1⟩ := (HI.out.keep (w' := wr) (fun p _ h2 => (HB2.out.cell (by omega)).trans (HB.out.cell (by omega)).symm)).at_ (k := j) (by rw [HLx.out]; exact hjl)
          have hmx := (Hrows.out xs (List.mem_of_getElem? hx.out)).2 x (List.mem_of_getElem? hxj.out)
          have hz := HB2.out.size
          have hwz : w.heap.size < wr.heap.size := by omega
          have HBa := Lib.hid (HB2.out.alloc HB2.out.size (.cells #[.int .i64 x.1, .int .i64 x.2] 34))
          cases ht : (wornP f) k x
          · have HN := Lib.hid (cntR_no (q := (wornP f) k) hxj.out ht)
            have GVw := Lib.hid (GV1.out.below (B := w1.heap.size) (by omega) HBa.out)
            have Gw := Lib.hid (keep3 HBa.out (by omega) G1.out)
            go_wp2_with fail
            refine (wornF_any lo hi g GB GB2 gs gp gd gq gd2 f k x _ GVw.out (by simp; omega) HS.out HF.out hmx (by simp; omega) Gw.out).mono ?_
            rintro e w2 ⟨rfl, hbb⟩
            rw [ht]
            have HE := Lib.hid (HBa.out.trans (hbb.mono (by simp; omega)))
            clear HBa hmx ht hz hbb
            go_wp2
            go_roundw
            case rel => exact ⟨j + 1, by omega, by go_num, by (rw [HN.out]) <;> first | rfl | go_num, HE.out⟩
            case measure => simp [intOf]; omega
          · have HN := Lib.hid (cntR_yes (q := (wornP f) k) hxj.out ht)
            have GVw := Lib.hid (GV1.out.below (B := w1.heap.size) (by omega) HBa.out)
            have Gw := Lib.hid (keep3 HBa.out (by omega) G1.out)
            go_wp2_with fail
            refine (wornF_any lo hi g GB GB2 gs gp gd gq gd2 f k x _ GVw.out (by simp; omega) HS.out HF.out hmx (by simp; omega) Gw.out).mono ?_
            rintro e w2 ⟨rfl, hbb⟩
            rw [ht]
            have HE := Lib.hid (HBa.out.trans (hbb.mono (by simp; omega)))
            clear HBa hmx ht hz hbb
            go_wp2
            go_roundw
            case rel => exact ⟨j + 1, by omega, by go_num, by (rw [HN.out]) <;> first | rfl | go_num, HE.out⟩
            case measure => simp [intOf]; omega
        · have hjn : j = l := by omega
          subst hjn
          have HN : Hid (cntM (wornP f) ms k + cntR ((wornP f) k) (xs.take j) = cntM (wornP f) ms (k + 1)) := by show _ = _; rw [mtake_all HLx.out, HC.out]
          rw [HN.out]
          go_wp2
          go_roundw
          case rel => exact ⟨k + 1, by omega, by go_num, rfl, HB2.out⟩
          case measure => simp [intOf]; omega
    · have hkn : k = n := by omega
      subst hkn
      go_wp2
      go_ret
      exact ⟨ret_int HR.out.symm, T1.out.trans (HB.out.mono (by omega))⟩

set_option maxRecDepth 100000 in
set_option maxHeartbeats 1600000 in
theorem implWorn_any (lo hi lo2 hi2 : Nat) (v : Value) (f : Fnt) (A : Option Addr) (n c : Nat) (ms : List (List Mat)) (w : World) (h : FontV w lo hi v f) (hhi : hi ≤ w.heap.size) (hs : Small f) (hn : ms.length = n) (hm : n ≤ 1048576) (hM : MagI w lo2 hi2 A ms) (hhi2 : hi2 ≤ w.heap.size) (wf : wfM ms) :
    Calls Try.prog 15 #[v, .slice A n c] w fun e w' => e = .returned (.int .i64 (cntI f ms (wornP f))) ∧ Below w.heap.size w w' := by
  obtain ⟨B, d, B2, d2, hv⟩ := fontForm h
  obtain ⟨s, hs0⟩ : ∃ s, f.s = s := ⟨_, rfl⟩
  obtain ⟨p, hp⟩ : ∃ n, f.ws.length = n := ⟨_, rfl⟩
  obtain ⟨q, hq⟩ : ∃ m, f.cs.length = m := ⟨_, rfl⟩
  rw [hs0, hp, hq] at hv
  rw [hv] at h
  rw [hv]
  have hW : Below w.heap.size w (w.alloc (.cells #[.string s, .slice B p d, .slice B2 q d2] 25)) := (Below.refl _ _).alloc (Nat.le_refl _) _
  have V0 := Lib.hid (h.below hhi hW)
  have M0 := Lib.hid (hM.below hhi2 hW)
  have X0 := Lib.hid (new3 w (.string s) (.slice B p d) (.slice B2 q d2) 25)
  have T0 := Lib.hid hW
  have Hn := Lib.hid hn
  clear hs0 hp hq h hW hM hn hv
  have hmf : ∀ (fn : Fn) (first cap : Array Value) (w : World), (Instr.makeFunc fn first cap).run Try.prog w = .ok (.func fn first cap) w := fun _ _ _ _ => rfl
  go_enter Try.func15, Try.ntmps15
  go_wp2_with fail
  refine (countWorn_any lo hi lo2 hi2 _ f _ _ _ ms _ V0.out (by simp; omega) hs Hn.out hm M0.out (by simp; omega) wf w.heap.size B B2 s p d q d2 (by simp) X0.out V0.out).mono ?_
  rintro e w1 ⟨rfl, hb1⟩
  have T1 := Lib.hid (T0.out.trans (hb1.mono (by simp)))
  clear hb1
  go_wp2
  go_ret
  exact ⟨rfl, T1.out⟩
end Go.Proofs.Ytobakeahbgodbaa
