/-
  The laws' helpers toFont, eqFont, markFont by contract. Conditions: lengths of at most 2^20.
-/
import Derived.Test.YthoepelgmplcmaaFont
namespace Go.Proofs.Ythoepelgmplcmaa
open Go.RowKit
set_option linter.unusedVariables false

theorem own_set {w : World} {B : Nat} {v : Value} {zs : List Int} (h : Own w B v zs) {a : Addr} (ha : a.block < B) (u : Value) : Own (w.setCell a u) B v zs := ownsRow_setCell_below h ha u
theorem own_baseB {w : World} {B B' : Nat} {v : Value} {zs : List Int} (h : Own w B v zs) (hB : B' ≤ B) : Own w B' v zs := by
  refine ⟨h.1, ?_⟩
  rcases h.2 with hn | ⟨g, cap, cur, hv, hg, rest⟩
  · exact .inl hn
  · exact .inr ⟨g, cap, cur, hv, by omega, rest⟩
theorem own_lt {w : World} {B : Nat} {v : Value} {zs : List Int} (h : Own w B v zs) : ∀ k, v.ownBlock = some k → k < w.heap.size := fun k hk => (World.ownsRow.lt h k hk).2

set_option maxHeartbeats 800000 in
theorem toFont_any (lo hi : Nat) (v : Value) (f : Fnt) (w : World) (h : FontV w lo hi v f) (hhi : hi ≤ w.heap.size) (hs : Small f) :
    Calls Try.prog 39 #[v] w fun e w' => ∃ v', e = .returned v' ∧ FontO w' w.heap.size w'.heap.size v' f ∧ Below w.heap.size w w' := by
  obtain ⟨A, c, A2, d, rfl, hI1, hI2, hc1, hc2, hd1, hd2, hss⟩ := h
  obtain ⟨s, ws, cs⟩ := f
  obtain ⟨hs1, hs2, hs3⟩ := hs
  simp only at *
  obtain ⟨n, hn⟩ : ∃ n, ws.length = n := ⟨_, rfl⟩
  obtain ⟨m, hm⟩ : ∃ m, cs.length = m := ⟨_, rfl⟩
  have Hn := Lib.hid hn; have Hm := Lib.hid hm
  rw [hn, hm]
  rw [hn] at hs2
  rw [hm] at hs3
  have H1 := Lib.hid hI1; have H2 := Lib.hid hI2; have Hss := Lib.hid hss
  clear hn hm hI1 hI2 hc1 hc2 hd1 hd2 hss
  go_enter Try.func39, Try.ntmps39
  go_wp2_with fail
  refine (toIntS_call _ _ _ ws _ Hn.out hs2 (H1.out.below hhi ((((Below.refl _ _).alloc (Nat.le_refl _) _).alloc (by simp) _).alloc (by simp <;> omega) _)).ints).mono ?_
  rintro e w1 ⟨B1, e1, rfl, hJ1, hO1, hb1, _, _⟩
  obtain ⟨bc1, bf1⟩ := And.intro (bcell hb1) (bfroz hb1)
  have hz1 : w.heap.size + 1 + 1 < w1.heap.size := by have := hb1.size; simp at this; omega
  have hz1a : w.heap.size + 1 < w1.heap.size := by omega
  have hz1b : w.heap.size < w1.heap.size := by omega
  have HO1 := Lib.hid hO1; have HB1 := Lib.hid hb1
  clear hJ1 hO1 hb1
  go_wp2_with fail
  refine (toIntS_call _ _ _ cs _ Hm.out hs3 (H2.out.below hhi ((((((Below.refl _ _).alloc (Nat.le_refl _) _).alloc (by simp) _).alloc (by simp <;> omega) _).trans (HB1.out.mono (by simp <;> omega))).setCell (by simp <;> omega) _)).ints).mono ?_
  rintro e w2 ⟨B2, e2, rfl, hJ2, hO2, hb2, _, _⟩
  obtain ⟨bc2, bf2⟩ := And.intro (bcell hb2) (bfroz hb2)
  have hz2 : w.heap.size + 1 + 1 < w2.heap.size := by have := hb2.size; simp at this; omega
  have hz2a : w.heap.size + 1 < w2.heap.size := by omega
  have hz2b : w.heap.size < w2.heap.size := by omega
  have HO2 := Lib.hid hO2; have HB2 := Lib.hid hb2
  clear hJ2 hO2 hb2
  go_wp2_with fail
  have hsz : w1.heap.size ≤ w2.heap.size := by have := HB2.out.size; simpa using this
  refine bodyPost_ret (v := .agg #[.string s, .slice B1 n e1, .slice B2 m e2]) (by simp [results, Try.results39, go_sem, bc1, bc2, hz1a]) rfl ⟨_, rfl, ?_, ?_⟩
  · refine ⟨B1, e1, B2, e2, w1.heap.size, by rw [Hn.out, Hm.out], ?_, ?_, ?_, ?_, by omega, by simp <;> omega, Hss.out⟩
    · rw [Hn.out]
      refine own_baseB (B := w.heap.size + 3) ?_ (by omega)
      have h1 : Own w1 (w.heap.size + 3) (.slice B1 n e1) ws := own_baseB HO1.out (by simp)
      have h2 : Own w2 (w.heap.size + 3) (.slice B1 n e1) ws := (own_set h1 (by simp <;> omega) _).below HB2.out
      exact own_set (own_set (own_set (own_set h2 (by simp <;> omega) _) (by simp <;> omega) _) (by simp <;> omega) _) (by simp <;> omega) _
    · rw [Hn.out]
      exact own_lt HO1.out
    · rw [Hm.out]
      have h2 : Own w2 w1.heap.size (.slice B2 m e2) cs := own_baseB HO2.out (by simp)
      exact own_set (own_set (own_set (own_set h2 (by simp <;> omega) _) (by simp <;> omega) _) (by simp <;> omega) _) (by simp <;> omega) _
    · rw [Hm.out]
      have := own_lt HO2.out
      simpa using this
  · have hb : Below w.heap.size w w2 := ((((((Below.refl _ _).alloc (Nat.le_refl _) _).alloc (by simp) _).alloc (by simp <;> omega) _).trans (HB1.out.mono (by simp <;> omega))).setCell (by simp <;> omega) _).trans (HB2.out.mono (by simp <;> omega))
    exact (((hb.setCell (by simp <;> omega) _).setCell (by simp) _).setCell (by simp) _).setCell (by simp) _

set_option maxHeartbeats 800000 in
theorem eqFont_same (lo hi lo2 hi2 : Nat) (v u : Value) (f : Fnt) (w : World) (h : FontV w lo hi v f) (h2 : FontV w lo2 hi2 u f) (hhi : hi ≤ w.heap.size) (hhi2 : hi2 ≤ w.heap.size) (hs : Small f) :
    Calls Try.prog 42 #[v, u] w fun e w' => e = .returned (.bool true) ∧ Below w.heap.size w w' := by
  obtain ⟨A, c, A2, d, rfl, hI1, hI2, hc1, hc2, hd1, hd2, hss⟩ := h
  obtain ⟨B, c', B2, d', rfl, hJ1, hJ2, hc1', hc2', hd1', hd2', hss'⟩ := h2
  obtain ⟨s, ws, cs⟩ := f
  obtain ⟨hs1, hs2, hs3⟩ := hs
  simp only at *
  obtain ⟨n, hn⟩ : ∃ n, ws.length = n := ⟨_, rfl⟩
  obtain ⟨m, hm⟩ : ∃ m, cs.length = m := ⟨_, rfl⟩
  have Hn := Lib.hid hn; have Hm := Lib.hid hm
  rw [hn, hm]
  rw [hn] at hs2
  rw [hm] at hs3
  have hW : Below w.heap.size w ((w.alloc (.cells #[.string s, .slice A n c, .slice A2 m d] 25)).alloc (.cells #[.string s, .slice B n c', .slice B2 m d'] 25)) := ((Below.refl _ _).alloc (Nat.le_refl _) _).alloc (by simp) _
  have G1 := Lib.hid (hI1.below hhi hW); have G2 := Lib.hid (hI2.below hhi hW)
  have G3 := Lib.hid (hJ1.below hhi2 hW); have G4 := Lib.hid (hJ2.below hhi2 hW)
  have HW := Lib.hid hW
  clear hn hm hI1 hI2 hJ1 hJ2 hc1 hc2 hd1 hd2 hss hc1' hc2' hd1' hd2' hss' hW
  go_enter Try.func42, Try.ntmps42
  go_wp2_with fail
  refine (eqIntS_same _ _ _ _ _ ws _ Hn.out hs2 G1.out.ints G3.out.ints).mono ?_
  rintro e w' ⟨rfl, q, rfl⟩
  go_wp2_with fail
  refine (eqIntS_same _ _ _ _ _ cs _ Hm.out hs3 (G2.out.ints.drewN q) (G4.out.ints.drewN q)).mono ?_
  rintro e w' ⟨rfl, q2, rfl⟩
  go_wp2
  go_ret
  exact ⟨rfl, below_drewN HW.out _⟩

/-- .. over a world whatever: what the marks leave -/
theorem markFont_any (lo hi : Nat) (v : Value) (f : Fnt) (k : Int) (w : World) (h : FontO w lo hi v f) (hlo : lo ≤ w.heap.size) (hhi : hi ≤ w.heap.size) (hs : Small f) (hk0 : 0 ≤ k) (hk1 : k ≤ 1048576) (hk2 : k + f.ws.length ≤ 1048576) :
    Calls Try.prog 43 #[v, .int .i64 k] w fun e w' => e = .returned (.int .i64 (k + f.ws.length + f.cs.length)) ∧ Chg lo hi w w' := by
  obtain ⟨A, c, A2, d, mid, rfl, hO1, hm1, hO2, hm2, h3, h4, hss⟩ := h
  obtain ⟨s, ws, cs⟩ := f
  obtain ⟨hs1, hs2, hs3⟩ := hs
  simp only at *
  obtain ⟨n, hn⟩ : ∃ n, ws.length = n := ⟨_, rfl⟩
  obtain ⟨m, hm⟩ : ∃ m, cs.length = m := ⟨_, rfl⟩
  have Hn := Lib.hid hn; have Hm := Lib.hid hm
  rw [hn] at hO1 hm1 hs2 hk2
  rw [hm] at hO2 hm2 hs3
  rw [hn, hm]
  have hL1 := Lib.hid (fun g hg => World.ownsRow.lt hO1 g hg)
  have hL2 := Lib.hid (fun g hg => World.ownsRow.lt hO2 g hg)
  have hW : Below w.heap.size w (w.alloc (.cells #[.string s, .slice A n c, .slice A2 m d] 25)) := (Below.refl _ _).alloc (Nat.le_refl _) _
  have G1 := Lib.hid (hO1.below hW); have G2 := Lib.hid (hO2.below hW)
  have HW := Lib.hid hW; have M1 := Lib.hid hm1; have M2 := Lib.hid hm2
  clear hn hm hO1 hO2 hW hm1 hm2
  go_enter Try.func43, Try.ntmps43
  go_wp2_with fail
  refine (markIntS_any lo _ _ ws _ hk0 (by omega) (by rw [Hn.out]; exact hs2) G1.out).mono ?_
  rintro e w1 ⟨rfl, hP1, hg1⟩
  rw [Hn.out]
  have c1 : Chg lo hi (w.alloc (.cells #[.string s, .slice A n c, .slice A2 m d] 25)) w1 := Chg.of_grown hg1 (fun g hg => ⟨(hL1.out g hg).1, by have := M1.out g hg; omega⟩)
  have O2 : Own w1 mid (.slice A2 m d) cs := by
    refine (Chg.of_grown (lo := lo) (hi := mid) hg1 (fun g hg => ⟨(hL1.out g hg).1, M1.out g hg⟩)).own G2.out fun g hg => ?_
    have := (hL2.out g hg).1; omega
  have k2 : w1.cell? ⟨w.heap.size, 2, none⟩ = some (.slice A2 m d) := by
    rw [c1.cell (by simp) (by simp <;> omega)]
    rw [World.cell?_alloc_at _ _ _ _ rfl]; rfl
  have C1 := Lib.hid c1
  have P2 := Lib.hid O2
  clear hP1 hg1 c1 O2
  go_wp2_with fail
  refine (markIntS_any mid _ _ cs _ (by omega) (by omega) (by rw [Hm.out]; exact hs3) P2.out).mono ?_
  rintro e w2 ⟨rfl, hP2, hg2⟩
  rw [Hm.out]
  have C2 := Lib.hid (Chg.of_grown (lo := lo) (hi := hi) hg2 (fun g hg => ⟨by have := (hL2.out g hg).1; omega, M2.out g hg⟩))
  clear hP2 hg2
  go_wp2
  go_ret
  exact ⟨rfl, ((Chg.of_below HW.out).trans C1.out).trans C2.out⟩
end Go.Proofs.Ythoepelgmplcmaa
