/-
  FillMagazine by contract, model and program. Condition: lengths of at most 2^20.
-/
import Derived.Test.YtobakeahbgodbaaMagW
import Derived.Test.YtobakeahbgodbaaPkG
namespace Go.Proofs.Ytobakeahbgodbaa
open Go.RowKit
set_option linter.unusedVariables false

def fillOk (f : Fnt) (e : Int) : Bool := fontB f && inB e 0 20
def fillRow (f : Fnt) (e i : Nat) : List Mat := List.replicate e ((i : Int), f.cs.getD i 0)
def fillTo (f : Fnt) (e n k : Nat) : List (List Mat) := (List.range k).map (fillRow f e) ++ List.replicate (n - k) []
def fillL (f : Fnt) (e : Int) : List (List Mat) := if fillOk f e then fillTo f e.toNat f.cs.length f.cs.length else []
theorem fillTo_len {f : Fnt} {e n k : Nat} (h : k ≤ n) : (fillTo f e n k).length = n := by simp [fillTo]; omega
theorem fillTo_get {f : Fnt} {e n k : Nat} (h : k < n) : (fillTo f e n k)[k]? = some [] := by
  unfold fillTo
  rw [List.getElem?_append_right (by simp), List.length_map, List.length_range, Nat.sub_self, List.getElem?_replicate, if_pos (by omega)]
theorem fillTo_step {f : Fnt} {e n k : Nat} (h : k < n) : (fillTo f e n k).set k (fillRow f e k) = fillTo f e n (k + 1) := by
  unfold fillTo
  rw [List.set_append, if_neg (by simp), List.length_map, List.length_range, Nat.sub_self, List.range_succ, List.map_append, List.append_assoc]
  have : n - k = (n - (k + 1)) + 1 := by omega
  rw [this, List.replicate_succ, List.set_cons_zero]
  rfl
/-- .. and j matrices of row k -/
def fillJ (f : Fnt) (e n k j : Nat) : List (List Mat) := (fillTo f e n k).set k (fillRow f j k)
theorem fillJ_zero {f : Fnt} {e n k : Nat} (h : k < n) : fillJ f e n k 0 = fillTo f e n k := by
  unfold fillJ
  have : fillRow f 0 k = [] := rfl
  rw [this]
  exact List.ext_getElem? fun i => by
    by_cases hi : i = k
    · subst hi; rw [List.getElem?_set_self (by rw [fillTo_len (by omega)]; exact h), fillTo_get h]
    · rw [List.getElem?_set_ne (by omega)]
theorem fillJ_get {f : Fnt} {e n k j : Nat} (h : k < n) : (fillJ f e n k j)[k]? = some (fillRow f j k) := by
  unfold fillJ; rw [List.getElem?_set_self (by rw [fillTo_len (by omega)]; exact h)]
theorem fillJ_set {f : Fnt} {e n k j : Nat} (h : k < n) {x : Int} (hx : Hid (f.cs[k]? = some x)) : (fillJ f e n k j).set k (fillRow f j k ++ [((k : Int), x)]) = fillJ f e n k (j + 1) := by
  unfold fillJ
  rw [List.set_set]
  congr 1
  unfold fillRow
  rw [getD_at hx.out, List.replicate_succ']
theorem fillJ_full {f : Fnt} {e n k : Nat} (h : k < n) : fillJ f e n k e = fillTo f e n (k + 1) := fillTo_step h
theorem fillJ_len {f : Fnt} {e n k j : Nat} (h : k < n) : (fillJ f e n k j).length = n := by unfold fillJ; rw [List.length_set, fillTo_len (by omega)]
theorem fillRow_len {f : Fnt} {j k : Nat} : (fillRow f j k).length = j := by unfold fillRow; rw [List.length_replicate]
theorem ownMag_nil (w : World) (B hi : Nat) : OwnMag w B hi (.slice none 0 0) [] [] :=
  ⟨World.ownsRow_nil _ _ _ _, fun j xs h => by simp at h, fun i j h h' g e => by simp at e, fun i h g e => by simp at e, fun g h => by cases h⟩

set_option maxRecDepth 100000 in
set_option maxHeartbeats 3200000 in
theorem implFill_any (lo hi : Nat) (v : Value) (f : Fnt) (E : Int) (w : World) (h : FontV w lo hi v f) (hhi : hi ≤ w.heap.size) (hs : Small f) :
    Calls Try.prog 17 #[v, .int .i64 E] w fun r w' => ∃ u hs', r = .returned (.tuple #[u, .bool (fillOk f E)]) ∧ OwnMag w' w.heap.size w'.heap.size u hs' (fillL f E) ∧ Below w.heap.size w w' := by
  obtain ⟨B, d, B2, d2, hv⟩ := fontForm h
  have hFV := h
  obtain ⟨A', c', A2', d2', hv2, -, hI2, -⟩ := hFV
  rw [hv] at hv2
  injection hv2 with hv3
  simp only [Array.mk.injEq, List.cons.injEq, Value.slice.injEq, and_true, true_and] at hv3
  obtain ⟨⟨rfl, rfl⟩, ⟨rfl, rfl⟩⟩ := hv3
  obtain ⟨s, hs0⟩ : ∃ s, f.s = s := ⟨_, rfl⟩
  obtain ⟨p, hp⟩ : ∃ n, f.ws.length = n := ⟨_, rfl⟩
  obtain ⟨n, hq⟩ : ∃ m, f.cs.length = m := ⟨_, rfl⟩
  rw [hs0, hp, hq] at hv
  rw [hv] at h
  rw [hv]
  obtain ⟨W, hW0⟩ : ∃ W, W = w.alloc (.cells #[.string s, .slice B p d, .slice B2 n d2] 25) := ⟨_, rfl⟩
  have hW : Below w.heap.size w W := by rw [hW0]; exact (Below.refl _ _).alloc (Nat.le_refl _) _
  have V0 := Lib.hid (h.below hhi hW)
  have C0 := Lib.hid (hI2.below hhi hW)
  have X0 := Lib.hid (new3 w (.string s) (.slice B p d) (.slice B2 n d2) 25)
  rw [← hW0] at X0
  have zW : W.heap.size = w.heap.size + 1 := by rw [hW0]; simp
  have T0 := Lib.hid hW
  have Hq := Lib.hid hq
  have Hs0 := Lib.hid hs0
  clear hv hs0 hp hq h hW hI2
  cases hf : fontB f
  · have HO : Hid (fillOk f E = false) := by show _ = _; unfold fillOk; rw [hf]; rfl
    have HR : Hid (fillL f E = []) := by show _ = _; unfold fillL; rw [HO.out]; rfl
    rw [HO.out, HR.out]
    go_enter Try.func17, Try.ntmps17
    go_wp2_with fail
    rw [← hW0]
    clear hW0
    refine (implFontOk_any lo hi _ f _ V0.out (by omega) hs).mono ?_
    rintro e' w1 ⟨rfl, hb1⟩
    rw [hf]
    have HB1 := Lib.hid hb1
    clear hb1
    go_wp2
    go_ret2
    exact ⟨_, _, rfl, ownMag_nil _ _ _, T0.out.trans (HB1.out.mono (by omega))⟩
  cases hin : inB E 0 20
  · have HO : Hid (fillOk f E = false) := by show _ = _; unfold fillOk; rw [hf, hin]; rfl
    have HR : Hid (fillL f E = []) := by show _ = _; unfold fillL; rw [HO.out]; rfl
    rw [HO.out, HR.out]
    go_enter Try.func17, Try.ntmps17
    go_wp2_with fail
    rw [← hW0]
    clear hW0
    refine (implFontOk_any lo hi _ f _ V0.out (by omega) hs).mono ?_
    rintro e' w1 ⟨rfl, hb1⟩
    rw [hf]
    have HB1 := Lib.hid hb1
    clear hb1
    have hout : E < 0 ∨ 20 < E := by
      have : ¬ (0 ≤ E ∧ E ≤ 20) := fun hh => by rw [(inB_iff _ _ _).2 hh] at hin; cases hin
      omega
    rcases hout with hout | hout
    · go_wp2
      go_ret2
      exact ⟨_, _, rfl, ownMag_nil _ _ _, T0.out.trans (HB1.out.mono (by omega))⟩
    · go_wp2
      go_ret2
      exact ⟨_, _, rfl, ownMag_nil _ _ _, T0.out.trans (HB1.out.mono (by omega))⟩
  have HO : Hid (fillOk f E = true) := by show _ = _; unfold fillOk; rw [hf, hin]; rfl
  obtain ⟨E0, E1⟩ := (inB_iff _ _ _).1 hin
  obtain ⟨e, rfl⟩ := Int.eq_ofNat_of_zero_le E0
  have he : e ≤ 20 := by omega
  have HR : Hid (fillL f (e : Int) = fillTo f e n n) := by show _ = _; unfold fillL; rw [if_pos HO.out, Int.toNat_natCast, Hq.out]
  rw [HO.out, HR.out]
  have hfs := (fontB_codes hf).1
  have hbl := bar_len (fontB_codes hf).2.2
  rw [Hs0.out, Hq.out] at hfs
  rw [Hq.out] at hbl
  have hn40 : n ≤ 40 := by omega
  have hse : (s.size : Int) = (n : Int) := by omega
  clear hfs hbl E0 E1
  go_enter Try.func17, Try.ntmps17
  go_wp2_with fail
  rw [← hW0]
  clear hW0
  refine (implFontOk_any lo hi _ f _ V0.out (by omega) hs).mono ?_
  rintro e' w1 ⟨rfl, hb1⟩
  rw [hf]
  have HB1 := Lib.hid hb1
  have s1 := hb1.size
  obtain ⟨q0, q1, q2⟩ := keep3 hb1 (by omega) X0.out
  have hz1 : w.heap.size < w1.heap.size := by omega
  clear hb1
  go_wp2_with (first
    | (at_make; refine wpl_make_mag _ rfl (.tmp 22) rfl n _ rfl (by first | rfl | exact hse) (by omega) ?_; intro w2 hM2 hb2 hz2; have q2' := (hb2.cell (p := ⟨w.heap.size, 2, none⟩) hz1).trans q2; have hz3 : w.heap.size < w2.heap.size := by omega))
  have HM2 := Lib.hid hM2
  have HB2 := Lib.hid (HB1.out.trans (hb2.mono (by omega)))
  have hbw2 := Lib.hid hb2
  clear hM2 hb2 q0 q1 q2 q2'
  have hK : ∀ wr, Below w1.heap.size w1 wr → Below W.heap.size W wr := fun wr hh => HB1.out.trans (hh.mono (by omega))
  have HKK := Lib.hid hK
  clear hK
  go_loopw [27] (fun i wr => ∃ (k : Nat) (hs : List Value), k ≤ n ∧ i = .int .i64 k ∧ OwnMag wr w1.heap.size wr.heap.size (.slice (some ⟨w1.heap.size, 0, none⟩) n n) hs (fillTo f e n k) ∧ Below w1.heap.size w1 wr ∧ w1.heap.size < wr.heap.size) (fun i _ => n - (intOf i).toNat)
  case atStart => exact ⟨0, _, Nat.zero_le _, rfl, by simpa [fillTo] using HM2.out, hbw2.out, hz2⟩
  case round =>
    obtain ⟨k, gs, hk, rfl, hM, hb, hz⟩ := hrel
    have HM := Lib.hid hM; have HB := Lib.hid hb
    clear hM hb
    by_cases hkn : k < n
    · obtain ⟨ad, x, rfl, hx, hc⟩ := ((C0.out.below (by omega) (HKK.out _ HB.out)).ints).at_ (k := k) (by rw [Hq.out]; exact hkn)
      have HM0 := Lib.hid (show OwnMag wr w1.heap.size wr.heap.size (.slice (some ⟨w1.heap.size, 0, none⟩) n n) gs (fillJ f e n k 0) by rw [fillJ_zero hkn]; exact HM.out)
      go_wp2
      go_loopw [33] (fun j wr => ∃ (j' : Nat) (hs : List Value), j' ≤ e ∧ j = .int .i64 j' ∧ OwnMag wr w1.heap.size wr.heap.size (.slice (some ⟨w1.heap.size, 0, none⟩) n n) hs (fillJ f e n k j') ∧ Below w1.heap.size w1 wr ∧ w1.heap.size < wr.heap.size) (fun j _ => e - (intOf j).toNat)
      case atStart => exact ⟨0, _, Nat.zero_le _, rfl, HM0.out, HB.out, hz⟩
      case round =>
        clear HM0 HM HB hz hc
        obtain ⟨j, hs2, hj, rfl, hM, hb, hz⟩ := hrel
        by_cases hje : j < e
        · obtain ⟨h0, hh0, hO0⟩ := hM.rows k _ (fillJ_get hkn)
          have ho := hM.outer
          rw [fillJ_len hkn] at ho
          have d1 := (ho.cellAt k (by omega)).trans hh0
          have f1 := ho.frozenAt k
          have HH0 := Lib.hid hh0; have HO0 := Lib.hid hO0
          have HM3 := Lib.hid hM; have HB3 := Lib.hid hb
          obtain ⟨A0, c0, rfl, -⟩ := hO0.form
          rw [fillRow_len] at d1
          have hbz := hb.size
          clear hh0 hO0 hM hb ho
          go_wp2_with (at_builtin; refine wpl_push_mat _ rfl (.tmp 40) (.tmp 44) rfl w1.heap.size _ (fillRow f j k) ((k : Int), x) (by rw [fillRow_len]; rfl) rfl HO0.out hbz (by rw [fillRow_len]; omega) ?_; intro v5 w5 hO5 hg5 hf5; have hk5 := HM3.out.kept HH0.out hg5; rw [fillJ_len hkn] at hk5; have hst := HM3.out.store (fillJ_get hkn) HH0.out hg5 hO5 hf5 (Nat.le_refl _); rw [fillJ_set hkn hx] at hst; obtain ⟨A5, c5, rfl, -⟩ := hO5.form; have e5 : (fillRow f j k ++ [((k : Int), x)]).length = j + 1 := (by rw [List.length_append, fillRow_len]; rfl); rw [e5] at hst ⊢; have d5 := (hk5.cellAt k (by omega)).trans HH0.out; have f5 := hk5.frozenAt k; have HST := Lib.hid hst; have HBE := Lib.hid ((HB3.out.trans ((Below.refl _ _).grown hg5 hbz (fun g hg => (HO0.out.lt g hg).1))).setCell (p := ⟨w1.heap.size, k, none⟩) (Nat.le_refl _) (.slice A5 (j + 1) c5)); have HZE := Lib.hid (show w1.heap.size < (w5.setCell ⟨w1.heap.size, k, none⟩ (.slice A5 (j + 1) c5)).heap.size by have := hg5.size; simp only [World.setCell, Array.size_modify]; omega); clear hst hg5 hO5 hf5)
          go_roundw
          case rel => exact ⟨j + 1, _, by omega, by go_num, HST.out, HBE.out, HZE.out⟩
          case measure => simp [intOf]; omega
        · have hje2 : j = e := by omega
          subst hje2
          rw [fillJ_full hkn] at hM
          have HM3 := Lib.hid hM; have HB3 := Lib.hid hb
          clear hM hb
          go_wp2
          go_roundw
          case rel => exact ⟨k + 1, _, by omega, by go_num, HM3.out, HB3.out, hz⟩
          case measure => simp [intOf]; omega
    · have hkn2 : k = n := by omega
      subst hkn2
      go_wp2
      go_ret2
      exact ⟨_, _, rfl, HM.out.base (by omega), T0.out.trans ((HKK.out _ HB.out).mono (by omega))⟩
end Go.Proofs.Ytobakeahbgodbaa
