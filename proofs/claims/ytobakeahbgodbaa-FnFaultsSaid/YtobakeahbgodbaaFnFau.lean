/-
  FnFaults: its walk. No condition.
-/
import Derived.Test.YtobakeahbgodbaaDrawWd
import Derived.Test.YtobakeahbgodbaaFau
namespace Go.Proofs.Ytobakeahbgodbaa
open Go.RowKit
set_option linter.unusedVariables false

theorem fauN_sym (a b : ByteArray) (k : Nat) : fauN b a k = fauN a b k := by
  unfold fauN
  congr 1
  refine List.filter_congr fun i _ => ?_
  rw [Bool.eq_iff_iff, bne_iff_ne, bne_iff_ne]
  exact ne_comm
theorem fauL_sym (a b : ByteArray) : fauL b a = fauL a b := by
  unfold fauL
  by_cases h : a.size = b.size
  · rw [if_pos h, if_pos h.symm, ← h, fauN_sym]
  · rw [if_neg h, if_neg (Ne.symm h)]
theorem fauB_sym (a b : ByteArray) : fauB b a = fauB a b := by unfold fauB; rw [Bool.eq_iff_iff, beq_iff_eq, beq_iff_eq]; exact eq_comm
theorem fauN_more (a b : ByteArray) (k : Nat) : ∀ d, ∃ t, fauN a b (k + d) = fauN a b k ++ t
  | 0 => ⟨[], by simp⟩
  | d + 1 => by
    obtain ⟨t, ht⟩ := fauN_more a b k d
    by_cases h : byA a (k + d) = byA b (k + d)
    · exact ⟨t, by rw [← Nat.add_assoc, fauN_no h, ht]⟩
    · exact ⟨t ++ [((k + d : Nat) : Int)], by rw [← Nat.add_assoc, fauN_yes h, ht, List.append_assoc]⟩
theorem fauN_get {a b : ByteArray} {k n : Nat} (hk : k < n) (h : byA a k ≠ byA b k) : (fauN a b n)[(fauN a b k).length]? = some (k : Int) := by
  obtain ⟨t, ht⟩ := fauN_more a b (k + 1) (n - (k + 1))
  rw [show k + 1 + (n - (k + 1)) = n by omega] at ht
  rw [ht, fauN_yes h, List.append_assoc, List.getElem?_append_right (Nat.le_refl _), Nat.sub_self]
  rfl

set_option maxRecDepth 100000 in
set_option maxHeartbeats 3200000 in
theorem fnFaults_walk (A : Option Addr) (n c : Nat) (bs : List Int) (w : World) (hn : bs.length = n) (hm : n ≤ maxLen) (h : Bytes w A bs) (wf : ∀ z ∈ bs, (Lit.int .u8 z).wf = true) :
    Calls Try.prog 5 #[.slice A n c] w fun e w' => e = .returned (.bool true) ∧ Below w.heap.size w w' := by
  have H := Lib.hid h; have Hn := Lib.hid hn; have Hwf := Lib.hid wf
  clear h hn wf
  have hm0 := hm
  unfold maxLen at hm
  by_cases hbig : 1048576 < n
  · go_enter Try.func5, Try.ntmps5
    go_wp2
    go_ret
    exact ⟨rfl, Below.refl _ _⟩
  go_enter Try.func5, Try.ntmps5
  go_wp2_with fail
  refine (drawFaults_any _ _ _ bs _ Hn.out hm0 H.out Hwf.out).mono ?_
  rintro e w1 ⟨a, b, rfl, ha, hb, hb1⟩
  have T1 := Lib.hid hb1; have z1 := hb1.size
  clear hb1
  have HSB := Lib.hid (fauB_sym a b); have HSL := Lib.hid (fauL_sym a b)
  have hlen := fauL_len a b
  obtain ⟨F, hF⟩ : ∃ F, fauB a b = F := ⟨_, rfl⟩
  obtain ⟨L, hL⟩ : ∃ L, fauL a b = L := ⟨_, rfl⟩
  rw [hL] at hlen HSL
  rw [hF] at HSB
  have HF := Lib.hid hF; have HL := Lib.hid hL
  have hfe : ((a.size : Int) == (b.size : Int)) = F := by rw [← hF]; unfold fauB; exact Bool.eq_iff_iff.2 ⟨fun h => by have := beq_iff_eq.1 h; rw [beq_iff_eq]; omega, fun h => by have := beq_iff_eq.1 h; rw [beq_iff_eq]; omega⟩
  obtain ⟨m, hm2⟩ : ∃ m, L.length = m := ⟨_, rfl⟩
  rw [hm2] at hlen
  have Hm := Lib.hid hm2
  have hff : (F != F) = false := by cases F <;> rfl
  clear hF hL hm2
  go_wp2_with fail
  refine (implFau_any a b w1 (by omega) (by omega)).mono ?_
  rintro e w2 ⟨u, rfl, hO, hb2⟩
  rw [HL.out] at hO
  rw [HF.out]
  obtain ⟨A1, c1, rfl, hI1, -, -, -⟩ := hO.form
  rw [Hm.out]
  have T2 := Lib.hid (T1.out.trans (hb2.mono z1)); have I2 := Lib.hid (IntsB.of hI1); have z2 : w.heap.size ≤ w2.heap.size := by have := hb2.size; omega
  clear hO hb2 hI1 T1
  go_wp2_with fail
  refine (implFau_any b a w2 (by omega) (by omega)).mono ?_
  rintro e w3 ⟨u, rfl, hO, hb3⟩
  rw [HSL.out] at hO
  rw [HSB.out]
  obtain ⟨A2, c2, rfl, hI3, -, -, -⟩ := hO.form
  rw [Hm.out]
  have T3 := Lib.hid (T2.out.trans (hb3.mono z2)); have I3 := Lib.hid (I2.out.keep (Nat.le_refl _) hb3); have J3 := Lib.hid hI3
  clear hO hb3 hI3 T2 I2
  have hmm : m ≤ maxLen := by unfold maxLen; omega
  go_wp2_with fail
  refine (lawInts_any _ _ m c1 m c2 L L _ Hm.out Hm.out hmm hmm I3.out.ints J3.out).mono ?_
  rintro e w4 ⟨q, rfl, rfl⟩
  have hdd : decide (L = L) = true := decide_eq_true rfl
  rw [hdd]
  have IQ : Hid (∀ q, Ints (w3.drewN q) A1 L) := fun q => I3.out.ints
  have TQ : Hid (∀ q, Below w.heap.size w (w3.drewN q)) := fun q => below_drewN T3.out q
  clear I3 J3 T3 hdd
  cases F
  · have hm0 : m = 0 := by
      have h := HF.out
      unfold fauB at h
      rw [beq_eq_false_iff_ne] at h
      have h2 := HL.out
      unfold fauL at h2
      rw [if_neg h] at h2
      have h3 := Hm.out
      rw [← h2] at h3
      simpa using h3.symm
    subst hm0
    go_wp2
    refine wp_loop_rounds 1 ?_
    rw [rounds_succ]
    go_wp2
    go_ret
    exact ⟨rfl, TQ.out _⟩
  have hab : a.size = b.size := by have h := HF.out; unfold fauB at h; exact beq_iff_eq.1 h
  have HLN : Hid (L = fauN a b a.size) := by show _ = _; rw [← HL.out]; unfold fauL; rw [if_pos hab]
  go_wp2
  go_loopw [9, 10] (fun v i wr => ∃ k : Nat, k ≤ a.size ∧ i = .int .i64 k ∧ v = .int .i64 (((fauN a b k).length : Nat) : Int) ∧ ∃ q, wr = w3.drewN q) (fun _ i _ => a.size - (intOf i).toNat)
  case atStart => exact ⟨0, Nat.zero_le _, rfl, rfl, q, rfl⟩
  case round =>
    obtain ⟨k, hk, rfl, rfl, q2, rfl⟩ := hrel
    have hlk := fauN_len a b k
    obtain ⟨p, hp⟩ : ∃ p, (fauN a b k).length = p := ⟨_, rfl⟩
    rw [hp] at hlk ⊢
    have HP := Lib.hid hp
    clear hp
    by_cases hlt : k < a.size
    · have hlb : k < b.size := by omega
      by_cases hxy : byA a k = byA b k
      · have HN := Lib.hid (fauN_no hxy)
        rw [byA_eq hlt, byA_eq hlb] at hxy
        obtain ⟨t1, t2⟩ := u8_eq hxy
        clear hxy
        go_wp2
        go_quiet (fail)
        go_wp2
        go_roundw
        case rel => exact ⟨k + 1, by omega, by go_num, by rw [HN.out, HP.out], _, rfl⟩
        case measure => simp [intOf]; omega
      · have HN := Lib.hid (fauN_yes hxy)
        have hg := fauN_get hlt hxy
        rw [← HLN.out, HP.out] at hg
        have hpm : p < m := by have := (List.getElem?_eq_some_iff.1 hg).1; rw [Hm.out] at this; exact this
        have HG := Lib.hid hg
        rw [byA_eq hlt, byA_eq hlb] at hxy
        obtain ⟨t1, t2⟩ := u8_ne hxy
        clear hxy hg
        obtain ⟨ad, x, hA1, hx, hcx⟩ := (IQ.out 0).at_ (k := p) (by rw [Hm.out]; exact hpm)
        subst hA1
        have hxk : x = (k : Int) := by have h := hx.out; rw [HG.out] at h; injection h with h; exact h.symm
        subst hxk
        have hcq : ∀ q, (w3.drewN q).cell? (ad.add p) = some (.int .i64 (k : Int)) := fun _ => hcx
        clear hx hcx
        go_wp2
        go_quiet (fail)
        go_wp2
        go_roundw
        case rel => exact ⟨k + 1, by omega, by go_num, by rw [HN.out, List.length_append, HP.out]; go_num, _, rfl⟩
        case measure => simp [intOf]; omega
    · have hkn : k = a.size := by omega
      subst hkn
      have hpm : p = m := by rw [← HP.out, ← HLN.out, Hm.out]
      subst hpm
      go_wp2
      go_ret
      exact ⟨by simp, TQ.out _⟩
end Go.Proofs.Ytobakeahbgodbaa
