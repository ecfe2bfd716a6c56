/-
  FnMarks: its walk: one sign for each line that stays, goes or comes. No condition.
-/
import Derived.Test.YtgngekolnlbddaaReset
import Derived.Test.YtgngekolnlbddaaMks
import Derived.Outline
namespace Go.Proofs.Ytgngekolnlbddaa
open Go.RowKit
set_option linter.unusedVariables false

theorem mks_get {f o i L k : Nat} (h : k < (mksK f o i L).size) : (mksK f o i L)[k] = sgn f o i k := by
  have h' : k < L := by rwa [mks_size] at h
  show (((List.range L).map (sgn f o i)).toArray)[k]'(by simpa using h') = _
  simp
/-- how many stayed, went and came before sign k -/
def Cnt (f o i k p g m : Nat) : Prop := p = min k f + (k - (f + o + i)) ∧ g = min (k - f) o ∧ m = min (k - f - o) i
theorem Cnt.step {f o i k p g m : Nat} (h : Cnt f o i k p g m) :
    (sgn f o i k = 61 ∧ (k < f ∨ f + o + i ≤ k) ∧ Cnt f o i (k + 1) (p + 1) g m) ∨ (sgn f o i k = 45 ∧ f ≤ k ∧ k < f + o ∧ Cnt f o i (k + 1) p (g + 1) m) ∨ (sgn f o i k = 43 ∧ f + o ≤ k ∧ k < f + o + i ∧ Cnt f o i (k + 1) p g (m + 1)) := by
  unfold Cnt at *
  obtain ⟨h1, h2, h3⟩ := h
  unfold sgn
  by_cases c1 : k < f
  · left; rw [if_pos c1]; exact ⟨rfl, .inl c1, by omega, by omega, by omega⟩
  rw [if_neg c1]
  by_cases c2 : f + o + i ≤ k
  · left; rw [if_pos c2]; exact ⟨rfl, .inr c2, by omega, by omega, by omega⟩
  rw [if_neg c2]
  by_cases c3 : k < f + o
  · right; left; rw [if_pos c3]; exact ⟨rfl, by omega, c3, by omega, by omega, by omega⟩
  · right; right; rw [if_neg c3]; exact ⟨rfl, by omega, by omega, by omega, by omega, by omega⟩
theorem Cnt.small {f o i k p g m : Nat} (h : Cnt f o i k p g m) : p ≤ k ∧ g ≤ k ∧ m ≤ k ∧ (k ≤ f → g = 0 ∧ m = 0) := by unfold Cnt at h; omega
theorem Cnt.full {f o i l p g m : Nat} (h : Cnt f o i (f + o + i + l) p g m) : p = f + l ∧ g = o ∧ m = i := by unfold Cnt at h; omega

theorem drawMarks_any (A : Option Addr) (n c : Nat) (bs : List Int) (w : World) (hn : bs.length = n) (hm : n ≤ maxLen) (h : Bytes w A bs) (wf : ∀ z ∈ bs, (Lit.int .u8 z).wf = true) :
    Calls Try.prog 18 #[.slice A n c] w fun e w' => ∃ A1 n1 c1 zs A2 n2 c2 ys, e = .returned (.tuple #[.slice A1 n1 c1, .slice A2 n2 c2]) ∧ Strs w' A1 zs ∧ Strs w' A2 ys ∧ zs.length = n1 ∧ ys.length = n2 ∧ n1 ≤ 8 ∧ n2 ≤ 8 ∧ n1 ≤ c1 ∧ c1 ≤ maxLen ∧ n2 ≤ c2 ∧ c2 ≤ maxLen ∧ Below w.heap.size w w' := by
  have H := Lib.hid h; have Hn := Lib.hid hn; have Hwf := Lib.hid wf
  clear h hn wf
  go_enter Try.func18, Try.ntmps18
  go_wp2_with fail
  refine (l01New_any _ _ _ bs _ Hn.out hm H.out Hwf.out).mono ?_
  rintro e w1 ⟨rfl, hc1, hb1, hs1⟩
  have HB1 := Lib.hid hb1; have HS1 := Lib.hid hs1; have HC1 := Lib.hid hc1
  clear hc1 hb1 hs1
  go_wp2_with fail
  refine (lists_cm _ _ HC1.out).mono ?_
  rintro e w2 ⟨u, v, zs, ys, rfl, hR⟩
  obtain ⟨hO1, hO2, _, hl1, hl2, hcm⟩ := hR
  obtain ⟨A1, n1, c1, rfl, hn1, hQ1, hc1, hm1, hI1⟩ := owns_form hO1
  obtain ⟨A2, n2, c2, rfl, hn2, hQ2, hc2, hm2, hI2⟩ := owns_form hO2
  have hb := cm_below HB1.out HS1.out hcm
  have hn18 : n1 ≤ 8 := by omega
  have hn28 : n2 ≤ 8 := by omega
  have R := Lib.hid (show Strs w2 A1 zs ∧ Strs w2 A2 ys ∧ zs.length = n1 ∧ ys.length = n2 ∧ n1 ≤ 8 ∧ n2 ≤ 8 ∧ n1 ≤ c1 ∧ c1 ≤ maxLen ∧ n2 ≤ c2 ∧ c2 ≤ maxLen ∧ Below w.heap.size w w2 from ⟨hI1, hI2, hn1, hn2, hn18, hn28, hc1, hm1, hc2, hm2, hb⟩)
  clear hO1 hO2 hcm hQ1 hQ2 hI1 hI2 hn1 hn2 hb
  go_wp2
  go_ret2
  exact ⟨_, _, _, zs, _, _, _, ys, rfl, R.out⟩

set_option maxRecDepth 100000 in
set_option maxHeartbeats 6400000 in
theorem fnMarks_walk (A : Option Addr) (n c : Nat) (bs : List Int) (w : World) (hn : bs.length = n) (hm : n ≤ maxLen) (h : Bytes w A bs) (wf : ∀ z ∈ bs, (Lit.int .u8 z).wf = true) :
    Calls Try.prog 5 #[.slice A n c] w fun e w' => e = .returned (.bool true) ∧ Below w.heap.size w w' := by
  have H := Lib.hid h; have Hn := Lib.hid hn; have Hwf := Lib.hid wf
  clear h hn wf
  have hm0 := hm
  unfold maxLen at hm
  by_cases hbig : 1048576 < n
  · go_enter Try.func5, Try.ntmps5
    go_wp2
    go_ret
    exact ⟨rfl, Below.refl _ _⟩
  go_enter Try.func5, Try.ntmps5
  go_wp2_with fail
  refine (drawMarks_any _ _ _ bs _ Hn.out hm0 H.out Hwf.out).mono ?_
  rintro e w1 ⟨A1, n1, c1, zs, A2, n2, c2, ys, rfl, hI1, hI2, hn1, hn2, h18, h28, hc1, hm1, hc2, hm2, hb1⟩
  have I1 := Lib.hid hI1; have I2 := Lib.hid hI2; have N1 := Lib.hid hn1; have N2 := Lib.hid hn2; have T1 := Lib.hid hb1
  have s1 := hb1.size
  obtain ⟨f, hf⟩ : ∃ f, preL zs ys = f := ⟨_, rfl⟩
  obtain ⟨l, hl⟩ : ∃ l, sufL zs ys = l := ⟨_, rfl⟩
  have hle := sufL_le zs ys
  rw [hf, hl, hn1, hn2] at hle
  obtain ⟨hle1, hle2⟩ := hle
  obtain ⟨o, ho⟩ : ∃ o, n1 - f - l = o := ⟨_, rfl⟩
  obtain ⟨i, hi⟩ : ∃ i, n2 - f - l = i := ⟨_, rfl⟩
  have HV : Hid (rstV zs ys = .tuple #[.int .i64 (f : Int), .int .i64 (o : Int), .int .i64 (i : Int)]) := by show _ = _; unfold rstV; rw [hf, hl, hn1, hn2, ho, hi]
  have e1 : f + o + l = n1 := by omega
  have e2 : f + i + l = n2 := by omega
  obtain ⟨s, hs⟩ : ∃ s, mksS zs ys = s := ⟨_, rfl⟩
  have hsm : s = mksK f o i (f + o + i + l) := by rw [← hs]; unfold mksS; rw [hf, hl, hn1, hn2, ho, hi]; congr 1; omega
  have hsz : s.size = f + o + i + l := by rw [hsm, mks_size]
  have HG : Hid (∀ k (h : k < s.size), s[k].toNat = (sgn f o i k).toNat) := by show ∀ k (h : k < s.size), s[k].toNat = (sgn f o i k).toNat; subst hsm; intro k h; rw [mks_get h]
  have HS := Lib.hid hs
  clear hf hl hs hsm hI1 hI2 hn1 hn2 hb1 ho hi hle1 hle2
  go_wp2_with fail
  refine (implMks_any _ _ _ _ _ _ zs ys _ N1.out N2.out (by omega) (by omega) I1.out I2.out).mono ?_
  rintro e w2 ⟨rfl, hb2⟩
  rw [HS.out]
  have J1 := Lib.hid (I1.out.below hb2); have J2 := Lib.hid (I2.out.below hb2)
  have T2 := Lib.hid (T1.out.trans (hb2.mono s1))
  have s2 : w.heap.size ≤ w2.heap.size := Nat.le_trans s1 hb2.size
  clear hb2 I1 I2 T1 HS
  go_wp2_with fail
  refine (implReset_any _ _ _ _ _ _ zs ys _ N1.out N2.out (by omega) (by omega) J1.out J2.out).mono ?_
  rintro e w3 ⟨rfl, hb3⟩
  rw [HV.out]
  have T3 := Lib.hid (T2.out.trans (hb3.mono s2))
  clear hb3 J1 J2 T2 HV
  go_wp2
  go_loopw [9, 10, 11, 12] (fun a b d q wr => ∃ k p g m j : Nat, k ≤ s.size ∧ q = .int .i64 k ∧ a = .int .i64 p ∧ b = .int .i64 g ∧ d = .int .i64 m ∧ Cnt f o i k p g m ∧ wr = w3.drewN j) (fun _ _ _ q _ => s.size - (intOf q).toNat)
  case atStart => exact ⟨0, 0, 0, 0, 0, Nat.zero_le _, rfl, rfl, rfl, rfl, by unfold Cnt; omega, rfl⟩
  case round =>
    obtain ⟨k, p, g, m, j, hk, rfl, rfl, rfl, rfl, hC, rfl⟩ := hrel
    have hsm := hC.small
    obtain ⟨b1, b2, b3, b4⟩ := hsm
    have HC := Lib.hid hC
    by_cases hlt : k < s.size
    · have HB := Lib.hid (HG.out k hlt)
      rcases hC.step with ⟨hs, hor, hC2⟩ | ⟨hs, q1, q2, hC2⟩ | ⟨hs, q1, q2, hC2⟩
      · have HC2 := Lib.hid hC2
        have hx : s[k].toNat = 61 := by rw [HB.out, hs]; rfl
        have x1 : ((s[k].toNat : Int) == 61) = true := by rw [hx]; rfl
        have x2 : ((s[k].toNat : Int) != 61) = false := by rw [hx]; rfl
        clear hs hC hC2 hx HC HB
        by_cases hkf : k = f
        · subst hkf
          have hoi : o = 0 ∧ i = 0 := by omega
          obtain ⟨rfl, rfl⟩ := hoi
          obtain ⟨rfl, rfl⟩ := b4 (Nat.le_refl _)
          go_wp2
          go_roundw
          case rel => exact ⟨k + 1, p + 1, 0, 0, _, by omega, by go_num, by go_num, by go_num, by go_num, HC2.out, rfl⟩
          case measure => simp [intOf]; omega
        · have y1 : ((k : Int) == (f : Int)) = false := by rw [beq_eq_false_iff_ne]; omega
          clear b4
          by_cases hkl : k < f
          · go_wp2
            go_roundw
            case rel => exact ⟨k + 1, p + 1, g, m, _, by omega, by go_num, by go_num, by go_num, by go_num, HC2.out, rfl⟩
            case measure => simp [intOf]; omega
          · go_wp2
            go_roundw
            case rel => exact ⟨k + 1, p + 1, g, m, _, by omega, by go_num, by go_num, by go_num, by go_num, HC2.out, rfl⟩
            case measure => simp [intOf]; omega
      · have HC2 := Lib.hid hC2
        have hx : s[k].toNat = 45 := by rw [HB.out, hs]; rfl
        have x1 : ((s[k].toNat : Int) == 61) = false := by rw [hx]; rfl
        have x2 : ((s[k].toNat : Int) == 45) = true := by rw [hx]; rfl
        clear hs hC hC2 hx HC HB b4
        by_cases hkf : k = f
        · subst hkf
          have y2 : ((g : Int) + 1 + (m : Int) == 0) = false := by rw [beq_eq_false_iff_ne]; omega
          go_wp2
          go_roundw
          case rel => exact ⟨k + 1, p, g + 1, m, _, by omega, by go_num, by go_num, by go_num, by go_num, HC2.out, rfl⟩
          case measure => simp [intOf]; omega
        · have y1 : ((k : Int) == (f : Int)) = false := by rw [beq_eq_false_iff_ne]; omega
          go_wp2
          go_roundw
          case rel => exact ⟨k + 1, p, g + 1, m, _, by omega, by go_num, by go_num, by go_num, by go_num, HC2.out, rfl⟩
          case measure => simp [intOf]; omega
      · have HC2 := Lib.hid hC2
        have hx : s[k].toNat = 43 := by rw [HB.out, hs]; rfl
        have x1 : ((s[k].toNat : Int) == 61) = false := by rw [hx]; rfl
        have x2 : ((s[k].toNat : Int) == 45) = false := by rw [hx]; rfl
        have x3 : ((s[k].toNat : Int) == 43) = true := by rw [hx]; rfl
        clear hs hC hC2 hx HC HB b4
        by_cases hkf : k = f
        · subst hkf
          have y2 : ((g : Int) + ((m : Int) + 1) == 0) = false := by rw [beq_eq_false_iff_ne]; omega
          go_wp2
          go_roundw
          case rel => exact ⟨k + 1, p, g, m + 1, _, by omega, by go_num, by go_num, by go_num, by go_num, HC2.out, rfl⟩
          case measure => simp [intOf]; omega
        · have y1 : ((k : Int) == (f : Int)) = false := by rw [beq_eq_false_iff_ne]; omega
          go_wp2
          go_roundw
          case rel => exact ⟨k + 1, p, g, m + 1, _, by omega, by go_num, by go_num, by go_num, by go_num, HC2.out, rfl⟩
          case measure => simp [intOf]; omega
    · have hkn : k = s.size := by omega
      subst hkn
      have hC3 := HC.out
      rw [hsz] at hC3
      obtain ⟨e3, e4, e5⟩ := hC3.full
      clear hC3 hC HC b4
      subst e4; subst e5
      have z3 : ((n1 : Int) - (g : Int) + (m : Int) == (n2 : Int)) = true := by rw [beq_iff_eq]; omega
      go_wp2
      go_ret
      exact ⟨rfl, below_drewN T3.out _⟩
end Go.Proofs.Ytgngekolnlbddaa
