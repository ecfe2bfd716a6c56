/-
  TextOk of model and program; the type setting of the program: its loads, kinds, costs, lines, by contract. Conditions: the measure is one and the words are a text, where a line is asked for; a line has at least one word.
-/
import Derived.Test.YtddkedinkgnboaaRise
import Derived.Test.YtddkedinkgnboaaCut
import Derived.Deep.RegionWith
namespace Go.Proofs.Ytddkedinkgnboaa
open Go.RowKit
set_option linter.unusedVariables false

theorem wordFn_any (x : Int) (w : World) : Calls Try.prog 83 #[.int .i64 x] w fun e w' => e = .returned (.bool (wordB x)) ∧ w = w' := by
  go_enter Try.func83, Try.ntmps83
  go_wp2_with fail
  refine (isFrom_any _ _ _ _).mono ?_
  rintro e w' ⟨rfl, rfl⟩
  go_wp2
  go_ret
  exact ⟨rfl, rfl⟩
theorem wordFn_enter (args : Array Value) (w : World) : Sem.run Try.prog (callFunc 83 args) w = .ok (.enter 83 args) w := by kernel_rfl
theorem implTextOk_any (A : Option Addr) (n c : Nat) (zs : List Int) (w : World) (hn : zs.length = n) (hm : n ≤ maxLen) (h : Ints w A zs) :
    Calls Try.prog 70 #[.slice A n c] w fun e w' => e = .returned (.bool (textB zs)) ∧ w = w' := by
  have Hn := Lib.hid hn; clear hn
  go_enter Try.func70, Try.ntmps70
  go_wp2_with fail
  refine (isListOf_any 83 wordFn_enter wordB wordFn_any _ _ _ zs _ _ _ Hn.out hm h).mono ?_
  rintro e w' ⟨rfl, rfl⟩
  go_wp2
  go_ret
  exact ⟨ret_bool (by unfold textB; rw [Hn.out]), rfl⟩

set_option maxHeartbeats 400000 in
theorem specTextOk_any (A : Option Addr) (n c : Nat) (zs : List Int) (w : World) (hn : zs.length = n) (hm : n ≤ maxLen) (h : Ints w A zs) :
    Calls Try.prog 17 #[.slice A n c] w fun e w' => e = .returned (.bool (textB zs)) ∧ w = w' := by
  unfold maxLen at hm
  have Hn := Lib.hid hn; clear hn
  go_enter Try.func17, Try.ntmps17
  go_wp2
  go_loop [7] (fun i => ∃ k : Nat, k ≤ n ∧ i = .int .i64 k ∧ (zs.take k).all wordB = true) (fun i => n - (intOf i).toNat)
  case atStart => exact ⟨0, Nat.zero_le _, rfl, rfl⟩
  case round =>
    obtain ⟨k, hk, rfl, hall⟩ := hrel
    have Hall := Lib.hid hall; clear hall
    by_cases hlt : k < n
    · obtain ⟨ad, x, rfl, hx, hc⟩ := h.at_ (k := k) (by rw [Hn.out]; exact hlt)
      cases hs : inB x 1 2000
      · have Hb := Lib.hid (all_bad (p := wordB) hx.out hs)
        go_wp2_with (go_at_call 49; refine (l1In_any _ _ _ _).mono ?_; rintro e w' ⟨rfl, rfl⟩)
        go_ret
        exact ⟨ret_bool (by unfold textB; rw [Hb.out]; simp), rfl⟩
      · have Hs := Lib.hid (all_take (p := wordB) hx.out)
        have HX : Hid (wordB x = true) := hs
        go_wp2_with (go_at_call 49; refine (l1In_any _ _ _ _).mono ?_; rintro e w' ⟨rfl, rfl⟩)
        go_round
        case rel => exact ⟨k + 1, by omega, by go_num, by rw [Hs.out, Hall.out, HX.out]; rfl⟩
        case measure => simp [intOf]; omega
    · have hkn : k = n := by omega
      subst hkn
      go_wp2_with (go_at_call 49; refine (l1In_any _ _ _ _).mono ?_; rintro e w' ⟨rfl, rfl⟩)
      go_ret
      refine ⟨ret_bool ?_, rfl⟩
      have := Hall.out
      rw [take_all Hn.out] at this
      unfold textB
      rw [this, Hn.out, Bool.and_true]

/-- a setting's value -/
abbrev stV (W t k : Int) (ad : Addr) (n c : Nat) : Value := .agg #[.int .i64 W, .int .i64 t, .int .i64 k, .slice (some ad) n c]
/-- a setting's cells at block g -/
def St (w : World) (g : Nat) (W t k : Int) (s : Value) : Prop :=
  w.cell? ⟨g, 0, none⟩ = some (.int .i64 W) ∧ w.cell? ⟨g, 1, none⟩ = some (.int .i64 t) ∧ w.cell? ⟨g, 2, none⟩ = some (.int .i64 k) ∧ w.cell? ⟨g, 3, none⟩ = some s
theorem St.hold {w w' : World} {B g : Nat} {W t k : Int} {s : Value} (hb : Below B w w') (hg : g < B) (h : St w g W t k s) : St w' g W t k s :=
  ⟨(hb.cell (p := ⟨g, 0, none⟩) hg).trans h.1, (hb.cell (p := ⟨g, 1, none⟩) hg).trans h.2.1, (hb.cell (p := ⟨g, 2, none⟩) hg).trans h.2.2.1, (hb.cell (p := ⟨g, 3, none⟩) hg).trans h.2.2.2⟩
theorem stWorld (w : World) (W t k : Int) (s : Value) : ∃ w0, w.alloc (.cells #[.int .i64 W, .int .i64 t, .int .i64 k, s] 59) = w0 ∧ Below w.heap.size w w0 ∧ w0.heap.size = w.heap.size + 1 ∧ St w0 w.heap.size W t k s :=
  ⟨_, rfl, below_new _ _, by simp, by unfold St; simp⟩

set_option maxRecDepth 100000 in
set_option maxHeartbeats 1600000 in
theorem stLoad_any (W t k : Int) (ad : Addr) (n c : Nat) (zs : List Int) (a b : Nat) (w : World) (hn : zs.length = n) (hc : n ≤ c) (hcm : c ≤ maxLen) (h : Ints w (some ad) zs) (ht : textB zs = true) (hab : a < b) (hb : b ≤ n) :
    Calls Try.prog 78 #[stV W t k ad n c, .int .i64 a, .int .i64 b] w fun e w' => e = .returned (.agg #[.int .i64 (sumL (seg zs a b)), .int .i64 ((b - a - 1 : Nat) : Int)]) ∧ Below w.heap.size w w' := by
  obtain ⟨hz, hl1, hl2⟩ := textB_parts ht
  have H := Lib.hid (ints_seg (a := a) (b := b) h (by omega))
  obtain ⟨ys, hys⟩ : ∃ ys, seg zs a b = ys := ⟨_, rfl⟩
  have hyl : ys.length = b - a := by rw [← hys]; exact seg_len (by omega)
  have hyz : ∀ x ∈ ys, 1 ≤ x ∧ x ≤ 2000 := fun x hx => hz x (seg_mem (by rw [hys]; exact hx))
  have HL := Lib.hid (words_take hyz (by omega))
  have HZ := Lib.hid hyz
  rw [hys] at H ⊢
  obtain ⟨B, hB⟩ : ∃ B, b - a - 1 = B := ⟨_, rfl⟩
  have hM : b - a = B + 1 := by omega
  rw [hM] at hyl
  rw [hB]
  have Hyl := Lib.hid hyl
  have hB2 : (b : Int) - (a : Int) - 1 = (B : Int) := by omega
  have hM3 : (b : Int) - (a : Int) = ((B + 1 : Nat) : Int) := by omega
  have e1 : IntKind.i64.wrap ((b : Int) - (a : Int)) = (b : Int) - (a : Int) := by rw [IntKind.wrap_i64]; unfold maxLen at hcm; omega
  have e2 : IntKind.i64.wrap ((b : Int) - (a : Int) - 1) = (B : Int) := by rw [IntKind.wrap_i64]; unfold maxLen at hcm; omega
  have hac : ¬ c = a := by omega
  have hMn : B < 40 := by omega
  unfold maxLen at hcm
  have hbc : b ≤ c := by omega
  have hab2 : a ≤ b := by omega
  obtain ⟨w0, hw0, hb0, hz0, P⟩ := stWorld w W t k (.slice (some ad) n c)
  have T0 := Lib.hid hb0
  have Z0 := Lib.hid hz0
  have H0 := Lib.hid (H.out.below hb0)
  obtain ⟨p0, p1, p2, p3⟩ := P
  clear hb0 hz hl1 hl2 hyl hyz H hys hn h ht
  go_enter Try.func78, Try.ntmps78
  go_wp2_with fail
  clear hw0 hz0 hM p0 p1 p2 p3 e1 e2 hac hab2 hbc hB2 hM3 hB hab hb hc hcm
  go_loopw [21] (fun i wr => ∃ j : Nat, j ≤ B + 1 ∧ i = .int .i64 j ∧ ldCells wr (w.heap.size + 1 + 1) (sumL (ys.take j)) B ∧ ldCells wr (w.heap.size + 1) 0 0 ∧ Below w.heap.size w wr ∧ Below w0.heap.size w0 wr) (fun i _ => B + 1 - (intOf i).toNat)
  case atStart =>
    refine ⟨0, Nat.zero_le _, rfl, ?_, ?_, ?_, ?_⟩
    · unfold ldCells
      have := heap_alloc_new (w0.alloc (.cells #[.int .i64 0, .int .i64 0] 90)) (.cells #[.int .i64 0, .int .i64 B] 90)
      rw [World.size_alloc, Z0.out] at this
      exact this
    · unfold ldCells
      rw [Below.heap_alloc _ _ _ (by rw [World.size_alloc, Z0.out]; omega)]
      have := heap_alloc_new w0 (.cells #[.int .i64 0, .int .i64 0] 90)
      rw [Z0.out] at this
      exact this
    · exact (T0.out.trans ((below_new w0 _).mono (by rw [Z0.out]; omega))).trans ((below_new _ _).mono (by rw [World.size_alloc, Z0.out]; omega))
    · exact ((Below.refl _ _).alloc (Nat.le_refl _) _).alloc (by simp) _
  case round =>
    obtain ⟨j, hj, rfl, hc1, hc0, hb, hb2⟩ := hrel
    have HC1 := Lib.hid hc1; have HC0 := Lib.hid hc0; have HB := Lib.hid hb; have HB2 := Lib.hid hb2
    clear hc1 hc0 hb hb2
    obtain ⟨d0, d1, f0, f1⟩ := HC1.out.cell
    by_cases hlt : j < B + 1
    · obtain ⟨ad2, x, hade, hx, hcx⟩ := (H0.out.below HB2.out).at_ (k := j) (by rw [Hyl.out]; exact hlt)
      injection hade with hade; subst hade
      have HS := Lib.hid (sumL_at hx.out)
      have hb1 := HL.out j
      have hx2 := HZ.out x (mem_at hx.out)
      obtain ⟨sm, hsm⟩ : ∃ s, sumL (ys.take j) = s := ⟨_, rfl⟩
      rw [hsm] at HS HC1 d0 hb1
      have Hsm := Lib.hid hsm
      clear hsm
      have HX := Lib.hid ((HC1.out.set0 (sm + x)))
      have HY := Lib.hid (HC0.out.other ⟨w.heap.size + 1 + 1, 0, none⟩ (.int .i64 (sm + x)) (by simp))
      have HT := Lib.hid (HB.out.setCell (p := ⟨w.heap.size + 1 + 1, 0, none⟩) (by simp; omega) (.int .i64 (sm + x)))
      have HT2 := Lib.hid (HB2.out.setCell (p := ⟨w.heap.size + 1 + 1, 0, none⟩) (by rw [Z0.out]; simp) (.int .i64 (sm + x)))
      go_wp2
      go_roundw
      case rel => exact ⟨j + 1, by omega, by go_num, by rw [HS.out]; exact HX.out, HY.out, HT.out, HT2.out⟩
      case measure => simp [intOf]; omega
    · have hkn : j = B + 1 := by omega
      subst hkn
      rw [take_all Hyl.out] at HC1 d0
      obtain ⟨e0, e1, g0, g1⟩ := HC0.out.cell
      have HT := Lib.hid ((HB.out.setCell (p := ⟨w.heap.size + 1, 0, none⟩) (by simp) (.int .i64 (sumL ys))).setCell (p := ⟨w.heap.size + 1, 1, none⟩) (by simp) (.int .i64 B))
      obtain ⟨r0, r1, _, _⟩ := ((HC0.out.set0 (sumL ys)).set1 (B : Int)).cell
      go_wp2
      refine bodyPost_ret (v := .agg #[.int .i64 (sumL ys), .int .i64 B]) (by simp [results, Try.results78, go_sem, r0, r1]) rfl ⟨rfl, HT.out⟩

set_option maxHeartbeats 800000 in
theorem stOk_any (W t k : Int) (A : Option Addr) (n c : Nat) (zs : List Int) (w : World) (hn : zs.length = n) (hm : n ≤ maxLen) (h : Ints w A zs) :
    Calls Try.prog 46 #[.agg #[.int .i64 W, .int .i64 t, .int .i64 k, .slice A n c]] w fun e w' => e = .returned (.bool (msrB ⟨W, t, k⟩ && textB zs)) ∧ Below w.heap.size w w' := by
  have Hn := Lib.hid hn
  obtain ⟨w0, hw0, hb0, hz0, P⟩ := stWorld w W t k (.slice A n c)
  have T0 := Lib.hid hb0; have P0 := Lib.hid P; have Z0 := Lib.hid hz0
  have I0 := Lib.hid (h.below hb0)
  obtain ⟨p0, p1, p2, p3⟩ := P
  clear hb0 hz0 hn h
  cases hms : msrB ⟨W, t, k⟩
  · go_enter Try.func46, Try.ntmps46
    go_wp2_with fail
    clear hw0
    refine (implMeasureOk_any W t k _).mono ?_
    rintro e w1 ⟨he, hb1⟩
    rw [hms] at he; subst he
    have T1 := Lib.hid (T0.out.trans (hb1.mono (B' := w.heap.size) (by have := Z0.out; omega)))
    clear hb1 p0 p1 p2 p3 hms
    go_wp2
    go_ret
    exact ⟨rfl, T1.out⟩
  · go_enter Try.func46, Try.ntmps46
    go_wp2_with fail
    clear hw0
    refine (implMeasureOk_any W t k _).mono ?_
    rintro e w1 ⟨he, hb1⟩
    rw [hms] at he; subst he
    have T1 := Lib.hid (T0.out.trans (hb1.mono (B' := w.heap.size) (by have := Z0.out; omega)))
    have I1 := Lib.hid (I0.out.below hb1)
    have P1 := St.hold hb1 (by have := Z0.out; omega) P0.out
    clear hb1 p0 p1 p2 p3 hms
    obtain ⟨p0, p1, p2, p3⟩ := P1
    go_wp2_with fail
    refine (implTextOk_any A n c zs _ Hn.out hm I1.out).mono ?_
    rintro e w2 ⟨rfl, rfl⟩
    go_wp2
    go_ret
    exact ⟨ret_bool (by simp), T1.out⟩

set_option maxRecDepth 100000 in
set_option maxHeartbeats 1600000 in
theorem stKind_any (W t k : Int) (ad : Addr) (n c : Nat) (zs : List Int) (a b : Nat) (w : World) (hn : zs.length = n) (hc : n ≤ c) (hcm : c ≤ maxLen) (h : Ints w (some ad) zs) (hm : msrB ⟨W, t, k⟩ = true) (ht : textB zs = true) (hab : a < b) (hb : b ≤ n) :
    Calls Try.prog 73 #[stV W t k ad n c, .int .i64 a, .int .i64 b] w fun e w' => e = .returned (.int .i64 (kindW ⟨W, t, k⟩ zs a b)) ∧ Below w.heap.size w w' := by
  obtain ⟨hz, hl1, hl2⟩ := textB_parts ht
  obtain ⟨s0, s1⟩ := words_sum (ys := seg zs a b) (fun x hx => hz x (seg_mem hx)) (by rw [seg_len (by omega)]; omega)
  have C := fun (w : World) (hI : Ints w (some ad) zs) => stLoad_any W t k ad n c zs a b w hn hc hcm hI ht hab hb
  have HK : Hid (kindW ⟨W, t, k⟩ zs a b = kindF ⟨W, t, k⟩ (sumL (seg zs a b)) (b - a - 1)) := rfl
  obtain ⟨B, hBe⟩ : ∃ B, b - a - 1 = B := ⟨_, rfl⟩
  obtain ⟨L, hLe⟩ : ∃ L, sumL (seg zs a b) = L := ⟨_, rfl⟩
  rw [hLe, hBe] at C HK
  rw [hLe] at s0 s1
  have h3 : B ≤ 120 := by omega
  have CC := Lib.hid C
  clear C hLe hBe hz hl1 hl2
  obtain ⟨w0, hw0, hb0, hz0, P⟩ := stWorld w W t k (.slice (some ad) n c)
  have T0 := Lib.hid hb0; have P0 := Lib.hid P; have Z0 := Lib.hid hz0
  have I0 := Lib.hid (h.below hb0)
  obtain ⟨p0, p1, p2, p3⟩ := P
  clear hb0 hz0 hn h hc hcm ht hab hb
  go_enter Try.func73, Try.ntmps73
  go_wp2_with fail
  clear hw0 p0 p1 p2 p3
  refine (CC.out _ I0.out).mono ?_
  rintro e w1 ⟨rfl, hb1⟩
  have T1 := Lib.hid (T0.out.trans (hb1.mono (B' := w.heap.size) (by have := Z0.out; omega)))
  have P1 := Lib.hid (St.hold hb1 (by have := Z0.out; omega) P0.out)
  have Z1 : Hid (w.heap.size < w1.heap.size) := Nat.lt_of_lt_of_le (by have := Z0.out; omega) hb1.size
  clear hb1 P0 T0 Z0 I0 CC
  obtain ⟨w2, hw2⟩ : ∃ w2, w1.alloc (.cells #[.int .i64 L, .int .i64 B] 90) = w2 := ⟨_, rfl⟩
  have hb2 : Below w1.heap.size w1 w2 := by rw [← hw2]; exact below_new _ _
  have Q2 : Hid (w2.cell? ⟨w1.heap.size, 0, none⟩ = some (.int .i64 L) ∧ w2.cell? ⟨w1.heap.size, 1, none⟩ = some (.int .i64 B)) := by show _ ∧ _; rw [← hw2]; exact lay2 _ _ _ _
  have P2 := Lib.hid (St.hold hb2 Z1.out P1.out)
  have T2 := Lib.hid (T1.out.trans (hb2.mono (B' := w.heap.size) (Nat.le_of_lt Z1.out)))
  have Z2 : Hid (w1.heap.size < w2.heap.size) := by show _ < _; rw [← hw2]; simp
  clear hb2 P1 T1
  obtain ⟨p0, p1, p2, p3⟩ := P2.out
  obtain ⟨q0, q1⟩ := Q2.out
  go_wp2_with fail
  clear hw2 p0 p1 p2 p3 q0 q1
  refine (ldFull_any L B W t k _ s0 (by omega) h3 hm).mono ?_
  rintro e w3 ⟨rfl, hb3⟩
  have Q3 := Lib.hid (hold2 hb3 Z2.out Q2.out)
  have P3 := Lib.hid (St.hold hb3 (Nat.lt_trans Z1.out Z2.out) P2.out)
  have T3 := Lib.hid (T2.out.trans (hb3.mono (B' := w.heap.size) (Nat.le_of_lt (Nat.lt_trans Z1.out Z2.out))))
  have Z3 : Hid (w.heap.size ≤ w3.heap.size) := by show _ ≤ _; have := Z1.out; have := Z2.out; have := hb3.size; omega
  clear hb3 Q2 P2 T2 Z1 Z2
  obtain ⟨p0, p1, p2, p3⟩ := P3.out
  obtain ⟨q0, q1⟩ := Q3.out
  cases hf : (decide (widF L B t ≤ W) && fullF ⟨W, t, k⟩ L B)
  · go_wp2_with fail
    clear p0 p1 p2 p3 q0 q1
    refine (ldFits_any L B W t k _ s0 (by omega) h3 hm).mono ?_
    rintro e w4 ⟨rfl, hb4⟩
    have T4 := Lib.hid (T3.out.trans (hb4.mono (B' := w.heap.size) Z3.out))
    clear hb4
    cases hg : decide (widF L B t ≤ W)
    · have HR := Lib.hid (kindF_no (m := ⟨W, t, k⟩) hg)
      clear hf
      go_wp2
      go_ret
      exact ⟨ret_int (by rw [HK.out, HR.out]), T4.out⟩
    · have HR := Lib.hid (kindF_fits (m := ⟨W, t, k⟩) hf hg)
      clear hf
      go_wp2
      go_ret
      exact ⟨ret_int (by rw [HK.out, HR.out]), T4.out⟩
  · have HR := Lib.hid (kindF_full (m := ⟨W, t, k⟩) hf)
    go_wp2
    go_ret
    exact ⟨ret_int (by rw [HK.out, HR.out]), T3.out⟩
end Go.Proofs.Ytddkedinkgnboaa
