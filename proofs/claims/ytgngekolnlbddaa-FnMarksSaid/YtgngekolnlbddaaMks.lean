/-
  MarksOf by contract, model and program: one sign for each line that stays, goes or comes. Condition: lists of at most 2^20 strings together.
-/
import Derived.Test.YtgngekolnlbddaaRst
import Derived.Test.YtgngekolnlbddaaGT
namespace Go.Proofs.Ytgngekolnlbddaa
open Go.RowKit
set_option linter.unusedVariables false
set_option linter.unusedSimpArgs false

def sgn (f o i t : Nat) : UInt8 := if t < f then 61 else if f + o + i ≤ t then 61 else if t < f + o then 45 else 43
def mksK (f o i k : Nat) : ByteArray := ⟨((List.range k).map (sgn f o i)).toArray⟩
/-- the marks of two lists -/
def mksS (a b : List ByteArray) : ByteArray :=
  mksK (preL a b) (a.length - preL a b - sufL a b) (b.length - preL a b - sufL a b) (a.length + (b.length - preL a b - sufL a b))
theorem mks_snoc (f o i k : Nat) : mksK f o i k ++ (⟨#[sgn f o i k]⟩ : ByteArray) = mksK f o i (k + 1) := by
  unfold mksK
  rw [List.range_succ, List.map_append, ← ba_append]
  rfl
theorem mks_size (f o i k : Nat) : (mksK f o i k).size = k := by simp [mksK, ByteArray.size]
theorem rep_one (c : UInt8) : ∀ n, Lib.repeatL [c] n = List.replicate n c
  | 0 => rfl
  | n + 1 => by show [c] ++ Lib.repeatL [c] n = _; rw [rep_one c n, List.replicate_succ]; rfl
theorem mks_parts (f o i l : Nat) : (((List.replicate f 61 ++ List.replicate o 45) ++ List.replicate i 43) ++ List.replicate l 61 : List UInt8) = (List.range (f + o + i + l)).map (sgn f o i) := by
  apply List.ext_getElem
  · simp; omega
  · intro t h1 h2
    simp only [List.getElem_map, List.getElem_range, List.getElem_append, List.getElem_replicate, List.length_append, List.length_replicate]
    unfold sgn
    by_cases c1 : t < f
    · have c2 : t < f + o := by omega
      have c3 : t < f + o + i := by omega
      simp [c1, c2, c3]
    · by_cases c2 : t < f + o
      · have c3 : t < f + o + i := by omega
        have c4 : ¬ f + o + i ≤ t := by omega
        simp [c1, c2, c3, c4]
      · by_cases c3 : t < f + o + i
        · have c4 : ¬ f + o + i ≤ t := by omega
          simp [c1, c2, c3, c4]
        · have c4 : f + o + i ≤ t := by omega
          simp [c1, c2, c3, c4]
def repB (c : UInt8) (n : Nat) : ByteArray := ⟨(Lib.repeatL [c] n).toArray⟩
theorem repB_size (c : UInt8) (n : Nat) : (repB c n).size = n := by unfold repB; rw [rep_one]; simp [ByteArray.size]
theorem mks_sum (f o i l : Nat) : ((repB 61 f ++ repB 45 o) ++ repB 43 i) ++ repB 61 l = mksK f o i (f + o + i + l) := by
  unfold repB mksK
  rw [rep_one, rep_one, rep_one, rep_one, ba_append, ba_append, ba_append, mks_parts]
theorem rep_any (c : UInt8) (n : Nat) (w : World) (h : n ≤ 1048576) : Calls Try.prog 42 #[.string ⟨#[c]⟩, .int .i64 (n : Int)] w fun e w' => e = .returned (.string (repB c n)) ∧ Below w.heap.size w w' :=
  Try.strings_Repeat ⟨#[c]⟩ n w (by omega) (by have : (⟨#[c]⟩ : ByteArray).size = 1 := rfl; rw [this, Nat.one_mul]; omega)

set_option maxRecDepth 100000 in
set_option maxHeartbeats 3200000 in
theorem implMks_any (A B : Option Addr) (n c m d : Nat) (zs ys : List ByteArray) (w : World) (hn : zs.length = n) (hm : ys.length = m) (hl : n ≤ 1048576) (hl2 : m ≤ 1048576) (h : Strs w A zs) (h2 : Strs w B ys) :
    Calls Try.prog 19 #[.slice A n c, .slice B m d] w fun e w' => e = .returned (.string (mksS zs ys)) ∧ Below w.heap.size w w' := by
  have Hn := Lib.hid hn; have Hm := Lib.hid hm; have H1 := Lib.hid h; have H2 := Lib.hid h2
  obtain ⟨f, hf⟩ : ∃ f, preL zs ys = f := ⟨_, rfl⟩
  obtain ⟨l, hl0⟩ : ∃ l, sufL zs ys = l := ⟨_, rfl⟩
  have hle := sufL_le zs ys
  rw [hf, hl0, hn, hm] at hle
  obtain ⟨hle1, hle2⟩ := hle
  obtain ⟨o, ho⟩ : ∃ o, n - f - l = o := ⟨_, rfl⟩
  obtain ⟨i, hi⟩ : ∃ i, m - f - l = i := ⟨_, rfl⟩
  have HV : Hid (rstV zs ys = .tuple #[.int .i64 (f : Int), .int .i64 (o : Int), .int .i64 (i : Int)]) := by show _ = _; unfold rstV; rw [hf, hl0, hn, hm, ho, hi]
  have HS : Hid (((repB 61 f ++ repB 45 o) ++ repB 43 i) ++ repB 61 l = mksS zs ys) := by
    show _ = _
    rw [mks_sum]; unfold mksS; rw [hf, hl0, hn, hm, ho, hi, show f + o + i + l = n + i from by omega]
  obtain ⟨nf, hnf⟩ : ∃ nf, n - f = nf := ⟨_, rfl⟩
  have e1 : (n : Int) - (f : Int) = (nf : Int) := by omega
  have e2 : (nf : Int) - (o : Int) = (l : Int) := by omega
  have hfb : f ≤ 1048576 := by omega
  have hob : o ≤ 1048576 := by omega
  have hib : i ≤ 1048576 := by omega
  have hlb : l ≤ 1048576 := by omega
  have z1 : (repB 61 f).size ≤ 1048576 := by rw [repB_size]; omega
  have z2 : (repB 45 o).size ≤ 1048576 := by rw [repB_size]; omega
  have z3 : (repB 43 i).size ≤ 1048576 := by rw [repB_size]; omega
  have z4 : (repB 61 l).size ≤ 1048576 := by rw [repB_size]; omega
  have z5 : (repB 61 f ++ repB 45 o).size ≤ 2097152 := by rw [ByteArray.size_append]; omega
  have z6 : ((repB 61 f ++ repB 45 o) ++ repB 43 i).size ≤ 3145728 := by rw [ByteArray.size_append]; omega
  clear hn hm h h2 hf hl0 ho hi hnf hle1 hle2
  go_enter Try.func19, Try.ntmps19
  go_wp2_with fail
  refine (implReset_any _ _ _ _ _ _ zs ys _ Hn.out Hm.out hl hl2 H1.out H2.out).mono ?_
  rintro e w1 ⟨rfl, hb1⟩
  rw [HV.out]
  have T1 := Lib.hid hb1
  have s1 := hb1.size
  clear hb1
  go_wp2_with fail
  refine (rep_any 61 f _ hfb).mono ?_
  rintro e w2 ⟨rfl, hb2⟩
  have T2 := Lib.hid (T1.out.trans (hb2.mono (by omega)))
  have s2 := hb2.size
  clear hb2
  go_wp2_with fail
  refine (rep_any 45 o _ hob).mono ?_
  rintro e w3 ⟨rfl, hb3⟩
  have T3 := Lib.hid (T2.out.trans (hb3.mono (by omega)))
  have s3 := hb3.size
  clear hb3
  go_wp2_with fail
  refine (rep_any 43 i _ hib).mono ?_
  rintro e w4 ⟨rfl, hb4⟩
  have T4 := Lib.hid (T3.out.trans (hb4.mono (by omega)))
  have s4 := hb4.size
  clear hb4
  go_wp2_with fail
  refine (rep_any 61 l _ hlb).mono ?_
  rintro e w5 ⟨rfl, hb5⟩
  have T5 := Lib.hid (T4.out.trans (hb5.mono (by omega)))
  clear hb5
  go_wp2
  go_ret
  exact ⟨by rw [← HS.out]; rfl, T5.out⟩

set_option maxRecDepth 100000 in
set_option maxHeartbeats 3200000 in
theorem specMks_any (A B : Option Addr) (n c m d : Nat) (zs ys : List ByteArray) (w : World) (hn : zs.length = n) (hm : ys.length = m) (hl : n ≤ 1048576) (hl2 : m ≤ 1048576) (h : Strs w A zs) (h2 : Strs w B ys) :
    Calls Try.prog 31 #[.slice A n c, .slice B m d] w fun e w' => e = .returned (.string (mksS zs ys)) ∧ Below w.heap.size w w' := by
  have Hn := Lib.hid hn; have Hm := Lib.hid hm; have H1 := Lib.hid h; have H2 := Lib.hid h2
  obtain ⟨f, hf⟩ : ∃ f, preL zs ys = f := ⟨_, rfl⟩
  obtain ⟨l, hl0⟩ : ∃ l, sufL zs ys = l := ⟨_, rfl⟩
  have hle := sufL_le zs ys
  rw [hf, hl0, hn, hm] at hle
  obtain ⟨hle1, hle2⟩ := hle
  obtain ⟨o, ho⟩ : ∃ o, n - f - l = o := ⟨_, rfl⟩
  obtain ⟨i, hi⟩ : ∃ i, m - f - l = i := ⟨_, rfl⟩
  obtain ⟨N, hN⟩ : ∃ N, n + i = N := ⟨_, rfl⟩
  obtain ⟨fo, hfo⟩ : ∃ fo, f + o = fo := ⟨_, rfl⟩
  obtain ⟨foi, hfoi⟩ : ∃ foi, fo + i = foi := ⟨_, rfl⟩
  have HV : Hid (rstV zs ys = .tuple #[.int .i64 (f : Int), .int .i64 (o : Int), .int .i64 (i : Int)]) := by show _ = _; unfold rstV; rw [hf, hl0, hn, hm, ho, hi]
  have HS : Hid (mksK f o i N = mksS zs ys) := by
    show _ = _
    unfold mksS; rw [hf, hl0, hn, hm, ho, hi, hN]
  have e1 : (n : Int) + (i : Int) = (N : Int) := by omega
  have e2 : (f : Int) + (o : Int) = (fo : Int) := by omega
  have e3 : (fo : Int) + (i : Int) = (foi : Int) := by omega
  have hNb : N ≤ 2097152 := by omega
  have hfob : fo ≤ 1048576 := by omega
  have hfoib : foi ≤ 2097152 := by omega
  have hffo : f ≤ fo := by omega
  have hfof : fo ≤ foi := by omega
  have HSG : Hid (∀ k, sgn f o i k = if k < f then 61 else if foi ≤ k then 61 else if k < fo then 45 else 43) := fun k => by unfold sgn; rw [hfo, hfoi]
  clear hn hm h h2 hf hl0 ho hi hN hfo hfoi hle1 hle2
  go_enter Try.func31, Try.ntmps31
  go_wp2_with fail
  refine (specReset_any _ _ _ _ _ _ zs ys _ Hn.out Hm.out hl hl2 H1.out H2.out).mono ?_
  rintro e w1 ⟨rfl, hb1⟩
  rw [HV.out]
  have T1 := Lib.hid hb1
  clear hb1
  go_wp2
  go_loop [8, 9] (fun v u => ∃ (k : Nat) (s : ByteArray), k ≤ N ∧ u = .int .i64 k ∧ v = .string s ∧ s = mksK f o i k) (fun _ u => N - (intOf u).toNat)
  case atStart => exact ⟨0, _, Nat.zero_le _, rfl, rfl, rfl⟩
  case round =>
    obtain ⟨k, s, hk, rfl, rfl, hs⟩ := hrel
    have HSS := Lib.hid hs
    have hss : s.size ≤ 2097152 := by rw [hs, mks_size]; omega
    clear hs
    by_cases hlt : k < N
    · have HX := Lib.hid (mks_snoc f o i k)
      have hg := HSG.out k
      by_cases c1 : k < f
      · rw [if_pos c1] at hg
        have HY : Hid (s ++ (⟨#[61]⟩ : ByteArray) = mksK f o i (k + 1)) := by show _ = _; rw [← HX.out, hg, HSS.out]
        clear hg
        go_wp2
        go_round
        case rel => exact ⟨k + 1, _, by omega, by go_num, rfl, HY.out⟩
        case measure => simp [intOf]; omega
      · rw [if_neg c1] at hg
        by_cases c2 : foi ≤ k
        · rw [if_pos c2] at hg
          have HY : Hid (s ++ (⟨#[61]⟩ : ByteArray) = mksK f o i (k + 1)) := by show _ = _; rw [← HX.out, hg, HSS.out]
          clear hg
          go_wp2
          go_round
          case rel => exact ⟨k + 1, _, by omega, by go_num, rfl, HY.out⟩
          case measure => simp [intOf]; omega
        · rw [if_neg c2] at hg
          by_cases c3 : k < fo
          · rw [if_pos c3] at hg
            have HY : Hid (s ++ (⟨#[45]⟩ : ByteArray) = mksK f o i (k + 1)) := by show _ = _; rw [← HX.out, hg, HSS.out]
            clear hg
            go_wp2
            go_round
            case rel => exact ⟨k + 1, _, by omega, by go_num, rfl, HY.out⟩
            case measure => simp [intOf]; omega
          · rw [if_neg c3] at hg
            have HY : Hid (s ++ (⟨#[43]⟩ : ByteArray) = mksK f o i (k + 1)) := by show _ = _; rw [← HX.out, hg, HSS.out]
            clear hg
            go_wp2
            go_round
            case rel => exact ⟨k + 1, _, by omega, by go_num, rfl, HY.out⟩
            case measure => simp [intOf]; omega
    · have HX : Hid (s = mksS zs ys) := by show _ = _; rw [HSS.out, show k = N from by omega, HS.out]
      go_wp2
      go_ret
      exact ⟨by rw [HX.out]; rfl, T1.out⟩
end Go.Proofs.Ytgngekolnlbddaa
