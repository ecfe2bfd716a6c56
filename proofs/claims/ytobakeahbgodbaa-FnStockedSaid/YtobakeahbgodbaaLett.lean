/-
  LettersOf by contract, model and program. Conditions: lengths of at most 2^20; for the program the teeth are in the range of int.
-/
import Derived.Test.YtobakeahbgodbaaPkG
import Derived.Test.YtobakeahbgodbaaPkF
import Derived.Laws.BytesArg
namespace Go.Proofs.Ytobakeahbgodbaa
open Go.RowKit
set_option linter.unusedVariables false

/-- the letters of matrices -/
def letN (f : Fnt) (xs : List Mat) : List Int := xs.map fun x => (byt f.s x.1.toNat : Int)
def lets (f : Fnt) (xs : List Mat) : ByteArray := strOfNums (letN f xs)
def lettersL (f : Fnt) (xs : List Mat) : ByteArray := if xs.all (matI f) then lets f xs else ByteArray.empty
theorem letN_snoc (f : Fnt) (xs : List Mat) (x : Mat) : letN f (xs ++ [x]) = letN f xs ++ [(byt f.s x.1.toNat : Int)] := by simp [letN]
theorem lets_size (f : Fnt) (xs : List Mat) : (lets f xs).size = xs.length := by unfold lets; rw [strOfNums_size, letN, List.length_map]
theorem lets_snoc {f : Fnt} (xs : List Mat) {x : Mat} {m : Nat} (hx : x.1 = (m : Int)) (hm : m < f.s.size) : lets f xs ++ f.s.extract m (m + 1) = lets f (xs ++ [x]) := by
  unfold lets
  rw [letN_snoc, hx, Int.toNat_natCast, byt_eq hm]
  apply ByteArray.ext
  rw [ByteArray.data_append, ByteArray.data_extract]
  apply Array.toList_inj.1
  rw [Array.toList_append, strOfNums_data, strOfNums_data, List.map_append]
  congr 1
  apply List.ext_getElem
  · simp; omega
  · intro i h1 h2
    simp at h2
    subst h2
    simp
    rfl
theorem letts_bad {f : Fnt} {xs : List Mat} {k : Nat} {x : Mat} (hx : xs[k]? = some x) (h : matI f x = false) : lettersL f xs = ByteArray.empty := by
  unfold lettersL
  rw [if_neg]
  intro hall
  rw [List.all_eq_true] at hall
  rw [hall x (List.mem_of_getElem? hx)] at h
  cases h
theorem all_good {f : Fnt} {xs : List Mat} {k : Nat} {x : Mat} (hx : xs[k]? = some x) (h : matI f x = true) (ht : (xs.take k).all (matI f) = true) : (xs.take (k + 1)).all (matI f) = true := by
  rw [mtake_at hx, List.all_append, ht]; simp [h]

theorem u8Info : (Try.prog.info? 5).map (fun i => (i.zero, i.size, i.bytes)) = some (some (.int .u8 0), 1, 1) := by kernel_rfl
/-- the value v is a row of the call's own from block B on that holds the bytes zs -/
def OwnU (w : World) (B : Nat) (v : Value) (zs : List Int) : Prop := w.ownsRow B 5 1 v zs.length (zs.map (Value.int .u8))
theorem OwnU.below {w w' : World} {B : Nat} {v : Value} {zs : List Int} (h : OwnU w B v zs) (hb : Below w.heap.size w w') : OwnU w' B v zs := row_keep h hb
section
variable {ops : Array Oper} {rest : List Oper} {o : Oper} {a : Act} {Q : Exit → Act → World → Prop}
/-- make([]byte, 0, n) -/
theorem wpl_room_u8 (w : World) (hg : o.guard = none) (l c : Operand) (hop : o.op = Op.makeSlice 22 l c) (n : Nat) (L : Int) (hl : a.eval l = .int .i64 0) (hc : a.eval c = .int .i64 L) (hL : L = (n : Int)) (hn : n ≤ 2097152)
    (hK : ∀ w', OwnU w' w.heap.size (.slice (some ⟨w.heap.size, 0, none⟩) 0 n) [] → Below w.heap.size w w' → wpList Try.prog ops Q rest (a.put o.dst (.slice (some ⟨w.heap.size, 0, none⟩) 0 n)) w') :
    wpList Try.prog ops Q (o :: rest) a w := by
  obtain ⟨i0, hi, hz0, hz1, hz2⟩ := info_parts u8Info
  refine wpList_make_own w hg l c 22 hop w.heap.size 5 i0 (.int .u8 0) 1 Try.underlying22 hi hz0 hz1 .i64 .i64 L n hl hc hL (by rw [hz2]; omega) (by unfold maxLen; omega) (Nat.le_refl _) ?_
  intro w' h1 h2
  exact hK w' h1 ((Below.refl _ _).grown h2 (Nat.le_refl _) (fun k hk => by cases hk))

/-- append(s, q) onto a row of the call's own: what lies below the row's base B stays -/
theorem wpl_push_u8 (w : World) (hg : o.guard = none) (s x : Operand) (ho : o.op = .call { callee := .builtin .append, args := #[s, x], argTypes := #[22, 22] })
    (B : Nat) (v : Value) (zs : List Int) (q : Int) (hs : a.eval s = v) (hx : a.eval x = .slice (some ⟨w.heap.size, 0, none⟩) 1 1) (hown : OwnU w B v zs) (hB : B ≤ w.heap.size) (hlen : zs.length ≤ 1048576)
    (hK : ∀ v' w', OwnU w' B v' (zs ++ [q]) → Below B w w' → wpList Try.prog ops Q rest (a.put o.dst v') w') :
    wpList Try.prog ops Q (o :: rest) a (w.alloc (.cells #[.int .u8 q] 5)) := by
  obtain ⟨i0, hi, hz0, hz1, hz2⟩ := info_parts u8Info
  refine wpList_append_own _ hg s x 22 ho B 5 i0 (.int .u8 0) 1 1 Try.underlying22 hi hz0 hz1 hz2 rfl (by decide) v zs.length (zs.map (Value.int .u8)) hs (World.ownsRow.alloc hown _) ⟨w.heap.size, 0, none⟩ 1 1 [.int .u8 q] hx rfl ?_ ?_ (by unfold maxLen; omega) (by omega) (by simp; omega) ?_
  · intro j u hj
    match j, hj with
    | 0, hj =>
      simp at hj; subst hj
      rw [add_zero_at, World.cell?_alloc_at _ _ _ _ rfl]
      rfl
  · intro u hu; simp at hu; subst hu; rfl
  · intro v' w' h1 h2 _
    refine hK v' w' ?_ ?_
    · unfold OwnU
      rw [List.map_append, List.length_append]
      exact h1
    · refine (((Below.refl B w).alloc hB (.cells #[.int .u8 q] 5))).trans ?_
      exact (Below.refl B _).grown h2 (by simp; omega) (fun k hk => (World.ownsRow.lt hown k hk).1)

end

theorem ownU_form {w : World} {B : Nat} {v : Value} {zs : List Int} {n : Nat} (h : OwnU w B v zs) (hn : zs.length = n) : ∃ A c, v = .slice A n c ∧ OwnU w B (.slice A n c) zs := by
  subst hn
  rcases h.2 with ⟨rfl, hn⟩ | ⟨g, cap, cur, rfl, rest⟩
  · exact ⟨none, 0, by rw [hn], by rw [hn]; exact h⟩
  · exact ⟨_, _, rfl, h⟩
set_option maxRecDepth 100000 in
theorem strOf_own {w : World} {B n c : Nat} {o : Option Addr} {zs : List Int} (h : OwnU w B (.slice o n c) zs) (hn : zs.length = n) :
    (convert 22 9 (.slice o n c)).run Try.prog w = .ok (.string (strOfNums zs)) w := by
  subst hn
  rcases h.2 with ⟨hv, hn⟩ | ⟨g, cap, cur, hv, hg, hh, rest⟩
  · have hz : zs = [] := List.eq_nil_of_length_eq_zero hn
    injection hv with e1 e2 e3
    subst hz
    subst e1
    exact run_convert_bytes_nil (P := Try.prog) w 22 5 Try.underlying22 Try.underlying5 _ _ 9 Try.underlying9
  · injection hv with e1 e2 e3
    subst e1
    refine run_convert_bytes_arg (P := Try.prog) w 22 5 Try.underlying22 Try.underlying5 g 0 _ _ zs rfl ?_ 9 Try.underlying9
    intro i hi
    rw [Nat.zero_add]
    refine (h.cellAt i (by omega)).trans ?_
    rw [List.getElem?_map, List.getElem?_eq_getElem hi]
    simp [List.getD, hi]

set_option maxRecDepth 100000 in
set_option maxHeartbeats 3200000 in
theorem implLetters_any (lo hi lo2 hi2 : Nat) (v : Value) (f : Fnt) (A : Option Addr) (n c : Nat) (xs : List Mat) (w : World) (h : FontV w lo hi v f) (hhi : hi ≤ w.heap.size) (hs : Small f) (hn : xs.length = n) (hm : n ≤ 1048576) (hM : MatsI w lo2 hi2 A xs) (hhi2 : hi2 ≤ w.heap.size) (wf : ∀ x ∈ xs, (Lit.int .i64 x.2).wf = true) :
    Calls Try.prog 19 #[v, .slice A n c] w fun e w' => e = .returned (.string (lettersL f xs)) ∧ Below w.heap.size w w' := by
  obtain ⟨B, d, B2, d2, hv⟩ := fontForm h
  obtain ⟨s, hs0⟩ : ∃ s, f.s = s := ⟨_, rfl⟩
  obtain ⟨p, hp⟩ : ∃ n, f.ws.length = n := ⟨_, rfl⟩
  obtain ⟨q, hq⟩ : ∃ m, f.cs.length = m := ⟨_, rfl⟩
  rw [hs0, hp, hq] at hv
  rw [hv] at h
  rw [hv]
  obtain ⟨W, hW0⟩ : ∃ W, W = w.alloc (.cells #[.string s, .slice B p d, .slice B2 q d2] 25) := ⟨_, rfl⟩
  have hW : Below w.heap.size w W := by rw [hW0]; exact (Below.refl _ _).alloc (Nat.le_refl _) _
  have V0 := Lib.hid (h.below hhi hW)
  have M0 := Lib.hid (hM.below hhi2 hW)
  have X0 := Lib.hid (new3 w (.string s) (.slice B p d) (.slice B2 q d2) 25)
  rw [← hW0] at X0
  have zW : W.heap.size = w.heap.size + 1 := by rw [hW0]; simp
  have T0 := Lib.hid hW
  have Hn := Lib.hid hn
  have Hs0 := Lib.hid hs0
  have Hwf := Lib.hid wf
  clear hv hs0 hp hq h hW hM hn wf
  go_enter Try.func19, Try.ntmps19
  go_wp2_with fail
  rw [← hW0]
  clear hW0
  refine (implFontOk_any lo hi _ f _ V0.out (by omega) hs).mono ?_
  rintro e w1 ⟨rfl, hb1⟩
  have HB1 := Lib.hid hb1
  have s1 := hb1.size
  clear hb1
  cases hf : fontB f
  · have HR : Hid (lettersL f xs = ByteArray.empty) := by
      show _ = _
      unfold lettersL
      cases xs with
      | nil => simp; rfl
      | cons x xs => simp [matI, hf]
    go_wp2
    go_ret
    exact ⟨by rw [HR.out]; rfl, T0.out.trans (HB1.out.mono (by omega))⟩
  have hfs := (fontB_codes hf).1
  have hbl := bar_len (fontB_codes hf).2.2
  simp only [Hs0.out] at hfs
  have hss : s.size ≤ 40 := by omega
  clear hfs hbl
  go_wp2_with (at_make; refine wpl_room_u8 _ rfl (.const (.int .i64 0)) (.tmp 12) rfl n _ rfl rfl rfl (by omega) ?_; intro w2 hown2 hb2)
  have HO2 := Lib.hid hown2
  have HB2 := Lib.hid (HB1.out.trans (hb2.mono (by omega)))
  have s2 := hb2.size
  clear hown2 hb2 HB1
  go_loopw [5, 16] (fun st i wr => ∃ k : Nat, k ≤ n ∧ i = .int .i64 k ∧ (xs.take k).all (matI f) = true ∧ (∃ A2 c2, st = .slice A2 k c2 ∧ OwnU wr w1.heap.size (.slice A2 k c2) (letN f (xs.take k))) ∧ Below W.heap.size W wr ∧ w1.heap.size ≤ wr.heap.size) (fun _ i _ => n - (intOf i).toNat)
  case atStart => exact ⟨0, Nat.zero_le _, rfl, rfl, ⟨_, _, rfl, HO2.out⟩, HB2.out, s2⟩
  case round =>
    obtain ⟨k, hk, rfl, hall, ⟨A2, c2', rfl, hown⟩, hb, s3⟩ := hrel
    have HB := Lib.hid hb; have HA := Lib.hid hall; have HO := Lib.hid hown
    have sr := hb.size
    have hz : w.heap.size < wr.heap.size := by omega
    clear hb hall hown
    by_cases hlt : k < n
    · obtain ⟨ad, x, rfl, hx, c1, c2⟩ := (M0.out.below (by omega) HB.out).at_ (k := k) (by rw [Hn.out]; exact hlt)
      obtain ⟨q0, q1, q2⟩ := keep3 HB.out (by omega) X0.out
      have wfx := Hwf.out x (List.mem_of_getElem? hx.out)
      obtain ⟨a, t⟩ := x
      simp only at c1 c2 wfx
      have hb3 : Below wr.heap.size wr (wr.alloc (.cells #[.int .i64 a, .int .i64 t] 34)) := (Below.refl _ _).alloc (Nat.le_refl _) _
      have V3 := Lib.hid ((V0.out.below (by omega) HB.out).below (by omega) hb3)
      go_wp2_with fail
      refine (isMatrix_any lo hi _ f (a, t) _ V3.out (by simp; omega) hs hf wfx).mono ?_
      rintro e w4 ⟨rfl, hb4⟩
      have hb34 : Below wr.heap.size wr w4 := hb3.trans (hb4.mono (by simp))
      have HB4 := Lib.hid (HB.out.trans (hb34.mono (by omega)))
      have X4 := Lib.hid (keep3 HB4.out (by omega) X0.out)
      have HO4 := Lib.hid (HO.out.below hb34)
      have b0 : w4.cell? ⟨wr.heap.size, 0, none⟩ = some (.int .i64 a) := (hb4.cell (by simp)).trans (by rw [World.cell?_alloc_at _ _ _ _ rfl]; rfl)
      cases hr : matB f (a, t)
      · have HR := Lib.hid (letts_bad hx.out (show matI f (a, t) = false by unfold matI; rw [hr, Bool.and_false]))
        clear hb3 hb4 hb34
        go_wp2
        go_ret
        exact ⟨by rw [HR.out]; rfl, T0.out.trans (HB4.out.mono (by omega))⟩
      · have HG := Lib.hid (all_good hx.out (show matI f (a, t) = true by unfold matI; rw [hr, hf]; rfl) HA.out)
        have hmI := hr
        unfold matB at hmI
        simp only [Bool.and_eq_true] at hmI
        obtain ⟨hin, -⟩ := hmI
        obtain ⟨k0, k1⟩ := (inB_iff _ _ _).1 hin
        simp only [Hs0.out] at k0 k1
        obtain ⟨m, rfl⟩ := Int.eq_ofNat_of_zero_le k0
        have hms : m < s.size := by omega
        have HL := Lib.hid (letN_snoc f (xs.take k) ((m : Int), t))
        rw [← mtake_at hx.out, Hs0.out] at HL
        simp only [Int.toNat_natCast, byt_eq hms] at HL
        obtain ⟨y0, y1, y2⟩ := X4.out
        have hz2 : w.heap.size < w4.heap.size := by have := hb4.size; simp at this; omega
        have hz3 : wr.heap.size < w4.heap.size := by have := hb4.size; simp at this; omega
        have hz4 : w1.heap.size ≤ w4.heap.size := by omega
        have hls : (letN f (xs.take k)).length ≤ 1048576 := by rw [letN, List.length_map, List.length_take]; omega
        clear hb3 hb4 hb34 hin hr k0 k1 q0 q1 q2
        go_wp2_with (at_builtin; refine wpl_push_u8 _ rfl (.tmp 24) (.tmp 30) rfl w1.heap.size _ (letN f (xs.take k)) (s[m].toNat : Int) rfl rfl HO4.out hz4 hls ?_; intro v5 w5 hO5 hb5)
        obtain ⟨A5, c5, rfl, hO6⟩ := ownU_form (n := k + 1) hO5 (by rw [List.length_append, letN, List.length_map, List.length_take, Hn.out]; simp; omega)
        rw [← HL.out] at hO6
        have HO6 := Lib.hid hO6
        have HB6 := Lib.hid (HB4.out.trans (hb5.mono (by omega)))
        have HZ6 := Lib.hid (Nat.le_trans hz4 hb5.size)
        clear hO5 hb5 hO6
        go_wp2
        go_roundw
        case rel => exact ⟨k + 1, by omega, by go_num, HG.out, ⟨_, _, rfl, HO6.out⟩, HB6.out, HZ6.out⟩
        case measure => simp [intOf]; omega
    · have hkn : k = n := by omega
      subst hkn
      have HR : Hid (lettersL f xs = lets f xs) := by
        show _ = _
        have := HA.out
        rw [mtake_all Hn.out] at this
        unfold lettersL; rw [if_pos this]
      have hO7 := HO.out
      rw [mtake_all Hn.out] at hO7
      have hcv := strOf_own hO7 (by rw [letN, List.length_map]; exact Hn.out)
      clear hO7
      go_wp2
      go_ret
      exact ⟨by rw [HR.out]; rfl, T0.out.trans (HB.out.mono (by omega))⟩
end Go.Proofs.Ytobakeahbgodbaa
