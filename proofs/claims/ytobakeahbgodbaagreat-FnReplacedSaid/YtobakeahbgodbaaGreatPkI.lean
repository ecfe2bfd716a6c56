/-
  Contracts and plain mathematics (GalM, GalI, Grd, GrdS, BrkS2, GalS, GalT, GalU), each with its conditions in its own statement.
-/
import Derived.Test.YtobakeahbgodbaaGreatPkH
import Derived.Test.YtobakeahbgodbaaGreatPkB
import Derived.Test.YtobakeahbgodbaaGreatPkD
import Derived.Test.YtobakeahbgodbaaGreatPkC
namespace Go.Proofs.YtobakeahbgodbaaGreat
open Go.RowKit
set_option linter.unusedVariables false

/-- the words of a list of bytes behind what has begun -/
def wl : List UInt8 → List UInt8 → List (List UInt8)
  | cur, [] => if cur = [] then [] else [cur]
  | cur, b :: r => if b = 32 then (if cur = [] then wl [] r else cur :: wl [] r) else wl (cur ++ [b]) r
theorem wl_nil (cur : List UInt8) : wl cur [] = if cur = [] then [] else [cur] := by rw [wl]
theorem wl_cons (cur : List UInt8) (b : UInt8) (r : List UInt8) : wl cur (b :: r) = if b = 32 then (if cur = [] then wl [] r else cur :: wl [] r) else wl (cur ++ [b]) r := by rw [wl]
def baL (l : List UInt8) : ByteArray := ⟨l.toArray⟩
theorem wl_join (x y : List UInt8) : ∀ cur, wl cur (x ++ 32 :: y) = wl cur x ++ wl [] y := by
  induction x with
  | nil =>
    intro cur
    rw [List.nil_append, wl_cons, wl_nil, if_pos rfl]
    split
    · rfl
    · rfl
  | cons b r ih =>
    intro cur
    rw [List.cons_append, wl_cons, wl_cons]
    split
    · split
      · exact ih []
      · rw [ih []]; rfl
    · exact ih _
theorem wl_tail (xs : List (List UInt8)) : ∀ x : List UInt8, wl [] (x ++ Lib.joinTail [32] xs) = wl [] x ++ (xs.map (wl [])).flatten := by
  induction xs with
  | nil => intro x; simp [Lib.joinTail]
  | cons y ys ih =>
    intro x
    have e : x ++ Lib.joinTail [32] (y :: ys) = x ++ 32 :: (y ++ Lib.joinTail [32] ys) := by
      simp [Lib.joinTail]
    rw [e, wl_join, ih]
    simp
theorem wl_joined (zs : List (List UInt8)) : wl [] (Lib.join zs [32]) = (zs.map (wl [])).flatten := by
  cases zs with
  | nil => rfl
  | cons x xs => rw [Lib.join_cons, wl_tail]; simp
/-- a list of bytes without a blank -/
def noBl (l : List UInt8) : Prop := ∀ b ∈ l, b ≠ 32
theorem wl_plain {x : List UInt8} (h : noBl x) : ∀ cur, wl cur x = if cur ++ x = [] then [] else [cur ++ x] := by
  induction x with
  | nil => intro cur; rw [List.append_nil]; rfl
  | cons b r ih =>
    intro cur
    have hb : b ≠ 32 := h b List.mem_cons_self
    have hr : noBl r := fun c hc => h c (List.mem_cons_of_mem _ hc)
    rw [wl_cons, if_neg hb, ih hr]
    simp
theorem wl_mem (x : List UInt8) : ∀ cur, noBl cur → ∀ w ∈ wl cur x, w ≠ [] ∧ noBl w := by
  induction x with
  | nil =>
    intro cur hc w hw
    rw [wl_nil] at hw
    split at hw
    · cases hw
    · rename_i hn
      rw [List.mem_singleton] at hw
      subst hw
      exact ⟨hn, hc⟩
  | cons b r ih =>
    intro cur hc w hw
    rw [wl_cons] at hw
    split at hw
    · split at hw
      · exact ih [] (fun c hc => by cases hc) w hw
      · rename_i hn
        rcases List.mem_cons.1 hw with rfl | hw
        · exact ⟨hn, hc⟩
        · exact ih [] (fun c hc => by cases hc) w hw
    · rename_i hb
      refine ih _ (fun c hc' => ?_) w hw
      rcases List.mem_append.1 hc' with h | h
      · exact hc c h
      · rw [List.mem_singleton] at h; subst h; exact hb
theorem wl_sum (x : List UInt8) : ∀ cur : List UInt8, ((wl cur x).map List.length).sum + (wl cur x).length ≤ cur.length + x.length + 1 := by
  induction x with
  | nil =>
    intro cur
    rw [wl_nil]
    split
    · simp
    · simp
  | cons b r ih =>
    intro cur
    rw [wl_cons]
    have h0 := ih []
    split
    · split
      · simp only [List.length_nil, List.length_cons] at h0 ⊢; omega
      · simp only [List.map_cons, List.sum_cons, List.length_nil, List.length_cons] at h0 ⊢; omega
    · have h1 := ih (cur ++ [b])
      simp only [List.length_append, List.length_cons, List.length_nil] at h1 ⊢
      omega

/-! the words by spans are the words by bytes -/
theorem ext_list (s : ByteArray) (a b : Nat) : (s.extract a b).data.toList = (s.data.toList.drop a).take (b - a) := by
  simp
theorem byt_list {s : ByteArray} {i : Nat} (h : i < s.size) : ∃ b : UInt8, s.data.toList[i]? = some b ∧ b.toNat = byt s i := by
  refine ⟨s[i], ?_, (byt_eq h).symm⟩
  have h2 : i < s.data.size := h
  rw [Array.getElem?_toList, Array.getElem?_eq_getElem h2]
  rfl
theorem span_step {L : List UInt8} {a i : Nat} {b : UInt8} (ha : a ≤ i) (h : L[i]? = some b) : (L.drop a).take (i + 1 - a) = (L.drop a).take (i - a) ++ [b] := by
  rw [show i + 1 - a = (i - a) + 1 by omega, List.take_add_one, List.getElem?_drop, show a + (i - a) = i by omega, h]
  rfl
theorem span_nil {L : List UInt8} {a i : Nat} (hi : i ≤ L.length) (ha : a ≤ i) : (L.drop a).take (i - a) = [] ↔ ¬ a < i := by
  rw [← List.length_eq_zero_iff, List.length_take, List.length_drop]
  omega
theorem wst_wl (s : ByteArray) : ∀ d i : Nat, i + d = s.size →
    ((wpc s (wst s i).1).map (·.data.toList)) ++ wl ((s.data.toList.drop (wst s i).2).take (i - (wst s i).2)) (s.data.toList.drop i) = (wordsB s).map (·.data.toList)
  | 0, i, h => by
    have hi : i = s.size := by omega
    subst hi
    have hl : s.data.toList.length = s.size := rfl
    have hle := (wst_le s s.size).1
    have hd : s.data.toList.drop s.size = [] := List.drop_of_length_le (by rw [hl]; exact Nat.le_refl _)
    rw [hd]
    unfold wordsB wend
    rw [wl_nil]
    by_cases hw : (wst s s.size).2 < s.size
    · rw [if_pos hw, if_neg (fun e => (span_nil (by rw [hl]; exact Nat.le_refl _) hle).1 e hw), wpc_snoc, List.map_append]
      simp only [List.map_cons, List.map_nil, ext_list]
    · rw [if_neg hw, if_pos ((span_nil (by rw [hl]; exact Nat.le_refl _) hle).2 hw), List.append_nil]
  | d + 1, i, h => by
    have hi : i < s.size := by omega
    have hl : s.data.toList.length = s.size := rfl
    obtain ⟨b, hb, hbn⟩ := byt_list hi
    have hle := (wst_le s i).1
    have ih := wst_wl s d (i + 1) (by omega)
    rw [← ih]
    obtain ⟨hk, hk2⟩ := List.getElem?_eq_some_iff.1 hb
    rw [List.drop_eq_getElem_cons hk, hk2]
    by_cases h32 : byt s i = 32
    · obtain ⟨e1, e2⟩ := wst_blank h32
      have hb32 : b = 32 := by apply UInt8.toNat_inj.1; rw [hbn, h32]; rfl
      rw [e1, e2, Nat.sub_self, List.take_zero]
      rw [wl_cons, if_pos hb32]
      by_cases hw : (wst s i).2 < i
      · rw [if_pos hw, if_neg (fun e => (span_nil (by omega) hle).1 e hw), wpc_snoc, List.map_append, List.append_assoc]
        simp only [List.map_cons, List.map_nil, ext_list, List.cons_append, List.nil_append]
      · rw [if_neg hw, if_pos ((span_nil (by omega) hle).2 hw)]
    · have hb32 : b ≠ 32 := fun e => h32 (by rw [← hbn, e]; rfl)
      rw [wst_other h32]
      rw [wl_cons, if_neg hb32, span_step hle hb]
theorem words_lists (s : ByteArray) : (wordsB s).map (·.data.toList) = wl [] s.data.toList := by
  have h := wst_wl s s.size 0 (by omega)
  rw [← h]
  rfl
theorem words_list (s : ByteArray) : wordsB s = (wl [] s.data.toList).map baL := by
  rw [← words_lists, List.map_map]
  conv => lhs; rw [← List.map_id (wordsB s)]
  refine List.map_congr_left fun x _ => ?_
  exact ba_self x
/-- the words of joined strings are the words of each -/
theorem words_join (zs : List ByteArray) : wordsB (gtS zs) = (zs.map wordsB).flatten := by
  rw [words_list]
  show (wl [] (Lib.join (zs.map (·.data.toList)) [32])).map baL = _
  rw [wl_joined, List.map_map, List.map_flatten, List.map_map]
  congr 1
  refine List.map_congr_left fun x _ => ?_
  exact (words_list x).symm
/-- a string that is a word -/
def isWord (x : ByteArray) : Prop := wordsB x = [x]
theorem words_words {s x : ByteArray} (h : x ∈ wordsB s) : isWord x := by
  rw [words_list] at h
  obtain ⟨l, hl, rfl⟩ := List.mem_map.1 h
  obtain ⟨h1, h2⟩ := wl_mem _ [] (fun c hc => by cases hc) l hl
  unfold isWord
  rw [words_list]
  show (wl [] l).map baL = _
  rw [wl_plain h2, List.nil_append, if_neg h1]
  rfl
theorem words_of_words {ws : List ByteArray} (h : ∀ x ∈ ws, isWord x) : wordsB (gtS ws) = ws := by
  rw [words_join]
  induction ws with
  | nil => rfl
  | cons x r ih =>
    rw [List.map_cons, List.flatten_cons, h x List.mem_cons_self, ih (fun y hy => h y (List.mem_cons_of_mem _ hy))]
    rfl

/-! sizes -/
theorem szL_eq (ss : List ByteArray) : szL ss = ss.length + (ss.map ByteArray.size).sum := by
  unfold szL szT; rw [List.take_of_length_le (Nat.le_refl _)]
theorem szL_app (a b : List ByteArray) : szL (a ++ b) = szL a + szL b := by
  rw [szL_eq, szL_eq, szL_eq, List.map_append, List.sum_append, List.length_append]; omega
theorem szL_take (ss : List ByteArray) (b : Nat) : szL (ss.take b) ≤ szL ss := by
  have h := szL_app (ss.take b) (ss.drop b)
  rw [List.take_append_drop] at h; omega
theorem szL_drop (ss : List ByteArray) (b : Nat) : szL (ss.drop b) ≤ szL ss := by
  have h := szL_app (ss.take b) (ss.drop b)
  rw [List.take_append_drop] at h; omega
theorem szL_cons (x : ByteArray) (r : List ByteArray) : szL (x :: r) = x.size + 1 + szL r := by
  rw [szL_eq, szL_eq, List.map_cons, List.sum_cons, List.length_cons]; omega
theorem szL_words (s : ByteArray) : szL (wordsB s) ≤ s.size + 1 := by
  have h := wl_sum s.data.toList []
  rw [← words_lists, List.map_map, List.length_map] at h
  have e : (wordsB s).map (List.length ∘ fun x => x.data.toList) = (wordsB s).map ByteArray.size := List.map_congr_left fun x _ => rfl
  rw [e] at h
  have hl : s.data.toList.length = s.size := rfl
  rw [szL_eq]
  simp only [List.length_nil] at h
  omega
theorem gtS_size (zs : List ByteArray) : (gtS zs).size ≤ szL zs := by
  have h := gt_size (zs := zs) zs.length (Nat.le_refl _)
  rw [gt_full rfl] at h
  unfold szL; omega
theorem szL_all {ws : List ByteArray} {b : Nat} (h : ∀ x ∈ ws, x.size ≤ b) : szL ws ≤ ws.length * (b + 1) := by
  induction ws with
  | nil => simp [szL_eq]
  | cons x r ih =>
    have h1 := ih (fun y hy => h y (List.mem_cons_of_mem _ hy))
    have h2 := h x List.mem_cons_self
    rw [szL_cons, List.length_cons, Nat.succ_mul]
    omega
theorem wwB_szL {f : Fnt} {s : ByteArray} (h : wwB f s = true) : szL (wordsB s) ≤ 80040 := by
  obtain ⟨h1, h2, h3, h4⟩ := wwB_parts h
  have h5 := szL_all (ws := wordsB s) (b := 2000) (fun x hx => by
    obtain ⟨g1, g2⟩ := h2 x hx
    have := wSum_pos h1 x.size g1
    omega)
  have : (wordsB s).length * (2000 + 1) ≤ 40 * (2000 + 1) := Nat.mul_le_mul_right _ h4
  omega
theorem okW_ww {f : Fnt} {m : Msr} {s : ByteArray} (h : okW m (wwL f s) = true) : wwB f s = true := by
  cases hb : wwB f s
  · rw [wwL_no hb] at h
    have := (okW_parts h).2
    simp [textB, inB] at this
  · rfl

/-! lines of words -/
def sseg (ws : List ByteArray) (a b : Nat) : List ByteArray := (ws.take b).drop a
theorem sseg_len {ws : List ByteArray} {a b : Nat} (hb : b ≤ ws.length) : (sseg ws a b).length = b - a := by
  unfold sseg; rw [List.length_drop, List.length_take]; omega
theorem sseg_mem {ws : List ByteArray} {a b : Nat} {x : ByteArray} (h : x ∈ sseg ws a b) : x ∈ ws := List.mem_of_mem_take (List.mem_of_mem_drop h)
theorem sseg_sz (ws : List ByteArray) (a b : Nat) : szL (sseg ws a b) ≤ szL ws := Nat.le_trans (szL_drop _ _) (szL_take _ _)
theorem sseg_drop {ws : List ByteArray} {p q : Nat} : sseg ws p (p + q) = (ws.drop p).take q := by
  unfold sseg; rw [List.drop_take, Nat.add_sub_cancel_left]
theorem sseg_rest {ws : List ByteArray} {p q : Nat} : sseg ws p (p + q) ++ ws.drop (p + q) = ws.drop p := by
  rw [sseg_drop, ← List.drop_drop, List.take_append_drop]
def lnF (ws : List ByteArray) : Nat → List Int → List ByteArray
  | _, [] => []
  | p, x :: r => gtS (sseg ws p (p + x.toNat)) :: lnF ws (p + x.toNat) r
theorem lnF_len {ws : List ByteArray} : ∀ (ls : List Int) (p : Nat), (lnF ws p ls).length = ls.length
  | [], _ => rfl
  | x :: r, p => by unfold lnF; rw [List.length_cons, List.length_cons, lnF_len r]
theorem lnF_at {ws : List ByteArray} {ls : List Int} {p k : Nat} {x : Int} (h : ls[k]? = some x) : lnF ws p (ls.drop k) = gtS (sseg ws p (p + x.toNat)) :: lnF ws (p + x.toNat) (ls.drop (k + 1)) := by rw [drop_at h]; rfl
theorem drop_head {α : Type} {R t : List α} {k : Nat} {y : α} (h : R.drop k = y :: t) : R[k]? = some y ∧ R.drop (k + 1) = t := by
  have h1 : (R.drop k)[0]? = some y := by rw [h]; rfl
  rw [List.getElem?_drop] at h1
  refine ⟨h1, ?_⟩
  rw [← List.drop_drop, h]; rfl
/-- one line more -/
theorem ln_step {ws R : List ByteArray} {ls : List Int} {p k q : Nat} (h : lnF ws p (ls.drop k) = R.drop k) (hx : ls[k]? = some (q : Int)) : R[k]? = some (gtS (sseg ws p (p + q))) ∧ lnF ws (p + q) (ls.drop (k + 1)) = R.drop (k + 1) := by
  rw [lnF_at hx, Int.toNat_natCast] at h
  obtain ⟨h1, h2⟩ := drop_head h.symm
  exact ⟨h1, h2.symm⟩
def cnts (g : List ByteArray) : List Int := g.map fun s => ((wordsB s).length : Int)
theorem lnF_words {m : Msr} {zs : List Int} {ws : List ByteArray} (hg : ∀ x ∈ ws, isWord x) (hl : zs.length = ws.length) : ∀ (ls : List Int) (p : Nat), brkF m zs p ls = true →
    ((lnF ws p ls).map wordsB).flatten = ws.drop p ∧ cnts (lnF ws p ls) = ls ∧ (∀ s ∈ lnF ws p ls, gtS (wordsB s) = s) ∧ szL (lnF ws p ls) ≤ ls.length + szL (ws.drop p)
  | [], p, h => by
    have hp : p = zs.length := by simpa [brkF] using h
    refine ⟨?_, rfl, (fun s hs => by cases hs), (by rw [lnF, szL_eq]; simp)⟩
    rw [List.drop_of_length_le (by omega)]; rfl
  | x :: r, p, h => by
    have h' := brkF_yes (ls := x :: r) (k := 0) rfl h
    obtain ⟨q, rfl, hq, hle, hlw, hb⟩ := h'
    have hb : brkF m zs (p + q) r = true := hb
    obtain ⟨i1, i2, i3, i4⟩ := lnF_words hg hl r (p + q) hb
    have hw : wordsB (gtS (sseg ws p (p + q))) = sseg ws p (p + q) := words_of_words fun y hy => hg y (sseg_mem hy)
    have hlen : (sseg ws p (p + q)).length = q := by rw [sseg_len (by omega)]; omega
    unfold lnF
    rw [Int.toNat_natCast]
    refine ⟨?_, ?_, ?_, ?_⟩
    · rw [List.map_cons, List.flatten_cons, i1, hw, sseg_rest]
    · unfold cnts at i2 ⊢
      rw [List.map_cons, i2, hw, hlen]
    · intro s hs
      rcases List.mem_cons.1 hs with rfl | hs
      · rw [hw]
      · exact i3 s hs
    · have e := szL_app (sseg ws p (p + q)) (ws.drop (p + q))
      rw [sseg_rest] at e
      have := gtS_size (sseg ws p (p + q))
      rw [szL_cons, List.length_cons]
      omega
theorem lnF_lines : ∀ (g pre : List ByteArray), lnF (pre ++ (g.map wordsB).flatten) pre.length (cnts g) = g.map fun s => gtS (wordsB s)
  | [], _ => rfl
  | s :: g, pre => by
    have ih := lnF_lines g (pre ++ wordsB s)
    have e : cnts (s :: g) = ((wordsB s).length : Int) :: cnts g := rfl
    rw [e]
    unfold lnF
    rw [Int.toNat_natCast, List.map_cons, List.map_cons, List.flatten_cons, ← List.append_assoc, List.length_append] at *
    rw [ih]
    congr 2
    unfold sseg
    rw [List.take_append_of_le_length (by rw [List.length_append]; exact Nat.le_refl _), List.take_of_length_le (by rw [List.length_append]; exact Nat.le_refl _), List.drop_left]

/-! galleys -/
/-- the lines of a text, if it has a greedy breaking -/
def galA (f : Fnt) (m : Msr) (s : ByteArray) : Option (List ByteArray) := (grdA m (wwL f s)).map (lnF (wordsB s) 0)
def galB (f : Fnt) (m : Msr) (g : List ByteArray) : Bool := isBrk m (wwL f (gtS g)) (cnts g) && decide ((g.map fun s => gtS (wordsB s)) = g)
theorem grdA_parts {m : Msr} {zs ls : List Int} (h : grdA m zs = some ls) : okW m zs = true ∧ brkF m zs 0 ls = true := by
  unfold grdA at h
  split at h
  · rename_i ho
    exact ⟨ho, (grdF_brk (textB_parts (okW_parts ho).2).2.2 _ _ _ (Nat.zero_le _) h).1⟩
  · cases h
theorem ww_len {f : Fnt} {s : ByteArray} (h : wwB f s = true) : (wwL f s).length = (wordsB s).length := by rw [wwL_yes h, List.length_map]
theorem grdA_ww {f : Fnt} {m : Msr} {s : ByteArray} {ls : List Int} (h : grdA m (wwL f s) = some ls) : wwB f s = true ∧ brkF m (wwL f s) 0 ls = true ∧ (wwL f s).length = (wordsB s).length := by
  obtain ⟨h1, h2⟩ := grdA_parts h
  exact ⟨okW_ww h1, h2, ww_len (okW_ww h1)⟩
theorem isBrk_ww {f : Fnt} {m : Msr} {s : ByteArray} {ls : List Int} (h : isBrk m (wwL f s) ls = true) : wwB f s = true ∧ brkF m (wwL f s) 0 ls = true ∧ (wwL f s).length = (wordsB s).length := by
  unfold isBrk at h
  rw [Bool.and_eq_true] at h
  exact ⟨okW_ww h.1, h.2, ww_len (okW_ww h.1)⟩
/-- the lines that the counts make of a galley's own words -/
theorem lines_own (g : List ByteArray) : lnF (wordsB (gtS g)) 0 (cnts g) = g.map fun s => gtS (wordsB s) := by
  have h := lnF_lines g []
  rw [List.nil_append, List.length_nil, ← words_join] at h
  exact h
theorem brkF_cnt {m : Msr} {zs : List Int} : ∀ (ls : List Int) (p : Nat), brkF m zs p ls = true → p ≤ zs.length → ls.length ≤ zs.length - p
  | [], p, h, _ => Nat.zero_le _
  | x :: r, p, h, hp => by
    obtain ⟨q, rfl, hq, hle, hlw, hb⟩ := brkF_yes (ls := x :: r) (k := 0) rfl h
    have := brkF_cnt r (p + q) hb (by omega)
    rw [List.length_cons]; omega
/-- what a galley of a text has -/
theorem galA_parts {f : Fnt} {m : Msr} {s : ByteArray} {g : List ByteArray} (h : galA f m s = some g) :
    wwB f s = true ∧ wordsB (gtS g) = wordsB s ∧ galB f m g = true ∧ galA f m (gtS g) = some g ∧ szL g ≤ 80080 ∧ g.length ≤ 40 ∧ isBrk m (wwL f s) (cnts g) = true := by
  unfold galA at h
  cases hg : grdA m (wwL f s) with
  | none => rw [hg] at h; cases h
  | some ls =>
    rw [hg] at h
    injection h with h
    subst h
    obtain ⟨h1, h2, h3⟩ := grdA_ww hg
    obtain ⟨i1, i2, i3, i4⟩ := lnF_words (m := m) (zs := wwL f s) (ws := wordsB s) (fun x hx => words_words hx) h3 ls 0 h2
    rw [List.drop_zero] at i1 i4
    have hw : wordsB (gtS (lnF (wordsB s) 0 ls)) = wordsB s := by rw [words_join, i1]
    have hww : wwB f (gtS (lnF (wordsB s) 0 ls)) = wwB f s := by unfold wwB; rw [hw]
    have hwl : wwL f (gtS (lnF (wordsB s) 0 ls)) = wwL f s := by unfold wwL; rw [hww, hw]
    have hsz := wwB_szL h1
    have hc := brkF_cnt ls 0 h2 (Nat.zero_le _)
    have h40 := wwL_len f s
    have hbk : isBrk m (wwL f s) ls = true := by
      unfold isBrk; rw [(grdA_parts hg).1, h2]; rfl
    refine ⟨h1, hw, ?_, ?_, by omega, by rw [lnF_len]; omega, by rw [i2]; exact hbk⟩
    · unfold galB
      rw [hwl, i2, hbk, Bool.true_and, decide_eq_true_eq]
      conv => rhs; rw [← List.map_id (lnF (wordsB s) 0 ls)]
      exact List.map_congr_left fun x hx => i3 x hx
    · unfold galA
      rw [hwl, hg, hw]
      rfl
end Go.Proofs.YtobakeahbgodbaaGreat

namespace Go.Proofs.YtobakeahbgodbaaGreat
open Go.RowKit Go.Shelf
set_option linter.unusedVariables false

theorem blanksO_any (A : Option Addr) (g o n c : Nat) (zs : List ByteArray) (w : World) (hn : zs.length = n) (hA : A = some ⟨g, o, none⟩) (hm : szL zs ≤ 2097152) (hc : n ≤ c) (hg : g < w.heap.size) (h : Strs w A zs) :
    Calls Tryz.prog 50 #[.slice A n c] w fun e w' => e = .returned (.string (gtS zs)) ∧ Below w.heap.size w w' := by
  subst hn; subst hA
  have hsz := hm
  unfold szL at hsz
  have HL : Hid ((Lib.join (zs.map (·.data.toList)) (⟨#[32]⟩ : ByteArray).data.toList).length ≤ 140737488355328) := by
    show _ ≤ _
    have h1 := gt_size (zs := zs) zs.length (Nat.le_refl _)
    rw [gt_full rfl] at h1
    have h2 : (gtS zs).size = (Lib.join (zs.map (·.data.toList)) (⟨#[32]⟩ : ByteArray).data.toList).length := by simp [gtS, ByteArray.size]
    omega
  have HN : zs.length ≤ 140737488355328 := by omega
  have HC : Hid (∀ (j : Nat) x, zs[j]? = some x → w.cell? ⟨g, o + j, none⟩ = some (.string x)) := fun j x hx => by
    obtain ⟨ad, e, hcell⟩ := h (by have := slt_at hx; omega)
    injection e with e
    subst e
    have h1 := hcell j (slt_at hx)
    rw [sgetD_at hx] at h1
    rw [← h1]
    by_cases hj : j = 0
    · subst hj; simp [Addr.add]
    · simp [Addr.add, hj]
  clear h hsz
  go_enter Tryz.func50, Tryz.ntmps50
  go_wp2_with fail
  refine (Tryz.strings_Join g o c zs ⟨#[32]⟩ _ HC.out hg HN hc HL.out).mono ?_
  rintro e w1 ⟨rfl, hb1⟩
  have HB := Lib.hid hb1
  clear hb1
  go_wp2
  go_ret
  exact ⟨rfl, HB.out⟩
theorem strs_sub {w : World} {A : Option Addr} {c p q : Nat} {zs : List ByteArray} (h : Strs w A zs) (hc : zs.length ≤ c) (hq : p + q ≤ zs.length) : Strs w (if c = p then A else Option.map (fun x => x.add p) A) (sseg zs p (p + q)) := by
  rw [sseg_drop]
  exact strs_take (strs_from h hc)

set_option maxRecDepth 100000 in
set_option maxHeartbeats 1600000 in
theorem inLines_any (m : Msr) (zs : List Int) (ws : List ByteArray) (g N c : Nat) (Al : Option Addr) (n d : Nat) (ls : List Int) (w : World)
    (hw : ws.length = N) (hc : N ≤ c) (hcm : c ≤ maxLen) (hg : g < w.heap.size) (hz : zs.length = N) (hbr : brkF m zs 0 ls = true) (hl : ls.length = n) (hn : n ≤ 1048576) (hm : szL ws ≤ 1048576)
    (h : Strs w (some ⟨g, 0, none⟩) ws) (hI : Ints w Al ls) :
    Calls Tryz.prog 45 #[.slice (some ⟨g, 0, none⟩) N c, .slice Al n d] w fun e w' => ∃ v, e = .returned v ∧ OwnS w' w.heap.size v (lnF ws 0 ls) ∧ Below w.heap.size w w' := by
  obtain ⟨A, hA⟩ : ∃ A, some (⟨g, 0, none⟩ : Addr) = A := ⟨_, rfl⟩
  rw [hA] at h ⊢
  unfold maxLen at hcm
  obtain ⟨R, hR⟩ : ∃ R, lnF ws 0 ls = R := ⟨_, rfl⟩
  have hRl : R.length = n := by rw [← hR, lnF_len, hl]
  have HA := Lib.hid hA; have Hw := Lib.hid hw; have Hz := Lib.hid hz; have Hl := Lib.hid hl; have HM := Lib.hid hm; have H := Lib.hid h; have HI := Lib.hid hI; have HR := Lib.hid hRl
  have HB0 : Hid (brkF m zs 0 (ls.drop 0) = true) := by show _ = _; rw [List.drop_zero]; exact hbr
  have HL0 : Hid (lnF ws 0 (ls.drop 0) = R.drop 0) := by show _ = _; rw [List.drop_zero, List.drop_zero]; exact hR
  have hN : szL ws ≤ 1048576 := hm
  have hN2 : N ≤ 1048576 := by rw [← hw]; rw [szL_eq] at hm; omega
  rw [hR]
  clear hA hw hz hl hm h hI hRl hbr hR hN
  obtain ⟨i0, hi, hz0, hz1, hz2⟩ := info_parts strInfo
  go_enter Tryz.func45, Tryz.ntmps45
  go_wp2_with (at_make; refine wpList_make_full _ rfl (.tmp 10) (.tmp 10) 28 rfl w.heap.size 9 i0 (.string ByteArray.empty) 1 Tryz.underlying28 hi hz0 hz1 .i64 .i64 (n : Int) (n : Int) n rfl rfl rfl rfl (by rw [hz2]; omega) (by unfold maxLen; omega) (Nat.le_refl _) ?_; intro w1 hown1 hg1; rw [shalf_zero R] at hown1)
  have hb1 : Below w.heap.size w w1 := (Below.refl _ _).grown hg1 (Nat.le_refl _) (fun k hk => by cases hk)
  clear hg1
  go_loopw [6, 14] (fun f i wr => ∃ k p : Nat, k ≤ n ∧ p ≤ N ∧ f = .int .i64 p ∧ i = .int .i64 k ∧ Hid (brkF m zs p (ls.drop k) = true) ∧ Hid (lnF ws p (ls.drop k) = R.drop k) ∧ wr.ownsRow w.heap.size 9 1 (.slice (some ⟨w.heap.size, 0, none⟩) n n) n (shalf R n k) ∧ Below w.heap.size w wr) (fun _ i _ => n - (intOf i).toNat)
  case atStart => exact ⟨0, 0, Nat.zero_le _, Nat.zero_le _, rfl, rfl, HB0.out, HL0.out, hown1, hb1⟩
  case round =>
    clear hown1 hb1 HB0 HL0
    obtain ⟨k, p, hk, hp, rfl, rfl, hbr, hln, hown, hb⟩ := hrel
    have zr := hb.size
    have HB := Lib.hid hb
    by_cases hlt : k < n
    · obtain ⟨ad, x, rfl, hx, hcx⟩ := (HI.out.below hb).at_ (k := k) (by rw [Hl.out]; exact hlt)
      obtain ⟨q, rfl, hq1, hq2, -, hbr2⟩ := brkF_yes hx.out hbr.out
      obtain ⟨hy, hln2⟩ := ln_step hln.out hx.out
      obtain ⟨r, hr⟩ : ∃ r, p + q = r := ⟨_, rfl⟩
      rw [Hz.out] at hq2
      obtain ⟨AN, hAN⟩ : ∃ AN, Option.map (fun x => x.add p) A = AN := ⟨_, rfl⟩
      have SD := strs_sub (c := c) (p := p) (q := q) (H.out.below hb) (by rw [Hw.out]; exact hc) (by rw [Hw.out]; exact hq2)
      rw [if_neg (by omega), hAN] at SD
      have HSD := Lib.hid SD
      have HLn : Hid ((sseg ws p (p + q)).length = q) := by show _ = _; rw [sseg_len (by rw [Hw.out]; exact hq2)]; omega
      have HAN : Hid (AN = some ⟨g, p, none⟩) := by
        show _ = _
        rw [← hAN, ← HA.out]
        by_cases hp0 : p = 0
        · subst hp0; simp [Addr.add]
        · simp [Addr.add, hp0]
      have HSZ : Hid (szL (sseg ws p (p + q)) ≤ 1048576) := Nat.le_trans (sseg_sz _ _ _) HM.out
      have Hy := Lib.hid hy; have Hbr2 := Lib.hid hbr2; have Hln2 := Lib.hid hln2
      have Hown := Lib.hid hown
      have a1 : (p : Int) + (q : Int) = (r : Int) := by omega
      have a3 : (r : Int) - (p : Int) = (q : Int) := by omega
      have a4 : r ≤ c := by omega
      have a5 : r ≤ N := by omega
      have a6 : p ≤ r := by omega
      have a7 : r - p = q := by omega
      have hHr := Lib.hid hr
      clear SD hbr hln hy hbr2 hln2 hb hx hown hr
      go_wp2_with fail
      refine (blanksO_any AN g p q (c - p) (sseg ws p (p + q)) _ HLn.out HAN.out (Nat.le_trans HSZ.out (by decide)) (by omega) (by omega) HSD.out).mono ?_
      rintro e w5 ⟨rfl, hb5⟩
      clear hAN
      have HB5 := Lib.hid (HB.out.trans (hb5.mono zr)); have hown5 := row_below Hown.out (fun k hk => (World.ownsRow.lt Hown.out k hk).2) hb5
      clear hb5 HSD Hown
      obtain ⟨v0, hv0⟩ := shalf_cell R n k HR.out hlt
      have hd := (hown5.cellAt k (by omega)).trans hv0
      have hf := hown5.frozenAt k
      have hst := hown5.stored k (.string (gtS (sseg ws p (p + q))))
      rw [shalf_set HR.out Hy.out] at hst
      have HS := Lib.hid hst.1
      have HB6 := Lib.hid (HB5.out.setCell (p := ⟨w.heap.size, k, none⟩) (Nat.le_refl _) (.string (gtS (sseg ws p (p + q)))))
      clear hst hv0 hown5
      go_wp2
      go_roundw
      case rel => exact ⟨k + 1, p + q, by omega, by omega, by rw [hHr.out], by go_num, Hbr2.out, Hln2.out, HS.out, HB6.out⟩
      case measure => simp [intOf]; omega
    · have hkn : k = n := by omega
      subst hkn
      go_wp2
      go_ret
      refine ⟨_, rfl, ?_, hb⟩
      unfold OwnS
      rw [HR.out, ← shalf_full HR.out]
      exact hown

theorem cnts_len (g : List ByteArray) : (cnts g).length = g.length := by unfold cnts; rw [List.length_map]
theorem cnts_at {g : List ByteArray} {k : Nat} {x : ByteArray} (h : g[k]? = some x) : (cnts g)[k]? = some ((wordsB x).length : Int) := by unfold cnts; rw [List.getElem?_map, h]; rfl
theorem szL_mem {g : List ByteArray} {x : ByteArray} (h : x ∈ g) : x.size + 1 ≤ szL g := by
  have h1 := szT_mem h
  have h2 : 0 < g.length := List.length_pos_of_mem h
  unfold szL; omega
set_option maxRecDepth 100000 in
set_option maxHeartbeats 1600000 in
theorem breakingOf_any (A : Option Addr) (n c : Nat) (g : List ByteArray) (w : World) (hn : g.length = n) (hm : szL g ≤ 1048576) (h : Strs w A g) :
    Calls Tryz.prog 42 #[.slice A n c] w fun e w' => ∃ v, e = .returned v ∧ Own w' w.heap.size v (cnts g) ∧ Below w.heap.size w w' := by
  have Hn := Lib.hid hn; have HM := Lib.hid hm; have H := Lib.hid h
  have HC : Hid ((cnts g).length = n) := by show _ = _; rw [cnts_len, hn]
  have hn2 : n ≤ 1048576 := by rw [← hn]; unfold szL at hm; omega
  clear hn hm h
  obtain ⟨R, hR⟩ : ∃ R, cnts g = R := ⟨_, rfl⟩
  have HR := Lib.hid hR
  rw [hR] at HC ⊢
  clear hR
  obtain ⟨i0, hi, hz0, hz1, hz2⟩ := info_parts intInfo
  go_enter Tryz.func42, Tryz.ntmps42
  go_wp2_with (at_make; refine wpList_make_full _ rfl (.tmp 7) (.tmp 7) 23 rfl w.heap.size 3 i0 (.int .i64 0) 1 Tryz.underlying23 hi hz0 hz1 .i64 .i64 (n : Int) (n : Int) n rfl rfl rfl rfl (by rw [hz2]; omega) (by unfold maxLen; omega) (Nat.le_refl _) ?_; intro w1 hown1 hg1; rw [half_zero R] at hown1)
  have hb1 : Below w.heap.size w w1 := (Below.refl _ _).grown hg1 (Nat.le_refl _) (fun k hk => by cases hk)
  clear hg1
  go_loopw [11] (fun i wr => ∃ k : Nat, k ≤ n ∧ i = .int .i64 k ∧ wr.ownsRow w.heap.size 3 1 (.slice (some ⟨w.heap.size, 0, none⟩) n n) n (half R n k) ∧ Below w.heap.size w wr) (fun i _ => n - (intOf i).toNat)
  case atStart => exact ⟨0, Nat.zero_le _, rfl, hown1, hb1⟩
  case round =>
    clear hown1 hb1
    obtain ⟨k, hk, rfl, hown, hb⟩ := hrel
    have zr := hb.size
    by_cases hlt : k < n
    · obtain ⟨ad, x, rfl, hx, hcx⟩ := (H.out.below hb).at_ (k := k) (by rw [Hn.out]; exact hlt)
      have hy : R[k]? = some ((wordsB x).length : Int) := by rw [← HR.out]; exact cnts_at hx.out
      have hxs : x.size ≤ 1048576 := by have := szL_mem (smem_at hx.out); have := HM.out; omega
      have HB := Lib.hid hb; have Hy := Lib.hid hy; have Hown := Lib.hid hown
      clear hb hy hown hx
      go_wp2_with fail
      refine (wordsOf_own x _ (by omega)).mono ?_
      rintro e w5 ⟨vw, rfl, hO, hb5⟩
      obtain ⟨Aw, cw, rfl, -, -, -, -⟩ := hO.form
      have hwl := wordsB_len x
      obtain ⟨q, hq⟩ : ∃ q, (wordsB x).length = q := ⟨_, rfl⟩
      rw [hq] at Hy hwl ⊢
      have HB5 := Lib.hid (HB.out.trans (hb5.mono zr)); have hown5 := row_below Hown.out (fun k hk => (World.ownsRow.lt Hown.out k hk).2) hb5
      clear hb5 Hown hO hq
      obtain ⟨v0, hv0⟩ := half_cell R n k HC.out hlt
      have hd := (hown5.cellAt k (by omega)).trans hv0
      have hf := hown5.frozenAt k
      have hst := hown5.stored k (.int .i64 (q : Int))
      rw [half_set HC.out Hy.out] at hst
      have HS := Lib.hid hst.1
      have HB6 := Lib.hid (HB5.out.setCell (p := ⟨w.heap.size, k, none⟩) (Nat.le_refl _) (.int .i64 (q : Int)))
      clear hst hv0 hown5
      go_wp2
      go_roundw
      case rel => exact ⟨k + 1, by omega, by go_num, HS.out, HB6.out⟩
      case measure => simp [intOf]; omega
    · have hkn : k = n := by omega
      subst hkn
      go_wp2
      go_ret
      refine ⟨_, rfl, ?_, hb⟩
      unfold Own
      rw [HC.out, ← half_full HC.out]
      exact hown

/-- two rows of strings of the call's own: equal or not -/
theorem sEq_any (B1 B2 : Nat) (A A2 : Option Addr) (n c m d : Nat) (xs ys : List ByteArray) (w : World) (h1 : OwnS w B1 (.slice A n c) xs) (h2 : OwnS w B2 (.slice A2 m d) ys) (hn : xs.length = n) (hm : ys.length = m) (hb : n ≤ maxLen) (hb2 : m ≤ maxLen) :
    Calls Tryz.prog 44 #[.slice A n c, .slice A2 m d] w fun e w' => e = .returned (.bool (decide (xs = ys))) ∧ Below w.heap.size w w' := by
  unfold maxLen at hb hb2
  by_cases hnm : n = m
  · rcases h1.2 with ⟨hv, hz⟩ | ⟨g, cap, cur, hv, hg, hh, rest⟩
    · injection hv with e1 e2 e3
      subst e1; subst e2; subst e3
      refine (Tryz.slices_Equal_string_empty none A2 0 m d w (by omega)).mono ?_
      rintro e w' ⟨rfl, rfl⟩
      have hx : xs = [] := List.eq_nil_of_length_eq_zero hz
      have hy : ys = [] := List.eq_nil_of_length_eq_zero (by omega)
      subst hx; subst hy
      refine ⟨?_, Below.refl _ _⟩
      rw [show m = 0 by omega]
      rfl
    · rcases h2.2 with ⟨hv2, hz2⟩ | ⟨g2, cap2, cur2, hv2, hg2, hh2, rest2⟩
      · have hx : xs = [] := List.eq_nil_of_length_eq_zero (by omega)
        have hy : ys = [] := List.eq_nil_of_length_eq_zero (by omega)
        subst hx; subst hy
        have hn0 : n = 0 := by rw [← hn]; rfl
        subst hn0
        refine (Tryz.slices_Equal_string_empty A A2 c m d w (by omega)).mono ?_
        rintro e w' ⟨rfl, rfl⟩
        refine ⟨?_, Below.refl _ _⟩
        rw [show m = 0 by omega]
        rfl
      · injection hv with e1 e2 e3
        injection hv2 with f1 f2 f3
        subst e1; subst f1
        refine (Tryz.slices_Equal_string g 0 n c g2 0 m d xs ys w (by omega) (by omega) (by omega) (by omega) (fun j hj => ?_) (fun j hj => ?_)).mono ?_
        · rw [Nat.zero_add, ← add_zero_at g j]
          refine World.ownsRow.cells h1 (g := g) rfl j _ ?_
          rw [List.getElem?_map, List.getElem?_eq_getElem hj]; simp [List.getD, hj]
        · rw [Nat.zero_add, ← add_zero_at g2 j]
          refine World.ownsRow.cells h2 (g := g2) rfl j _ ?_
          rw [List.getElem?_map, List.getElem?_eq_getElem hj]; simp [List.getD, hj]
        · rintro e w' ⟨rfl, q, rfl⟩
          refine ⟨?_, below_drewN (Below.refl _ _) q⟩
          rw [stake_all hn, stake_all hm]
  · refine (Tryz.slices_Equal_string_lens A A2 n c m d w hnm).mono ?_
    rintro e w' ⟨rfl, rfl⟩
    refine ⟨?_, Below.refl _ _⟩
    rw [decide_eq_false]
    rintro rfl
    exact hnm (hn.symm.trans hm)
end Go.Proofs.YtobakeahbgodbaaGreat

namespace Go.Proofs.YtobakeahbgodbaaGreat
open Go.RowKit
set_option linter.unusedVariables false

set_option maxHeartbeats 800000 in
theorem ldGreedy_any (W t k : Int) (ad : Addr) (n c p q sb : Nat) (zs : List Int) (w : World) (hn : zs.length = n) (hc : n ≤ c) (hcm : c ≤ maxLen) (h : Ints w (some ad) zs) (hm : msrB ⟨W, t, k⟩ = true) (ht : textB zs = true) (hp : p < n) (hS : Blk w sb #[.int .i64 W, .int .i64 t, .int .i64 k, .slice (some ad) n c] 109) :
    Calls Tryz.prog 137 #[.int .i64 p, .int .i64 q, .pointer (some ⟨sb, 0, none⟩)] w fun e w' => e = .returned (.bool (q == lastE ⟨W, t, k⟩ zs p)) ∧ Below w.heap.size w w' := by
  have HL := Lib.hid (lgEnd_any W t k ad n c p zs w hn hc hcm h hm ht hp)
  obtain ⟨L, hL⟩ : ∃ L, lastE ⟨W, t, k⟩ zs p = L := ⟨_, rfl⟩
  rw [hL] at HL ⊢
  obtain ⟨s0, s1, s2, s3⟩ := hS.st
  clear hn hc hcm h hm ht hp hS hL
  have hd : Hid ((((q : Int) == (L : Int)) : Bool) = (q == L)) := by
    show _ = _
    rw [Bool.eq_iff_iff, beq_iff_eq, beq_iff_eq]; omega
  go_enter Tryz.func137, Tryz.ntmps137
  go_wp2_with (go_at_call 138; refine HL.out.mono ?_; rintro e w1 ⟨rfl, hb1⟩; have HB1 := Lib.hid hb1; clear hb1)
  go_ret
  exact ⟨ret_bool hd.out, HB1.out⟩

/-- what the longest line's function leans on -/
def RGrd (W t k : Int) (ad : Addr) (n c sb g : Nat) (zs : List Int) (G : Nat → Prop) (s : Int) (w : World) : Prop :=
  s = 0 ∧ Blk w sb #[.int .i64 W, .int .i64 t, .int .i64 k, .slice (some ad) n c] 109 ∧ IntsB w g (some ad) zs ∧ g ≤ sb ∧ ¬ G sb ∧ ∀ k, G k → g ≤ k
theorem grdLeads (W t k : Int) (ad : Addr) (n c sb g g1 : Nat) (zs : List Int) (hg1 : g ≤ g1) (hn : zs.length = n) (hc : n ≤ c) (hcm : c ≤ maxLen) (hm : msrB ⟨W, t, k⟩ = true) (ht : textB zs = true) :
    LeadsOK ⟨W, t, k⟩ zs 137 #[.pointer (some ⟨sb, 0, none⟩)] g1 (fun _ => False) (RGrd W t k ad n c sb g zs) (ldG ⟨W, t, k⟩ zs) where
  ent := fun args w => by kernel_rfl
  ext := fun G s w w' h he => ⟨h.1, h.2.1.ext he h.2.2.2.2.1, h.2.2.1.ext he h.2.2.2.2.2, h.2.2.2⟩
  join := fun G G' s w h hG => ⟨h.1, h.2.1, h.2.2.1, h.2.2.2.1, fun hs => (hG _ hs).elim h.2.2.2.2.1 (fun hx => by have := h.2.1.lt; omega), fun k hk => (hG k hk).elim (h.2.2.2.2.2 k) (fun hx => by have := h.2.1.lt; have := h.2.2.2.1; omega)⟩
  kept := fun G s w w' row h hg hr => ⟨h.1, h.2.1.kept hg (fun q e => (hr q e).2), h.2.2.1.ext (X := fun k => g1 ≤ k) (ExtX.by_ hg (fun q e => (hr q e).1)) (fun k hk => by omega), h.2.2.2⟩
  call := fun G s p q w h hG hg hpq hq hl => by
    refine (ldGreedy_any W t k ad n c p q sb zs w hn hc hcm h.2.2.1.ints hm ht (by omega) h.2.1).mono ?_
    rintro e w' ⟨rfl, hb⟩
    exact ⟨rfl, ⟨h.1, h.2.1.below hb h.2.1.lt, h.2.2.1.keep (by have := h.2.1.lt; have := h.2.2.2.1; omega) hb, h.2.2.2⟩, ExtX.of hb⟩

set_option maxRecDepth 100000 in
set_option maxHeartbeats 3200000 in
theorem implGreedy_any (W t k : Int) (A : Option Addr) (n c : Nat) (zs : List Int) (w : World) (hn : zs.length = n) (hc : n ≤ c) (hcm : c ≤ maxLen) (h : Ints w A zs) :
    Calls Tryz.prog 109 #[.agg #[.int .i64 W, .int .i64 t, .int .i64 k], .slice A n c] w fun e w' => ∃ v, e = .returned (.tuple #[v, .bool (grdA ⟨W, t, k⟩ zs).isSome]) ∧ Own w' w.heap.size v ((grdA ⟨W, t, k⟩ zs).getD []) ∧ Below w.heap.size w w' := by
  have C := fun (w : World) (hI : Ints w A zs) => stOk_any W t k A n c zs w hn (Nat.le_trans hc hcm) hI
  obtain ⟨g, hg⟩ : ∃ g, w.heap.size = g := ⟨_, rfl⟩
  obtain ⟨w0, hw0, hb0, hz0, P⟩ := msWorld w W t k
  have T0 := Lib.hid hb0; have P0 := Lib.hid P
  have I0 := Lib.hid ((IntsB.of h).keep (Nat.le_refl _) hb0)
  rw [hg] at T0 P0 I0 P hz0
  have CC := Lib.hid C; have Hn := Lib.hid hn; have Hc := Lib.hid hc; have Hcm := Lib.hid hcm; have HG := Lib.hid hg
  obtain ⟨p0, p1, p2⟩ := P
  -- the setting's box
  obtain ⟨w1, hw1⟩ : ∃ v, w0.alloc (.cells #[.int .i64 W, .int .i64 t, .int .i64 k, .slice A n c] 109) = v := ⟨_, rfl⟩
  have b1 : Below (g + 1) w0 w1 := by rw [← hw1, ← hz0]; exact below_new _ _
  have z1 : w1.heap.size = g + 2 := by rw [← hw1]; simp [hz0]
  have S1 : Blk w1 (g + 1) #[.int .i64 W, .int .i64 t, .int .i64 k, .slice A n c] 109 := by rw [← hw1, ← hz0]; exact Blk.new _ _ _
  have T1 := Lib.hid (T0.out.trans (b1.mono (by omega))); have I1 := Lib.hid (I0.out.keep (by omega) b1); have HS1 := Lib.hid S1
  obtain ⟨s0, s1, s2, s3⟩ := (show w1.cell? ⟨g + 1, 0, none⟩ = some (.int .i64 W) ∧ w1.cell? ⟨g + 1, 1, none⟩ = some (.int .i64 t) ∧ w1.cell? ⟨g + 1, 2, none⟩ = some (.int .i64 k) ∧ w1.cell? ⟨g + 1, 3, none⟩ = some (.slice A n c) from S1.st)
  clear hb0 hn h C hc hcm b1 S1
  cases ho : okW ⟨W, t, k⟩ zs
  · have HR : Hid (grdA ⟨W, t, k⟩ zs = none) := by show _ = _; unfold grdA; rw [ho]; rfl
    have HO := Lib.hid ho
    clear ho
    rw [HR.out]
    go_enter Tryz.func109, Tryz.ntmps109
    go_wp2_with (go_at_call 76; refine (CC.out _ I1.out.ints).mono ?_; rintro e w2 ⟨he, hb2⟩; rw [show (msrB ⟨W, t, k⟩ && textB zs) = false from HO.out] at he; subst he; have T2 := Lib.hid (T1.out.trans (hb2.mono (B' := g) (by omega))); clear hb2 p0 p1 p2 s0 s1 s2 s3)
    go_ret2
    exact ⟨_, rfl, World.ownsRow_nil _ _ _ _, by rw [HG.out]; exact T2.out⟩
  have HR : Hid (grdA ⟨W, t, k⟩ zs = grdF ⟨W, t, k⟩ zs (n + 1) 0) := by show _ = _; unfold grdA; rw [ho, Hn.out]; rfl
  have HO := Lib.hid ho
  have HM := Lib.hid (okW_parts ho)
  obtain ⟨-, hl1, hl2⟩ := textB_parts HM.out.2
  rw [Hn.out] at hl1 hl2
  obtain ⟨ad, rfl⟩ := ints_some I0.out.ints (by rw [Hn.out]; exact hl1)
  have HGo : Hid (goE ⟨W, t, k⟩ zs (ldG ⟨W, t, k⟩ zs) (n + 1) [] 0 0 = ((grdF ⟨W, t, k⟩ zs (n + 1) 0).map ([] ++ ·), 0)) := goE_greedy ⟨W, t, k⟩ zs (n + 1) [] 0 0 (by rw [Hn.out]; omega) (Nat.zero_le _)
  clear ho
  rw [HR.out]
  go_enter Tryz.func109, Tryz.ntmps109
  go_wp2_with (first
    | (go_at_call 76; refine (CC.out _ I1.out.ints).mono ?_; rintro e w2 ⟨he, hb2⟩; rw [show (msrB ⟨W, t, k⟩ && textB zs) = true from HO.out] at he; subst he; have T2 := Lib.hid (T1.out.trans (hb2.mono (B' := g) (by omega))); have I2 := Lib.hid (I1.out.keep (by omega) hb2); have S2 := Lib.hid (HS1.out.below hb2 (by omega)); have zz2 : g + 2 ≤ w2.heap.size := (by have := hb2.size; omega); clear hb2 p0 p1 p2 s0 s1 s2 s3; obtain ⟨s0, s1, s2, s3⟩ := S2.out.st)
    | (go_at_call 136; refine (firstBr2_any W t k ad n c zs Hn.out Hc.out Hcm.out HM.out.1 HM.out.2 g (fun _ => False) 137 _ (RGrd W t k ad n c (g + 1) g zs) (ldG ⟨W, t, k⟩ zs) 0 w2 (by omega) (fun k h => h.elim) (fun g1 h => grdLeads W t k ad n c (g + 1) g g1 zs (by omega) Hn.out Hc.out Hcm.out HM.out.1 HM.out.2) ⟨rfl, S2.out, I2.out, by omega, id, fun k h => h.elim⟩ I2.out (grdF ⟨W, t, k⟩ zs (n + 1) 0) (by rw [HGo.out]; simp)).mono ?_; rintro e w3 ⟨v, rfl, hO, hb3⟩; have HO3 := Lib.hid hO; have T3 := Lib.hid (T2.out.trans hb3); clear hO hb3))
  go_ret2
  exact ⟨_, rfl, by rw [HG.out]; exact HO3.out, by rw [HG.out]; exact T3.out⟩
end Go.Proofs.YtobakeahbgodbaaGreat

namespace Go.Proofs.YtobakeahbgodbaaGreat
open Go.RowKit
set_option linter.unusedVariables false

theorem lastE_is {m : Msr} {zs : List Int} {p q : Nat} (h1 : p < q) (h2 : q ≤ zs.length) (h3 : lineW m zs p q = true) (h4 : ∀ r, q < r → r ≤ zs.length → lineW m zs p r = false) : lastE m zs p = q := by
  rcases lastE_cases m zs p (by omega) with ⟨h5, h6⟩ | ⟨h5, h6, h7, h8⟩
  · have := mem_endsTo (m := m) (zs := zs) (a := p) (p := zs.length + 1) (q := q)
    rw [h6] at this
    exact absurd (this.2 ⟨by omega, h1, h3⟩) (by simp)
  · rcases Nat.lt_trichotomy (lastE m zs p) q with h | h | h
    · have := mem_endsTo (m := m) (zs := zs) (a := p) (p := zs.length + 1) (q := q)
      have h9 := this.2 ⟨by omega, h1, h3⟩
      rw [h8, List.mem_append, List.mem_singleton] at h9
      rcases h9 with h9 | h9
      · have := (mem_endsTo.1 h9).1; omega
      · exact h9.symm
    · exact h
    · rw [h4 _ h h6] at h7; cases h7
theorem lastE_none {m : Msr} {zs : List Int} {p : Nat} (hp : p ≤ zs.length) (h4 : ∀ r, p < r → r ≤ zs.length → lineW m zs p r = false) : lastE m zs p = p := by
  rcases lastE_cases m zs p hp with ⟨h5, h6⟩ | ⟨h5, h6, h7, h8⟩
  · exact h5
  · rw [h4 _ h5 h6] at h7; cases h7
theorem grdF_len {m : Msr} {zs : List Int} : ∀ (f p : Nat) (r : List Int), p ≤ zs.length → grdF m zs f p = some r → r.length ≤ zs.length - p
  | 0, p, r, hp, h => by simp [grdF] at h
  | f + 1, p, r, hp, h => by
    rw [grdF] at h
    split at h
    · injection h with h; subst h; simp
    · split at h
      · cases h
      · rename_i h1 h2
        rcases lastE_cases m zs p hp with ⟨h3, _⟩ | ⟨h3, h4, _, _⟩
        · exact absurd h3 h2
        · cases hg : grdF m zs f (lastE m zs p) with
          | none => rw [hg] at h; cases h
          | some t =>
            rw [hg] at h
            injection h with h
            subst h
            have := grdF_len f _ t h4 hg
            simp; omega
theorem grdA_len (m : Msr) (zs : List Int) : ((grdA m zs).getD []).length ≤ 1048576 := by
  unfold grdA
  split
  · rename_i ho
    obtain ⟨-, -, h40⟩ := textB_parts (okW_parts ho).2
    cases hg : grdF m zs (zs.length + 1) 0 with
    | none => simp
    | some r =>
      have := grdF_len _ 0 r (Nat.zero_le _) hg
      simp; omega
  · simp

set_option maxRecDepth 100000 in
set_option maxHeartbeats 6400000 in
theorem specGreedy_any (W t k : Int) (A : Option Addr) (n c : Nat) (zs : List Int) (w : World) (hn : zs.length = n) (hc : n ≤ c) (hcm : c ≤ maxLen) (h : Ints w A zs) :
    Calls Tryz.prog 75 #[.agg #[.int .i64 W, .int .i64 t, .int .i64 k], .slice A n c] w fun e w' => ∃ v, e = .returned (.tuple #[v, .bool (grdA ⟨W, t, k⟩ zs).isSome]) ∧ Own w' w.heap.size v ((grdA ⟨W, t, k⟩ zs).getD []) ∧ Below w.heap.size w w' := by
  have C := fun (w : World) (hI : Ints w A zs) => l4Ok_any W t k A n c zs w hn (Nat.le_trans hc hcm) hI
  obtain ⟨w0, hw0, hb0, hz0, P⟩ := msWorld w W t k
  have T0 := Lib.hid hb0; have P0 := Lib.hid P; have Z0 := Lib.hid hz0
  have I0 := Lib.hid ((IntsB.of h).keep (Nat.le_refl _) hb0)
  have CC := Lib.hid C; have Hn := Lib.hid hn; have Hc := Lib.hid hc; have Hcm := Lib.hid hcm
  obtain ⟨p0, p1, p2⟩ := P
  clear hb0 hz0 hn h C hc hcm
  cases ho : okW ⟨W, t, k⟩ zs
  · have HR : Hid (grdA ⟨W, t, k⟩ zs = none) := by show _ = _; unfold grdA; rw [ho]; rfl
    have HO := Lib.hid ho
    clear ho
    rw [HR.out]
    go_enter Tryz.func75, Tryz.ntmps75
    go_wp2_with fail
    clear hw0
    refine (CC.out _ I0.out.ints).mono ?_
    rintro e w1 ⟨he, hb1⟩
    rw [show (msrB ⟨W, t, k⟩ && textB zs) = false from HO.out] at he; subst he
    have T1 := Lib.hid (T0.out.trans (hb1.mono (B' := w.heap.size) (by have := Z0.out; omega)))
    clear hb1 p0 p1 p2
    go_wp2
    go_ret2
    exact ⟨_, rfl, World.ownsRow_nil _ _ _ _, T1.out⟩
  have HR : Hid (grdA ⟨W, t, k⟩ zs = grdF ⟨W, t, k⟩ zs (n + 1) 0) := by show _ = _; unfold grdA; rw [ho, Hn.out]; rfl
  have HO := Lib.hid ho
  have HM := Lib.hid (okW_parts ho)
  obtain ⟨-, hl1, hl2⟩ := textB_parts HM.out.2
  rw [Hn.out] at hl1 hl2
  obtain ⟨ad, rfl⟩ := ints_some I0.out.ints (by rw [Hn.out]; exact hl1)
  have CG := Lib.hid (fun (a q : Nat) (v : World) (hI : Ints v (some ad) zs) (hq : 1 ≤ q) (hb : a + q ≤ n) => l4Goes_any W t k ad n c zs a q v Hn.out Hc.out Hcm.out hI HM.out.1 HM.out.2 hq hb)
  clear ho
  rw [HR.out]
  go_enter Tryz.func75, Tryz.ntmps75
  go_wp2_with fail
  clear hw0
  refine (CC.out _ I0.out.ints).mono ?_
  rintro e w1 ⟨he, hb1⟩
  rw [show (msrB ⟨W, t, k⟩ && textB zs) = true from HO.out] at he; subst he
  have T1 := Lib.hid (T0.out.trans (hb1.mono (B' := w.heap.size) (by have := Z0.out; omega)))
  have JB := Lib.hid (I0.out.keep (by have := Z0.out; omega) hb1)
  have P1 := Lib.hid (hold3 hb1 (by have := Z0.out; omega) P0.out)
  have hz1 : w.heap.size < w1.heap.size := by have := Z0.out; have := hb1.size; omega
  clear p0 p1 p2 hb1 T0 I0 P0 Z0 CC
  go_wp2
  obtain ⟨B, hB⟩ : ∃ b, w1.heap.size = b := ⟨_, rfl⟩
  obtain ⟨w3, hw3⟩ : ∃ w3, w1.alloc (.cells #[] 3) = w3 := ⟨_, rfl⟩
  have hb3 : Below B w1 w3 := by rw [← hw3, ← hB]; exact below_new _ _
  have O3 : Hid (Own w3 B (.slice (some ⟨B, 0, none⟩) 0 0) []) := by show Own _ _ _ _; rw [← hw3, ← hB]; exact World.ownsRow_lit w1 #[] 0 (Nat.le_refl _) (Nat.zero_le _) rfl
  have HB3 := Lib.hid hb3; have HBz := Lib.hid hB
  have hzB : w.heap.size < B := by rw [← hB]; exact hz1
  rw [hw3, hB]
  clear hw3 hb3 hB hz1
  go_loopw [6, 7] (fun u i wr => ∃ (p f : Nat) (ls : List Int) (A : Option Addr) (m d : Nat), p ≤ n ∧ i = .int .i64 p ∧ u = .slice A m d ∧ ls.length ≤ p ∧ Own wr B (.slice A m d) ls ∧ Hid (n < f + p ∧ grdF ⟨W, t, k⟩ zs (n + 1) 0 = (grdF ⟨W, t, k⟩ zs f p).map (ls ++ ·)) ∧ Below B w1 wr) (fun _ i _ => n - (intOf i).toNat)
  case atStart => exact ⟨0, n + 1, [], _, 0, 0, Nat.zero_le _, rfl, rfl, Nat.le_refl _, O3.out, ⟨by omega, by simp⟩, HB3.out⟩
  case round =>
    clear O3 HB3
    obtain ⟨p, f, ls, A, m, d, hp, rfl, rfl, hlp, hO, hF, hb⟩ := hrel
    have HO1 := Lib.hid hO; have HB1 := Lib.hid hb
    have hzr : B ≤ wr.heap.size := by have := hb.size; have := HBz.out; omega
    clear hO hb
    by_cases hlt : p < n
    · have hsub : IntKind.i64.wrap ((n : Int) - (p : Int)) = ((n - p : Nat) : Int) := by rw [IntKind.wrap_i64]; omega
      obtain ⟨N0, hN0⟩ : ∃ N0, n - p = N0 := ⟨_, rfl⟩
      rw [hN0] at hsub
      have hnp : (n : Int) - (p : Int) = (N0 : Int) := by omega
      go_wp2
      rename_i wr1
      go_loopw [8] (fun i wr => ∃ j : Nat, i = .int .i64 j ∧ j ≤ N0 ∧ Hid (∀ r, p + j < r → r ≤ zs.length → lineW ⟨W, t, k⟩ zs p r = false) ∧ Own wr B (.slice A m d) ls ∧ Below B w1 wr) (fun i _ => (intOf i).toNat)
      case atStart => exact ⟨N0, rfl, Nat.le_refl _, fun r h1 h2 => by rw [Hn.out] at h2; omega, HO1.out, HB1.out⟩
      case round =>
        clear HO1 HB1 hzr
        obtain ⟨j, rfl, hj, HNo, hO, hb⟩ := hrel
        have HO2 := Lib.hid hO; have HB2 := Lib.hid hb
        have hzr : B ≤ wr.heap.size := by have := hb.size; have := HBz.out; omega
        have P2 := Lib.hid (hold3 hb hzB P1.out)
        have I2 := Lib.hid ((JB.out.keep (by omega) hb).ints)
        obtain ⟨p0, p1, p2⟩ := P2.out
        clear hO hb
        obtain ⟨f', rfl⟩ : ∃ f', f = f' + 1 := ⟨f - 1, by have := hF.out.1; omega⟩
        have HFs : Hid (grdF ⟨W, t, k⟩ zs (f' + 1) p = if lastE ⟨W, t, k⟩ zs p = p then none else (grdF ⟨W, t, k⟩ zs f' (lastE ⟨W, t, k⟩ zs p)).map (fun r => ((lastE ⟨W, t, k⟩ zs p : Int) - p) :: r)) := by show _ = _; rw [grdF, if_neg (by rw [Hn.out]; omega)]
        by_cases hj0 : 0 < j
        · have HC := Lib.hid (CG.out p j wr I2.out hj0 (by omega))
          have hj1 : (0 : Int) < (j : Int) := by omega
          cases hl : lineW ⟨W, t, k⟩ zs p (p + j)
          · have HL := Lib.hid hl
            have HNo2 : Hid (∀ r, p + (j - 1) < r → r ≤ zs.length → lineW ⟨W, t, k⟩ zs p r = false) := fun r h1 h2 => by
              rcases Nat.lt_or_ge (p + j) r with h | h
              · exact HNo.out r h h2
              · have : r = p + j := by omega
                rw [this]; exact HL.out
            have hd1 : IntKind.i64.wrap ((j : Int) - 1) = ((j - 1 : Nat) : Int) := by rw [IntKind.wrap_i64]; omega
            have hd2 : (j : Int) - 1 = ((j - 1 : Nat) : Int) := by omega
            have HD := Lib.hid hd2
            clear hl hd1 hd2
            go_wp2_with (go_at_call 114; refine HC.out.mono ?_; rintro e w5 ⟨he, hb5⟩; rw [HL.out] at he; subst he; have B5 := Lib.hid (HB2.out.trans (hb5.mono (B' := B) hzr)); have O5 := Lib.hid (HO2.out.below hb5); clear hb5)
            go_roundw
            case rel => exact ⟨j - 1, by rw [HD.out], by omega, HNo2.out, O5.out, B5.out⟩
            case measure => simp [intOf]; omega
          · have HL := Lib.hid hl
            have HLast := Lib.hid (lastE_is (m := ⟨W, t, k⟩) (zs := zs) (show p < p + j by omega) (by rw [Hn.out]; omega) hl HNo.out)
            have HF2 : Hid (grdF ⟨W, t, k⟩ zs (n + 1) 0 = (grdF ⟨W, t, k⟩ zs f' (p + j)).map ((ls ++ [(j : Int)]) ++ ·)) := by
              show _ = _
              rw [hF.out.2, HFs.out, HLast.out, if_neg (by omega), show ((p + j : Nat) : Int) - (p : Int) = (j : Int) by omega]
              cases grdF ⟨W, t, k⟩ zs f' (p + j) <;> simp
            obtain ⟨r, hr⟩ : ∃ r, p + j = r := ⟨_, rfl⟩
            have hcast : (p : Int) + (j : Int) = (r : Int) := by omega
            have er : IntKind.i64.wrap (r : Int) = (r : Int) := by rw [IntKind.wrap_i64]; omega
            rw [hr] at HF2
            obtain ⟨N5, hN5⟩ : ∃ N, (ls ++ [(j : Int)]).length = N := ⟨_, rfl⟩
            have HN5 := Lib.hid hN5
            have hN5b : N5 ≤ r := by rw [← hN5]; simp; omega
            have hne : ((j : Int) == 0) = false := by rw [beq_eq_false_iff_ne]; omega
            have hfr : n < f' + r := by have := hF.out.1; omega
            clear hl hr hN5
            go_wp2_with (first
              | (go_at_call 114; refine HC.out.mono ?_; rintro e w5 ⟨he, hb5⟩; rw [HL.out] at he; subst he; have B5 := Lib.hid (HB2.out.trans (hb5.mono (B' := B) hzr)); have O5 := Lib.hid (HO2.out.below hb5); have hz5 : B ≤ w5.heap.size := Nat.le_trans hzr hb5.size; clear hb5)
              | (at_builtin; refine wpl_push w5 rfl (.tmp 36) (.tmp 38) rfl B _ ls (j : Int) rfl rfl O5.out hz5 (by omega) ?_; intro v6 w6 hO6 hb6; have B6 := Lib.hid (B5.out.trans hb6); obtain ⟨A6, c6, hv6, _⟩ := hO6.form; rw [HN5.out] at hv6; subst hv6; have O6 := Lib.hid hO6; clear hO6 hb6 O5 B5))
            go_roundw
            case rel => exact ⟨r, f', ls ++ [(j : Int)], A6, N5, c6, by omega, rfl, rfl, by rw [HN5.out]; exact hN5b, O6.out, ⟨hfr, HF2.out⟩, B6.out⟩
            case measure => simp [intOf]; omega
        · obtain rfl : j = 0 := by omega
          have HNone : Hid (grdF ⟨W, t, k⟩ zs (n + 1) 0 = none) := by
            show _ = _
            rw [hF.out.2, HFs.out, if_pos (lastE_none (p := p) (by rw [Hn.out]; omega) (fun r h1 h2 => HNo.out r (by omega) h2))]; rfl
          go_wp2
          go_ret2
          exact ⟨.slice none 0 0, by rw [HNone.out]; rfl, by rw [HNone.out]; exact World.ownsRow_nil _ _ _ _, T1.out.trans (HB2.out.mono (by omega))⟩
    · obtain rfl : p = n := by omega
      obtain ⟨f', rfl⟩ : ∃ f', f = f' + 1 := ⟨f - 1, by have := hF.out.1; omega⟩
      have HSome : Hid (grdF ⟨W, t, k⟩ zs (p + 1) 0 = some ls) := by
        show _ = _
        rw [hF.out.2, grdF, if_pos Hn.out.symm]; simp
      go_wp2
      go_ret2
      exact ⟨.slice A m d, by rw [HSome.out]; rfl, by rw [HSome.out]; exact own_base2 HO1.out (by omega), T1.out.trans (HB1.out.mono (by omega))⟩
end Go.Proofs.YtobakeahbgodbaaGreat

namespace Go.Proofs.YtobakeahbgodbaaGreat
open Go.RowKit
set_option linter.unusedVariables false

set_option maxRecDepth 100000 in
set_option maxHeartbeats 3200000 in
theorem specIsBreaking_any (W t k : Int) (A : Option Addr) (n c : Nat) (zs : List Int) (Al : Option Addr) (q d : Nat) (ls : List Int) (w : World) (hn : zs.length = n) (hc : n ≤ c) (hcm : c ≤ maxLen) (h : Ints w A zs) (hq : ls.length = q) (hqm : q ≤ maxLen) (hl : Ints w Al ls) :
    Calls Tryz.prog 74 #[.agg #[.int .i64 W, .int .i64 t, .int .i64 k], .slice A n c, .slice Al q d] w fun e w' => e = .returned (.bool (isBrk ⟨W, t, k⟩ zs ls)) ∧ Below w.heap.size w w' := by
  have C := fun (w : World) (hI : Ints w A zs) => l4Ok_any W t k A n c zs w hn (by omega) hI
  have D := fun (ad : Addr) (a b M : Nat) (w : World) (hI : Ints w (some ad) zs) (hm : msrB ⟨W, t, k⟩ = true) (ht : textB zs = true) (hab : a < b) (hb : b ≤ n) (hM : b - a = M) => kindSeg_any W t k ad M (c - a) zs a b w hI hm ht hab (by omega) hM
  obtain ⟨w0, hw0, hb0, hz0, P⟩ := msWorld w W t k
  have T0 := Lib.hid hb0; have P0 := Lib.hid P; have Z0 := Lib.hid hz0
  have I0 := Lib.hid (h.below hb0); have L0 := Lib.hid (hl.below hb0)
  have CC := Lib.hid C; have DD := Lib.hid D; have Hn := Lib.hid hn; have Hq := Lib.hid hq
  obtain ⟨p0, p1, p2⟩ := P
  clear hb0 hz0 hn h C D hq hl
  unfold maxLen at hqm hcm
  cases ho : (msrB ⟨W, t, k⟩ && textB zs)
  · have HR : Hid (isBrk ⟨W, t, k⟩ zs ls = false) := by show _ = _; unfold isBrk; rw [okW_no ho]; rfl
    go_enter Tryz.func74, Tryz.ntmps74
    go_wp2_with fail
    clear hw0
    refine (CC.out _ I0.out).mono ?_
    rintro e w1 ⟨he, hb1⟩
    rw [ho] at he; subst he
    have T1 := Lib.hid (T0.out.trans (hb1.mono (B' := w.heap.size) (by have := Z0.out; omega)))
    clear hb1 p0 p1 p2 ho
    go_wp2
    go_ret
    exact ⟨ret_bool HR.out.symm, T1.out⟩
  have hq := ho
  rw [Bool.and_eq_true] at hq
  have HM := Lib.hid hq
  obtain ⟨-, hl1, hl2⟩ := textB_parts hq.2
  rw [Hn.out] at hl1 hl2
  obtain ⟨ad, rfl⟩ := ints_some I0.out (by rw [Hn.out]; exact hl1)
  clear hq
  have DD2 := Lib.hid (fun a b M w h hab hb hM => DD.out ad a b M w h HM.out.1 HM.out.2 hab hb hM)
  have HR : Hid (isBrk ⟨W, t, k⟩ zs ls = brkF ⟨W, t, k⟩ zs 0 ls) := by show _ = _; unfold isBrk okW; rw [ho]; rfl
  clear DD
  go_enter Tryz.func74, Tryz.ntmps74
  go_wp2_with fail
  clear hw0
  refine (CC.out _ I0.out).mono ?_
  rintro e w1 ⟨he, hb1⟩
  rw [ho] at he; subst he
  have T1 := Lib.hid (T0.out.trans (hb1.mono (B' := w.heap.size) (by have := Z0.out; omega)))
  have I1 := Lib.hid (I0.out.below hb1); have L1 := Lib.hid (L0.out.below hb1)
  have P1 := Lib.hid (hold3 hb1 (by have := Z0.out; omega) P0.out)
  have Z1 : Hid (w.heap.size < w1.heap.size) := by show _ < _; have := Z0.out; have := hb1.size; omega
  clear p0 p1 p2 ho hb1 T0 I0 L0 P0 Z0 CC
  go_wp2_with fail
  go_loopw [7, 17] (fun f i wr => ∃ j p : Nat, j ≤ q ∧ i = .int .i64 j ∧ f = .int .i64 p ∧ p ≤ n ∧ Hid (brkF ⟨W, t, k⟩ zs 0 ls = brkF ⟨W, t, k⟩ zs p (ls.drop j)) ∧ Below w1.heap.size w1 wr) (fun _ i _ => q - (intOf i).toNat)
  case atStart => exact ⟨0, 0, Nat.zero_le _, rfl, rfl, Nat.zero_le _, rfl, Below.refl _ _⟩
  case round =>
    obtain ⟨j, p, hj, rfl, rfl, hp, HB, hb⟩ := hrel
    have B2 := Lib.hid hb
    have P2 := Lib.hid (hold3 hb Z1.out P1.out)
    have I2 := Lib.hid (I1.out.below hb)
    have L2 := Lib.hid (L1.out.below hb)
    have T2 := Lib.hid (T1.out.trans (hb.mono (B' := w.heap.size) (by have := Z1.out; omega)))
    have Z2 : Hid (w1.heap.size ≤ wr.heap.size) := hb.size
    clear hb
    obtain ⟨p0, p1, p2⟩ := P2.out
    by_cases hlt : j < q
    · obtain ⟨al, x, rfl, hx, hcx⟩ := L2.out.at_ (k := j) (by rw [Hq.out]; exact hlt)
      have e1 : IntKind.i64.wrap ((n : Int) - (p : Int)) = (n : Int) - (p : Int) := by rw [IntKind.wrap_i64]; omega
      cases hin : inB x 1 ((n : Int) - (p : Int))
      · have HF : Hid (brkF ⟨W, t, k⟩ zs 0 ls = false) := by show _ = _; rw [HB.out, brkF_at hx.out, Hn.out, hin]; rfl
        go_wp2_with fail
        refine (l1In_any _ _ _ _).mono ?_
        rintro e w3 ⟨he, rfl⟩
        rw [hin] at he; subst he
        clear hin
        go_wp2
        go_ret
        exact ⟨ret_bool (by rw [HR.out, HF.out]), T2.out⟩
      · have hxr := inB_true hin
        obtain ⟨u, rfl⟩ : ∃ u : Nat, x = (u : Int) := ⟨x.toNat, by omega⟩
        have hu1 : p < p + u := by omega
        have hu2 : p + u ≤ n := by omega
        have HS : Hid (brkF ⟨W, t, k⟩ zs 0 ls = (lineW ⟨W, t, k⟩ zs p (p + u) && brkF ⟨W, t, k⟩ zs (p + u) (ls.drop (j + 1)))) := by show _ = _; rw [HB.out, brkF_at hx.out, Hn.out, hin, Bool.true_and]; rfl
        obtain ⟨r, hr⟩ : ∃ r, p + u = r := ⟨_, rfl⟩
        have hcast : (p : Int) + (u : Int) = (r : Int) := by omega
        have e2 : IntKind.i64.wrap ((p : Int) + (u : Int)) = (r : Int) := by rw [IntKind.wrap_i64]; omega
        have e5 : IntKind.i64.wrap (r : Int) = (r : Int) := by rw [IntKind.wrap_i64]; omega
        have HI := Lib.hid hin
        have hru : r - p = u := by omega
        rw [hr] at HS hu1 hu2
        have hca : ¬ c = p := by omega
        have har : p ≤ r := by omega
        have hrc : r ≤ c := by omega
        have i1 : (0 : Int) ≤ (p : Int) := by omega
        have i2 : (p : Int) ≤ (r : Int) := by omega
        have i3 : (r : Int) ≤ (c : Int) := by omega
        have i4 : (0 : Int) ≤ (r : Int) := by omega
        have HL : Hid (lineW ⟨W, t, k⟩ zs p r = (kindW ⟨W, t, k⟩ zs p r == 2 || (kindW ⟨W, t, k⟩ zs p r == 1 && decide (r = n)))) := by show _ = _; unfold lineW; rw [Hn.out]
        have D3 := fun w h => DD2.out p r u w h hu1 hu2 hru
        obtain ⟨K, hK⟩ : ∃ K, kindW ⟨W, t, k⟩ zs p r = K := ⟨_, rfl⟩
        have hK3 : K = 0 ∨ K = 1 ∨ K = 2 := by rw [← hK]; exact kindF_cases _ _ _
        rw [hK] at HL D3
        have D4 := Lib.hid D3
        clear hin hxr hr hK D3
        go_wp2_with fail
        refine (l1In_any _ _ _ _).mono ?_
        rintro e w3 ⟨he, rfl⟩
        rw [HI.out] at he; subst he
        go_wp2_with fail
        have hz1 := Z1.out; have hz2 := Z2.out
        first
          | go_region_held3 (fun w' => w'.cell? ⟨w.heap.size, 0, none⟩ = some (.int .i64 W) ∧ w'.cell? ⟨w.heap.size, 1, none⟩ = some (.int .i64 t) ∧ w'.cell? ⟨w.heap.size, 2, none⟩ = some (.int .i64 k)) (first | go_keep | exact P4.out) (first
              | (go_at_call 113; refine (D4.out _ I2.out.drew).mono ?_; rintro e w4 ⟨rfl, hb4⟩; have hc4 : Below wr.heap.size wr w4 := undrew hb4; have P4 := Lib.hid (hold3 hc4 (by omega) P2.out); have T4 := Lib.hid (T2.out.trans (hc4.mono (B' := w.heap.size) (by omega))); have B4 := Lib.hid (B2.out.trans (hc4.mono (B' := w1.heap.size) (by omega))); clear hb4 hc4))
          | fail "the region"
        all_goals
          clear hca har hrc i1 i2 i3 i4 hz1 hz2
          rcases hK3 with rfl | rfl | rfl
          · have HF : Hid (brkF ⟨W, t, k⟩ zs 0 ls = false) := by show _ = _; rw [HS.out, HL.out]; simp
            go_wp2
            go_ret
            exact ⟨ret_bool (by rw [HR.out, HF.out]), T4.out⟩
          · by_cases hrn : r = n
            · subst hrn
              have HF : Hid (brkF ⟨W, t, k⟩ zs 0 ls = brkF ⟨W, t, k⟩ zs r (ls.drop (j + 1))) := by show _ = _; rw [HS.out, HL.out]; simp
              go_wp2
              go_roundw
              case rel => exact ⟨j + 1, r, by omega, by go_num, rfl, Nat.le_refl _, HF, B4.out⟩
              case measure => simp [intOf]; omega
            · have HF : Hid (brkF ⟨W, t, k⟩ zs 0 ls = false) := by show _ = _; rw [HS.out, HL.out]; simp [hrn]
              have hrl : r < n := by omega
              clear hrn
              go_wp2
              go_ret
              exact ⟨ret_bool (by rw [HR.out, HF.out]), T4.out⟩
          · have HF : Hid (brkF ⟨W, t, k⟩ zs 0 ls = brkF ⟨W, t, k⟩ zs r (ls.drop (j + 1))) := by show _ = _; rw [HS.out, HL.out]; simp
            go_wp2
            go_roundw
            case rel => exact ⟨j + 1, r, by omega, by go_num, rfl, hu2, HF, B4.out⟩
            case measure => simp [intOf]; omega
    · have hkn : j = q := by omega
      subst hkn
      rw [brkF_end Hq.out, Hn.out] at HB
      by_cases hpn : p = n
      · subst hpn
        go_wp2
        go_ret
        exact ⟨ret_bool (by rw [HR.out, HB.out]; simp), T2.out⟩
      · have hd : ((p : Int) == (n : Int)) = false := by rw [beq_eq_false_iff_ne]; omega
        have hdx : Hid (decide (p = n) = false) := by show _ = _; exact decide_eq_false hpn
        clear hpn
        go_wp2
        go_ret
        exact ⟨ret_bool (by rw [HR.out, HB.out, hdx.out]), T2.out⟩
end Go.Proofs.YtobakeahbgodbaaGreat

namespace Go.Proofs.YtobakeahbgodbaaGreat
open Go.RowKit
set_option linter.unusedVariables false

theorem owns_rd {w : World} {B n c : Nat} {A : Option Addr} {zs : List ByteArray} (h : OwnS w B (.slice A n c) zs) : Strs w A zs := by
  obtain ⟨A', c', hv, hI, _⟩ := h.form
  injection hv with h1 h2 h3
  subst h1
  exact hI
theorem own_intsQ2 {w : World} {B n c : Nat} {A : Option Addr} {zs : List Int} (h : Own w B (.slice A n c) zs) : Ints w A zs := by
  obtain ⟨A', c', hv, hI, _⟩ := h.form
  injection hv with h1 h2 h3
  subst h1
  exact hI
set_option maxRecDepth 100000 in
set_option maxHeartbeats 1600000 in
theorem implGal_any (lo hi : Nat) (v : Value) (f : Fnt) (W t k : Int) (s : ByteArray) (w : World) (h : FontV w lo hi v f) (hhi : hi ≤ w.heap.size) (hsm : Small f) (hs : s.size ≤ 2097151) :
    Calls Tryz.prog 72 #[v, .agg #[.int .i64 W, .int .i64 t, .int .i64 k], .string s] w fun e w' => ∃ u, e = .returned (.tuple #[u, .bool (galA f ⟨W, t, k⟩ s).isSome]) ∧ OwnS w' w.heap.size u ((galA f ⟨W, t, k⟩ s).getD []) ∧ Below w.heap.size w w' := by
  obtain ⟨A, d, A2, d2, hv, hrest⟩ := id h
  obtain ⟨p, hp⟩ : ∃ p, f.ws.length = p := ⟨_, rfl⟩
  obtain ⟨q, hq⟩ : ∃ p, f.cs.length = p := ⟨_, rfl⟩
  obtain ⟨t0, ht⟩ : ∃ s, f.s = s := ⟨_, rfl⟩
  rw [hp, hq, ht] at hv
  obtain ⟨w0, hw0, hb0, hz0, K0⟩ := mxWorld w #[.string t0, .slice A p d, .slice A2 q d2] 25
  obtain ⟨w1, hw1, hb1, hz1, K1⟩ := mxWorld w0 #[.int .i64 W, .int .i64 t, .int .i64 k] 27
  have T1 := Lib.hid (hb0.trans (hb1.mono (B' := w.heap.size) (by omega)))
  have HV1 := Lib.hid (h.below hhi T1.out)
  have HK1 := Lib.hid (K0.below hb1 (by omega))
  rw [hz0] at K1 hz1
  have HM1 := Lib.hid K1; have HSm := Lib.hid hsm
  have z1 : w.heap.size + 2 ≤ w1.heap.size := by omega
  rw [hv] at HV1
  rw [hv]
  obtain ⟨c0, c1, c2⟩ := (show w1.cell? ⟨w.heap.size, 0, none⟩ = some (.string t0) ∧ w1.cell? ⟨w.heap.size, 1, none⟩ = some (.slice A p d) ∧ w1.cell? ⟨w.heap.size, 2, none⟩ = some (.slice A2 q d2) from ⟨cellOfBlk HK1.out 0, cellOfBlk HK1.out 1, cellOfBlk HK1.out 2⟩)
  obtain ⟨p0, p1, p2⟩ := (show w1.cell? ⟨w.heap.size + 1, 0, none⟩ = some (.int .i64 W) ∧ w1.cell? ⟨w.heap.size + 1, 1, none⟩ = some (.int .i64 t) ∧ w1.cell? ⟨w.heap.size + 1, 2, none⟩ = some (.int .i64 k) from ⟨cellOfBlk HM1.out 0, cellOfBlk HM1.out 1, cellOfBlk HM1.out 2⟩)
  clear h hv hrest hp hq ht hb0 hz1 K0 K1 hb1 hsm
  cases hg : grdA ⟨W, t, k⟩ (wwL f s) with
  | none =>
    have HR : Hid (galA f ⟨W, t, k⟩ s = none) := by show _ = _; unfold galA; rw [hg]; rfl
    have HG := Lib.hid hg
    clear hg
    rw [HR.out]
    go_enter Tryz.func72, Tryz.ntmps72
    go_wp2_with fail
    clear hw0 hw1 hz0
    refine (implWords_any lo hi _ f s _ HV1.out (by omega) HSm.out hs).mono ?_
    rintro e w2 ⟨u, rfl, hO, hb2⟩
    obtain ⟨Au, cu, rfl, hIu, -, hcu, hcm⟩ := hO.form
    obtain ⟨n, hn⟩ : ∃ n, (wwL f s).length = n := ⟨_, rfl⟩
    rw [hn] at hcu ⊢
    have HI2 := Lib.hid hIu; have Hn := Lib.hid hn
    have T2 := Lib.hid (T1.out.trans (hb2.mono (by omega)))
    have HM2 := Lib.hid (HM1.out.below hb2 (by omega))
    have z2 : w.heap.size + 2 ≤ w2.heap.size := by have := hb2.size; omega
    clear hb2 hIu hO T1 HM1 HK1 HV1 c0 c1 c2 p0 p1 p2 hn
    obtain ⟨p0, p1, p2⟩ := (show w2.cell? ⟨w.heap.size + 1, 0, none⟩ = some (.int .i64 W) ∧ w2.cell? ⟨w.heap.size + 1, 1, none⟩ = some (.int .i64 t) ∧ w2.cell? ⟨w.heap.size + 1, 2, none⟩ = some (.int .i64 k) from ⟨cellOfBlk HM2.out 0, cellOfBlk HM2.out 1, cellOfBlk HM2.out 2⟩)
    go_wp2_with fail
    refine (implGreedy_any W t k _ _ _ (wwL f s) _ Hn.out hcu hcm HI2.out).mono ?_
    rintro e w3 ⟨u, rfl, -, hb3⟩
    rw [HG.out]
    have T3 := Lib.hid (T2.out.trans (hb3.mono (by omega)))
    clear hb3 p0 p1 p2
    go_wp2
    go_ret2
    exact ⟨_, rfl, World.ownsRow_nil _ _ _ _, T3.out⟩
  | some ls =>
    have HR : Hid (galA f ⟨W, t, k⟩ s = some (lnF (wordsB s) 0 ls)) := by show _ = _; unfold galA; rw [hg]; rfl
    have HG := Lib.hid hg
    have HB := Lib.hid (grdA_ww hg)
    have hgl := grdA_len ⟨W, t, k⟩ (wwL f s)
    rw [hg] at hgl
    have hgl : ls.length ≤ 1048576 := hgl
    clear hg
    rw [HR.out]
    go_enter Tryz.func72, Tryz.ntmps72
    go_wp2_with fail
    clear hw0 hw1 hz0
    refine (implWords_any lo hi _ f s _ HV1.out (by omega) HSm.out hs).mono ?_
    rintro e w2 ⟨u, rfl, hO, hb2⟩
    obtain ⟨Au, cu, rfl, hIu, -, hcu, hcm⟩ := hO.form
    obtain ⟨n, hn⟩ : ∃ n, (wwL f s).length = n := ⟨_, rfl⟩
    rw [hn] at hcu ⊢
    have HI2 := Lib.hid hIu; have Hn := Lib.hid hn
    have T2 := Lib.hid (T1.out.trans (hb2.mono (by omega)))
    have HM2 := Lib.hid (HM1.out.below hb2 (by omega))
    have z2 : w.heap.size + 2 ≤ w2.heap.size := by have := hb2.size; omega
    clear hb2 hIu hO T1 HM1 HK1 HV1 c0 c1 c2 p0 p1 p2 hn
    obtain ⟨p0, p1, p2⟩ := (show w2.cell? ⟨w.heap.size + 1, 0, none⟩ = some (.int .i64 W) ∧ w2.cell? ⟨w.heap.size + 1, 1, none⟩ = some (.int .i64 t) ∧ w2.cell? ⟨w.heap.size + 1, 2, none⟩ = some (.int .i64 k) from ⟨cellOfBlk HM2.out 0, cellOfBlk HM2.out 1, cellOfBlk HM2.out 2⟩)
    go_wp2_with fail
    refine (implGreedy_any W t k _ _ _ (wwL f s) _ Hn.out hcu hcm HI2.out).mono ?_
    rintro e w3 ⟨u, rfl, hO3, hb3⟩
    rw [HG.out] at hO3
    have hO3 : Own w3 w2.heap.size u ls := hO3
    rw [HG.out]
    obtain ⟨Al, cl, rfl, hIl, -, hcl, hclm⟩ := hO3.form
    obtain ⟨r, hr⟩ : ∃ r, ls.length = r := ⟨_, rfl⟩
    rw [hr] at hcl hgl ⊢
    have HIl := Lib.hid hIl; have Hr := Lib.hid hr
    have T3 := Lib.hid (T2.out.trans (hb3.mono (by omega)))
    have z3 : w.heap.size + 2 ≤ w3.heap.size := by have := hb3.size; omega
    clear hb3 p0 p1 p2 hIl hO3 hr
    go_wp2_with fail
    refine (wordsOf_own s _ hs).mono ?_
    rintro e w4 ⟨vw, rfl, hOw, hb4⟩
    have hsz := wwB_szL HB.out.1
    have hlen := HB.out.2.2
    have hpos : 1 ≤ (wordsB s).length := (wwB_parts HB.out.1).2.2.1
    rcases hOw.2 with ⟨-, hz⟩ | ⟨g, cap, cur, hv4, hg4, hh4, hnc, hcm4, -⟩
    · omega
    obtain ⟨Aw, cw, hv5, hIw, -, hcw, hcwm⟩ := hOw.form
    obtain ⟨N, hN⟩ : ∃ N, (wordsB s).length = N := ⟨_, rfl⟩
    rw [hv4] at hv5
    injection hv5 with e1 e2 e3
    subst e1; subst e3; subst hv4
    rw [hN] at hlen hcw ⊢
    have HN := Lib.hid hN; have HIw := Lib.hid hIw; have HLn := Lib.hid hlen
    have hg5 := (Array.getElem?_eq_some_iff.1 hh4).1
    have T4 := Lib.hid (T3.out.trans (hb4.mono (by omega)))
    have z4 : w.heap.size + 2 ≤ w4.heap.size := by have := hb4.size; omega
    have HIl4 := Lib.hid (HIl.out.below hb4)
    clear hb4 hOw hIw hh4 hN e2 hlen HIl hnc hcm4 hg4
    go_wp2_with fail
    refine (inLines_any ⟨W, t, k⟩ (wwL f s) (wordsB s) g N cap _ _ _ ls _ HN.out hcw hcwm hg5 HLn.out HB.out.2.1 Hr.out hgl (by omega) HIw.out HIl4.out).mono ?_
    rintro e w5 ⟨v5, rfl, hO5, hb5⟩
    have HO5 := Lib.hid hO5
    have T5 := Lib.hid (T4.out.trans (hb5.mono (by omega)))
    clear hb5 hO5
    go_wp2
    go_ret2
    exact ⟨_, rfl, owns_base HO5.out (by omega), T5.out⟩
set_option maxRecDepth 100000 in
set_option maxHeartbeats 1600000 in
theorem implGalOk_any (lo hi B : Nat) (v : Value) (f : Fnt) (W t k : Int) (Ag : Option Addr) (n c : Nat) (g : List ByteArray) (w : World) (h : FontV w lo hi v f) (hhi : hi ≤ w.heap.size) (hsm : Small f) (hn : g.length = n) (hm : szL g ≤ 1048576) (hg : OwnS w B (.slice Ag n c) g) :
    Calls Tryz.prog 9 #[v, .agg #[.int .i64 W, .int .i64 t, .int .i64 k], .slice Ag n c] w fun e w' => e = .returned (.bool (galB f ⟨W, t, k⟩ g)) ∧ Below w.heap.size w w' := by
  obtain ⟨A, d, A2, d2, hv, hrest⟩ := id h
  obtain ⟨p, hp⟩ : ∃ p, f.ws.length = p := ⟨_, rfl⟩
  obtain ⟨q, hq⟩ : ∃ p, f.cs.length = p := ⟨_, rfl⟩
  obtain ⟨t0, ht⟩ : ∃ s, f.s = s := ⟨_, rfl⟩
  rw [hp, hq, ht] at hv
  obtain ⟨w0, hw0, hb0, hz0, K0⟩ := mxWorld w #[.string t0, .slice A p d, .slice A2 q d2] 25
  obtain ⟨w1, hw1, hb1, hz1, K1⟩ := mxWorld w0 #[.int .i64 W, .int .i64 t, .int .i64 k] 27
  have T1 := Lib.hid (hb0.trans (hb1.mono (B' := w.heap.size) (by omega)))
  have HV1 := Lib.hid (h.below hhi T1.out)
  have HK1 := Lib.hid (K0.below hb1 (by omega))
  rw [hz0] at K1 hz1
  have HM1 := Lib.hid K1; have HSm := Lib.hid hsm
  have z1 : w.heap.size + 2 ≤ w1.heap.size := by omega
  rw [hv] at HV1
  rw [hv]
  obtain ⟨c0, c1, c2⟩ := (show w1.cell? ⟨w.heap.size, 0, none⟩ = some (.string t0) ∧ w1.cell? ⟨w.heap.size, 1, none⟩ = some (.slice A p d) ∧ w1.cell? ⟨w.heap.size, 2, none⟩ = some (.slice A2 q d2) from ⟨cellOfBlk HK1.out 0, cellOfBlk HK1.out 1, cellOfBlk HK1.out 2⟩)
  obtain ⟨p0, p1, p2⟩ := (show w1.cell? ⟨w.heap.size + 1, 0, none⟩ = some (.int .i64 W) ∧ w1.cell? ⟨w.heap.size + 1, 1, none⟩ = some (.int .i64 t) ∧ w1.cell? ⟨w.heap.size + 1, 2, none⟩ = some (.int .i64 k) from ⟨cellOfBlk HM1.out 0, cellOfBlk HM1.out 1, cellOfBlk HM1.out 2⟩)
  have HO1 := Lib.hid (hg.below (T1.out))
  have Hn := Lib.hid hn; have HSz := Lib.hid hm
  have hgs : (gtS g).size ≤ 1048576 := Nat.le_trans (gtS_size g) hm
  have hn2 : n ≤ 1048576 := by rw [← hn]; unfold szL at hm; omega
  clear h hv hrest hp hq ht hb0 hz1 K0 K1 hb1 hsm hg hn hm
  cases hB : isBrk ⟨W, t, k⟩ (wwL f (gtS g)) (cnts g)
  · have HB := Lib.hid hB
    have HR : Hid (galB f ⟨W, t, k⟩ g = false) := by show _ = _; unfold galB; rw [hB]; rfl
    clear hB
    go_enter Tryz.func9, Tryz.ntmps9
    go_wp2_with fail
    clear hw0 hw1 hz0
    refine (implGT_own B _ _ _ g _ Hn.out (Nat.le_trans HSz.out (by decide)) HO1.out).mono ?_
    rintro e w2 ⟨rfl, hb2⟩
    have T2 := Lib.hid (T1.out.trans (hb2.mono (by omega)))
    have HM2 := Lib.hid (HM1.out.below hb2 (by omega))
    have z2 : w.heap.size + 2 ≤ w2.heap.size := by have := hb2.size; omega
    have HV2 := Lib.hid (HV1.out.below (by omega) hb2); have HK2 := Lib.hid (HK1.out.below hb2 (by omega)); have HO2 := Lib.hid (HO1.out.below hb2)
    clear hb2 T1 HM1 HV1 HK1 HO1 c0 c1 c2 p0 p1 p2
    go_wp2_with fail
    refine (breakingOf_any _ _ _ g _ Hn.out HSz.out (owns_rd HO2.out)).mono ?_
    rintro e w3 ⟨vb, rfl, hOb, hb3⟩
    obtain ⟨Ab, cb, rfl, -, -, -, -⟩ := hOb.form
    rw [cnts_len, Hn.out]
    have T3 := Lib.hid (T2.out.trans (hb3.mono (by omega)))
    have HM3 := Lib.hid (HM2.out.below hb3 (by omega))
    have z3 : w.heap.size + 2 ≤ w3.heap.size := by have := hb3.size; omega
    have HV3 := Lib.hid (HV2.out.below (by omega) hb3); have HK3 := Lib.hid (HK2.out.below hb3 (by omega)); have HO3 := Lib.hid (HO2.out.below hb3)
    rw [cnts_len, Hn.out] at hOb
    have HOb := Lib.hid hOb
    clear hb3 T2 HM2 HV2 HK2 HO2 hOb
    obtain ⟨c0, c1, c2⟩ := (show w3.cell? ⟨w.heap.size, 0, none⟩ = some (.string t0) ∧ w3.cell? ⟨w.heap.size, 1, none⟩ = some (.slice A p d) ∧ w3.cell? ⟨w.heap.size, 2, none⟩ = some (.slice A2 q d2) from ⟨cellOfBlk HK3.out 0, cellOfBlk HK3.out 1, cellOfBlk HK3.out 2⟩)
    go_wp2_with fail
    refine (implWords_any lo hi _ f (gtS g) _ HV3.out (by omega) HSm.out (by omega)).mono ?_
    rintro e w4 ⟨u, rfl, hO, hb4⟩
    obtain ⟨Au, cu, rfl, hIu, -, hcu, hcm⟩ := hO.form
    obtain ⟨m, hm⟩ : ∃ n, (wwL f (gtS g)).length = n := ⟨_, rfl⟩
    rw [hm] at hcu ⊢
    have HI4 := Lib.hid hIu; have Hm := Lib.hid hm
    have T4 := Lib.hid (T3.out.trans (hb4.mono (by omega)))
    have HM4 := Lib.hid (HM3.out.below hb4 (by omega))
    have z4 : w.heap.size + 2 ≤ w4.heap.size := by have := hb4.size; omega
    have HO4 := Lib.hid (HO3.out.below hb4); have HOb4 := Lib.hid (HOb.out.below hb4)
    clear hb4 hIu hO T3 HM3 HK3 HV3 HO3 HOb c0 c1 c2 hm
    obtain ⟨p0, p1, p2⟩ := (show w4.cell? ⟨w.heap.size + 1, 0, none⟩ = some (.int .i64 W) ∧ w4.cell? ⟨w.heap.size + 1, 1, none⟩ = some (.int .i64 t) ∧ w4.cell? ⟨w.heap.size + 1, 2, none⟩ = some (.int .i64 k) from ⟨cellOfBlk HM4.out 0, cellOfBlk HM4.out 1, cellOfBlk HM4.out 2⟩)
    go_wp2_with fail
    refine (implIsBreaking_any W t k _ _ _ (wwL f (gtS g)) _ _ _ (cnts g) _ Hm.out hcu hcm HI4.out (by rw [cnts_len, Hn.out]) (by unfold maxLen; omega) (own_intsQ2 HOb4.out)).mono ?_
    rintro e w5 ⟨rfl, hb5⟩
    rw [HB.out]
    have T5 := Lib.hid (T4.out.trans (hb5.mono (by omega)))
    have HM5 := Lib.hid (HM4.out.below hb5 (by omega))
    have z5 : w.heap.size + 2 ≤ w5.heap.size := by have := hb5.size; omega
    clear hb5 p0 p1 p2
    go_wp2
    go_ret
    exact ⟨ret_bool HR.out.symm, T5.out⟩
  · have HB := Lib.hid hB
    have HR : Hid (galB f ⟨W, t, k⟩ g = decide (g = g.map fun s => gtS (wordsB s))) := by
      show _ = _
      unfold galB; rw [hB, Bool.true_and]
      exact decide_eq_decide.2 ⟨fun e => e.symm, fun e => e.symm⟩
    have HW := Lib.hid (isBrk_ww hB)
    clear hB
    go_enter Tryz.func9, Tryz.ntmps9
    go_wp2_with fail
    clear hw0 hw1 hz0
    refine (implGT_own B _ _ _ g _ Hn.out (Nat.le_trans HSz.out (by decide)) HO1.out).mono ?_
    rintro e w2 ⟨rfl, hb2⟩
    have T2 := Lib.hid (T1.out.trans (hb2.mono (by omega)))
    have HM2 := Lib.hid (HM1.out.below hb2 (by omega))
    have z2 : w.heap.size + 2 ≤ w2.heap.size := by have := hb2.size; omega
    have HV2 := Lib.hid (HV1.out.below (by omega) hb2); have HK2 := Lib.hid (HK1.out.below hb2 (by omega)); have HO2 := Lib.hid (HO1.out.below hb2)
    clear hb2 T1 HM1 HV1 HK1 HO1 c0 c1 c2 p0 p1 p2
    go_wp2_with fail
    refine (breakingOf_any _ _ _ g _ Hn.out HSz.out (owns_rd HO2.out)).mono ?_
    rintro e w3 ⟨vb, rfl, hOb, hb3⟩
    obtain ⟨Ab, cb, rfl, -, -, -, -⟩ := hOb.form
    rw [cnts_len, Hn.out]
    have T3 := Lib.hid (T2.out.trans (hb3.mono (by omega)))
    have HM3 := Lib.hid (HM2.out.below hb3 (by omega))
    have z3 : w.heap.size + 2 ≤ w3.heap.size := by have := hb3.size; omega
    have HV3 := Lib.hid (HV2.out.below (by omega) hb3); have HK3 := Lib.hid (HK2.out.below hb3 (by omega)); have HO3 := Lib.hid (HO2.out.below hb3)
    rw [cnts_len, Hn.out] at hOb
    have HOb := Lib.hid hOb
    clear hb3 T2 HM2 HV2 HK2 HO2 hOb
    obtain ⟨c0, c1, c2⟩ := (show w3.cell? ⟨w.heap.size, 0, none⟩ = some (.string t0) ∧ w3.cell? ⟨w.heap.size, 1, none⟩ = some (.slice A p d) ∧ w3.cell? ⟨w.heap.size, 2, none⟩ = some (.slice A2 q d2) from ⟨cellOfBlk HK3.out 0, cellOfBlk HK3.out 1, cellOfBlk HK3.out 2⟩)
    go_wp2_with fail
    refine (implWords_any lo hi _ f (gtS g) _ HV3.out (by omega) HSm.out (by omega)).mono ?_
    rintro e w4 ⟨u, rfl, hO, hb4⟩
    obtain ⟨Au, cu, rfl, hIu, -, hcu, hcm⟩ := hO.form
    obtain ⟨m, hm⟩ : ∃ n, (wwL f (gtS g)).length = n := ⟨_, rfl⟩
    rw [hm] at hcu ⊢
    have HI4 := Lib.hid hIu; have Hm := Lib.hid hm
    have T4 := Lib.hid (T3.out.trans (hb4.mono (by omega)))
    have HM4 := Lib.hid (HM3.out.below hb4 (by omega))
    have z4 : w.heap.size + 2 ≤ w4.heap.size := by have := hb4.size; omega
    have HO4 := Lib.hid (HO3.out.below hb4); have HOb4 := Lib.hid (HOb.out.below hb4)
    clear hb4 hIu hO T3 HM3 HK3 HV3 HO3 HOb c0 c1 c2 hm
    obtain ⟨p0, p1, p2⟩ := (show w4.cell? ⟨w.heap.size + 1, 0, none⟩ = some (.int .i64 W) ∧ w4.cell? ⟨w.heap.size + 1, 1, none⟩ = some (.int .i64 t) ∧ w4.cell? ⟨w.heap.size + 1, 2, none⟩ = some (.int .i64 k) from ⟨cellOfBlk HM4.out 0, cellOfBlk HM4.out 1, cellOfBlk HM4.out 2⟩)
    go_wp2_with fail
    refine (implIsBreaking_any W t k _ _ _ (wwL f (gtS g)) _ _ _ (cnts g) _ Hm.out hcu hcm HI4.out (by rw [cnts_len, Hn.out]) (by unfold maxLen; omega) (own_intsQ2 HOb4.out)).mono ?_
    rintro e w5 ⟨rfl, hb5⟩
    rw [HB.out]
    have T5 := Lib.hid (T4.out.trans (hb5.mono (by omega)))
    have HM5 := Lib.hid (HM4.out.below hb5 (by omega))
    have z5 : w.heap.size + 2 ≤ w5.heap.size := by have := hb5.size; omega
    have HO5 := Lib.hid (HO4.out.below hb5); have HOb5 := Lib.hid (HOb4.out.below hb5)
    clear hb5 p0 p1 p2 T4 HM4 HI4 HO4 HOb4
    go_wp2_with fail
    refine (wordsOf_own (gtS g) _ (by omega)).mono ?_
    rintro e w6 ⟨vw, rfl, hOw, hb6⟩
    have hsz := wwB_szL HW.out.1
    have hlen := HW.out.2.2
    have hpos : 1 ≤ (wordsB (gtS g)).length := (wwB_parts HW.out.1).2.2.1
    rcases hOw.2 with ⟨-, hz⟩ | ⟨gb, cap, cur, hv4, hg4, hh4, hnc, hcm4, -⟩
    · omega
    obtain ⟨Aw, cw, hv5, hIw, -, hcw, hcwm⟩ := hOw.form
    obtain ⟨N, hN⟩ : ∃ N, (wordsB (gtS g)).length = N := ⟨_, rfl⟩
    rw [hv4] at hv5
    injection hv5 with e1 e2 e3
    subst e1; subst e3; subst hv4
    rw [hN] at hlen hcw ⊢
    have HN := Lib.hid hN; have HIw := Lib.hid hIw; have HLn := Lib.hid hlen
    have hg5 := (Array.getElem?_eq_some_iff.1 hh4).1
    have T6 := Lib.hid (T5.out.trans (hb6.mono (by omega)))
    have HM6 := Lib.hid (HM5.out.below hb6 (by omega))
    have z6 : w.heap.size + 2 ≤ w6.heap.size := by have := hb6.size; omega
    have HO6 := Lib.hid (HO5.out.below hb6); have HOb6 := Lib.hid (HOb5.out.below hb6)
    clear hb6 hOw hIw hh4 hN e2 hlen hnc hcm4 hg4 T5 HM5 HO5 HOb5
    go_wp2_with fail
    refine (inLines_any ⟨W, t, k⟩ (wwL f (gtS g)) (wordsB (gtS g)) gb N cap _ _ _ (cnts g) _ HN.out hcw hcwm hg5 HLn.out HW.out.2.1 (by rw [cnts_len, Hn.out]) hn2 (by omega) HIw.out (own_intsQ2 HOb6.out)).mono ?_
    rintro e w7 ⟨v5, rfl, hO7, hb7⟩
    rw [lines_own] at hO7
    obtain ⟨A7, c7, rfl, -, -, -, -⟩ := hO7.form
    have hl7 : (g.map fun s => gtS (wordsB s)).length = n := by rw [List.length_map]; exact Hn.out
    rw [hl7] at hO7 ⊢
    have T7 := Lib.hid (T6.out.trans (hb7.mono (by omega)))
    have HM7 := Lib.hid (HM6.out.below hb7 (by omega))
    have z7 : w.heap.size + 2 ≤ w7.heap.size := by have := hb7.size; omega
    have HO7 := Lib.hid (HO6.out.below hb7); have HL7 := Lib.hid hO7; have Hl7 := Lib.hid hl7
    clear hb7 hO7 hl7 T6 HM6 HO6 HOb6
    go_wp2_with fail
    refine (sEq_any _ _ _ _ _ _ _ _ g (g.map fun s => gtS (wordsB s)) _ HO7.out HL7.out Hn.out Hl7.out (by unfold maxLen; omega) (by unfold maxLen; omega)).mono ?_
    rintro e w8 ⟨rfl, hb8⟩
    have T8 := Lib.hid (T7.out.trans (hb8.mono (by omega)))
    have HM8 := Lib.hid (HM7.out.below hb8 (by omega))
    have z8 : w.heap.size + 2 ≤ w8.heap.size := by have := hb8.size; omega
    clear hb8
    go_wp2
    go_ret
    exact ⟨ret_bool HR.out.symm, T8.out⟩
end Go.Proofs.YtobakeahbgodbaaGreat

namespace Go.Proofs.YtobakeahbgodbaaGreat
open Go.RowKit
set_option linter.unusedVariables false

set_option maxRecDepth 100000 in
set_option maxHeartbeats 1600000 in
theorem specGal_any (lo hi : Nat) (v : Value) (f : Fnt) (W t k : Int) (s : ByteArray) (w : World) (h : FontV w lo hi v f) (hhi : hi ≤ w.heap.size) (hsm : Small f) (hs : s.size ≤ 2097151) :
    Calls Tryz.prog 41 #[v, .agg #[.int .i64 W, .int .i64 t, .int .i64 k], .string s] w fun e w' => ∃ u, e = .returned (.tuple #[u, .bool (galA f ⟨W, t, k⟩ s).isSome]) ∧ OwnS w' w.heap.size u ((galA f ⟨W, t, k⟩ s).getD []) ∧ Below w.heap.size w w' := by
  obtain ⟨A, d, A2, d2, hv, hrest⟩ := id h
  obtain ⟨p, hp⟩ : ∃ p, f.ws.length = p := ⟨_, rfl⟩
  obtain ⟨q, hq⟩ : ∃ p, f.cs.length = p := ⟨_, rfl⟩
  obtain ⟨t0, ht⟩ : ∃ s, f.s = s := ⟨_, rfl⟩
  rw [hp, hq, ht] at hv
  obtain ⟨w0, hw0, hb0, hz0, K0⟩ := mxWorld w #[.string t0, .slice A p d, .slice A2 q d2] 25
  obtain ⟨w1, hw1, hb1, hz1, K1⟩ := mxWorld w0 #[.int .i64 W, .int .i64 t, .int .i64 k] 27
  have T1 := Lib.hid (hb0.trans (hb1.mono (B' := w.heap.size) (by omega)))
  have HV1 := Lib.hid (h.below hhi T1.out)
  have HK1 := Lib.hid (K0.below hb1 (by omega))
  rw [hz0] at K1 hz1
  have HM1 := Lib.hid K1; have HSm := Lib.hid hsm
  have z1 : w.heap.size + 2 ≤ w1.heap.size := by omega
  rw [hv] at HV1
  rw [hv]
  obtain ⟨c0, c1, c2⟩ := (show w1.cell? ⟨w.heap.size, 0, none⟩ = some (.string t0) ∧ w1.cell? ⟨w.heap.size, 1, none⟩ = some (.slice A p d) ∧ w1.cell? ⟨w.heap.size, 2, none⟩ = some (.slice A2 q d2) from ⟨cellOfBlk HK1.out 0, cellOfBlk HK1.out 1, cellOfBlk HK1.out 2⟩)
  obtain ⟨p0, p1, p2⟩ := (show w1.cell? ⟨w.heap.size + 1, 0, none⟩ = some (.int .i64 W) ∧ w1.cell? ⟨w.heap.size + 1, 1, none⟩ = some (.int .i64 t) ∧ w1.cell? ⟨w.heap.size + 1, 2, none⟩ = some (.int .i64 k) from ⟨cellOfBlk HM1.out 0, cellOfBlk HM1.out 1, cellOfBlk HM1.out 2⟩)
  clear h hv hrest hp hq ht hb0 hz1 K0 K1 hb1 hsm
  cases hww : wwB f s
  · have HR : Hid (galA f ⟨W, t, k⟩ s = none) := by
      show _ = _
      cases hg : galA f ⟨W, t, k⟩ s with
      | none => rfl
      | some g => have := (galA_parts hg).1; rw [hww] at this; cases this
    have HG := Lib.hid hww
    clear hww
    rw [HR.out]
    go_enter Tryz.func41, Tryz.ntmps41
    go_wp2_with fail
    clear hw0 hw1 hz0
    refine (specWords_any lo hi _ f s _ HV1.out (by omega) HSm.out hs).mono ?_
    rintro e w2 ⟨u, rfl, hO, hb2⟩
    obtain ⟨Au, cu, rfl, hIu, -, hcu, hcm⟩ := hO.form
    obtain ⟨n, hn⟩ : ∃ n, (wwL f s).length = n := ⟨_, rfl⟩
    rw [hn] at hcu ⊢
    have HI2 := Lib.hid hIu; have Hn := Lib.hid hn
    have T2 := Lib.hid (T1.out.trans (hb2.mono (by omega)))
    have HM2 := Lib.hid (HM1.out.below hb2 (by omega))
    have z2 : w.heap.size + 2 ≤ w2.heap.size := by have := hb2.size; omega
    clear hb2 hIu hO T1 HM1 HK1 HV1 c0 c1 c2 p0 p1 p2 hn
    rw [HG.out]
    go_wp2
    go_ret2
    exact ⟨_, rfl, World.ownsRow_nil _ _ _ _, T2.out⟩
  have HWW := Lib.hid hww
  clear hww
  cases hg : grdA ⟨W, t, k⟩ (wwL f s) with
  | none =>
    have HR : Hid (galA f ⟨W, t, k⟩ s = none) := by show _ = _; unfold galA; rw [hg]; rfl
    have HG := Lib.hid hg
    clear hg
    rw [HR.out]
    go_enter Tryz.func41, Tryz.ntmps41
    go_wp2_with fail
    clear hw0 hw1 hz0
    refine (specWords_any lo hi _ f s _ HV1.out (by omega) HSm.out hs).mono ?_
    rintro e w2 ⟨u, rfl, hO, hb2⟩
    obtain ⟨Au, cu, rfl, hIu, -, hcu, hcm⟩ := hO.form
    obtain ⟨n, hn⟩ : ∃ n, (wwL f s).length = n := ⟨_, rfl⟩
    rw [hn] at hcu ⊢
    have HI2 := Lib.hid hIu; have Hn := Lib.hid hn
    have T2 := Lib.hid (T1.out.trans (hb2.mono (by omega)))
    have HM2 := Lib.hid (HM1.out.below hb2 (by omega))
    have z2 : w.heap.size + 2 ≤ w2.heap.size := by have := hb2.size; omega
    clear hb2 hIu hO T1 HM1 HK1 HV1 c0 c1 c2 p0 p1 p2 hn
    rw [HWW.out]
    obtain ⟨p0, p1, p2⟩ := (show w2.cell? ⟨w.heap.size + 1, 0, none⟩ = some (.int .i64 W) ∧ w2.cell? ⟨w.heap.size + 1, 1, none⟩ = some (.int .i64 t) ∧ w2.cell? ⟨w.heap.size + 1, 2, none⟩ = some (.int .i64 k) from ⟨cellOfBlk HM2.out 0, cellOfBlk HM2.out 1, cellOfBlk HM2.out 2⟩)
    go_wp2_with fail
    refine (specGreedy_any W t k _ _ _ (wwL f s) _ Hn.out hcu hcm HI2.out).mono ?_
    rintro e w3 ⟨u, rfl, -, hb3⟩
    rw [HG.out]
    have T3 := Lib.hid (T2.out.trans (hb3.mono (by omega)))
    clear hb3 p0 p1 p2
    go_wp2
    go_ret2
    exact ⟨_, rfl, World.ownsRow_nil _ _ _ _, T3.out⟩
  | some ls =>
    have HR : Hid (galA f ⟨W, t, k⟩ s = some (lnF (wordsB s) 0 ls)) := by show _ = _; unfold galA; rw [hg]; rfl
    have HG := Lib.hid hg
    have HB := Lib.hid (grdA_ww hg)
    have hgl := grdA_len ⟨W, t, k⟩ (wwL f s)
    rw [hg] at hgl
    have hgl : ls.length ≤ 1048576 := hgl
    clear hg
    rw [HR.out]
    go_enter Tryz.func41, Tryz.ntmps41
    go_wp2_with fail
    clear hw0 hw1 hz0
    refine (specWords_any lo hi _ f s _ HV1.out (by omega) HSm.out hs).mono ?_
    rintro e w2 ⟨u, rfl, hO, hb2⟩
    obtain ⟨Au, cu, rfl, hIu, -, hcu, hcm⟩ := hO.form
    obtain ⟨n, hn⟩ : ∃ n, (wwL f s).length = n := ⟨_, rfl⟩
    rw [hn] at hcu ⊢
    have HI2 := Lib.hid hIu; have Hn := Lib.hid hn
    have T2 := Lib.hid (T1.out.trans (hb2.mono (by omega)))
    have HM2 := Lib.hid (HM1.out.below hb2 (by omega))
    have z2 : w.heap.size + 2 ≤ w2.heap.size := by have := hb2.size; omega
    clear hb2 hIu hO T1 HM1 HK1 HV1 c0 c1 c2 p0 p1 p2 hn
    rw [HWW.out]
    obtain ⟨p0, p1, p2⟩ := (show w2.cell? ⟨w.heap.size + 1, 0, none⟩ = some (.int .i64 W) ∧ w2.cell? ⟨w.heap.size + 1, 1, none⟩ = some (.int .i64 t) ∧ w2.cell? ⟨w.heap.size + 1, 2, none⟩ = some (.int .i64 k) from ⟨cellOfBlk HM2.out 0, cellOfBlk HM2.out 1, cellOfBlk HM2.out 2⟩)
    go_wp2_with fail
    refine (specGreedy_any W t k _ _ _ (wwL f s) _ Hn.out hcu hcm HI2.out).mono ?_
    rintro e w3 ⟨u, rfl, hO3, hb3⟩
    rw [HG.out] at hO3
    have hO3 : Own w3 w2.heap.size u ls := hO3
    rw [HG.out]
    obtain ⟨Al, cl, rfl, hIl, -, hcl, hclm⟩ := hO3.form
    obtain ⟨r, hr⟩ : ∃ r, ls.length = r := ⟨_, rfl⟩
    rw [hr] at hcl hgl ⊢
    have HIl := Lib.hid hIl; have Hr := Lib.hid hr
    have T3 := Lib.hid (T2.out.trans (hb3.mono (by omega)))
    have z3 : w.heap.size + 2 ≤ w3.heap.size := by have := hb3.size; omega
    clear hb3 p0 p1 p2 hIl hO3 hr
    go_wp2_with fail
    refine (l6Words_any s _ hs).mono ?_
    rintro e w4 ⟨vw, rfl, hOw, hb4⟩
    have hsz := wwB_szL HB.out.1
    have hlen := HB.out.2.2
    obtain ⟨Aw, cw, rfl, hIw, -, hcw, hcwm⟩ := hOw.form
    unfold maxLen at hcwm
    obtain ⟨N, hN⟩ : ∃ N, (wordsB s).length = N := ⟨_, rfl⟩
    have hN40 := (wwB_parts HB.out.1).2.2.2
    rw [hN] at hlen hcw hN40 ⊢
    have HN := Lib.hid hN; have HIw := Lib.hid hIw; have HLn := Lib.hid hlen; have HSZ := Lib.hid hsz
    have T4 := Lib.hid (T3.out.trans (hb4.mono (by omega)))
    have z4 : w.heap.size + 2 ≤ w4.heap.size := by have := hb4.size; omega
    have HIl4 := Lib.hid (HIl.out.below hb4)
    obtain ⟨R, hR⟩ : ∃ R, lnF (wordsB s) 0 ls = R := ⟨_, rfl⟩
    have HRR : Hid (R.length = r) := by show _ = _; rw [← hR, lnF_len, Hr.out]
    have HB0 : Hid (brkF ⟨W, t, k⟩ (wwL f s) 0 (ls.drop 0) = true) := by show _ = _; rw [List.drop_zero]; exact HB.out.2.1
    have HL0 : Hid (lnF (wordsB s) 0 (ls.drop 0) = R.drop 0) := by show _ = _; rw [List.drop_zero, List.drop_zero]; exact hR
    have HIw0 : Hid (∀ w', Strs w' Aw (wordsB s) → Strs w' Aw ((wordsB s).drop 0)) := fun w' h => by rw [List.drop_zero]; exact h
    have HRe := Lib.hid hR
    clear hb4 hOw hIw hN hlen HIl hR hsz
    go_wp2
    have HE : Hid (OwnS (w4.alloc (.cells #[] 9)) w4.heap.size (.slice (some ⟨w4.heap.size, 0, none⟩) 0 0) []) := World.ownsRow_lit w4 #[] 0 (Nat.le_refl _) (Nat.zero_le _) rfl
    have HBA := Lib.hid ((Below.refl w4.heap.size w4).alloc (Nat.le_refl _) (.cells #[] 9))
    go_loopw [12, 13, 37] (fun x u i wr => ∃ j p N1 c1 : Nat, ∃ Aq : Option Addr, j ≤ r ∧ p + N1 = N ∧ p + c1 = cw ∧ x = .slice Aq N1 c1 ∧ i = .int .i64 j ∧ Hid (∀ w', Strs w' Aw (wordsB s) → Strs w' Aq ((wordsB s).drop p)) ∧ OwnS wr w4.heap.size u (R.take j) ∧ Hid (brkF ⟨W, t, k⟩ (wwL f s) p (ls.drop j) = true) ∧ Hid (lnF (wordsB s) p (ls.drop j) = R.drop j) ∧ Below w4.heap.size w4 wr) (fun _ _ i _ => r - (intOf i).toNat)
    case atStart => exact ⟨0, 0, N, cw, Aw, Nat.zero_le _, by omega, by omega, rfl, rfl, HIw0.out, HE.out, HB0.out, HL0.out, HBA.out⟩
    case round =>
      clear HE HBA HB0 HL0 HIw0
      obtain ⟨j, p, N1, c1, Aq, hj, hpN, hpc, rfl, rfl, hS, hO, hbr, hln, hb⟩ := hrel
      have zr := hb.size
      have HBr := Lib.hid hb
      by_cases hlt : j < r
      · obtain ⟨ad, x, rfl, hx, hcx⟩ := (HIl4.out.below hb).at_ (k := j) (by rw [Hr.out]; exact hlt)
        obtain ⟨q, rfl, hq1, hq2, -, hbr2⟩ := brkF_yes hx.out hbr.out
        obtain ⟨hy, hln2⟩ := ln_step hln.out hx.out
        rw [HLn.out] at hq2
        obtain ⟨N2, hN2⟩ : ∃ N2, q + N2 = N1 := ⟨N1 - q, by omega⟩
        obtain ⟨c2, hc2⟩ : ∃ c2, q + c2 = c1 := ⟨c1 - q, by omega⟩
        obtain ⟨AN, hAN⟩ : ∃ AN, (if c1 = q then Aq else Option.map (fun x => x.add q) Aq) = AN := ⟨_, rfl⟩
        have HSD : Hid (∀ w', Strs w' Aw (wordsB s) → Strs w' AN ((wordsB s).drop (p + q))) := fun w' h => by
          have SD := strs_from (c := c1) (l := q) (hS.out w' h) (by rw [List.length_drop, HN.out]; omega)
          rw [hAN, List.drop_drop] at SD
          exact SD
        have HST : Hid (Strs wr Aq (sseg (wordsB s) p (p + q))) := by show Strs _ _ _; rw [sseg_drop]; exact strs_take (hS.out wr (HIw.out.below hb))
        have HTk : Hid (R.take (j + 1) = R.take j ++ [gtS (sseg (wordsB s) p (p + q))]) := stake_at hy
        have HLq : Hid ((sseg (wordsB s) p (p + q)).length = q) := by show _ = _; rw [sseg_len (by rw [HN.out]; exact hq2)]; omega
        have HSZ2 : Hid (szL (sseg (wordsB s) p (p + q)) ≤ 1048576) := Nat.le_trans (sseg_sz _ _ _) (Nat.le_trans HSZ.out (by decide))
        have Hy := Lib.hid hy; have Hbr2 := Lib.hid hbr2; have Hln2 := Lib.hid hln2; have HO := Lib.hid hO
        have Hmj : Hid ((R.take j).length ≤ 1048576) := by show _ ≤ _; rw [List.length_take, HRR.out]; omega
        have a1 : (N1 : Int) - (q : Int) = (N2 : Int) := by omega
        have a2 : c1 - q = c2 := by omega
        have a3 : N1 - q = N2 := by omega
        have a4 : q ≤ N1 := by omega
        have a5 : q ≤ c1 := by omega
        clear hb hx hy hbr2 hln2 hbr hln hO hS
        go_wp2_with fail
        refine (l6Join_any Aq q c1 (sseg (wordsB s) p (p + q)) _ HLq.out (Nat.le_trans HSZ2.out (by decide)) HST.out).mono ?_
        rintro e w' ⟨rfl, rfl⟩
        go_wp2_with (at_builtin; refine wpls_push2 _ rfl (.tmp 41) (.tmp 46) rfl w4.heap.size u13 _ (gtS (sseg (wordsB s) p (p + q))) rfl rfl HO.out zr Hmj.out ?_; intro v6 w6 hO6 hg6 hv6; have HO6 := Lib.hid hO6; have HG6 := Lib.hid hg6; clear hO6 hg6 hv6)
        clear hAN
        have HB6 := Lib.hid (HBr.out.grown HG6.out zr (fun k hk => (World.ownsRow.lt HO.out k hk).1))
        go_roundw
        case rel => exact ⟨j + 1, p + q, N2, c2, AN, by omega, by omega, by omega, rfl, by go_num, HSD.out, by rw [HTk.out]; exact HO6.out, Hbr2.out, Hln2.out, HB6.out⟩
        case measure => simp [intOf]; omega
      · have hjr : j = r := by omega
        subst hjr
        have hO2 : OwnS wr w4.heap.size u13 (lnF (wordsB s) 0 ls) := by rw [HRe.out, ← stake_all HRR.out]; exact hO
        have HO2 := Lib.hid hO2
        clear hO hO2 hb hbr hln hS
        go_wp2
        go_ret2
        exact ⟨_, rfl, owns_base HO2.out (by omega), T4.out.trans (HBr.out.mono (by omega))⟩
end Go.Proofs.YtobakeahbgodbaaGreat

namespace Go.Proofs.YtobakeahbgodbaaGreat
open Go.RowKit
set_option linter.unusedVariables false

theorem galB_line {f : Fnt} {m : Msr} {g : List ByteArray} {x : ByteArray} {j : Nat} (hx : g[j]? = some x) (h : gtS (wordsB x) ≠ x) : galB f m g = false := by
  unfold galB
  rw [decide_eq_false, Bool.and_false]
  intro e
  have h1 : (g.map fun s => gtS (wordsB s))[j]? = some (gtS (wordsB x)) := by rw [List.getElem?_map, hx]; rfl
  rw [e, hx] at h1
  injection h1 with h1
  exact h h1.symm
theorem galB_lines {f : Fnt} {m : Msr} {g : List ByteArray} (h : (g.map fun s => gtS (wordsB s)) = g) : galB f m g = isBrk m (wwL f (gtS g)) (cnts g) := by
  unfold galB
  rw [decide_eq_true h, Bool.and_true]
theorem isBrk_no {f : Fnt} {m : Msr} {s : ByteArray} {ls : List Int} (h : wwB f s = false) : isBrk m (wwL f s) ls = false := by
  cases hb : isBrk m (wwL f s) ls
  · rfl
  · have := (isBrk_ww hb).1; rw [h] at this; cases this
theorem itake_at {zs : List Int} {k : Nat} {x : Int} (h : zs[k]? = some x) : zs.take (k + 1) = zs.take k ++ [x] := by
  rw [List.take_add_one, h]; rfl
set_option maxRecDepth 100000 in
set_option maxHeartbeats 1600000 in
theorem specGalOk_any (lo hi : Nat) (v : Value) (f : Fnt) (W t k : Int) (Ag : Option Addr) (n c : Nat) (g : List ByteArray) (w : World) (h : FontV w lo hi v f) (hhi : hi ≤ w.heap.size) (hsm : Small f) (hn : g.length = n) (hm : szL g ≤ 1048576) (hg : Strs w Ag g) :
    Calls Tryz.prog 40 #[v, .agg #[.int .i64 W, .int .i64 t, .int .i64 k], .slice Ag n c] w fun e w' => e = .returned (.bool (galB f ⟨W, t, k⟩ g)) ∧ Below w.heap.size w w' := by
  obtain ⟨A, d, A2, d2, hv, hrest⟩ := id h
  obtain ⟨p, hp⟩ : ∃ p, f.ws.length = p := ⟨_, rfl⟩
  obtain ⟨q, hq⟩ : ∃ p, f.cs.length = p := ⟨_, rfl⟩
  obtain ⟨t0, ht⟩ : ∃ s, f.s = s := ⟨_, rfl⟩
  rw [hp, hq, ht] at hv
  obtain ⟨w0, hw0, hb0, hz0, K0⟩ := mxWorld w #[.string t0, .slice A p d, .slice A2 q d2] 25
  obtain ⟨w1, hw1, hb1, hz1, K1⟩ := mxWorld w0 #[.int .i64 W, .int .i64 t, .int .i64 k] 27
  have T1 := Lib.hid (hb0.trans (hb1.mono (B' := w.heap.size) (by omega)))
  have HV1 := Lib.hid (h.below hhi T1.out)
  have HK1 := Lib.hid (K0.below hb1 (by omega))
  rw [hz0] at K1 hz1
  have HM1 := Lib.hid K1; have HSm := Lib.hid hsm
  have z1 : w.heap.size + 2 ≤ w1.heap.size := by omega
  rw [hv] at HV1
  rw [hv]
  obtain ⟨c0, c1, c2⟩ := (show w1.cell? ⟨w.heap.size, 0, none⟩ = some (.string t0) ∧ w1.cell? ⟨w.heap.size, 1, none⟩ = some (.slice A p d) ∧ w1.cell? ⟨w.heap.size, 2, none⟩ = some (.slice A2 q d2) from ⟨cellOfBlk HK1.out 0, cellOfBlk HK1.out 1, cellOfBlk HK1.out 2⟩)
  obtain ⟨p0, p1, p2⟩ := (show w1.cell? ⟨w.heap.size + 1, 0, none⟩ = some (.int .i64 W) ∧ w1.cell? ⟨w.heap.size + 1, 1, none⟩ = some (.int .i64 t) ∧ w1.cell? ⟨w.heap.size + 1, 2, none⟩ = some (.int .i64 k) from ⟨cellOfBlk HM1.out 0, cellOfBlk HM1.out 1, cellOfBlk HM1.out 2⟩)
  have HS1 := Lib.hid (hg.below (T1.out))
  have Hn := Lib.hid hn; have HSz := Lib.hid hm
  have hgs : (gtS g).size ≤ 1048576 := Nat.le_trans (gtS_size g) hm
  have hn2 : n ≤ 1048576 := by rw [← hn]; unfold szL at hm; omega
  clear h hv hrest hp hq ht hb0 hz1 K0 K1 hb1 hsm hg hn hm
  obtain ⟨C, hC⟩ : ∃ C, cnts g = C := ⟨_, rfl⟩
  have HC := Lib.hid hC
  have HCl : Hid (C.length = n) := by show _ = _; rw [← hC, cnts_len, Hn.out]
  clear hC
  go_enter Tryz.func40, Tryz.ntmps40
  go_wp2_with fail
  clear hw0 hw1 hz0 c0 c1 c2 p0 p1 p2
  have HE : Hid (Own (w1.alloc (.cells #[] 3)) w1.heap.size (.slice (some ⟨w1.heap.size, 0, none⟩) 0 0) []) := World.ownsRow_lit w1 #[] 0 (Nat.le_refl _) (Nat.zero_le _) rfl
  have HBA := Lib.hid ((Below.refl w1.heap.size w1).alloc (Nat.le_refl _) (.cells #[] 3))
  go_loopw [7, 16] (fun u i wr => ∃ j : Nat, j ≤ n ∧ i = .int .i64 j ∧ Own wr w1.heap.size u (C.take j) ∧ Hid ((g.take j).map (fun s => gtS (wordsB s)) = g.take j) ∧ Below w1.heap.size w1 wr) (fun _ i _ => n - (intOf i).toNat)
  case atStart => exact ⟨0, Nat.zero_le _, rfl, HE.out, rfl, HBA.out⟩
  case round =>
    clear HE HBA
    obtain ⟨j, hj, rfl, hO, hln, hb⟩ := hrel
    have zr := hb.size
    have HBr := Lib.hid hb; have HO := Lib.hid hO
    clear hb hO
    by_cases hlt : j < n
    · obtain ⟨ad, x, rfl, hx, hcx⟩ := (HS1.out.below HBr.out).at_ (k := j) (by rw [Hn.out]; exact hlt)
      have hxl := szL_mem (smem_at hx.out)
      have hxs : x.size ≤ 1048575 := by have := HSz.out; omega
      have HSW : Hid (szL (wordsB x) ≤ 1048576) := Nat.le_trans (szL_words x) (by omega)
      have HCx : Hid (C.take (j + 1) = C.take j ++ [((wordsB x).length : Int)]) := by show _ = _; rw [← HC.out]; exact itake_at (cnts_at hx.out)
      go_wp2_with fail
      refine (l6Words_any x _ (by omega)).mono ?_
      rintro e w2 ⟨vw, rfl, hOw, hb2⟩
      obtain ⟨Aw, cw, rfl, hIw, -, hcw, hcwm⟩ := hOw.form
      have hwl := wordsB_len x
      have HT : Hid ((g.take (j + 1)).map (fun s => gtS (wordsB s)) = g.take j ++ [gtS (wordsB x)]) := by show _ = _; rw [stake_at hx.out, List.map_append, hln.out]; rfl
      obtain ⟨N, hN⟩ : ∃ N, (wordsB x).length = N := ⟨_, rfl⟩
      rw [hN] at hcw hwl HCx ⊢
      have HN := Lib.hid hN; have HIw := Lib.hid hIw
      have HB2 := Lib.hid (HBr.out.trans (hb2.mono zr)); have HO2 := Lib.hid (HO.out.below hb2)
      have z2 : w1.heap.size ≤ w2.heap.size := HB2.out.size
      clear hb2 hOw hIw hN HBr HO
      go_wp2_with fail
      refine (l6Join_any Aw N cw (wordsB x) _ HN.out (Nat.le_trans HSW.out (by decide)) HIw.out).mono ?_
      rintro e w' ⟨rfl, rfl⟩
      by_cases he : gtS (wordsB x) = x
      · have HTk : Hid ((g.take (j + 1)).map (fun s => gtS (wordsB s)) = g.take (j + 1)) := by show _ = _; rw [HT.out, he, ← stake_at hx.out]
        have hb1 := str_eq x
        have Hmj : Hid ((C.take j).length ≤ 1048576) := by show _ ≤ _; rw [List.length_take, HCl.out]; omega
        rw [he]
        clear he HT hx
        go_wp2_with (at_builtin; refine wpl_push2 _ rfl (.tmp 26) (.tmp 29) rfl w1.heap.size u7 _ (N : Int) rfl rfl HO2.out z2 Hmj.out ?_; intro v6 w6 hO6 hg6 hv6; have HO6 := Lib.hid hO6; have HG6 := Lib.hid hg6; clear hO6 hg6 hv6)
        have HB6 := Lib.hid (HB2.out.grown HG6.out z2 (fun k hk => (World.ownsRow.lt HO2.out k hk).1))
        go_roundw
        case rel => exact ⟨j + 1, by omega, by go_num, by rw [HCx.out]; exact HO6.out, HTk.out, HB6.out⟩
        case measure => simp [intOf]; omega
      · have HR : Hid (galB f ⟨W, t, k⟩ g = false) := galB_line hx.out he
        have hb1 := str_ne he
        have hb2 := (Lib.bytes_beq_false_iff (gtS (wordsB x)) x).2 he
        clear he HT
        go_wp2
        go_ret
        exact ⟨ret_bool HR.out.symm, T1.out.trans (HB2.out.mono (by omega))⟩
    · have hjn : j = n := by omega
      subst hjn
      have HGa : Hid (galB f ⟨W, t, k⟩ g = isBrk ⟨W, t, k⟩ (wwL f (gtS g)) C) := by
        show _ = _
        rw [← HC.out]
        have e := hln.out
        rw [stake_all Hn.out] at e
        exact galB_lines e
      have hOC : Own wr w1.heap.size u7 C := by
        have h := HO.out
        rw [List.take_of_length_le (Nat.le_of_eq HCl.out)] at h
        exact h
      obtain ⟨Al, cl, rfl, hIl, -, hcl, hclm⟩ := hOC.form
      rw [HCl.out] at hcl ⊢
      have HIl := Lib.hid hIl; have HSr := Lib.hid (HS1.out.below HBr.out)
      have HVr := Lib.hid (HV1.out.below (by omega) HBr.out); have HKr := Lib.hid (HK1.out.below HBr.out (by omega)); have HMr := Lib.hid (HM1.out.below HBr.out (by omega))
      have Tr := Lib.hid (T1.out.trans (HBr.out.mono (by omega)))
      clear hOC hIl HO hln HBr HK1 HM1 HV1
      obtain ⟨c0, c1, c2⟩ := (show wr.cell? ⟨w.heap.size, 0, none⟩ = some (.string t0) ∧ wr.cell? ⟨w.heap.size, 1, none⟩ = some (.slice A p d) ∧ wr.cell? ⟨w.heap.size, 2, none⟩ = some (.slice A2 q d2) from ⟨cellOfBlk HKr.out 0, cellOfBlk HKr.out 1, cellOfBlk HKr.out 2⟩)
      have HSd : Hid (Strs wr.drew Ag g) := HSr.out.drew
      have hbd : Below wr.heap.size wr wr.drew := (Below.refl _ _).drew
      have HVd := Lib.hid (HVr.out.below (B := wr.heap.size) (by omega) hbd)
      have zd : w1.heap.size ≤ wr.drew.heap.size := zr
      have HBd := Lib.hid hbd
      clear hbd
      go_wp2_with fail
      refine wp_region_plan (.take 0 (.take 1 (.one 2 (.one 3 (.take 4 (.take 5 (.take 6 (.take 7 (.take 8 .done))))))))) (fun w' => w'.cell? ⟨w.heap.size, 0, none⟩ = some (.string t0) ∧ w'.cell? ⟨w.heap.size, 1, none⟩ = some (.slice A p d) ∧ w'.cell? ⟨w.heap.size, 2, none⟩ = some (.slice A2 q d2)) (by kernel_rfl) (by kernel_rfl) (by kernel_rfl) (by intro c a d v w h; cases d <;> exact h) ⟨c0, c1, c2⟩ ?_
      clear c0 c1 c2
      refine plan_quiet rfl (by rfl) (v := ?_) ?_ ?_; rotate_left; (intro w1 hSw; obtain ⟨h0, h1, h2⟩ := hSw; go_simp; try (with_reducible rfl)); (try simp only [Act.put, List.setIfInBounds_toArray, List.set_cons_zero, List.set_cons_succ])
      refine plan_quiet rfl (by rfl) (v := ?_) ?_ ?_; rotate_left; (intro w1 hSw; obtain ⟨h0, h1, h2⟩ := hSw; go_simp; try (with_reducible rfl)); (try simp only [Act.put, List.setIfInBounds_toArray, List.set_cons_zero, List.set_cons_succ])
      refine plan_step rfl (fun K hK => ?_)
      rw [if_pos (by rfl)]
      go_simp
      refine (l6Join_any Ag j c g _ Hn.out (Nat.le_trans HSz.out (by decide)) HSd.out).mono ?_
      rintro e w' ⟨rfl, rfl⟩
      refine hK.out _ _ ⟨cellOfBlk HKr.out 0, cellOfBlk HKr.out 1, cellOfBlk HKr.out 2⟩ ?_
      clear hK K
      refine plan_step rfl (fun K hK => ?_)
      rw [if_pos (by rfl)]
      go_simp
      refine (specWords_any lo hi _ f (gtS g) _ HVd.out (by show hi ≤ wr.heap.size; omega) HSm.out (by omega)).mono ?_
      rintro e w4 ⟨u, rfl, hO, hb4⟩
      obtain ⟨Au, cu, rfl, hIu, -, hcu, hcm⟩ := hO.form
      obtain ⟨m, hm⟩ : ∃ n, (wwL f (gtS g)).length = n := ⟨_, rfl⟩
      rw [hm] at hcu ⊢
      have HI4 := Lib.hid hIu; have Hm := Lib.hid hm; have HB4 := Lib.hid (HBd.out.trans hb4)
      have HK4 := Lib.hid (HKr.out.below HB4.out (by omega)); have HM4 := Lib.hid (HMr.out.below HB4.out (by omega))
      have T4 := Lib.hid (Tr.out.trans (HB4.out.mono (by omega))); have HL4 := Lib.hid (HIl.out.below HB4.out)
      have z4 : w.heap.size + 2 ≤ w4.heap.size := by have := HB4.out.size; omega
      clear hb4 hIu hO hm HBd HVd HSd HKr HMr Tr HIl HSr HVr HB4 zd zr
      refine hK.out _ _ ⟨cellOfBlk HK4.out 0, cellOfBlk HK4.out 1, cellOfBlk HK4.out 2⟩ ?_
      clear hK K
      refine plan_quiet rfl (by rfl) (v := ?_) ?_ ?_; rotate_left; (intro w1 hSw; obtain ⟨h0, h1, h2⟩ := hSw; go_simp; try (with_reducible rfl)); (try simp only [Act.put, List.setIfInBounds_toArray, List.set_cons_zero, List.set_cons_succ])
      refine plan_quiet rfl (by rfl) (v := ?_) ?_ ?_; rotate_left; (intro w1 hSw; obtain ⟨h0, h1, h2⟩ := hSw; go_simp; try (with_reducible rfl)); (try simp only [Act.put, List.setIfInBounds_toArray, List.set_cons_zero, List.set_cons_succ])
      refine plan_quiet rfl (by rfl) (v := ?_) ?_ ?_; rotate_left; (intro w1 hSw; obtain ⟨h0, h1, h2⟩ := hSw; go_simp; try (with_reducible rfl)); (try simp only [Act.put, List.setIfInBounds_toArray, List.set_cons_zero, List.set_cons_succ])
      refine plan_quiet rfl (by rfl) (v := ?_) ?_ ?_; rotate_left; (intro w1 hSw; obtain ⟨h0, h1, h2⟩ := hSw; go_simp; try (with_reducible rfl)); (try simp only [Act.put, List.setIfInBounds_toArray, List.set_cons_zero, List.set_cons_succ])
      refine plan_quiet rfl (by rfl) (v := ?_) ?_ ?_; rotate_left; (intro w1 hSw; obtain ⟨h0, h1, h2⟩ := hSw; go_simp; try (with_reducible rfl)); (try simp only [Act.put, List.setIfInBounds_toArray, List.set_cons_zero, List.set_cons_succ])
      refine plan_end ?_
      obtain ⟨p0, p1, p2⟩ := (show w4.cell? ⟨w.heap.size + 1, 0, none⟩ = some (.int .i64 W) ∧ w4.cell? ⟨w.heap.size + 1, 1, none⟩ = some (.int .i64 t) ∧ w4.cell? ⟨w.heap.size + 1, 2, none⟩ = some (.int .i64 k) from ⟨cellOfBlk HM4.out 0, cellOfBlk HM4.out 1, cellOfBlk HM4.out 2⟩)
      cases hww : wwB f (gtS g)
      · have HR : Hid (galB f ⟨W, t, k⟩ g = false) := by show _ = _; rw [HGa.out]; exact isBrk_no hww
        clear hww
        go_wp2
        go_ret
        exact ⟨ret_bool HR.out.symm, T4.out⟩
      · clear hww
        go_wp2_with fail
        refine (specIsBreaking_any W t k _ _ _ (wwL f (gtS g)) _ _ _ C _ Hm.out hcu hcm HI4.out HCl.out (by unfold maxLen; omega) HL4.out).mono ?_
        rintro e w5 ⟨rfl, hb5⟩
        have T5 := Lib.hid (T4.out.trans (hb5.mono (by omega)))
        clear hb5 p0 p1 p2
        go_wp2
        go_ret
        exact ⟨ret_bool HGa.out.symm, T5.out⟩
end Go.Proofs.YtobakeahbgodbaaGreat
