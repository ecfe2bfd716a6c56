/-
  A magazine in which one matrix lost a tooth, plainly: its kinds and strays are as they were, and at most one more is worn. No Go here.
-/
import Derived.Test.YtobakeahbgodbaaWearT
import Derived.Test.YtobakeahbgodbaaCntWorn
import Derived.Test.YtobakeahbgodbaaKind
namespace Go.Proofs.Ytobakeahbgodbaa
open Go.RowKit
set_option linter.unusedVariables false

theorem wear_parts {f : Fnt} {ms : List (List Mat)} {ch i t : Int} (h : wearOk f ms ch i t = true) :
    ∃ (q p tt : Nat) (xs : List Mat) (x : Mat), ch = (q : Int) ∧ i = (p : Int) ∧ t = (tt : Int) ∧ tt ≤ 6 ∧ ms[q]? = some xs ∧ xs[p]? = some x ∧ bt x.2 tt = true ∧ wearL f ms ch i t = ms.set q (xs.set p (x.1, x.2 - one t)) ∧ magB f ms = true := by
  have h0 := h
  unfold wearOk at h
  simp only [Bool.and_eq_true] at h
  obtain ⟨hmag, h1, h2, h3, h4⟩ := h
  obtain ⟨a0, a1⟩ := inB_true h1
  obtain ⟨b0, b1⟩ := inB_true h2
  obtain ⟨c0, c1⟩ := inB_true h3
  obtain ⟨q, rfl⟩ := Int.eq_ofNat_of_zero_le a0
  obtain ⟨tt, rfl⟩ := Int.eq_ofNat_of_zero_le b0
  obtain ⟨p, rfl⟩ := Int.eq_ofNat_of_zero_le c0
  have hq : q < ms.length := by omega
  have hxs : ms[q]? = some ms[q] := List.getElem?_eq_getElem hq
  have hr : rowAt ms (q : Int) = ms[q] := by unfold rowAt; rw [Int.toNat_natCast, List.getD, hxs]; rfl
  rw [hr] at c1 h4
  have hp : p < (ms[q]).length := by omega
  have hx : (ms[q])[p]? = some (ms[q])[p] := List.getElem?_eq_getElem hp
  have hg : (ms[q]).getD (p : Int).toNat (0, 0) = (ms[q])[p] := by rw [Int.toNat_natCast, List.getD, hx]; rfl
  rw [hg, Int.toNat_natCast] at h4
  refine ⟨q, p, tt, ms[q], (ms[q])[p], rfl, rfl, rfl, by omega, hxs, hx, h4, ?_, hmag⟩
  unfold wearL
  rw [if_pos h0, hr, hg, Int.toNat_natCast, Int.toNat_natCast]
theorem kRow_same {xs ys : List Mat} (h : xs.map Prod.fst = ys.map Prod.fst) : ∀ l, kRow l xs = kRow l ys := by
  induction xs generalizing ys with
  | nil => intro l; cases ys with
    | nil => rfl
    | cons y r => simp at h
  | cons x r ih => intro l; cases ys with
    | nil => simp at h
    | cons y r2 =>
      rw [List.map_cons, List.map_cons] at h
      injection h with h1 h2
      show kRow (kAdd l x) r = kRow (kAdd l y) r2
      rw [ih h2, show kAdd l x = kAdd l y by unfold kAdd; rw [h1]]
theorem foldl_set {α β : Type} {g : α → β → α} {b : β} (a : β) (hg : ∀ l, g l a = g l b) : ∀ (xs : List β) (q : Nat) (l : α), xs[q]? = some b → (xs.set q a).foldl g l = xs.foldl g l
  | [], q, l, h => by simp at h
  | y :: r, 0, l, h => by
    simp at h; subst h
    show r.foldl g (g l a) = r.foldl g (g l y)
    rw [hg]
  | y :: r, q + 1, l, h => by
    show (r.set q a).foldl g (g l y) = r.foldl g (g l y)
    exact foldl_set a hg r q _ (by simpa using h)
theorem map_fst_set {xs : List Mat} {p : Nat} {x : Mat} {z : Int} (h : xs[p]? = some x) : (xs.set p (x.1, z)).map Prod.fst = xs.map Prod.fst := by
  rw [List.map_set]
  refine List.ext_getElem? fun j => ?_
  by_cases e : j = p
  · subst e
    have hj := (List.getElem?_eq_some_iff.1 h).1
    rw [List.getElem?_set_self (by rw [List.length_map]; exact hj), List.getElem?_map, h]; rfl
  · rw [List.getElem?_set_ne (by omega)]
theorem cntM_set {pr : Nat → Mat → Bool} {ms : List (List Mat)} {q : Nat} {xs ys : List Mat} (hq : ms[q]? = some xs) : ∀ k, cntM pr (ms.set q ys) k + (if q < k then cntR (pr q) xs else 0) = cntM pr ms k + (if q < k then cntR (pr q) ys else 0)
  | 0 => by simp [cntM]
  | k + 1 => by
    have ih := cntM_set (pr := pr) (ys := ys) hq k
    have hql := (List.getElem?_eq_some_iff.1 hq).1
    show cntM pr (ms.set q ys) k + cntR (pr k) ((ms.set q ys).getD k []) + _ = cntM pr ms k + cntR (pr k) (ms.getD k []) + _
    by_cases e : q = k
    · subst e
      rw [List.getD, List.getElem?_set_self hql, List.getD, hq, if_pos (by omega), if_pos (by omega)]
      rw [if_neg (by omega), if_neg (by omega)] at ih
      simp only [Option.getD_some]
      omega
    · rw [List.getD, List.getElem?_set_ne e, ← List.getD]
      by_cases h : q < k
      · rw [if_pos (by omega), if_pos (by omega)]
        rw [if_pos h, if_pos h] at ih
        omega
      · rw [if_neg (by omega), if_neg (by omega)]
        rw [if_neg h, if_neg h] at ih
        omega
theorem cntR_set {pr : Mat → Bool} : ∀ {xs : List Mat} {p : Nat} {x y : Mat}, xs[p]? = some x → cntR pr (xs.set p y) + (if pr x then 1 else 0) = cntR pr xs + (if pr y then 1 else 0)
  | [], p, x, y, h => by simp at h
  | z :: r, 0, x, y, h => by
    simp at h; subst h
    show (List.filter pr (y :: r)).length + _ = (List.filter pr (z :: r)).length + _
    rw [List.filter_cons, List.filter_cons]
    cases pr y <;> cases pr z <;> simp
  | z :: r, p + 1, x, y, h => by
    have ih := cntR_set (pr := pr) (xs := r) (p := p) (x := x) (y := y) (by simpa using h)
    unfold cntR at ih ⊢
    rw [List.set_cons_succ, List.filter_cons, List.filter_cons]
    cases pr z <;> simp <;> omega
theorem one_bt (tt : Nat) : bt (one (tt : Int)) tt = true := by
  unfold bt one
  rw [Int.toNat_natCast, show ((2 : Int) ^ tt).toNat = 2 ^ tt by have : (2 : Int) ^ tt = ((2 ^ tt : Nat) : Int) := by simp
                                                                 rw [this, Int.toNat_natCast]]
  exact Nat.testBit_two_pow_self
theorem one_bd {tt : Nat} (h : tt ≤ 6) : 1 ≤ one (tt : Int) ∧ one (tt : Int) ≤ 127 := by
  have : tt = 0 ∨ tt = 1 ∨ tt = 2 ∨ tt = 3 ∨ tt = 4 ∨ tt = 5 ∨ tt = 6 := by omega
  rcases this with rfl | rfl | rfl | rfl | rfl | rfl | rfl <;> exact ⟨by decide, by decide⟩
/-- what a matrix that lost a tooth is -/
theorem worn_mat {f : Fnt} (hf : fontB f = true) {x : Mat} {tt : Nat} (htt : tt ≤ 6) (hm : matB f x = true) (hb : bt x.2 tt = true) :
    matB f (x.1, x.2 - one (tt : Int)) = true ∧ 0 ≤ x.2 ∧ x.2 ≤ 127 ∧ 0 ≤ x.2 - one (tt : Int) ∧ x.2 - one (tt : Int) ≤ 127 ∧ 0 ≤ x.1 ∧ x.1 < (f.cs.length : Int) ∧ wornP f 0 (x.1, x.2 - one (tt : Int)) = true := by
  unfold matB at hm
  rw [Bool.and_eq_true, Bool.and_eq_true] at hm
  obtain ⟨h1, h2, h3⟩ := hm
  obtain ⟨k0, k1⟩ := inB_true h1
  unfold setB at h2
  obtain ⟨s0, s1⟩ := of_decide_eq_true h2
  have hfc := fontB_codes hf
  obtain ⟨kn, hkn⟩ := Int.eq_ofNat_of_zero_le k0
  have hkl : kn < f.cs.length := by omega
  have hz := bar_set hfc.2.2 (f.cs.getD x.1.toNat 0) (by rw [hkn, Int.toNat_natCast, List.getD, List.getElem?_eq_getElem hkl]; exact List.getElem_mem hkl)
  have ho := one_bd htt
  have hl : x.2 - one (tt : Int) = less x.2 (one (tt : Int)) := less_one (tt : Int) (by omega) (by omega) x.2 s0 s1 (by rw [Int.toNat_natCast]; exact hb)
  have hbd : 0 ≤ less x.2 (one (tt : Int)) ∧ less x.2 (one (tt : Int)) ≤ 127 := less_bd s0 s1 (by omega) ho.2
  have hpt := (partB_iff s0 s1 hz.1 hz.2).1 h3
  have hbl := fun j => bt_less s0 s1 (by omega : 0 ≤ one (tt : Int)) ho.2 j
  refine ⟨?_, s0, s1, by omega, by omega, k0, by omega, ?_⟩
  · unfold matB
    rw [hl, Bool.and_eq_true, Bool.and_eq_true]
    refine ⟨h1, by unfold setB; exact decide_eq_true hbd, (partB_iff hbd.1 hbd.2 hz.1 hz.2).2 fun j hj => hpt j ?_⟩
    rw [hbl j, Bool.and_eq_true] at hj
    exact hj.1
  · unfold wornP
    rw [bne_iff_ne]
    intro e
    have e : x.2 - one (tt : Int) = f.cs.getD x.1.toNat 0 := e
    have h5 := hpt tt hb
    rw [← e, hl, hbl tt, one_bt] at h5
    simp at h5
theorem wear_all {f : Fnt} {ms : List (List Mat)} {ch i t : Int} (h : wearOk f ms ch i t = true) :
    ∃ (q p tt : Nat) (xs : List Mat) (x : Mat) (y : Int), ch = (q : Int) ∧ i = (p : Int) ∧ t = (tt : Int) ∧ tt ≤ 6 ∧ ms[q]? = some xs ∧ xs[p]? = some x ∧ wearL f ms ch i t = ms.set q (xs.set p (x.1, y)) ∧ x.2 - 2 ^ tt = y ∧ magB f ms = true ∧
      0 ≤ x.2 ∧ x.2 ≤ 127 ∧ 0 ≤ y ∧ y ≤ 127 ∧ 0 ≤ x.1 ∧ x.1 < (f.cs.length : Int) ∧ magB f (wearL f ms ch i t) = true ∧ kindL f (wearL f ms ch i t) = kindL f ms ∧ cntI f (wearL f ms ch i t) strayP = cntI f ms strayP ∧
      cntI f (wearL f ms ch i t) (wornP f) = cntI f ms (wornP f) + (if x.2 = f.cs.getD x.1.toNat 0 then 1 else 0) ∧ wfM (wearL f ms ch i t) := by
  obtain ⟨q, p, tt, xs, x, rfl, rfl, rfl, htt, hq, hp, hb, hL, hmag⟩ := wear_parts h
  obtain ⟨hf, hlen, hrows⟩ := magB_rows hmag
  have hxr := hrows xs (List.mem_of_getElem? hq)
  have hxm := hxr.2 x (List.mem_of_getElem? hp)
  obtain ⟨m1, s0, s1, y0, y1, k0, k1, hwp⟩ := worn_mat hf htt hxm hb
  have hmag2 : magB f (ms.set q (xs.set p (x.1, x.2 - one (tt : Int)))) = true := by
    unfold magB
    rw [Bool.and_eq_true, Bool.and_eq_true]
    refine ⟨hf, by rw [beq_iff_eq, List.length_set]; exact hlen, List.all_eq_true.2 fun ys hy => ?_⟩
    unfold rowB
    rw [Bool.and_eq_true, decide_eq_true_eq, List.all_eq_true]
    rcases List.mem_or_eq_of_mem_set hy with hy | rfl
    · exact hrows ys hy
    · refine ⟨by rw [List.length_set]; exact hxr.1, fun z hz => ?_⟩
      rcases List.mem_or_eq_of_mem_set hz with hz | rfl
      · exact hxr.2 z hz
      · exact m1
  have hql := (List.getElem?_eq_some_iff.1 hq).1
  refine ⟨q, p, tt, xs, x, x.2 - one (tt : Int), rfl, rfl, rfl, htt, hq, hp, hL, by unfold one; rw [Int.toNat_natCast], hmag, s0, s1, y0, y1, k0, k1, ?_⟩
  rw [hL]
  refine ⟨hmag2, ?_, ?_, ?_, ?_⟩
  · unfold kindL
    rw [if_pos hmag2, if_pos hmag, List.length_set]
    unfold kAll
    exact foldl_set _ (fun l => kRow_same (map_fst_set hp) l) ms q _ hq
  · unfold cntI
    rw [if_pos hmag2, if_pos hmag, List.length_set]
    have h1 := cntM_set (pr := strayP) (ys := xs.set p (x.1, x.2 - one (tt : Int))) hq ms.length
    rw [if_pos hql, if_pos hql] at h1
    have h2 := cntR_set (pr := strayP q) (y := (x.1, x.2 - one (tt : Int))) hp
    have h3 : strayP q (x.1, x.2 - one (tt : Int)) = strayP q x := rfl
    rw [h3] at h2
    omega
  · unfold cntI
    rw [if_pos hmag2, if_pos hmag, List.length_set]
    have h1 := cntM_set (pr := wornP f) (ys := xs.set p (x.1, x.2 - one (tt : Int))) hq ms.length
    rw [if_pos hql, if_pos hql] at h1
    have h2 := cntR_set (pr := wornP f q) (y := (x.1, x.2 - one (tt : Int))) hp
    have h3 : wornP f q (x.1, x.2 - one (tt : Int)) = true := hwp
    rw [h3, if_pos rfl] at h2
    by_cases e : x.2 = f.cs.getD x.1.toNat 0
    · have h4 : wornP f q x = false := by unfold wornP; rw [e]; simp
      rw [h4] at h2
      rw [if_pos e]
      simp at h2
      omega
    · have h4 : wornP f q x = true := by unfold wornP; rw [bne_iff_ne]; exact e
      rw [h4, if_pos rfl] at h2
      rw [if_neg e]
      omega
  · intro ys hy z hz
    obtain ⟨_, _, hr2⟩ := magB_rows hmag2
    have hzm := (hr2 ys hy).2 z hz
    unfold matB setB at hzm
    rw [Bool.and_eq_true, Bool.and_eq_true] at hzm
    have := of_decide_eq_true hzm.2.1
    show (Lit.int .i64 z.2).wf = true
    generalize z.2 = zz at this ⊢
    simp [Lit.wf, IntKind.min, IntKind.max, IntKind.signed, IntKind.bits]
    omega
theorem pow_bd7 {tt : Nat} (h : tt ≤ 6) : 1 ≤ (2 : Int) ^ tt ∧ (2 : Int) ^ tt ≤ 64 := by
  have : tt = 0 ∨ tt = 1 ∨ tt = 2 ∨ tt = 3 ∨ tt = 4 ∨ tt = 5 ∨ tt = 6 := by omega
  rcases this with rfl | rfl | rfl | rfl | rfl | rfl | rfl <;> exact ⟨by decide, by decide⟩
theorem cntM_leB {pr : Nat → Mat → Bool} {ms : List (List Mat)} {b : Nat} (h : ∀ xs ∈ ms, xs.length ≤ b) : ∀ k, cntM pr ms k ≤ b * k
  | 0 => by simp [cntM]
  | k + 1 => by
    have ih := cntM_leB (pr := pr) h k
    show cntM pr ms k + cntR (pr k) (ms.getD k []) ≤ b * (k + 1)
    have h2 : cntR (pr k) (ms.getD k []) ≤ b := by
      refine Nat.le_trans (List.length_filter_le _ _) ?_
      cases hg : ms[k]? with
      | none => rw [List.getD, hg]; exact Nat.zero_le _
      | some xs => rw [List.getD, hg]; exact h xs (List.mem_of_getElem? hg)
    rw [Nat.mul_succ]; omega
theorem cntI_bd {f : Fnt} {pr : Nat → Mat → Bool} {ms : List (List Mat)} {b n : Nat} (h : ∀ xs ∈ ms, xs.length ≤ b) (hn : ms.length = n) : -1 ≤ cntI f ms pr ∧ cntI f ms pr ≤ ((b * n : Nat) : Int) := by
  unfold cntI
  have := cntM_leB (pr := pr) h ms.length
  rw [hn] at this
  rw [hn]
  split <;> omega
theorem stk_wf {b : Nat} {ms : List (List Mat)} (h : ∀ xs ∈ ms, xs.length ≤ b ∧ ∀ x ∈ xs, -1 ≤ x.1 ∧ x.1 ≤ 24 ∧ 0 ≤ x.2 ∧ x.2 ≤ 128) : wfM ms := by
  intro ys hy z hz
  have := (h ys hy).2 z hz
  show (Lit.int .i64 z.2).wf = true
  generalize z.2 = zz at this ⊢
  simp [Lit.wf, IntKind.min, IntKind.max, IntKind.signed, IntKind.bits]
  omega
end Go.Proofs.Ytobakeahbgodbaa
