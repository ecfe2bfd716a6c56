/-
  BreakRail by contract, model and program. Conditions of the contracts: a length of at most 2^20, which is at most the capacity.
-/
import Derived.Test.YtpgokcilnejolaaMem
import Derived.Test.YtpgokcilnejolaaLoss
import Derived.Outline
namespace Go.Proofs.Ytpgokcilnejolaa
open Go.RowKit
set_option linter.unusedVariables false

/-- the set with the one tooth t -/
def one (t : Int) : Int := 2 ^ t.toNat
theorem tooth_cases {t : Int} (h0 : 0 ≤ t) (h1 : t ≤ 6) : t = 0 ∨ t = 1 ∨ t = 2 ∨ t = 3 ∨ t = 4 ∨ t = 5 ∨ t = 6 := by omega

theorem oneTooth_yes (t : Int) (w : World) (h0 : 0 ≤ t) (h1 : t ≤ 6) : Calls Try.prog 69 #[.int .i64 t] w fun e w' => e = .returned (.tuple #[.int .i64 (one t), .bool true]) ∧ w = w' := by
  rcases tooth_cases h0 h1 with rfl | rfl | rfl | rfl | rfl | rfl | rfl
  all_goals
    go_enter Try.func69, Try.ntmps69
    go_wp2
    go_ret2
    exact ⟨rfl, rfl⟩
theorem oneTooth_no (t : Int) (w : World) (h : inB t 0 6 = false) : Calls Try.prog 69 #[.int .i64 t] w fun e w' => e = .returned (.tuple #[.int .i64 0, .bool false]) ∧ w = w' := by
  by_cases h0 : 0 ≤ t
  · have h1 : 7 ≤ t := by simp [inB] at h; omega
    clear h
    go_enter Try.func69, Try.ntmps69
    go_wp2
    go_ret2
    exact ⟨rfl, rfl⟩
  · clear h
    go_enter Try.func69, Try.ntmps69
    go_wp2
    go_ret2
    exact ⟨rfl, rfl⟩
theorem with_any (s t : Int) (w : World) : Calls Try.prog 72 #[.int .i64 s, .int .i64 t] w fun e w' => e = .returned (.int .i64 (join s t)) ∧ w = w' := by
  go_enter Try.func72, Try.ntmps72
  go_wp2
  go_ret
  exact ⟨rfl, rfl⟩

theorem part_one (t : Int) (h0 : 0 ≤ t) (h1 : t ≤ 6) (x : Int) (hx0 : 0 ≤ x) (hx1 : x ≤ 127) : partB (one t) x = bt x t.toNat := by
  rcases tooth_cases h0 h1 with rfl | rfl | rfl | rfl | rfl | rfl | rfl
  all_goals (revert x; exact all128 _ (by decide +kernel))
theorem join_one (t : Int) (h0 : 0 ≤ t) (h1 : t ≤ 6) (x : Int) (hx0 : 0 ≤ x) (hx1 : x ≤ 127) : bt x t.toNat = false → x + one t = join x (one t) := by
  rcases tooth_cases h0 h1 with rfl | rfl | rfl | rfl | rfl | rfl | rfl
  all_goals (revert x; exact all128 _ (by decide +kernel))

def brkOk (zs : List Int) (p t : Int) : Bool := isBar zs && (inB p 0 (zs.length - 1) && (inB t 0 6 && !bt (zs.getD p.toNat 0) t.toNat))
def brkL (zs : List Int) (p t : Int) : List Int := if brkOk zs p t then zs.set p.toNat (join (zs.getD p.toNat 0) (one t)) else []
theorem own_none (w : World) (B : Nat) : Own w B (.slice none 0 0) [] := World.ownsRow_nil _ _ _ _

set_option maxHeartbeats 800000 in
theorem implBreak_yes (ad : Addr) (n c p : Nat) (t x : Int) (zs : List Int) (w : World) (hn : zs.length = n) (hm : n ≤ 1048576) (hcap : n ≤ c) (h : Ints w (some ad) zs)
    (hbar : isBar zs = true) (hp2 : p < n) (hx : zs[p]? = some x) (ht0 : 0 ≤ t) (ht1 : t ≤ 6) (hbt : bt x t.toNat = false) :
    Calls Try.prog 32 #[.slice (some ad) n c, .int .i64 p, .int .i64 t] w fun e w' =>
      ∃ v, e = .returned (.tuple #[v, .bool true]) ∧ Own w' w.heap.size v (zs.set p (join x (one t))) ∧ Below w.heap.size w w' := by
  have Hn := Lib.hid hn; clear hn
  have hm0 : n ≤ maxLen := by unfold maxLen; omega
  obtain ⟨hx0, hx1⟩ := bar_set hbar x (mem_at hx)
  have hin : inB (p : Int) 0 ((n : Int) - 1) = true := by simp [inB]; omega
  have hpart : partB (one t) x = false := by rw [part_one t ht0 ht1 x hx0 hx1, hbt]
  have Hbt := Lib.hid hbt; clear hbt
  obtain ⟨ad', x', hade, hx', hcx⟩ := h.at_ (k := p) (by rw [Hn.out]; exact hp2)
  have e1 : ad' = ad := by injection hade with e; exact e.symm
  have e2 : x' = x := by have := hx'.out; rw [hx] at this; injection this with e; exact e.symm
  subst e1; subst e2
  have Hx := Lib.hid hx; clear hx hx' hade
  go_enter Try.func32, Try.ntmps32
  go_wp2_with (first
    | (go_at_call 69; refine (oneTooth_yes _ _ ht0 ht1).mono ?_; rintro e w' ⟨rfl, rfl⟩)
    | (go_at_call 21; refine (implIsBar_any _ _ _ zs _ Hn.out hm0 h).mono ?_; rintro e w' ⟨rfl, rfl⟩)
    | (go_at_call 70; refine (hasPlace_any _ _ _ _ _ hm0).mono ?_; rintro e w' ⟨rfl, rfl⟩)
    | (go_at_call 71; refine (isPartOf_any _ _ _).mono ?_; rintro e w' ⟨rfl, rfl⟩)
    | (at_make; refine wpl_make_int _ rfl (.tmp 38) rfl n _ rfl rfl (by omega) ?_; intro w1 hown1 hb1; have h1 := h.below hb1; have hc1 := (hb1.cell (World.block_lt_of_cell? _ _ hcx)).trans hcx)
    | ((with_reducible refine wpl_copy _ rfl (.tmp 40) (.tmp 41) rfl w.heap.size w.heap.size n n _ zs (some ad') c rfl rfl Hn.out h1 hown1 ?_); intro w2 hown2 hb2; have hc2 := (hb2.cell (World.block_lt_of_cell? _ _ hcx)).trans hc1; have hd2 : w2.cell? ⟨w.heap.size, p, none⟩ = some (.int .i64 x') := ((hown2.cellAt p (by omega)).trans (by rw [List.getElem?_map, Hx.out, Option.map_some])); have hf2 := hown2.frozenAt p)
    | (go_at_call 72; refine (with_any _ _ _).mono ?_; rintro e w' ⟨rfl, rfl⟩))
  go_ret2
  refine ⟨_, rfl, ?_, ((hb1.trans hb2).setCell (Nat.le_refl _) _)⟩
  have hst := (hown2.stored p (.int .i64 (join x' (one t)))).1
  rw [← List.map_set] at hst
  unfold Own
  rw [List.length_set, Hn.out]
  exact hst

set_option maxHeartbeats 800000 in
theorem implBreak_no (A : Option Addr) (n c : Nat) (p t : Int) (zs : List Int) (w : World) (hn : zs.length = n) (hm : n ≤ 1048576) (hcap : n ≤ c) (h : Ints w A zs) (hno : brkOk zs p t = false) :
    Calls Try.prog 32 #[.slice A n c, .int .i64 p, .int .i64 t] w fun e w' =>
      e = .returned (.tuple #[.slice none 0 0, .bool false]) ∧ w = w' := by
  have Hn := Lib.hid hn; clear hn
  have hm0 : n ≤ maxLen := by unfold maxLen; omega
  have Hno := Lib.hid hno; clear hno
  cases ht : inB t 0 6
  · go_enter Try.func32, Try.ntmps32
    go_wp2_with (go_at_call 69; refine (oneTooth_no _ _ ht).mono ?_; rintro e w' ⟨rfl, rfl⟩)
    go_ret2
    exact ⟨rfl, rfl⟩
  have ht' : 0 ≤ t ∧ t ≤ 6 := by simpa [inB] using ht
  obtain ⟨ht0, ht1⟩ := ht'
  cases hb : isBar zs
  · have Ht := Lib.hid ht; clear ht
    go_enter Try.func32, Try.ntmps32
    go_wp2_with (first
      | (go_at_call 69; refine (oneTooth_yes _ _ ht0 ht1).mono ?_; rintro e w' ⟨rfl, rfl⟩)
      | (go_at_call 21; refine (implIsBar_any _ _ _ zs _ Hn.out hm0 h).mono ?_; rintro e w' ⟨rfl, rfl⟩))
    go_ret2
    exact ⟨rfl, rfl⟩
  cases hin : inB p 0 ((n : Int) - 1)
  · have Ht := Lib.hid ht; clear ht
    go_enter Try.func32, Try.ntmps32
    go_wp2_with (first
      | (go_at_call 69; refine (oneTooth_yes _ _ ht0 ht1).mono ?_; rintro e w' ⟨rfl, rfl⟩)
      | (go_at_call 21; refine (implIsBar_any _ _ _ zs _ Hn.out hm0 h).mono ?_; rintro e w' ⟨rfl, rfl⟩)
      | (go_at_call 70; refine (hasPlace_any _ _ _ _ _ hm0).mono ?_; rintro e w' ⟨rfl, rfl⟩))
    go_ret2
    exact ⟨rfl, rfl⟩
  obtain ⟨hp0, hp1⟩ : 0 ≤ p ∧ p ≤ (n : Int) - 1 := by simpa [inB] using hin
  obtain ⟨q, rfl⟩ := Int.eq_ofNat_of_zero_le hp0
  obtain ⟨ad, x, rfl, hx, hcx⟩ := h.at_ (k := q) (by rw [Hn.out]; omega)
  obtain ⟨hx0, hx1⟩ := bar_set hb x (mem_at hx.out)
  have hpart : partB (one t) x = true := by
    rw [part_one t ht0 ht1 x hx0 hx1]
    have := Hno.out
    unfold brkOk at this
    rw [hb, Hn.out, hin, ht, Int.toNat_natCast, getD_at hx.out] at this
    simpa using this
  have Ht := Lib.hid ht; clear ht
  go_enter Try.func32, Try.ntmps32
  go_wp2_with (first
    | (go_at_call 69; refine (oneTooth_yes _ _ ht0 ht1).mono ?_; rintro e w' ⟨rfl, rfl⟩)
    | (go_at_call 21; refine (implIsBar_any _ _ _ zs _ Hn.out hm0 h).mono ?_; rintro e w' ⟨rfl, rfl⟩)
    | (go_at_call 70; refine (hasPlace_any _ _ _ _ _ hm0).mono ?_; rintro e w' ⟨rfl, rfl⟩)
    | (go_at_call 71; refine (isPartOf_any _ _ _).mono ?_; rintro e w' ⟨rfl, rfl⟩))
  go_ret2
  exact ⟨rfl, rfl⟩

theorem brk_parts {zs : List Int} {p t : Int} {n : Nat} (hn : zs.length = n) (h : brkOk zs p t = true) : ∃ q : Nat, p = q ∧ q < n ∧ isBar zs = true ∧ 0 ≤ t ∧ t ≤ 6 ∧ bt (zs.getD q 0) t.toNat = false := by
  unfold brkOk at h
  simp only [Bool.and_eq_true] at h
  obtain ⟨hb, hp, ht, hx⟩ := h
  have hp' : 0 ≤ p ∧ p ≤ (n : Int) - 1 := by rw [hn] at hp; simpa [inB] using hp
  obtain ⟨q, rfl⟩ := Int.eq_ofNat_of_zero_le hp'.1
  have ht' : 0 ≤ t ∧ t ≤ 6 := by simpa [inB] using ht
  exact ⟨q, rfl, by omega, hb, ht'.1, ht'.2, by simpa using hx⟩

theorem implBreak_any (A : Option Addr) (n c : Nat) (zs : List Int) (p t : Int) (w : World) (hn : zs.length = n) (hm : n ≤ 1048576) (hcap : n ≤ c) (hcm : c ≤ maxLen) (h : Ints w A zs) :
    Calls Try.prog 32 #[.slice A n c, .int .i64 p, .int .i64 t] w fun e w' =>
      ∃ v, e = .returned (.tuple #[v, .bool (brkOk zs p t)]) ∧ Own w' w.heap.size v (brkL zs p t) ∧ Below w.heap.size w w' := by
  cases hy : brkOk zs p t
  · have hL : brkL zs p t = [] := by unfold brkL; rw [hy]; rfl
    rw [hL]
    refine (implBreak_no A n c p t zs w hn hm hcap h hy).mono ?_
    rintro e w' ⟨rfl, rfl⟩
    exact ⟨_, rfl, own_none _ _, Below.refl _ _⟩
  · obtain ⟨q, rfl, hq, hb, ht0, ht1, hbt⟩ := brk_parts hn hy
    obtain ⟨ad, x, rfl, hx, hcx⟩ := h.at_ (k := q) (by omega)
    rw [getD_at hx.out] at hbt
    have hL : brkL zs (q : Int) t = zs.set q (join x (one t)) := by unfold brkL; rw [hy, Int.toNat_natCast, getD_at hx.out]; rfl
    rw [hL]
    exact implBreak_yes ad n c q t x zs w hn hm hcap h hb hq hx.out ht0 ht1 hbt

theorem shr_one (t : Int) (h0 : 0 ≤ t) (h1 : t ≤ 6) (x : Int) (hx0 : 0 ≤ x) (hx1 : x ≤ 127) : (bits .and .i64 (x / 2 ^ t.toNat) 1 == 1) = bt x t.toNat := by
  rcases tooth_cases h0 h1 with rfl | rfl | rfl | rfl | rfl | rfl | rfl
  all_goals (revert x; exact all128 _ (by decide +kernel))

theorem own_row {w : World} {B n : Nat} {v : Value} {zs : List Int} (h : Own w B v zs) (hn : zs.length = n) (hp : 0 < n) :
    ∃ g cap, v = .slice (some ⟨g, 0, none⟩) n cap ∧ B ≤ g ∧ w.ownsRow B 3 1 (.slice (some ⟨g, 0, none⟩) n cap) n (zs.map (Value.int .i64)) := by
  have h0 := h
  unfold Own at h0
  rcases h.2 with ⟨_, h2⟩ | ⟨g, cap, cur, rfl, hg, _⟩
  · omega
  · rw [hn] at h0
    exact ⟨g, cap, by rw [hn], hg, h0⟩

set_option maxHeartbeats 3200000 in
theorem specBreak_yes (ad : Addr) (n c p : Nat) (t x : Int) (zs : List Int) (w : World) (hn : zs.length = n) (hm : n ≤ 1048576) (hcap : n ≤ c) (h : Ints w (some ad) zs)
    (hbar : isBar zs = true) (hp2 : p < n) (hx : zs[p]? = some x) (ht0 : 0 ≤ t) (ht1 : t ≤ 6) (hbt : bt x t.toNat = false) :
    Calls Try.prog 47 #[.slice (some ad) n c, .int .i64 p, .int .i64 t] w fun e w' =>
      ∃ v, e = .returned (.tuple #[v, .bool true]) ∧ Own w' w.heap.size v (zs.set p (join x (one t))) ∧ Below w.heap.size w w' := by
  have Hn := Lib.hid hn; clear hn
  have hm0 : n ≤ maxLen := by unfold maxLen; omega
  obtain ⟨hx0, hx1⟩ := bar_set hbar x (mem_at hx)
  have hin : inB (p : Int) 0 ((n : Int) - 1) = true := by simp [inB]; omega
  have hint : inB t 0 6 = true := by simp [inB]; omega
  have hshr : (bits .and .i64 (x / 2 ^ t.toNat) 1 == 1) = false := by rw [shr_one t ht0 ht1 x hx0 hx1, hbt]
  have Hj := Lib.hid (join_one t ht0 ht1 x hx0 hx1 hbt)
  have Hbt := Lib.hid hbt; clear hbt
  obtain ⟨ad', x', hade, hx', hcx⟩ := h.at_ (k := p) (by rw [Hn.out]; exact hp2)
  have e1 : ad' = ad := by injection hade with e; exact e.symm
  have e2 : x' = x := by have := hx'.out; rw [hx] at this; injection this with e; exact e.symm
  subst e1; subst e2
  have Hx := Lib.hid hx; clear hx hx' hade
  have hE : Own (w.alloc (.cells #[] 3)) w.heap.size (.slice (some ⟨w.heap.size, 0, none⟩) 0 0) [] := World.ownsRow_lit w #[] 0 (Nat.le_refl _) (Nat.zero_le _) rfl
  have hA : Ints (w.alloc (.cells #[] 3)) (some ad') zs := h.below ((Below.refl _ _).alloc (Nat.le_refl _) _)
  rcases tooth_cases ht0 ht1 with rfl | rfl | rfl | rfl | rfl | rfl | rfl
  all_goals
    simp only [Int.reduceToNat, Int.reducePow, Int.ediv_one] at hshr
    go_enter Try.func47, Try.ntmps47
    go_wp2_with (first
      | (go_at_call 20; refine (specIsBar_any _ _ _ zs _ Hn.out hm0 h).mono ?_; rintro e w' ⟨rfl, rfl⟩)
      | (go_at_call 52; refine (l1In_any _ _ _ _).mono ?_; rintro e w' ⟨rfl, rfl⟩)
      | (at_builtin; refine wpl_append _ rfl (.tmp 33) (.tmp 34) rfl w.heap.size _ [] zs (some ad') n c rfl rfl Hn.out (by omega) hA hE (by simp) (by simp; omega) ?_; intro v1 w1 hown1 hb1))
    obtain ⟨g, cap, rfl, hg, hrow⟩ := own_row (n := n) hown1 (by rw [List.nil_append]; exact Hn.out) (by omega)
    rw [List.nil_append] at hrow
    have hd : w1.cell? ⟨g, p, none⟩ = some (.int .i64 x') := ((hrow.cellAt p (by omega)).trans (by rw [List.getElem?_map, Hx.out, Option.map_some]))
    have hf := hrow.frozenAt p
    have hb2 : Below w.heap.size w w1 := ((Below.refl w.heap.size w).alloc (Nat.le_refl _) (.cells #[] 3)).trans hb1
    have HR := Lib.hid hrow
    clear hown1 hb1 hrow hE hA
    go_wp2
    go_region
    all_goals go_wp2
    all_goals go_ret2
    all_goals
      refine ⟨.slice (some ⟨g, 0, none⟩) n cap, rfl, ?_, (hb2.setCell (by exact hg) _).drew⟩
      rw [← Hj.out]
      simp only [one, Int.reduceToNat, Int.reducePow]
      unfold Own
      rw [List.length_set, Hn.out, List.map_set]
      exact (HR.out.stored p _).1

set_option maxHeartbeats 1600000 in
theorem specBreak_no (A : Option Addr) (n c : Nat) (p t : Int) (zs : List Int) (w : World) (hn : zs.length = n) (hm : n ≤ 1048576) (hcap : n ≤ c) (h : Ints w A zs) (hno : brkOk zs p t = false) :
    Calls Try.prog 47 #[.slice A n c, .int .i64 p, .int .i64 t] w fun e w' =>
      e = .returned (.tuple #[.slice none 0 0, .bool false]) ∧ w = w' := by
  have Hn := Lib.hid hn; clear hn
  have hm0 : n ≤ maxLen := by unfold maxLen; omega
  have Hno := Lib.hid hno; clear hno
  cases hb : isBar zs
  · go_enter Try.func47, Try.ntmps47
    go_wp2_with (go_at_call 20; refine (specIsBar_any _ _ _ zs _ Hn.out hm0 h).mono ?_; rintro e w' ⟨rfl, rfl⟩)
    go_ret2
    exact ⟨rfl, rfl⟩
  cases hin : inB p 0 ((n : Int) - 1)
  · go_enter Try.func47, Try.ntmps47
    go_wp2_with (first
      | (go_at_call 20; refine (specIsBar_any _ _ _ zs _ Hn.out hm0 h).mono ?_; rintro e w' ⟨rfl, rfl⟩)
      | (go_at_call 52; refine (l1In_any _ _ _ _).mono ?_; rintro e w' ⟨rfl, rfl⟩))
    go_ret2
    exact ⟨rfl, rfl⟩
  cases ht : inB t 0 6
  · go_enter Try.func47, Try.ntmps47
    go_wp2_with (first
      | (go_at_call 20; refine (specIsBar_any _ _ _ zs _ Hn.out hm0 h).mono ?_; rintro e w' ⟨rfl, rfl⟩)
      | (go_at_call 52; refine (l1In_any _ _ _ _).mono ?_; rintro e w' ⟨rfl, rfl⟩))
    go_ret2
    exact ⟨rfl, rfl⟩
  obtain ⟨ht0, ht1⟩ : 0 ≤ t ∧ t ≤ 6 := by simpa [inB] using ht
  obtain ⟨hp0, hp1⟩ : 0 ≤ p ∧ p ≤ (n : Int) - 1 := by simpa [inB] using hin
  obtain ⟨q, rfl⟩ := Int.eq_ofNat_of_zero_le hp0
  obtain ⟨ad, x, rfl, hx, hcx⟩ := h.at_ (k := q) (by rw [Hn.out]; omega)
  obtain ⟨hx0, hx1⟩ := bar_set hb x (mem_at hx.out)
  have hshr : (bits .and .i64 (x / 2 ^ t.toNat) 1 == 1) = true := by
    rw [shr_one t ht0 ht1 x hx0 hx1]
    have := Hno.out
    unfold brkOk at this
    rw [hb, Hn.out, hin, ht, Int.toNat_natCast, getD_at hx.out] at this
    simpa using this
  clear Hno
  rcases tooth_cases ht0 ht1 with rfl | rfl | rfl | rfl | rfl | rfl | rfl
  all_goals
    simp only [Int.reduceToNat, Int.reducePow, Int.ediv_one] at hshr
    go_enter Try.func47, Try.ntmps47
    go_wp2_with (first
      | (go_at_call 20; refine (specIsBar_any _ _ _ zs _ Hn.out hm0 h).mono ?_; rintro e w' ⟨rfl, rfl⟩)
      | (go_at_call 52; refine (l1In_any _ _ _ _).mono ?_; rintro e w' ⟨rfl, rfl⟩))
    go_ret2
    exact ⟨rfl, rfl⟩

theorem specBreak_any (A : Option Addr) (n c : Nat) (zs : List Int) (p t : Int) (w : World) (hn : zs.length = n) (hm : n ≤ 1048576) (hcap : n ≤ c) (hcm : c ≤ maxLen) (h : Ints w A zs) :
    Calls Try.prog 47 #[.slice A n c, .int .i64 p, .int .i64 t] w fun e w' =>
      ∃ v, e = .returned (.tuple #[v, .bool (brkOk zs p t)]) ∧ Own w' w.heap.size v (brkL zs p t) ∧ Below w.heap.size w w' := by
  cases hy : brkOk zs p t
  · have hL : brkL zs p t = [] := by unfold brkL; rw [hy]; rfl
    rw [hL]
    refine (specBreak_no A n c p t zs w hn hm hcap h hy).mono ?_
    rintro e w' ⟨rfl, rfl⟩
    exact ⟨_, rfl, own_none _ _, Below.refl _ _⟩
  · obtain ⟨q, rfl, hq, hb, ht0, ht1, hbt⟩ := brk_parts hn hy
    obtain ⟨ad, x, rfl, hx, hcx⟩ := h.at_ (k := q) (by omega)
    rw [getD_at hx.out] at hbt
    have hL : brkL zs (q : Int) t = zs.set q (join x (one t)) := by unfold brkL; rw [hy, Int.toNat_natCast, getD_at hx.out]; rfl
    rw [hL]
    exact specBreak_yes ad n c q t x zs w hn hm hcap h hb hq hx.out ht0 ht1 hbt
theorem brkL_len (zs : List Int) (p t : Int) : (brkL zs p t).length ≤ zs.length := by unfold brkL; split <;> simp
end Go.Proofs.Ytpgokcilnejolaa
