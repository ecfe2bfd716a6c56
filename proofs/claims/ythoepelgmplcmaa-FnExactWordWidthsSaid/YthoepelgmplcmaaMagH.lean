/-
  The laws' helpers over magazines by contract: szMatrixSS, toMatrixSS, eqMatrixSS. Conditions: at most 2^20 in each.
-/
import Derived.Test.YthoepelgmplcmaaMag
namespace Go.Proofs.Ythoepelgmplcmaa
open Go.RowKit
set_option linter.unusedVariables false

/-- all matrices of a magazine -/
def tot (ms : List (List Mat)) : Nat := (ms.map List.length).sum
theorem tot_snoc (ms : List (List Mat)) (xs : List Mat) : tot (ms ++ [xs]) = tot ms + xs.length := by unfold tot; simp
theorem ttake_at {ms : List (List Mat)} {k : Nat} {x : List Mat} (h : ms[k]? = some x) : ms.take (k + 1) = ms.take k ++ [x] := by
  rw [List.take_add_one, h]; rfl
theorem ttake_all {ms : List (List Mat)} {n : Nat} (h : ms.length = n) : ms.take n = ms := List.take_of_length_le (by omega)
theorem tot_le {ms : List (List Mat)} {k : Nat} {x : List Mat} (h : ms[k]? = some x) : tot (ms.take k) + x.length ≤ tot ms := by
  have h1 : tot (ms.take (k + 1)) ≤ tot ms := by
    have e : ms = ms.take (k + 1) ++ ms.drop (k + 1) := (List.take_append_drop _ _).symm
    have : tot ms = tot (ms.take (k + 1)) + tot (ms.drop (k + 1)) := by
      conv => lhs; rw [e]
      unfold tot; rw [List.map_append, List.sum_append]
    omega
  rw [ttake_at h, tot_snoc] at h1
  exact h1
theorem szMatrixS_any (A : Option Addr) (n c : Nat) (left : Int) (w : World) (hm : n ≤ maxLen) (h0 : 0 ≤ left) (h1 : left ≤ 1048576) :
    Calls Try.prog 104 #[.slice A n c, .int .i64 left] w fun e w' => e = .returned (.int .i64 (takeOff left n)) ∧ w = w' := by
  unfold maxLen at hm
  by_cases hlt : left < n
  · have Hk : Hid (takeOff left n = -1) := by show _ = _; unfold takeOff; rw [if_pos hlt]
    go_enter Try.func104, Try.ntmps104
    go_wp2
    go_ret
    exact ⟨ret_int Hk.out.symm, rfl⟩
  · have Hk : Hid (takeOff left n = left - n) := by show _ = _; unfold takeOff; rw [if_neg hlt]
    go_enter Try.func104, Try.ntmps104
    go_wp2
    go_ret
    exact ⟨ret_int Hk.out.symm, rfl⟩

def magBig (ms : List (List Mat)) : Nat := ms.length + tot ms



set_option maxHeartbeats 800000 in
theorem szMatrixSS_any (lo hi : Nat) (A : Option Addr) (n c : Nat) (ms : List (List Mat)) (left : Int) (w : World) (hn : ms.length = n) (hm : n ≤ maxLen) (h : MagI w lo hi A ms) (h0 : 0 ≤ left) (h1 : left ≤ 1048576) :
    Calls Try.prog 103 #[.slice A n c, .int .i64 left] w fun e w' => e = .returned (.int .i64 (takeOff left (magBig ms))) ∧ w = w' := by
  have hm0 := hm
  unfold maxLen at hm
  have Hn := Lib.hid hn; clear hn
  by_cases hlt : left < n
  · have Hk : Hid (takeOff left (magBig ms) = -1) := takeOff_bad (by unfold magBig; rw [Hn.out]; omega)
    go_enter Try.func103, Try.ntmps103
    go_wp2
    go_ret
    exact ⟨ret_int Hk.out.symm, rfl⟩
  · have hd : decide (left - (n : Int) < 0) = false := by rw [decide_eq_false_iff_not]; omega
    go_enter Try.func103, Try.ntmps103
    go_wp2
    go_loop [1, 5] (fun l i => ∃ (k : Nat) (q : Int), k ≤ n ∧ i = .int .i64 k ∧ l = .int .i64 q ∧ 0 ≤ q ∧ q ≤ 1048576 ∧ q = left - n - tot (ms.take k)) (fun _ i => n - (intOf i).toNat)
    case atStart => exact ⟨0, _, Nat.zero_le _, rfl, rfl, by omega, by omega, by simp [tot]⟩
    case round =>
      obtain ⟨k, q, hk, rfl, rfl, hq0, hq1, hq⟩ := hrel
      have Hq := Lib.hid hq; clear hq
      by_cases hkn : k < n
      · obtain ⟨ad, xs, Aj, cj, rfl, hx, hc, hc1, hc2, -⟩ := h.at_ (k := k) (by rw [Hn.out]; exact hkn)
        have ht := tot_le hx.out
        have hs := tot_snoc (ms.take k) xs
        rw [← ttake_at hx.out] at hs
        have HT := Lib.hid ht; have HS := Lib.hid hs
        have hxl : xs.length ≤ maxLen := by omega
        clear ht hs h
        by_cases hb : q < xs.length
        · have Hk : Hid (takeOff left (magBig ms) = -1) := takeOff_bad (by unfold magBig; rw [Hn.out]; have := HT.out; have := Hq.out; omega)
          have Hr : Hid (takeOff q xs.length = -1) := takeOff_bad hb
          clear hb
          go_wp2_with fail
          refine (szMatrixS_any _ _ _ _ _ hxl hq0 hq1).mono ?_
          rintro e w' ⟨rfl, rfl⟩
          rw [Hr.out]
          go_wp2
          go_ret
          exact ⟨ret_int Hk.out.symm, rfl⟩
        · have Hr : Hid (takeOff q xs.length = q - xs.length) := takeOff_good hb
          have HQ : Hid (q - xs.length = left - n - tot (ms.take (k + 1))) := by show _ = _; rw [HS.out]; have := Hq.out; omega
          go_wp2_with fail
          refine (szMatrixS_any _ _ _ _ _ hxl hq0 hq1).mono ?_
          rintro e w' ⟨rfl, rfl⟩
          rw [Hr.out]
          have hq2 : 0 ≤ q - xs.length := by omega
          have hq3 : q - xs.length ≤ 1048576 := by omega
          clear hb
          go_wp2
          go_round
          case rel => exact ⟨k + 1, _, by omega, by go_num, rfl, hq2, hq3, HQ.out⟩
          case measure => simp [intOf]; omega
      · have hkn' : k = n := by omega
        subst hkn'
        have Hk : Hid (takeOff left (magBig ms) = q) := by
          show _ = _
          have := Hq.out
          rw [ttake_all Hn.out] at this
          rw [takeOff_good (by unfold magBig; rw [Hn.out]; omega)]
          unfold magBig; rw [Hn.out]; omega
        go_wp2
        go_ret
        exact ⟨ret_int Hk.out.symm, rfl⟩

theorem rowInfo : (Try.prog.info? 32).map (fun i => (i.zero, i.size, i.bytes)) = some (some (.slice none 0 0), 1, 24) := by kernel_rfl

/-- the headers after k rounds -/
def halfH (hs : List Value) (n k : Nat) : List Value := hs ++ List.replicate (n - k) (.slice none 0 0)
theorem halfH_zero (n : Nat) : (madeCells (Value.slice none 0 0).cells (n * 1)).toList = halfH [] n 0 := by
  apply List.ext_getElem
  · simp [madeCells, Value.cells, halfH]
  · intro i h1 h2
    simp [madeCells, Value.cells, Nat.mod_one, halfH]
theorem halfH_set {hs : List Value} {n k : Nat} (h : Value) (hk : k < n) (hl : hs.length = k) : (halfH hs n k).set k h = halfH (hs ++ [h]) n (k + 1) := by
  unfold halfH
  rw [List.set_append, if_neg (by omega), hl, Nat.sub_self]
  have : n - k = (n - (k + 1)) + 1 := by omega
  rw [this, List.replicate_succ]
  simp

/-- the first k rows of a magazine of the call's own -/
structure Rows0 (w : World) (B : Nat) (hs : List Value) (ms : List (List Mat)) (k : Nat) : Prop where
  len : hs.length = k
  rows : ∀ (j : Nat) (xs : List Mat), j < k → ms[j]? = some xs → ∃ h : Value, hs[j]? = some h ∧ OwnM w (B + 1) h xs
  apart : ∀ (i j : Nat) (h h' : Value) (g : Nat), hs[i]? = some h → hs[j]? = some h' → h.ownBlock = some g → h'.ownBlock = some g → i = j
  low : ∀ (i : Nat) (h : Value) (g : Nat), hs[i]? = some h → h.ownBlock = some g → B < g ∧ g < w.heap.size
theorem Rows0.zero (w : World) (B : Nat) (ms : List (List Mat)) : Rows0 w B [] ms 0 :=
  ⟨rfl, fun _ _ h => absurd h (by omega), fun i j h h' g e => by simp at e, fun i h g e => by simp at e⟩
theorem Rows0.step {w w' : World} {B : Nat} {hs : List Value} {ms : List (List Mat)} {k : Nat} {h : Value} {xs : List Mat} (r : Rows0 w B hs ms k) (hb : Below w.heap.size w w') (hB : B < w.heap.size) (hx : ms[k]? = some xs) (ho : OwnM w' w.heap.size h xs) :
    Rows0 w' B (hs ++ [h]) ms (k + 1) where
  len := by rw [List.length_append, r.len]; rfl
  rows := fun j ys hj hy => by
    by_cases e : j = k
    · subst e
      rw [hx] at hy
      injection hy with hy
      subst hy
      exact ⟨h, by rw [List.getElem?_append_right (by rw [r.len]; exact Nat.le_refl _), r.len]; simp, ho.base (by omega)⟩
    · obtain ⟨h', e', ho'⟩ := r.rows j ys (by omega) hy
      exact ⟨h', by rw [List.getElem?_append_left (by rw [r.len]; omega)]; exact e', ho'.below hb⟩
  apart := fun i j a b g hi hj hga hgb => by
    have key : ∀ (i : Nat) (a : Value), (hs ++ [h])[i]? = some a → (i < k ∧ hs[i]? = some a) ∨ (i = k ∧ a = h) := fun i a hi => by
      by_cases hlt : i < k
      · rw [List.getElem?_append_left (by rw [r.len]; exact hlt)] at hi; exact .inl ⟨hlt, hi⟩
      · rw [List.getElem?_append_right (by rw [r.len]; omega), r.len] at hi
        have : i - k = 0 := by
          rcases Nat.eq_zero_or_pos (i - k) with h0 | h0
          · exact h0
          · rw [List.getElem?_eq_none (by simp; omega)] at hi; cases hi
        rw [this] at hi
        simp at hi
        exact .inr ⟨by omega, hi.symm⟩
    rcases key i a hi with ⟨h1, e1⟩ | ⟨h1, e1⟩ <;> rcases key j b hj with ⟨h2, e2⟩ | ⟨h2, e2⟩
    · exact r.apart i j a b g e1 e2 hga hgb
    · subst e2
      have := (r.low i a g e1 hga).2
      have := (ho.lt g hgb).1
      omega
    · subst e1
      have := (r.low j b g e2 hgb).2
      have := (ho.lt g hga).1
      omega
    · omega
  low := fun i a g hi hg => by
    by_cases hlt : i < k
    · rw [List.getElem?_append_left (by rw [r.len]; exact hlt)] at hi
      have := r.low i a g hi hg
      have := hb.size
      omega
    · rw [List.getElem?_append_right (by rw [r.len]; omega), r.len] at hi
      have : i - k = 0 := by
        rcases Nat.eq_zero_or_pos (i - k) with h0 | h0
        · exact h0
        · rw [List.getElem?_eq_none (by simp; omega)] at hi; cases hi
      rw [this] at hi
      simp at hi
      subst hi
      have := ho.lt g hg
      omega
theorem OwnM.setB {w : World} {B : Nat} {v : Value} {xs : List Mat} (h : OwnM w B v xs) {a : Addr} (ha : a.block < B) (u : Value) : OwnM (w.setCell a u) B v xs := ownsRow_setCell_below h ha u
theorem Rows0.set {w : World} {B : Nat} {hs : List Value} {ms : List (List Mat)} {k : Nat} (r : Rows0 w B hs ms k) {a : Addr} (ha : a.block ≤ B) (u : Value) : Rows0 (w.setCell a u) B hs ms k where
  len := r.len
  rows := fun j xs hj hx => by
    obtain ⟨h, e, ho⟩ := r.rows j xs hj hx
    exact ⟨h, e, ho.setB (by omega) u⟩
  apart := r.apart
  low := fun i h g hi hg => by have := r.low i h g hi hg; simp only [World.setCell, Array.size_modify]; exact this

set_option maxRecDepth 100000 in
set_option maxHeartbeats 800000 in
theorem toMatrixSS_any (lo hi : Nat) (A : Option Addr) (n c : Nat) (ms : List (List Mat)) (w : World) (hn : ms.length = n) (hm : n ≤ 1048576) (hlim : ∀ xs ∈ ms, xs.length ≤ 1048576) (hhi : hi ≤ w.heap.size) (h : MagI w lo hi A ms) :
    Calls Try.prog 108 #[.slice A n c] w fun e w' => ∃ v hs, e = .returned v ∧ OwnMag w' w.heap.size w'.heap.size v hs ms ∧ Below w.heap.size w w' := by
  have Hn := Lib.hid hn; have Hlim := Lib.hid hlim
  clear hn hlim
  obtain ⟨i0, hi0, hz0, hz1, hz2⟩ := info_parts rowInfo
  go_enter Try.func108, Try.ntmps108
  go_wp2_with (at_make; refine wpList_make_full _ rfl (.tmp 6) (.tmp 6) 26 rfl w.heap.size 32 i0 (.slice none 0 0) 1 Try.underlying26 hi0 hz0 hz1 .i64 .i64 (n : Int) (n : Int) n rfl rfl rfl rfl (by rw [hz2]; omega) (by unfold maxLen; omega) (Nat.le_refl _) ?_; intro w1 hown1 hg1; rw [halfH_zero] at hown1)
  have hb1 : Below w.heap.size w w1 := (Below.refl _ _).grown hg1 (Nat.le_refl _) (fun k hk => by cases hk)
  have hz : w.heap.size < w1.heap.size := (World.ownsRow.lt hown1 w.heap.size rfl).2
  clear hg1
  go_loopw [4] (fun i wr => ∃ (k : Nat) (hs : List Value), k ≤ n ∧ i = .int .i64 k ∧ wr.ownsRow w.heap.size 32 1 (.slice (some ⟨w.heap.size, 0, none⟩) n n) n (halfH hs n k) ∧ Below w.heap.size w wr ∧ w.heap.size < wr.heap.size ∧ Rows0 wr w.heap.size hs ms k) (fun i _ => n - (intOf i).toNat)
  case atStart => exact ⟨0, [], Nat.zero_le _, rfl, hown1, hb1, hz, Rows0.zero _ _ _⟩
  case round =>
    clear hown1 hb1 hz
    obtain ⟨k, hs, hk, rfl, hown, hb, hzr, hr⟩ := hrel
    have HO := Lib.hid hown; have HB := Lib.hid hb; have HR := Lib.hid hr
    clear hown hb hr
    by_cases hlt : k < n
    · obtain ⟨ad, xs, Aj, cj, rfl, hx, hc, hcap, hcm, hI⟩ := (h.below hhi HB.out).at_ (k := k) (by rw [Hn.out]; exact hlt)
      have HH := Lib.hid h; have HI := Lib.hid hI
      have hxl := Hlim.out xs (List.mem_of_getElem? hx.out)
      clear h hI
      go_wp2_with fail
      refine (toMatrixS_any lo hi _ _ _ xs _ rfl hxl (Nat.le_trans hhi HB.out.size) HI.out).mono ?_
      rintro e w2 ⟨v, rfl, hO2, hb2⟩
      have hown2 : w2.ownsRow w.heap.size 32 1 (.slice (some ⟨w.heap.size, 0, none⟩) n n) n (halfH hs n k) := row_keep HO.out hb2
      obtain ⟨v1, hv1⟩ : ∃ v, (halfH hs n k)[k]? = some v := ⟨.slice none 0 0, by
        unfold halfH
        rw [List.getElem?_append_right (by rw [HR.out.len]; exact Nat.le_refl _), HR.out.len, Nat.sub_self, List.getElem?_replicate, if_pos (by omega)]⟩
      have d1 := (hown2.cellAt k (by omega)).trans hv1
      have f1 := hown2.frozenAt k
      obtain ⟨Av, cv, hvv, _⟩ := hO2.form
      subst hvv
      have hst := (hown2.stored k (.slice Av xs.length cv)).1
      rw [halfH_set _ hlt HR.out.len] at hst
      have HS := Lib.hid hst
      have HR2 := Lib.hid ((HR.out.step hb2 hzr hx.out hO2).set (a := ⟨w.heap.size, k, none⟩) (Nat.le_refl _) (.slice Av xs.length cv))
      have HB2 := Lib.hid ((HB.out.trans (hb2.mono HB.out.size)).setCell (p := ⟨w.heap.size, k, none⟩) (Nat.le_refl _) (.slice Av xs.length cv))
      have hz2 : w.heap.size < (w2.setCell ⟨w.heap.size, k, none⟩ (.slice Av xs.length cv)).heap.size := by
        have := hb2.size
        simp only [World.setCell, Array.size_modify]; omega
      have HZ := Lib.hid hz2
      clear hst hv1 hown2 hb2 hO2 hz2
      go_wp2
      go_roundw
      case rel => exact ⟨k + 1, _, by omega, by go_num, HS.out, HB2.out, HZ.out, HR2.out⟩
      case measure => simp [intOf]; omega
    · have hkn : k = n := by omega
      subst hkn
      go_wp2
      go_ret
      have hfull : halfH hs k k = hs := by unfold halfH; simp
      have hO := HO.out
      rw [hfull] at hO
      refine ⟨_, hs, rfl, ⟨by rw [Hn.out]; exact hO, fun j xs hx => ?_, HR.out.apart, fun i a g hi hg => ?_, fun g hg => ?_⟩, HB.out⟩
      · obtain ⟨a, e, ho⟩ := HR.out.rows j xs (by rw [← Hn.out]; exact (List.getElem?_eq_some_iff.1 hx).1) hx
        exact ⟨a, e, ho.base (by omega)⟩
      · have := HR.out.low i a g hi hg
        refine ⟨?_, this.2⟩
        intro e
        have e2 : w.heap.size = g := Option.some.inj e
        omega
      · injection hg with e
        subst e
        exact hzr
end Go.Proofs.Ythoepelgmplcmaa
