/-
  The marks of the laws on fonts and magazines of the call's own, by contract. Conditions: sizes of at most 2^20.
-/
import Derived.Test.YthoepelgmplcmaaMark
namespace Go.Proofs.Ythoepelgmplcmaa
open Go.RowKit
set_option linter.unusedVariables false

set_option maxHeartbeats 400000 in
/-- markIntS writes k, k + 1, .. into a row of the call's own, and returns the number behind the last. -/
theorem markIntS_wide (B : Nat) (v : Value) (k : Int) (zs : List Int) (w : World) (hk0 : 0 ≤ k) (hk1 : k ≤ 4194304) (hl : zs.length ≤ 1048576) (h : Own w B v zs) :
    Calls Try.prog 49 #[v, .int .i64 k] w fun e w' => e = .returned (.int .i64 (k + zs.length)) ∧ Own w' B v (upFrom k zs.length) ∧ w.grownBy w' v.ownBlock := by
  rcases h.2 with ⟨rfl, hn⟩ | ⟨g, cap, cur, rfl, hg, hh, hrest⟩
  · have hz : zs = [] := List.eq_nil_of_length_eq_zero hn
    subst hz
    go_enter Try.func49, Try.ntmps49
    go_wp2
    refine wp_loop_rounds 1 ?_
    rw [rounds_succ]
    go_wp2
    go_ret
    exact ⟨ret_int (by simp), h, World.grownBy.refl w _⟩
  · obtain ⟨n, hn⟩ : ∃ n, zs.length = n := ⟨_, rfl⟩
    have hO := h
    unfold Own at hO
    rw [hn] at hO hl ⊢
    have Hn := Lib.hid hn
    have HO := Lib.hid hO
    clear hn hO h hh hrest cur hg
    go_enter Try.func49, Try.ntmps49
    go_wp2
    go_loopw [1, 5] (fun q i wr => ∃ j : Nat, j ≤ n ∧ i = .int .i64 j ∧ q = .int .i64 (k + j) ∧ wr.ownsRow B 3 1 (.slice (some ⟨g, 0, none⟩) n cap) n ((marked zs k j).map (Value.int .i64)) ∧ w.grownBy wr (some g)) (fun _ i _ => n - (intOf i).toNat)
    case atStart => exact ⟨0, Nat.zero_le _, rfl, by simp, by have := HO.out; simpa [marked, upFrom] using this, World.grownBy.refl w _⟩
    case round =>
      obtain ⟨j, hj, rfl, rfl, hown, hgr⟩ := hrel
      by_cases hlt : j < n
      · have hlz : j < zs.length := by rw [Hn.out]; exact hlt
        obtain ⟨v0, hv0⟩ : ∃ v0, ((marked zs k j).map (Value.int .i64))[j]? = some v0 := ⟨_, List.getElem?_eq_getElem (by rw [List.length_map, marked_len _ _ _ (by omega)]; exact hlz)⟩
        have hd := (hown.cellAt j (by omega)).trans hv0
        have hf := hown.frozenAt j
        have hst := hown.stored j (.int .i64 (k + (j : Int)))
        rw [← List.map_set, marked_set hlz] at hst
        have HS := Lib.hid hst.1
        have HG := Lib.hid (grown_set hgr j (.int .i64 (k + (j : Int))))
        clear hst hv0 hown hgr hlz
        go_wp2
        go_roundw
        case rel => exact ⟨j + 1, by omega, by go_num, by go_num, HS.out, HG.out⟩
        case measure => simp [intOf]; omega
      · have hjn : j = n := by omega
        subst hjn
        go_wp2
        go_ret
        refine ⟨rfl, ?_, hgr⟩
        unfold Own
        rw [upFrom_len, ← Hn.out, ← marked_full, Hn.out]
        exact hown

set_option maxHeartbeats 800000 in
theorem markFont_wide (lo hi : Nat) (v : Value) (f : Fnt) (k : Int) (w : World) (h : FontO w lo hi v f) (hlo : lo ≤ w.heap.size) (hhi : hi ≤ w.heap.size) (hs : Small f) (hk0 : 0 ≤ k) (hk1 : k ≤ 1048576) :
    Calls Try.prog 43 #[v, .int .i64 k] w fun e w' => e = .returned (.int .i64 (k + f.ws.length + f.cs.length)) ∧ Chg lo hi w w' := by
  obtain ⟨A, c, A2, d, mid, rfl, hO1, hm1, hO2, hm2, h3, h4, hss⟩ := h
  obtain ⟨s, ws, cs⟩ := f
  obtain ⟨hs1, hs2, hs3⟩ := hs
  simp only at *
  obtain ⟨n, hn⟩ : ∃ n, ws.length = n := ⟨_, rfl⟩
  obtain ⟨m, hm⟩ : ∃ m, cs.length = m := ⟨_, rfl⟩
  have Hn := Lib.hid hn; have Hm := Lib.hid hm
  rw [hn] at hO1 hm1 hs2
  rw [hm] at hO2 hm2 hs3
  rw [hn, hm]
  have hL1 := Lib.hid (fun g hg => World.ownsRow.lt hO1 g hg)
  have hL2 := Lib.hid (fun g hg => World.ownsRow.lt hO2 g hg)
  have hW : Below w.heap.size w (w.alloc (.cells #[.string s, .slice A n c, .slice A2 m d] 25)) := (Below.refl _ _).alloc (Nat.le_refl _) _
  have G1 := Lib.hid (hO1.below hW); have G2 := Lib.hid (hO2.below hW)
  have HW := Lib.hid hW; have M1 := Lib.hid hm1; have M2 := Lib.hid hm2
  clear hn hm hO1 hO2 hW hm1 hm2
  go_enter Try.func43, Try.ntmps43
  go_wp2_with fail
  refine (markIntS_wide lo _ _ ws _ hk0 (by omega) (by rw [Hn.out]; exact hs2) G1.out).mono ?_
  rintro e w1 ⟨rfl, hP1, hg1⟩
  rw [Hn.out]
  have c1 : Chg lo hi (w.alloc (.cells #[.string s, .slice A n c, .slice A2 m d] 25)) w1 := Chg.of_grown hg1 (fun g hg => ⟨(hL1.out g hg).1, by have := M1.out g hg; omega⟩)
  have O2 : Own w1 mid (.slice A2 m d) cs := by
    refine (Chg.of_grown (lo := lo) (hi := mid) hg1 (fun g hg => ⟨(hL1.out g hg).1, M1.out g hg⟩)).own G2.out fun g hg => ?_
    have := (hL2.out g hg).1; omega
  have k2 : w1.cell? ⟨w.heap.size, 2, none⟩ = some (.slice A2 m d) := by
    rw [c1.cell (by simp) (by simp <;> omega)]
    rw [World.cell?_alloc_at _ _ _ _ rfl]; rfl
  have C1 := Lib.hid c1
  have P2 := Lib.hid O2
  clear hP1 hg1 c1 O2
  go_wp2_with fail
  refine (markIntS_wide mid _ _ cs _ (by omega) (by omega) (by rw [Hm.out]; exact hs3) P2.out).mono ?_
  rintro e w2 ⟨rfl, hP2, hg2⟩
  rw [Hm.out]
  have C2 := Lib.hid (Chg.of_grown (lo := lo) (hi := hi) hg2 (fun g hg => ⟨by have := (hL2.out g hg).1; omega, M2.out g hg⟩))
  clear hP2 hg2
  go_wp2
  go_ret
  exact ⟨rfl, ((Chg.of_below HW.out).trans C1.out).trans C2.out⟩

/-- the magazine with k, k + 1, .. in all its matrices -/
def upMM : Int → List (List Mat) → List (List Mat)
  | _, [] => []
  | k, xs :: ms => upM k xs.length :: upMM (k + 2 * (xs.length : Int)) ms
theorem upMM_len : ∀ (ms : List (List Mat)) (k : Int), (upMM k ms).length = ms.length
  | [], _ => rfl
  | xs :: ms, k => by unfold upMM; rw [List.length_cons, upMM_len, List.length_cons]
theorem tot_cons (xs : List Mat) (ms : List (List Mat)) : tot (xs :: ms) = xs.length + tot ms := by unfold tot; simp
theorem upMM_snoc (xs : List Mat) : ∀ (ms : List (List Mat)) (k : Int), upMM k (ms ++ [xs]) = upMM k ms ++ [upM (k + 2 * (tot ms : Int)) xs.length]
  | [], k => by simp [upMM, tot]
  | ys :: ms, k => by
    rw [List.cons_append]
    unfold upMM
    rw [upMM_snoc xs ms, List.cons_append, tot_cons]
    have : k + 2 * (ys.length : Int) + 2 * (tot ms : Int) = k + 2 * ((ys.length + tot ms : Nat) : Int) := by push_cast; omega
    rw [this]
def markedMM (k : Int) (ms : List (List Mat)) (j : Nat) : List (List Mat) := upMM k (ms.take j) ++ ms.drop j
theorem markedMM_len {k : Int} {ms : List (List Mat)} {j : Nat} (h : j ≤ ms.length) : (markedMM k ms j).length = ms.length := by
  unfold markedMM; rw [List.length_append, upMM_len, List.length_take, List.length_drop]; omega
theorem markedMM_get {k : Int} {ms : List (List Mat)} {j : Nat} {xs : List Mat} (h : ms[j]? = some xs) : (markedMM k ms j)[j]? = some xs := by
  have hj := (List.getElem?_eq_some_iff.1 h).1
  have hl : (upMM k (ms.take j)).length = j := by rw [upMM_len, List.length_take]; omega
  unfold markedMM
  rw [List.getElem?_append_right (by omega), hl, Nat.sub_self, List.getElem?_drop, Nat.add_zero]
  exact h
theorem markedMM_set {k : Int} {ms : List (List Mat)} {j : Nat} {xs : List Mat} (h : ms[j]? = some xs) : (markedMM k ms j).set j (upM (k + 2 * (tot (ms.take j) : Int)) xs.length) = markedMM k ms (j + 1) := by
  have hj := (List.getElem?_eq_some_iff.1 h).1
  have hl : (upMM k (ms.take j)).length = j := by rw [upMM_len, List.length_take]; omega
  unfold markedMM
  rw [List.set_append, if_neg (by omega), hl, Nat.sub_self, ttake_at h, upMM_snoc]
  have hd : ms.drop j = ms[j] :: ms.drop (j + 1) := List.drop_eq_getElem_cons hj
  rw [hd, List.set_cons_zero, List.append_assoc]
  rfl
theorem markedMM_full {k : Int} {ms : List (List Mat)} : markedMM k ms ms.length = upMM k ms := by unfold markedMM; simp

theorem OwnMag.row {w w' : World} {B hi : Nat} {v : Value} {hs : List Value} {ms : List (List Mat)} {i : Nat} {h : Value} {xs ys : List Mat} (hM : OwnMag w B hi v hs ms) (hx : ms[i]? = some xs) (hh : hs[i]? = some h) (hl : ys.length = xs.length) (hg : w.grownBy w' h.ownBlock) (ho : OwnM w' B h ys) : OwnMag w' B hi v hs (ms.set i ys) where
  outer := by
    rw [List.length_set]
    refine World.ownsRow.kept hM.outer hg ?_
    cases hb : h.ownBlock with
    | none => cases hv : v.ownBlock with
      | none => exact .inl rfl
      | some g => exact .inr (by simp)
    | some g => exact .inr (hM.other i h g hh hb).1
  rows := fun j zs hz => by
    have hi := (List.getElem?_eq_some_iff.1 hx).1
    by_cases e : j = i
    · subst e
      rw [List.getElem?_set_self hi] at hz
      injection hz with hz
      subst hz
      exact ⟨h, hh, ho⟩
    · rw [List.getElem?_set_ne (by omega)] at hz
      obtain ⟨hj, e1, e2⟩ := hM.rows j zs hz
      refine ⟨hj, e1, e2.grown hg ?_⟩
      cases hb : hj.ownBlock with
      | none => exact .inl rfl
      | some g =>
        refine .inr fun e3 => e ?_
        exact hM.apart j i hj h g e1 hh hb e3.symm
  apart := hM.apart
  other := hM.other
  top := hM.top

set_option maxRecDepth 100000 in
set_option maxHeartbeats 800000 in
theorem markMatrixSS_any (lo hi : Nat) (v : Value) (hs : List Value) (k : Int) (ms : List (List Mat)) (w : World) (hk0 : 0 ≤ k) (hk1 : k ≤ 2097152) (hl : ms.length ≤ 1048576) (ht : tot ms ≤ 1048576) (h : OwnMag w lo hi v hs ms) :
    Calls Try.prog 125 #[v, .int .i64 k] w fun e w' => e = .returned (.int .i64 (k + 2 * tot ms)) ∧ OwnMag w' lo hi v hs (upMM k ms) ∧ Chg lo hi w w' := by
  rcases h.outer.2 with ⟨rfl, hn⟩ | ⟨g, cap, cur, rfl, hg, hh, hrest⟩
  · have hz : ms = [] := List.eq_nil_of_length_eq_zero hn
    subst hz
    go_enter Try.func125, Try.ntmps125
    go_wp2
    refine wp_loop_rounds 1 ?_
    rw [rounds_succ]
    go_wp2
    go_ret
    exact ⟨ret_int (by simp [tot]), h, Chg.refl _ _ _⟩
  · obtain ⟨n, hn⟩ : ∃ n, ms.length = n := ⟨_, rfl⟩
    rw [hn] at hl hrest h ⊢
    have Hn := Lib.hid hn
    have HO := Lib.hid h
    have HT := Lib.hid ht
    clear hn h hh hrest cur hg ht
    go_enter Try.func125, Try.ntmps125
    go_wp2
    go_loopw [1, 5] (fun q i wr => ∃ j : Nat, j ≤ n ∧ i = .int .i64 j ∧ q = .int .i64 (k + 2 * (tot (ms.take j) : Int)) ∧ OwnMag wr lo hi (.slice (some ⟨g, 0, none⟩) n cap) hs (markedMM k ms j) ∧ Chg lo hi w wr) (fun _ i _ => n - (intOf i).toNat)
    case atStart => exact ⟨0, Nat.zero_le _, rfl, by simp [tot], by have := HO.out; simpa [markedMM, upMM] using this, Chg.refl _ _ _⟩
    case round =>
      obtain ⟨j, hj, rfl, rfl, hown, hc⟩ := hrel
      by_cases hlt : j < n
      · obtain ⟨xs, hx⟩ : ∃ xs, ms[j]? = some xs := ⟨_, List.getElem?_eq_getElem (by rw [Hn.out]; exact hlt)⟩
        have htl := tot_le hx
        have htk := tot_snoc (ms.take j) xs
        rw [← ttake_at hx] at htk
        have hmx := markedMM_get (k := k) hx
        obtain ⟨hj', hhj, hoj⟩ := hown.rows j xs hmx
        have hml : (markedMM k ms j).length = n := by rw [markedMM_len (by rw [Hn.out]; omega), Hn.out]
        have ho := hown.outer
        rw [hml] at ho
        have d1 := (ho.cellAt j (by omega)).trans hhj
        have f1 := ho.frozenAt j
        have hgr := fun g' (hg' : hj'.ownBlock = some g') => And.intro (hown.blocks j hj' g' hhj hg').1 (hown.other j hj' g' hhj hg').2
        obtain ⟨Aj, cj, hvj, _⟩ := hoj.form
        subst hvj
        obtain ⟨q, hq⟩ : ∃ q, k + 2 * (tot (ms.take j) : Int) = q := ⟨_, rfl⟩
        have hTo := HT.out
        have hq0 : 0 ≤ q := by omega
        have hq1 : q ≤ 4194304 := by omega
        have hxl : xs.length ≤ 1048576 := by omega
        have hset := markedMM_set (k := k) hx
        rw [hq] at hset
        have HQ : Hid (q + 2 * (xs.length : Int) = k + 2 * (tot (ms.take (j + 1)) : Int)) := by show _ = _; rw [htk, ← hq]; push_cast; omega
        have HX := Lib.hid hmx; have HH := Lib.hid hhj; have HOJ := Lib.hid hoj; have HM := Lib.hid hown; have HC := Lib.hid hc
        have HS := Lib.hid hset; have HG := Lib.hid hgr
        rw [hq]
        clear hTo hset hgr hq hml ho hoj hown hmx hhj htl htk hc hx
        go_wp2_with fail
        refine (markMatrixS_any lo _ q xs _ hq0 hq1 hxl HOJ.out).mono ?_
        rintro e w2 ⟨rfl, ho2, hg2⟩
        have HM2 := HM.out.row HX.out HH.out (by rw [upM_len]) hg2 ho2
        rw [HS.out] at HM2
        have HM3 := Lib.hid HM2
        have HC2 := Lib.hid (HC.out.trans (Chg.of_grown hg2 HG.out))
        rw [HQ.out]
        clear HM2 ho2 hg2
        go_wp2
        go_roundw
        case rel => exact ⟨j + 1, by omega, by go_num, rfl, HM3.out, HC2.out⟩
        case measure => simp [intOf]; omega
      · have hjn : j = n := by omega
        subst hjn
        rw [ttake_all Hn.out]
        go_wp2
        go_ret
        refine ⟨rfl, ?_, hc⟩
        rw [← Hn.out, markedMM_full] at hown
        rw [Hn.out] at hown
        exact hown
end Go.Proofs.Ythoepelgmplcmaa
