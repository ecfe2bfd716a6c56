/-
  Contracts and plain mathematics (Kind, CntWorn, RndM, SwtM), each with its conditions in its own statement.
-/
import Derived.Test.YtdijlofcgcikjaaDoorCntMag
import Derived.Test.YtdijlofcgcikjaaDoorSwpL
import Derived.Test.YtdijlofcgcikjaaDoorTakeI
namespace Go.Proofs.YtdijlofcgcikjaaDoor
open Go.RowKit
set_option linter.unusedVariables false

def kAdd (l : List Int) (x : Mat) : List Int := l.set x.1.toNat (l.getD x.1.toNat 0 + 1)
def kRow (l : List Int) (xs : List Mat) : List Int := xs.foldl kAdd l
def kAll (n : Nat) (ms : List (List Mat)) : List Int := ms.foldl kRow (List.replicate n 0)
def kindL (f : Fnt) (ms : List (List Mat)) : List Int := if magB f ms then kAll ms.length ms else []
theorem kRow_succ {l : List Int} {xs : List Mat} {k : Nat} {x : Mat} (hx : xs[k]? = some x) : kRow l (xs.take (k + 1)) = kAdd (kRow l (xs.take k)) x := by
  unfold kRow; rw [mtake_at hx, List.foldl_append]; rfl
theorem kAll_succ {n : Nat} {ms : List (List Mat)} {k : Nat} {xs : List Mat} (hx : ms[k]? = some xs) : kAll n (ms.take (k + 1)) = kRow (kAll n (ms.take k)) xs := by
  unfold kAll; rw [ttake_at hx, List.foldl_append]; rfl
theorem kRow_len (xs : List Mat) : ∀ l, (kRow l xs).length = l.length := by
  induction xs with
  | nil => exact fun l => rfl
  | cons x xs ih => exact fun l => (ih (kAdd l x)).trans (by unfold kAdd; rw [List.length_set])
theorem kAll_len (n : Nat) (ms : List (List Mat)) : (kAll n ms).length = n := by
  unfold kAll
  have : ∀ (ms : List (List Mat)) (l : List Int), (ms.foldl kRow l).length = l.length := by
    intro ms
    induction ms with
    | nil => exact fun l => rfl
    | cons xs ms ih => exact fun l => (ih (kRow l xs)).trans (kRow_len xs l)
  rw [this, List.length_replicate]
theorem kindL_len (f : Fnt) (ms : List (List Mat)) (h : ms.length ≤ 1048576) : (kindL f ms).length ≤ 1048576 := by
  unfold kindL; split
  · rw [kAll_len]; exact h
  · simp
def between (l : List Int) (b : Nat) : Prop := ∀ z ∈ l, 0 ≤ z ∧ z ≤ b
theorem between_getD {l : List Int} {b : Nat} (h : between l b) (i : Nat) : 0 ≤ l.getD i 0 ∧ l.getD i 0 ≤ b := by
  simp only [List.getD]
  cases hi : l[i]? with
  | none => simp
  | some z => exact h z (List.mem_of_getElem? hi)
theorem between_add {l : List Int} {b : Nat} (h : between l b) (x : Mat) : between (kAdd l x) (b + 1) := by
  intro z hz
  unfold kAdd at hz
  rcases List.mem_or_eq_of_mem_set hz with hz | rfl
  · have := h z hz; omega
  · have := between_getD h x.1.toNat; omega
theorem between_row {l : List Int} {b : Nat} (h : between l b) (xs : List Mat) : ∀ k, k ≤ xs.length → between (kRow l (xs.take k)) (b + k)
  | 0, _ => h
  | k + 1, hk => by
    have hx : xs[k]? = some (xs[k]'(by omega)) := List.getElem?_eq_getElem (by omega)
    rw [kRow_succ hx]
    exact between_add (between_row h xs k (by omega)) _
theorem between_all {n : Nat} {ms : List (List Mat)} (h : ∀ xs ∈ ms, xs.length ≤ 20) : ∀ k, k ≤ ms.length → between (kAll n (ms.take k)) (20 * k)
  | 0, _ => by intro z hz; simp [kAll] at hz; omega
  | k + 1, hk => by
    have hx : ms[k]? = some (ms[k]'(by omega)) := List.getElem?_eq_getElem (by omega)
    rw [kAll_succ hx]
    have h1 := between_all (n := n) h k (by omega)
    have h2 := between_row h1 (ms[k]'(by omega)) (ms[k]'(by omega)).length (Nat.le_refl _)
    rw [List.take_of_length_le (Nat.le_refl _)] at h2
    have h3 := h _ (List.mem_of_getElem? hx)
    intro z hz
    have := h2 z hz
    omega
theorem kAdd_set {l : List Int} {x : Mat} {m : Nat} (h : x.1 = (m : Int)) : (l.map (Value.int .i64)).set m (.int .i64 (l.getD m 0 + 1)) = (kAdd l x).map (Value.int .i64) := by
  unfold kAdd; rw [h, Int.toNat_natCast, List.map_set]

set_option maxRecDepth 100000 in
set_option maxHeartbeats 3200000 in
theorem implKind_any (lo hi lo2 hi2 : Nat) (v : Value) (f : Fnt) (A : Option Addr) (n c : Nat) (ms : List (List Mat)) (w : World) (h : FontV w lo hi v f) (hhi : hi ≤ w.heap.size) (hs : Small f) (hn : ms.length = n) (hm : n ≤ 1048576) (hM : MagI w lo2 hi2 A ms) (hhi2 : hi2 ≤ w.heap.size) (wf : wfM ms) :
    Calls Tryd.prog 15 #[v, .slice A n c] w fun e w' => ∃ u, e = .returned u ∧ Own w' w.heap.size u (kindL f ms) ∧ Below w.heap.size w w' := by
  obtain ⟨B, d, B2, d2, hv⟩ := fontForm h
  obtain ⟨s, hs0⟩ : ∃ s, f.s = s := ⟨_, rfl⟩
  obtain ⟨p, hp⟩ : ∃ n, f.ws.length = n := ⟨_, rfl⟩
  obtain ⟨q, hq⟩ : ∃ m, f.cs.length = m := ⟨_, rfl⟩
  rw [hs0, hp, hq] at hv
  rw [hv] at h
  rw [hv]
  have hW : Below w.heap.size w (w.alloc (.cells #[.string s, .slice B p d, .slice B2 q d2] 25)) := (Below.refl _ _).alloc (Nat.le_refl _) _
  have V0 := Lib.hid (h.below hhi hW)
  have M0 := Lib.hid (hM.below hhi2 hW)
  have T0 := Lib.hid hW
  have Hn := Lib.hid hn
  have HS := Lib.hid hs
  have Hs0 := Lib.hid hs0
  clear hp hq h hW hM hn hs hv hs0
  cases hmg : magB f ms
  · have HR : Hid (kindL f ms = []) := by show _ = _; unfold kindL; rw [hmg]; rfl
    go_enter Tryd.func15, Tryd.ntmps15
    go_wp2_with (go_at_call 19; refine (implMagOk_any lo hi lo2 hi2 _ f _ _ _ ms _ V0.out (by simp; omega) HS.out Hn.out hm M0.out (by simp; omega) wf).mono ?_; rintro e w1 ⟨rfl, hb1⟩; have T1 := Lib.hid (T0.out.trans (hb1.mono (by simp))); clear hb1)
    go_ret
    exact ⟨_, rfl, by rw [HR.out]; exact World.ownsRow_nil _ _ _ _, T1.out⟩
  obtain ⟨hf, hlen, hrows⟩ := magB_rows hmg
  have hfs := fontB_size hf
  have HR : Hid (kindL f ms = kAll n ms) := by show _ = _; unfold kindL; rw [hmg, Hn.out]; rfl
  have HF := Lib.hid hf; have Hrows := Lib.hid hrows
  have hn40 : n ≤ 40 := by rw [← Hn.out, hlen]; omega
  have HL := Lib.hid (between_all (n := n) (fun xs hx => (hrows xs hx).1))
  have Hlen := Lib.hid hlen
  clear hf hlen hrows hfs
  go_enter Tryd.func15, Tryd.ntmps15
  go_wp2_with (first
    | (go_at_call 19; refine (implMagOk_any lo hi lo2 hi2 _ f _ _ _ ms _ V0.out (by simp; omega) HS.out Hn.out hm M0.out (by simp; omega) wf).mono ?_; rintro e w1 ⟨rfl, hb1⟩; have T1 := Lib.hid (T0.out.trans (hb1.mono (by simp))); have M1 := Lib.hid (M0.out.below (by simp; omega) hb1); have s1 : w.heap.size + 1 ≤ w1.heap.size := (by have := hb1.size; simpa using this); clear hb1)
    | (at_make; refine wpl_make_int _ rfl _ rfl n _ rfl rfl (by omega) ?_; intro w2 hown2 hb2))
  have HO2 := Lib.hid hown2; have HB2 := Lib.hid hb2
  clear hown2 hb2 V0 T0 M0
  go_loopw [19] (fun i wr => ∃ k : Nat, k ≤ n ∧ i = .int .i64 k ∧ wr.ownsRow w1.heap.size 3 1 (.slice (some ⟨w1.heap.size, 0, none⟩) n n) n ((kAll n (ms.take k)).map (Value.int .i64)) ∧ Below w1.heap.size w1 wr) (fun i _ => n - (intOf i).toNat)
  case atStart => exact ⟨0, Nat.zero_le _, rfl, by have := HO2.out; simpa [kAll] using this, HB2.out⟩
  case round =>
    obtain ⟨k, hk, rfl, hown, hb⟩ := hrel
    have HB := Lib.hid hb; have HO := Lib.hid hown
    have hc0 := Lib.hid (HL.out k (by rw [Hn.out]; exact hk))
    clear hb hown
    by_cases hlt : k < n
    · obtain ⟨ad, xs, Aj, cj, rfl, hx, hc, hcap, hcm, hI⟩ := (M1.out.below (by omega) HB.out).at_ (k := k) (by rw [Hn.out]; exact hlt)
      obtain ⟨l, hl⟩ : ∃ l, xs.length = l := ⟨_, rfl⟩
      have hl20 : l ≤ 20 := by rw [← hl]; exact (Hrows.out xs (List.mem_of_getElem? hx.out)).1
      rw [hl] at hc hcap
      have HI := Lib.hid hI; have HLx := Lib.hid hl
      have HC := Lib.hid (kAll_succ (n := n) hx.out)
      clear hI hcap hcm hl
      go_wp2
      go_loopw [25] (fun i wr => ∃ j : Nat, j ≤ l ∧ i = .int .i64 j ∧ wr.ownsRow w1.heap.size 3 1 (.slice (some ⟨w1.heap.size, 0, none⟩) n n) n ((kRow (kAll n (ms.take k)) (xs.take j)).map (Value.int .i64)) ∧ Below w1.heap.size w1 wr) (fun i _ => l - (intOf i).toNat)
      case atStart => exact ⟨0, Nat.zero_le _, rfl, HO.out, HB.out⟩
      case round =>
        obtain ⟨j, hj, rfl, hown2, hb2⟩ := hrel
        have HB2 := Lib.hid hb2; have HO2 := Lib.hid hown2
        clear hb2 hown2
        by_cases hjl : j < l
        · obtain ⟨bd, x, rfl, hxj, d1, e1⟩ := (HI.out.keep (w' := wr) (fun p _ h2 => (HB2.out.cell (by omega)).trans (HB.out.cell (by omega)).symm)).at_ (k := j) (by rw [HLx.out]; exact hjl)
          have hmx := (Hrows.out xs (List.mem_of_getElem? hx.out)).2 x (List.mem_of_getElem? hxj.out)
          unfold matB at hmx
          rw [Bool.and_eq_true] at hmx
          obtain ⟨k0, k1⟩ := (inB_iff _ _ _).1 hmx.1
          obtain ⟨a, t⟩ := x
          simp only at k0 k1 d1 e1
          obtain ⟨m, rfl⟩ := Int.eq_ofNat_of_zero_le k0
          have hmn : m < n := by rw [← Hn.out, Hlen.out]; omega
          have hbd := between_getD (between_row hc0.out xs j (by rw [HLx.out]; exact hj)) m
          obtain ⟨g, hg⟩ : ∃ g, (kRow (kAll n (ms.take k)) (xs.take j)).getD m 0 = g := ⟨_, rfl⟩
          rw [hg] at hbd
          have hz := HB2.out.size
          have hwz : w1.heap.size < wr.heap.size := (World.ownsRow.lt HO2.out w1.heap.size rfl).2
          have hlen2 : (kRow (kAll n (ms.take k)) (xs.take j)).length = n := by rw [kRow_len, kAll_len]
          have hcl := (HO2.out.cellAt m (by omega)).trans (show ((kRow (kAll n (ms.take k)) (xs.take j)).map (Value.int .i64))[m]? = some (.int .i64 g) by
            rw [List.getElem?_map, List.getElem?_eq_getElem (by omega), ← hg]; simp [List.getD, hlen2, hmn])
          have hfz := HO2.out.frozenAt m
          have hst := (HO2.out.stored m (.int .i64 (g + 1))).1
          rw [← hg, kAdd_set (x := ((m : Int), t)) rfl, ← kRow_succ hxj.out, hg] at hst
          have HST := Lib.hid (World.ownsRow.alloc hst (.cells #[.int .i64 (m : Int), .int .i64 t] 30))
          have HE := Lib.hid ((HB2.out.setCell (p := ⟨w1.heap.size, m, none⟩) (Nat.le_refl _) (.int .i64 (g + 1))).alloc (by simp only [World.setCell, Array.size_modify]; exact hz) (.cells #[.int .i64 (m : Int), .int .i64 t] 30))
          have hg0 : 0 ≤ g := hbd.1
          have hg1 : g ≤ 1000 := by have := hbd.2; omega
          have hm0 : (0 : Int) ≤ (m : Int) := by omega
          have hm1 : (m : Int) < (n : Int) := by omega
          clear hst hlen2 hmx k0 k1 hbd hg
          go_wp2
          go_roundw
          case rel => exact ⟨j + 1, by omega, by go_num, HST.out, HE.out⟩
          case measure => simp [intOf]; omega
        · have hjn : j = l := by omega
          subst hjn
          have HN := HO2.out
          rw [mtake_all HLx.out, ← HC.out] at HN
          have HN2 := Lib.hid HN
          clear HN
          go_wp2
          go_roundw
          case rel => exact ⟨k + 1, by omega, by go_num, HN2.out, HB2.out⟩
          case measure => simp [intOf]; omega
    · have hkn : k = n := by omega
      subst hkn
      go_wp2
      go_ret
      refine ⟨_, rfl, ?_, T1.out.trans (HB.out.mono (by omega))⟩
      have hO := HO.out
      rw [ttake_all Hn.out] at hO
      rw [HR.out]
      refine own_baseB (B := w1.heap.size) ?_ (by omega)
      unfold Own
      rw [kAll_len]
      exact hO
end Go.Proofs.YtdijlofcgcikjaaDoor

namespace Go.Proofs.YtdijlofcgcikjaaDoor
open Go.RowKit
set_option linter.unusedVariables false

set_option maxRecDepth 100000 in
set_option maxHeartbeats 3200000 in
theorem countWorn_any (lo hi lo2 hi2 : Nat) (v : Value) (f : Fnt) (A : Option Addr) (n c : Nat) (ms : List (List Mat)) (w : World) (h : FontV w lo hi v f) (hhi : hi ≤ w.heap.size) (hs : Small f) (hn : ms.length = n) (hm : n ≤ 1048576) (hM : MagI w lo2 hi2 A ms) (hhi2 : hi2 ≤ w.heap.size) (wf : wfM ms) (g : Nat) (GB GB2 : Option Addr) (gs : ByteArray) (gp gd gq gd2 : Nat) (hg : g < w.heap.size) (hG : w.cell? ⟨g, 0, none⟩ = some (.string gs) ∧ w.cell? ⟨g, 1, none⟩ = some (.slice GB gp gd) ∧ w.cell? ⟨g, 2, none⟩ = some (.slice GB2 gq gd2)) (hgv : FontV w lo hi (.agg #[.string gs, .slice GB gp gd, .slice GB2 gq gd2]) f) :
    Calls Tryd.prog 53 #[v, .slice A n c, .func (.func 57) #[] #[.pointer (some ⟨g, 0, none⟩)]] w fun e w' => e = .returned (.int .i64 (cntI f ms (wornP f))) ∧ Below w.heap.size w w' := by
  obtain ⟨B, d, B2, d2, hv, hI2⟩ := fontForm2 h
  obtain ⟨s, hs0⟩ : ∃ s, f.s = s := ⟨_, rfl⟩
  obtain ⟨p, hp⟩ : ∃ n, f.ws.length = n := ⟨_, rfl⟩
  obtain ⟨q, hq⟩ : ∃ m, f.cs.length = m := ⟨_, rfl⟩
  rw [hs0, hp, hq] at hv
  rw [hv] at h
  rw [hv]
  have hW : Below w.heap.size w (w.alloc (.cells #[.string s, .slice B p d, .slice B2 q d2] 25)) := (Below.refl _ _).alloc (Nat.le_refl _) _
  have V0 := Lib.hid (h.below hhi hW)
  have M0 := Lib.hid (hM.below hhi2 hW)
  have X0 := Lib.hid (new3 w (.string s) (.slice B p d) (.slice B2 q d2) 25)
  have T0 := Lib.hid hW
  have C0 := Lib.hid (hI2.below hhi hW)
  have G0 := Lib.hid (keep3 hW hg hG)
  have GV0 := Lib.hid (hgv.below hhi hW)
  clear hG hgv
  have Hn := Lib.hid hn
  have HS := Lib.hid hs
  have Hq := Lib.hid hq
  clear hs0 hp hq h hW hM hn hs hv hI2
  cases hmg : magB f ms
  · have HR : Hid (cntI f ms (wornP f) = -1) := by show _ = _; unfold cntI; rw [hmg]; rfl
    go_enter Tryd.func53, Tryd.ntmps53
    go_wp2_with (go_at_call 19; refine (implMagOk_any lo hi lo2 hi2 _ f _ _ _ ms _ V0.out (by simp; omega) HS.out Hn.out hm M0.out (by simp; omega) wf).mono ?_; rintro e w1 ⟨rfl, hb1⟩; have T1 := Lib.hid (T0.out.trans (hb1.mono (by simp))); clear hb1)
    go_ret
    exact ⟨ret_int HR.out.symm, T1.out⟩
  obtain ⟨hf, hlen, hrows⟩ := magB_rows hmg
  have hfs := fontB_size hf
  have HR : Hid (cntI f ms (wornP f) = cntM (wornP f) ms n) := by show _ = _; unfold cntI; rw [hmg, Hn.out]; rfl
  have HF := Lib.hid hf; have Hrows := Lib.hid hrows
  have hn40 : n ≤ 40 := by rw [← Hn.out, hlen]; omega
  have HL := Lib.hid (cntM_le (p := wornP f) (fun xs hx => (hrows xs hx).1))
  clear hf hlen hrows hfs
  go_enter Tryd.func53, Tryd.ntmps53
  go_wp2_with fail
  refine (implMagOk_any lo hi lo2 hi2 _ f _ _ _ ms _ V0.out (by simp; omega) HS.out Hn.out hm M0.out (by simp; omega) wf).mono ?_
  rintro e w1 ⟨rfl, hb1⟩
  have T1 := Lib.hid (T0.out.trans (hb1.mono (by simp)))
  have V1 := Lib.hid (V0.out.below (by simp; omega) hb1)
  have M1 := Lib.hid (M0.out.below (by simp; omega) hb1)
  have X1 := Lib.hid (keep3 hb1 (by simp) X0.out)
  have C1 := Lib.hid (C0.out.below (by simp; omega) hb1)
  have G1 := Lib.hid (keep3 hb1 (by simp; omega) G0.out)
  have GV1 := Lib.hid (GV0.out.below (by simp; omega) hb1)
  clear G0 GV0
  have s1 := hb1.size
  simp only [World.size_alloc] at s1
  clear hb1 V0 M0 X0 T0 C0
  go_wp2
  go_loopw [7, 18] (fun u i wr => ∃ k : Nat, k ≤ n ∧ i = .int .i64 k ∧ u = .int .i64 (cntM (wornP f) ms k) ∧ Below w1.heap.size w1 wr) (fun _ i _ => n - (intOf i).toNat)
  case atStart => exact ⟨0, Nat.zero_le _, rfl, rfl, Below.refl _ _⟩
  case round =>
    obtain ⟨k, hk, rfl, rfl, hb⟩ := hrel
    have HB := Lib.hid hb
    have hc0 := HL.out k (by rw [Hn.out]; exact hk)
    clear hb
    by_cases hlt : k < n
    · obtain ⟨ad, xs, Aj, cj, rfl, hx, hc, hcap, hcm, hI⟩ := (M1.out.below (by omega) HB.out).at_ (k := k) (by rw [Hn.out]; exact hlt)
      obtain ⟨l, hl⟩ : ∃ l, xs.length = l := ⟨_, rfl⟩
      have hl20 : l ≤ 20 := by rw [← hl]; exact (Hrows.out xs (List.mem_of_getElem? hx.out)).1
      rw [hl] at hc hcap
      have HI := Lib.hid hI; have HLx := Lib.hid hl
      have HC := Lib.hid (cntM_succ (p := wornP f) hx.out)
      clear hI hcap hcm hl
      go_wp2
      go_loopw [7, 25] (fun u i wr => ∃ j : Nat, j ≤ l ∧ i = .int .i64 j ∧ u = .int .i64 (cntM (wornP f) ms k + cntR ((wornP f) k) (xs.take j) : Nat) ∧ Below w1.heap.size w1 wr) (fun _ i _ => l - (intOf i).toNat)
      case atStart => exact ⟨0, Nat.zero_le _, rfl, by simp [cntR], HB.out⟩
      case round =>
        obtain ⟨j, hj, rfl, rfl, hb2⟩ := hrel
        have HB2 := Lib.hid hb2
        have hcj := cntR_le ((wornP f) k) xs j
        clear hb2
        by_cases hjl : j < l
        · obtain ⟨bd, x, rfl, hxj, d1, e1⟩ := (HI.out.keep (w' := wr) (fun p _ h2 => (HB2.out.cell (by omega)).trans (HB.out.cell (by omega)).symm)).at_ (k := j) (by rw [HLx.out]; exact hjl)
          have hmx := (Hrows.out xs (List.mem_of_getElem? hx.out)).2 x (List.mem_of_getElem? hxj.out)
          have hz := HB2.out.size
          have hwz : w.heap.size < wr.heap.size := by omega
          have HBa := Lib.hid (HB2.out.alloc HB2.out.size (.cells #[.int .i64 x.1, .int .i64 x.2] 30))
          cases ht : (wornP f) k x
          · have HN := Lib.hid (cntR_no (q := (wornP f) k) hxj.out ht)
            have GVw := Lib.hid (GV1.out.below (B := w1.heap.size) (by omega) HBa.out)
            have Gw := Lib.hid (keep3 HBa.out (by omega) G1.out)
            go_wp2_with fail
            refine (wornF_any lo hi g GB GB2 gs gp gd gq gd2 f k x _ GVw.out (by simp; omega) HS.out HF.out hmx (by simp; omega) Gw.out).mono ?_
            rintro e w2 ⟨rfl, hbb⟩
            rw [ht]
            have HE := Lib.hid (HBa.out.trans (hbb.mono (by simp; omega)))
            clear HBa hmx ht hz hbb
            go_wp2
            go_roundw
            case rel => exact ⟨j + 1, by omega, by go_num, by (rw [HN.out]) <;> first | rfl | go_num, HE.out⟩
            case measure => simp [intOf]; omega
          · have HN := Lib.hid (cntR_yes (q := (wornP f) k) hxj.out ht)
            have GVw := Lib.hid (GV1.out.below (B := w1.heap.size) (by omega) HBa.out)
            have Gw := Lib.hid (keep3 HBa.out (by omega) G1.out)
            go_wp2_with fail
            refine (wornF_any lo hi g GB GB2 gs gp gd gq gd2 f k x _ GVw.out (by simp; omega) HS.out HF.out hmx (by simp; omega) Gw.out).mono ?_
            rintro e w2 ⟨rfl, hbb⟩
            rw [ht]
            have HE := Lib.hid (HBa.out.trans (hbb.mono (by simp; omega)))
            clear HBa hmx ht hz hbb
            go_wp2
            go_roundw
            case rel => exact ⟨j + 1, by omega, by go_num, by (rw [HN.out]) <;> first | rfl | go_num, HE.out⟩
            case measure => simp [intOf]; omega
        · have hjn : j = l := by omega
          subst hjn
          have HN : Hid (cntM (wornP f) ms k + cntR ((wornP f) k) (xs.take j) = cntM (wornP f) ms (k + 1)) := by show _ = _; rw [mtake_all HLx.out, HC.out]
          rw [HN.out]
          go_wp2
          go_roundw
          case rel => exact ⟨k + 1, by omega, by go_num, rfl, HB2.out⟩
          case measure => simp [intOf]; omega
    · have hkn : k = n := by omega
      subst hkn
      go_wp2
      go_ret
      exact ⟨ret_int HR.out.symm, T1.out.trans (HB.out.mono (by omega))⟩

set_option maxRecDepth 100000 in
set_option maxHeartbeats 1600000 in
theorem implWorn_any (lo hi lo2 hi2 : Nat) (v : Value) (f : Fnt) (A : Option Addr) (n c : Nat) (ms : List (List Mat)) (w : World) (h : FontV w lo hi v f) (hhi : hi ≤ w.heap.size) (hs : Small f) (hn : ms.length = n) (hm : n ≤ 1048576) (hM : MagI w lo2 hi2 A ms) (hhi2 : hi2 ≤ w.heap.size) (wf : wfM ms) :
    Calls Tryd.prog 20 #[v, .slice A n c] w fun e w' => e = .returned (.int .i64 (cntI f ms (wornP f))) ∧ Below w.heap.size w w' := by
  obtain ⟨B, d, B2, d2, hv⟩ := fontForm h
  obtain ⟨s, hs0⟩ : ∃ s, f.s = s := ⟨_, rfl⟩
  obtain ⟨p, hp⟩ : ∃ n, f.ws.length = n := ⟨_, rfl⟩
  obtain ⟨q, hq⟩ : ∃ m, f.cs.length = m := ⟨_, rfl⟩
  rw [hs0, hp, hq] at hv
  rw [hv] at h
  rw [hv]
  have hW : Below w.heap.size w (w.alloc (.cells #[.string s, .slice B p d, .slice B2 q d2] 25)) := (Below.refl _ _).alloc (Nat.le_refl _) _
  have V0 := Lib.hid (h.below hhi hW)
  have M0 := Lib.hid (hM.below hhi2 hW)
  have X0 := Lib.hid (new3 w (.string s) (.slice B p d) (.slice B2 q d2) 25)
  have T0 := Lib.hid hW
  have Hn := Lib.hid hn
  clear hs0 hp hq h hW hM hn hv
  have hmf : ∀ (fn : Fn) (first cap : Array Value) (w : World), (Instr.makeFunc fn first cap).run Tryd.prog w = .ok (.func fn first cap) w := fun _ _ _ _ => rfl
  go_enter Tryd.func20, Tryd.ntmps20
  go_wp2_with fail
  refine (countWorn_any lo hi lo2 hi2 _ f _ _ _ ms _ V0.out (by simp; omega) hs Hn.out hm M0.out (by simp; omega) wf w.heap.size B B2 s p d q d2 (by simp) X0.out V0.out).mono ?_
  rintro e w1 ⟨rfl, hb1⟩
  have T1 := Lib.hid (T0.out.trans (hb1.mono (by simp)))
  clear hb1
  go_wp2
  go_ret
  exact ⟨rfl, T1.out⟩
end Go.Proofs.YtdijlofcgcikjaaDoor

namespace Go.Proofs.YtdijlofcgcikjaaDoor
open Go.RowKit
set_option linter.unusedVariables false
set_option linter.unusedSimpArgs false

theorem kAdd_comm (l : List Int) (x y : Mat) : kAdd (kAdd l x) y = kAdd (kAdd l y) x := by
  unfold kAdd
  by_cases e : x.1.toNat = y.1.toNat
  · rw [e]
  · have h1 : (l.set x.1.toNat (l.getD x.1.toNat 0 + 1)).getD y.1.toNat 0 = l.getD y.1.toNat 0 := by
      simp only [List.getD]; rw [List.getElem?_set_ne e]
    have h2 : (l.set y.1.toNat (l.getD y.1.toNat 0 + 1)).getD x.1.toNat 0 = l.getD x.1.toNat 0 := by
      simp only [List.getD]; rw [List.getElem?_set_ne (fun h => e h.symm)]
    rw [h1, h2, List.set_comm _ _ e]
theorem kFold_perm {xs ys : List Mat} (h : xs.Perm ys) : ∀ l, xs.foldl kAdd l = ys.foldl kAdd l := by
  induction h with
  | nil => exact fun l => rfl
  | cons x _ ih => exact fun l => ih _
  | swap x y l' => exact fun l => by rw [List.foldl_cons, List.foldl_cons, List.foldl_cons, List.foldl_cons, kAdd_comm]
  | trans _ _ ih1 ih2 => exact fun l => (ih1 l).trans (ih2 l)
theorem kFold_flat : ∀ (ms : List (List Mat)) (l : List Int), ms.foldl kRow l = ms.flatten.foldl kAdd l
  | [], l => rfl
  | xs :: ms, l => by rw [List.foldl_cons, List.flatten_cons, List.foldl_append, kFold_flat ms]; rfl
theorem kAll_perm {n : Nat} {ms ms' : List (List Mat)} (h : ms.flatten.Perm ms'.flatten) : kAll n ms = kAll n ms' := by
  unfold kAll; rw [kFold_flat, kFold_flat]; exact kFold_perm h _
theorem flat_snoc : ∀ {L : List (List Mat)} {i : Nat} {r : List Mat} {e : Mat}, L[i]? = some r → ((L.set i (r ++ [e])).flatten).Perm (e :: L.flatten)
  | [], _, _, _, h => by simp at h
  | a :: L, 0, r, e, h => by
    have h' : a = r := by simpa using h
    subst h'
    show ((a ++ [e]) ++ L.flatten).Perm (e :: (a ++ L.flatten))
    rw [List.append_assoc]
    exact List.perm_middle
  | a :: L, i + 1, r, e, h => by
    have h' : L[i]? = some r := by simpa using h
    show (a ++ (L.set i (r ++ [e])).flatten).Perm (e :: (a ++ L.flatten))
    exact ((flat_snoc h').append_left a).trans List.perm_middle
theorem flat_tail : ∀ {L : List (List Mat)} {i : Nat} {r : List Mat} {e : Mat}, L[i]? = some (e :: r) → L.flatten.Perm (e :: (L.set i r).flatten)
  | [], _, _, _, h => by simp at h
  | a :: L, 0, r, e, h => by
    have h' : a = e :: r := by simpa using h
    subst h'
    exact List.Perm.refl _
  | a :: L, i + 1, r, e, h => by
    have h' : L[i]? = some (e :: r) := by simpa using h
    show (a ++ L.flatten).Perm (e :: (a ++ (L.set i r).flatten))
    exact ((flat_tail h').append_left a).trans List.perm_middle
theorem magB_set {f : Fnt} {ms : List (List Mat)} {i : Nat} {ys : List Mat} (h : magB f ms = true) (hy : ys.length ≤ 20 ∧ ∀ x ∈ ys, matB f x = true) : magB f (ms.set i ys) = true := by
  unfold magB at *
  simp only [Bool.and_eq_true, beq_iff_eq, List.all_eq_true] at *
  refine ⟨h.1, by rw [List.length_set]; exact h.2.1, fun xs hx => ?_⟩
  rcases List.mem_or_eq_of_mem_set hx with hx | rfl
  · exact h.2.2 xs hx
  · unfold rowB
    simp only [Bool.and_eq_true, decide_eq_true_eq, List.all_eq_true]
    exact hy
theorem take_facts {f : Fnt} {ms : List (List Mat)} {ch : Int} (h : takeOk f ms ch = true) : ∃ (i : Nat) (e : Mat) (r : List Mat), ch = (i : Int) ∧ ms[i]? = some (e :: r) ∧ takeX f ms ch = e ∧ takeL f ms ch = ms.set i r ∧ magB f ms = true ∧ matB f e = true ∧ magB f (ms.set i r) = true := by
  have h0 := h
  unfold takeOk at h0
  rw [Bool.and_eq_true, Bool.and_eq_true, decide_eq_true_eq] at h0
  obtain ⟨hm, hin, hlen⟩ := h0
  obtain ⟨h1, h2⟩ := (inB_iff _ _ _).1 hin
  obtain ⟨i, rfl⟩ := Int.eq_ofNat_of_zero_le h1
  have hi : i < ms.length := by omega
  have hx : ms[i]? = some ms[i] := List.getElem?_eq_getElem hi
  have hr := rowAt_of hx
  rw [hr] at hlen
  obtain ⟨-, -, hrows⟩ := magB_rows hm
  have hrow := hrows _ (List.mem_of_getElem? hx)
  obtain ⟨xs, hxs⟩ : ∃ xs, ms[i] = xs := ⟨_, rfl⟩
  rw [hxs] at hx hr hlen hrow
  cases xs with
  | nil => simp at hlen
  | cons e r =>
    refine ⟨i, e, r, rfl, hx, ?_, ?_, hm, hrow.2 e (by simp), magB_set hm ⟨by have := hrow.1; simp at this; omega, fun x hx => hrow.2 x (by simp [hx])⟩⟩
    · unfold takeX; rw [if_pos h, hr]; rfl
    · unfold takeL; rw [if_pos h, hr, Int.toNat_natCast]; rfl
theorem take_no {f : Fnt} {ms : List (List Mat)} {i : Nat} {xs : List Mat} (h : takeOk f ms (i : Int) = false) (hm : magB f ms = true) (hx : ms[i]? = some xs) : xs.length = 0 := by
  have hi := (List.getElem?_eq_some_iff.1 hx).1
  unfold takeOk at h
  rw [hm, rowAt_of hx, show inB (i : Int) 0 ((ms.length : Int) - 1) = true from by rw [inB_iff]; omega] at h
  simp only [Bool.true_and, decide_eq_false_iff_not] at h
  omega
theorem drop_facts {f : Fnt} {L : List (List Mat)} {e : Mat} (hm : magB f L = true) (he : matB f e = true) : ∃ (g : Nat) (q : List Mat), dropAt f e = g ∧ fallI f.cs e.2 = (g : Int) ∧ g < L.length ∧ L[g]? = some q ∧ q.length ≤ 20 ∧ dropOk f L e = decide (q.length < 20) ∧ (q.length < 20 → dropI f L e = (g : Int) ∧ dropL f L e = L.set g (q ++ [e]) ∧ magB f (L.set g (q ++ [e])) = true) := by
  have hlt := drop_lt hm he
  obtain ⟨hf, hlen, hrows⟩ := magB_rows hm
  have hx : L[fallOf f.cs e.2]? = some L[fallOf f.cs e.2] := List.getElem?_eq_getElem hlt
  have hra : rowAt L (dropAt f e) = L[fallOf f.cs e.2] := rowAt_of hx
  have hrow := hrows _ (List.mem_of_getElem? hx)
  have hok : dropOk f L e = decide (L[fallOf f.cs e.2].length < 20) := by unfold dropOk; rw [hm, he, hra]; rfl
  refine ⟨fallOf f.cs e.2, L[fallOf f.cs e.2], rfl, ?_, hlt, hx, hrow.1, hok, fun h => ?_⟩
  · obtain ⟨-, -, hb⟩ := fontB_codes hf
    unfold matB at he
    rw [Bool.and_eq_true, Bool.and_eq_true] at he
    unfold fallI
    rw [hb, he.2.1]; rfl
  · have hT : dropOk f L e = true := by rw [hok]; exact decide_eq_true h
    refine ⟨?_, ?_, ?_⟩
    · unfold dropI; rw [if_pos hT]; rfl
    · unfold dropL; rw [if_pos hT, hra]; rfl
    · refine magB_set hm ⟨by rw [List.length_append]; simp; omega, fun x hx => ?_⟩
      rcases List.mem_append.1 hx with hx | hx
      · exact hrow.2 x hx
      · rw [List.mem_singleton] at hx; subst hx; exact he
theorem whole_home {f : Fnt} {e : Mat} {k : Nat} (hf : fontB f = true) (hk : e.1 = (k : Int)) (hkl : k < f.cs.length) (h : e.2 = f.cs.getD k 0) : dropAt f e = k := by
  unfold fontB at hf
  rw [Bool.and_eq_true] at hf
  have hs := hf.1
  unfold sortsAll sortsB at hs
  rw [Bool.and_eq_true, List.all_eq_true] at hs
  have := hs.1 k (List.mem_range.2 hkl)
  unfold dropAt
  rw [h]
  exact eq_of_beq this
theorem round_kinds {f : Fnt} {ms : List (List Mat)} {i g : Nat} {e : Mat} {r q : List Mat} (hm : magB f ms = true) (hx : ms[i]? = some (e :: r)) (hq : (ms.set i r)[g]? = some q) (hm2 : magB f ((ms.set i r).set g (q ++ [e])) = true) : kindL f ((ms.set i r).set g (q ++ [e])) = kindL f ms := by
  unfold kindL
  rw [hm, hm2, if_pos rfl, if_pos rfl, List.length_set, List.length_set]
  exact kAll_perm ((flat_snoc hq).trans (flat_tail hx).symm)
end Go.Proofs.YtdijlofcgcikjaaDoor

namespace Go.Proofs.YtdijlofcgcikjaaDoor
open Go.RowKit
set_option linter.unusedVariables false
set_option linter.unusedSimpArgs false

theorem keep_str (i : Nat) : ∀ xs : List Mat, xs.Perm (keepK i xs ++ strK i xs)
  | [] => List.Perm.refl _
  | x :: xs => by
    unfold keepK strK
    rw [List.filter_cons, List.filter_cons]
    by_cases h : x.1 = (i : Int)
    · simp only [h, decide_true, Bool.not_true, if_true, List.cons_append]
      exact (keep_str i xs).cons x
    · simp only [h, decide_false, Bool.not_false, if_true]
      exact ((keep_str i xs).cons x).trans List.perm_middle.symm
theorem flat_split : ∀ {L : List (List Mat)} {i : Nat} {xs a b : List Mat}, L[i]? = some xs → xs.Perm (a ++ b) → L.flatten.Perm ((L.set i a).flatten ++ b)
  | [], _, _, _, _, h, _ => by simp at h
  | c :: L, 0, xs, a, b, h, hp => by
    have h' : c = xs := by simpa using h
    subst h'
    show (c ++ L.flatten).Perm ((a ++ L.flatten) ++ b)
    refine (hp.append_right L.flatten).trans ?_
    rw [List.append_assoc, List.append_assoc]
    exact List.perm_append_comm.append_left a
  | c :: L, i + 1, xs, a, b, h, hp => by
    have h' : L[i]? = some xs := by simpa using h
    show (c ++ L.flatten).Perm ((c ++ (L.set i a).flatten) ++ b)
    rw [List.append_assoc]
    exact (flat_split h' hp).append_left c
theorem hom_perm (ms : List (List Mat)) : ∀ i, i ≤ ms.length → ms.flatten.Perm ((hom ms i).flatten ++ strs ms i)
  | 0, _ => by rw [hom_zero]; simp [strs]
  | i + 1, hi => by
    have hx : ms[i]? = some ms[i] := List.getElem?_eq_getElem (by omega)
    have hh := hom_get (i := i) hx
    rw [if_neg (by omega)] at hh
    rw [← hom_set hx, ← strs_next hx]
    refine (hom_perm ms i (by omega)).trans ?_
    refine ((flat_split hh (keep_str i ms[i])).append_right _).trans ?_
    rw [List.append_assoc]
    exact List.perm_append_comm.append_left _
theorem go_perm : ∀ {xs : List Mat} {L L' : List (List Mat)}, (∀ x ∈ xs, 0 ≤ x.1 ∧ x.1.toNat < L.length) → sweepGo L xs = some L' → L'.flatten.Perm (L.flatten ++ xs)
  | [], L, L', _, h => by unfold sweepGo at h; injection h with h; rw [h]; simp
  | x :: xs, L, L', hk, h => by
    rw [sweepGo_cons] at h
    split at h
    · obtain ⟨h0, h1⟩ := hk x (by simp)
      obtain ⟨i, hi⟩ := Int.eq_ofNat_of_zero_le h0
      have hi1 : i < L.length := by omega
      have hx : L[i]? = some L[i] := List.getElem?_eq_getElem hi1
      rw [hi, rowAt_of hx, Int.toNat_natCast] at h
      have h2 := go_perm (fun y hy => by rw [List.length_set]; exact hk y (by simp [hy])) h
      refine h2.trans (((flat_snoc hx).append_right xs).trans ?_)
      exact List.perm_middle.symm
    · cases h
/-- each channel holds its own kind -/
def AtHome (L : List (List Mat)) : Prop := ∀ (i : Nat) (xs : List Mat), L[i]? = some xs → ∀ x ∈ xs, x.1 = (i : Int)
theorem hom_home (ms : List (List Mat)) : AtHome (hom ms ms.length) := fun i xs hx x hm => by
  cases hy : ms[i]? with
  | none => unfold hom at hx; rw [List.getElem?_mapIdx, hy] at hx; cases hx
  | some ys =>
    rw [hom_get hy, if_pos (List.getElem?_eq_some_iff.1 hy).1] at hx
    injection hx with hx
    subst hx
    exact of_decide_eq_true (List.mem_filter.1 hm).2
theorem set_home {L : List (List Mat)} {i : Nat} {r : List Mat} {x : Mat} (h : AtHome L) (hr : L[i]? = some r) (hx : x.1 = (i : Int)) : AtHome (L.set i (r ++ [x])) := fun j ys hy y hm => by
  by_cases e : j = i
  · subst e
    rw [List.getElem?_set_self (List.getElem?_eq_some_iff.1 hr).1] at hy
    injection hy with hy
    subst hy
    rcases List.mem_append.1 hm with hm | hm
    · exact h j r hr y hm
    · rw [List.mem_singleton] at hm; subst hm; exact hx
  · rw [List.getElem?_set_ne (fun e' => e e'.symm)] at hy
    exact h j ys hy y hm
theorem go_home : ∀ {xs : List Mat} {L L' : List (List Mat)}, AtHome L → (∀ x ∈ xs, 0 ≤ x.1 ∧ x.1.toNat < L.length) → sweepGo L xs = some L' → AtHome L'
  | [], L, L', hL, _, h => by unfold sweepGo at h; injection h with h; rw [← h]; exact hL
  | x :: xs, L, L', hL, hk, h => by
    rw [sweepGo_cons] at h
    split at h
    · obtain ⟨h0, h1⟩ := hk x (by simp)
      obtain ⟨i, hi⟩ := Int.eq_ofNat_of_zero_le h0
      have hx : L[i]? = some L[i] := List.getElem?_eq_getElem (by omega)
      rw [hi, rowAt_of hx, Int.toNat_natCast] at h
      exact go_home (set_home hL hx hi) (fun y hy => by rw [List.length_set]; exact hk y (by simp [hy])) h
    · cases h
theorem home_str {L : List (List Mat)} (h : AtHome L) : ∀ i, i ≤ L.length → strs L i = []
  | 0, _ => rfl
  | i + 1, hi => by
    have hx : L[i]? = some L[i] := List.getElem?_eq_getElem (by omega)
    rw [← strs_next hx, home_str h i (by omega), List.nil_append]
    unfold strK
    rw [List.filter_eq_nil_iff]
    intro x hm
    simp [h i _ hx x hm]
theorem home_hom {L : List (List Mat)} (h : AtHome L) (i : Nat) : hom L i = L := by
  apply List.ext_getElem?
  intro k
  cases hx : L[k]? with
  | none => unfold hom; rw [List.getElem?_mapIdx, hx]; rfl
  | some xs =>
    rw [hom_get hx]
    split
    · unfold keepK
      rw [List.filter_eq_self.2 (fun x hm => by simp [h k xs hx x hm])]
    · rfl
theorem home_swept {L : List (List Mat)} (h : AtHome L) : swept L = some L := by
  unfold swept; rw [home_hom h, home_str h _ (Nat.le_refl _)]; rfl
theorem cntM_strs (ms : List (List Mat)) : ∀ i, i ≤ ms.length → cntM strayP ms i = (strs ms i).length
  | 0, _ => rfl
  | i + 1, hi => by
    have hx : ms[i]? = some ms[i] := List.getElem?_eq_getElem (by omega)
    rw [cntM_succ hx, ← strs_next hx, List.length_append, cntM_strs ms i (by omega)]
    have e : List.filter (strayP i) ms[i] = List.filter (fun x => !decide (x.1 = (i : Int))) ms[i] := List.filter_congr (fun x _ => by unfold strayP; by_cases h : x.1 = (i : Int) <;> simp [h])
    unfold cntR strK
    rw [e]
theorem cntM_flat {q : Mat → Bool} {p : Nat → Mat → Bool} (hp : ∀ i, p i = q) (ms : List (List Mat)) : cntM p ms ms.length = (ms.flatten.filter q).length := by
  have key : ∀ i, i ≤ ms.length → cntM p ms i = ((ms.take i).flatten.filter q).length := by
    intro i
    induction i with
    | zero => intro _; simp [cntM]
    | succ i ih =>
      intro hi
      have hx : ms[i]? = some ms[i] := List.getElem?_eq_getElem (by omega)
      rw [cntM_succ hx, ih (by omega), List.take_add_one, hx, hp i, List.flatten_append, List.filter_append, List.length_append]
      show _ + (List.filter q ms[i]).length = _ + (List.filter q (ms[i] ++ [])).length
      rw [List.append_nil]
  rw [key _ (Nat.le_refl _), List.take_length]
theorem cnt_worn {f : Fnt} {ms ms' : List (List Mat)} (h : ms.flatten.Perm ms'.flatten) : cntM (wornP f) ms ms.length = cntM (wornP f) ms' ms'.length := by
  rw [cntM_flat (q := wornP f 0) (p := wornP f) (fun i => rfl), cntM_flat (q := wornP f 0) (p := wornP f) (fun i => rfl)]
  exact (h.filter _).length_eq
/-- how many of a kind -/
def ofK (k : Nat) (xs : List Mat) : Nat := (xs.filter fun x => decide (x.1 = (k : Int))).length
theorem ofK_perm {k : Nat} {xs ys : List Mat} (h : xs.Perm ys) : ofK k xs = ofK k ys := (h.filter _).length_eq
theorem ofK_append (k : Nat) (xs ys : List Mat) : ofK k (xs ++ ys) = ofK k xs + ofK k ys := by unfold ofK; rw [List.filter_append, List.length_append]
theorem ofK_row {L : List (List Mat)} {i : Nat} {r : List Mat} (h : AtHome L) (hr : L[i]? = some r) : r.length ≤ ofK i L.flatten := by
  have h1 : (r.filter fun x => decide (x.1 = (i : Int))) = r := List.filter_eq_self.2 (fun x hm => by simp [h i r hr x hm])
  have h2 : r.Sublist L.flatten := List.sublist_flatten_of_mem (List.mem_of_getElem? hr)
  have h3 := (h2.filter fun x => decide (x.1 = (i : Int))).length_le
  rw [h1] at h3
  exact h3
theorem go_full : ∀ {xs : List Mat} {L : List (List Mat)}, AtHome L → (∀ x ∈ xs, 0 ≤ x.1 ∧ x.1.toNat < L.length) → sweepGo L xs = none → ∃ k, k < L.length ∧ 20 < ofK k (L.flatten ++ xs)
  | [], L, _, _, h => by unfold sweepGo at h; cases h
  | x :: xs, L, hL, hk, h => by
    obtain ⟨h0, h1⟩ := hk x (by simp)
    obtain ⟨i, hi⟩ := Int.eq_ofNat_of_zero_le h0
    have hi1 : i < L.length := by omega
    have hx : L[i]? = some L[i] := List.getElem?_eq_getElem hi1
    rw [sweepGo_cons, hi, rowAt_of hx, Int.toNat_natCast] at h
    split at h
    · obtain ⟨k, hk1, hk2⟩ := go_full (set_home hL hx hi) (fun y hy => by rw [List.length_set]; exact hk y (by simp [hy])) h
      rw [List.length_set] at hk1
      refine ⟨k, hk1, ?_⟩
      rw [ofK_perm (((flat_snoc hx).append_right xs).trans List.perm_middle.symm)] at hk2
      exact hk2
    · refine ⟨i, hi1, ?_⟩
      have h2 := ofK_row hL hx
      have h3 : 1 ≤ ofK i (x :: xs) := by
        unfold ofK
        rw [List.filter_cons, if_pos (by simp [hi])]
        simp
      rw [ofK_append]
      omega
theorem kFold_get : ∀ (xs : List Mat) (l : List Int) (k : Nat), k < l.length → (∀ x ∈ xs, 0 ≤ x.1) → (xs.foldl kAdd l).getD k 0 = l.getD k 0 + (ofK k xs : Int)
  | [], l, k, _, _ => by simp [ofK]
  | x :: xs, l, k, hk, h0 => by
    rw [List.foldl_cons, kFold_get xs (kAdd l x) k (by unfold kAdd; rw [List.length_set]; exact hk) (fun y hy => h0 y (by simp [hy]))]
    obtain ⟨i, hi⟩ := Int.eq_ofNat_of_zero_le (h0 x (by simp))
    unfold kAdd ofK
    rw [hi, Int.toNat_natCast, List.filter_cons]
    by_cases e : i = k
    · subst e
      rw [if_pos (by simp [hi])]
      simp only [List.getD, List.getElem?_set_self hk, Option.getD_some, List.length_cons]
      push_cast
      omega
    · rw [if_neg (by simp [hi]; omega)]
      simp only [List.getD, List.getElem?_set_ne e]
theorem swept_full {f : Fnt} {ms : List (List Mat)} (hm : magB f ms = true) (h : swept ms = none) : ∃ (k : Nat) (z : Int), (kindL f ms)[k]? = some z ∧ 20 < z := by
  have hk := kind_in hm
  unfold swept at h
  obtain ⟨k, hk1, hk2⟩ := go_full (hom_home ms) (fun x hx => by rw [hom_len]; exact hk x hx) h
  rw [hom_len] at hk1
  rw [← ofK_perm (hom_perm ms _ (Nat.le_refl _))] at hk2
  obtain ⟨-, -, hrows⟩ := magB_rows hm
  have h0 : ∀ x ∈ ms.flatten, 0 ≤ x.1 := fun x hx => by
    obtain ⟨xs, h1, h2⟩ := List.mem_flatten.1 hx
    have := (hrows xs h1).2 x h2
    unfold matB at this
    rw [Bool.and_eq_true] at this
    exact ((inB_iff _ _ _).1 this.1).1
  have hg := kFold_get ms.flatten (List.replicate ms.length 0) k (by simpa using hk1) h0
  have hkl : kindL f ms = ms.flatten.foldl kAdd (List.replicate ms.length 0) := by unfold kindL kAll; rw [hm, if_pos rfl, kFold_flat]
  have hlen : (kindL f ms).length = ms.length := by unfold kindL; rw [hm, if_pos rfl, kAll_len]
  have hx : (kindL f ms)[k]? = some (kindL f ms)[k] := List.getElem?_eq_getElem (by omega)
  refine ⟨k, _, hx, ?_⟩
  have h9 : (kindL f ms).getD k 0 = (kindL f ms)[k] := by rw [List.getD, hx]; rfl
  rw [← h9, hkl, hg]
  have : (List.replicate ms.length (0 : Int)).getD k 0 = 0 := by
    rw [List.getD, List.getElem?_replicate, if_pos hk1]; rfl
  rw [this]
  omega
/-- all that a sweep which ends well leaves -/
theorem swept_good {f : Fnt} {ms L : List (List Mat)} (hm : magB f ms = true) (h : swept ms = some L) : L.length = ms.length ∧ magB f L = true ∧ AtHome L ∧ L.flatten.Perm ms.flatten := by
  have hk := kind_in hm
  have h0 := h
  unfold swept at h
  have hk' : ∀ x ∈ strs ms ms.length, 0 ≤ x.1 ∧ x.1.toNat < (hom ms ms.length).length := fun x hx => by rw [hom_len]; exact hk x hx
  have hp : L.flatten.Perm ms.flatten := (go_perm hk' h).trans (hom_perm ms _ (Nat.le_refl _)).symm
  have hlen : L.length = ms.length := by rw [sweepGo_len h, hom_len]
  obtain ⟨hf, hl, hrows⟩ := magB_rows hm
  refine ⟨hlen, ?_, go_home (hom_home ms) hk' h, hp⟩
  unfold magB
  rw [hf, hlen, hl]
  simp only [Bool.true_and, beq_self_eq_true, List.all_eq_true]
  intro xs hx
  unfold rowB
  simp only [Bool.and_eq_true, decide_eq_true_eq, List.all_eq_true]
  refine ⟨sweepGo_lim (hom_lim (fun xs hx => (hrows xs hx).1) _) h xs hx, fun x hxm => ?_⟩
  have h3 : x ∈ ms.flatten := hp.subset (List.mem_flatten.2 ⟨xs, hx, hxm⟩)
  obtain ⟨ys, h4, h5⟩ := List.mem_flatten.1 h3
  exact (hrows ys h4).2 x h5
theorem swept_stray {f : Fnt} {L : List (List Mat)} (hm : magB f L = true) (h : AtHome L) : cntI f L strayP = 0 := by
  unfold cntI
  rw [hm, if_pos rfl, cntM_strs L _ (Nat.le_refl _), home_str h _ (Nat.le_refl _)]; rfl
end Go.Proofs.YtdijlofcgcikjaaDoor
