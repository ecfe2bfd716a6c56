/-
  KindCounts by contract, model and program. Conditions: lengths of at most 2^20; for the program the teeth are in the range of int.
-/
import Derived.Test.YtdijlofcgcikjaaDoorCntMag
namespace Go.Proofs.YtdijlofcgcikjaaDoor
open Go.RowKit
set_option linter.unusedVariables false

def kAdd (l : List Int) (x : Mat) : List Int := l.set x.1.toNat (l.getD x.1.toNat 0 + 1)
def kRow (l : List Int) (xs : List Mat) : List Int := xs.foldl kAdd l
def kAll (n : Nat) (ms : List (List Mat)) : List Int := ms.foldl kRow (List.replicate n 0)
def kindL (f : Fnt) (ms : List (List Mat)) : List Int := if magB f ms then kAll ms.length ms else []
theorem kRow_succ {l : List Int} {xs : List Mat} {k : Nat} {x : Mat} (hx : xs[k]? = some x) : kRow l (xs.take (k + 1)) = kAdd (kRow l (xs.take k)) x := by
  unfold kRow; rw [mtake_at hx, List.foldl_append]; rfl
theorem kAll_succ {n : Nat} {ms : List (List Mat)} {k : Nat} {xs : List Mat} (hx : ms[k]? = some xs) : kAll n (ms.take (k + 1)) = kRow (kAll n (ms.take k)) xs := by
  unfold kAll; rw [ttake_at hx, List.foldl_append]; rfl
theorem kRow_len (xs : List Mat) : ∀ l, (kRow l xs).length = l.length := by
  induction xs with
  | nil => exact fun l => rfl
  | cons x xs ih => exact fun l => (ih (kAdd l x)).trans (by unfold kAdd; rw [List.length_set])
theorem kAll_len (n : Nat) (ms : List (List Mat)) : (kAll n ms).length = n := by
  unfold kAll
  have : ∀ (ms : List (List Mat)) (l : List Int), (ms.foldl kRow l).length = l.length := by
    intro ms
    induction ms with
    | nil => exact fun l => rfl
    | cons xs ms ih => exact fun l => (ih (kRow l xs)).trans (kRow_len xs l)
  rw [this, List.length_replicate]
theorem kindL_len (f : Fnt) (ms : List (List Mat)) (h : ms.length ≤ 1048576) : (kindL f ms).length ≤ 1048576 := by
  unfold kindL; split
  · rw [kAll_len]; exact h
  · simp
def between (l : List Int) (b : Nat) : Prop := ∀ z ∈ l, 0 ≤ z ∧ z ≤ b
theorem between_getD {l : List Int} {b : Nat} (h : between l b) (i : Nat) : 0 ≤ l.getD i 0 ∧ l.getD i 0 ≤ b := by
  simp only [List.getD]
  cases hi : l[i]? with
  | none => simp
  | some z => exact h z (List.mem_of_getElem? hi)
theorem between_add {l : List Int} {b : Nat} (h : between l b) (x : Mat) : between (kAdd l x) (b + 1) := by
  intro z hz
  unfold kAdd at hz
  rcases List.mem_or_eq_of_mem_set hz with hz | rfl
  · have := h z hz; omega
  · have := between_getD h x.1.toNat; omega
theorem between_row {l : List Int} {b : Nat} (h : between l b) (xs : List Mat) : ∀ k, k ≤ xs.length → between (kRow l (xs.take k)) (b + k)
  | 0, _ => h
  | k + 1, hk => by
    have hx : xs[k]? = some (xs[k]'(by omega)) := List.getElem?_eq_getElem (by omega)
    rw [kRow_succ hx]
    exact between_add (between_row h xs k (by omega)) _
theorem between_all {n : Nat} {ms : List (List Mat)} (h : ∀ xs ∈ ms, xs.length ≤ 20) : ∀ k, k ≤ ms.length → between (kAll n (ms.take k)) (20 * k)
  | 0, _ => by intro z hz; simp [kAll] at hz; omega
  | k + 1, hk => by
    have hx : ms[k]? = some (ms[k]'(by omega)) := List.getElem?_eq_getElem (by omega)
    rw [kAll_succ hx]
    have h1 := between_all (n := n) h k (by omega)
    have h2 := between_row h1 (ms[k]'(by omega)) (ms[k]'(by omega)).length (Nat.le_refl _)
    rw [List.take_of_length_le (Nat.le_refl _)] at h2
    have h3 := h _ (List.mem_of_getElem? hx)
    intro z hz
    have := h2 z hz
    omega
theorem kAdd_set {l : List Int} {x : Mat} {m : Nat} (h : x.1 = (m : Int)) : (l.map (Value.int .i64)).set m (.int .i64 (l.getD m 0 + 1)) = (kAdd l x).map (Value.int .i64) := by
  unfold kAdd; rw [h, Int.toNat_natCast, List.map_set]

set_option maxRecDepth 100000 in
set_option maxHeartbeats 3200000 in
theorem implKind_any (lo hi lo2 hi2 : Nat) (v : Value) (f : Fnt) (A : Option Addr) (n c : Nat) (ms : List (List Mat)) (w : World) (h : FontV w lo hi v f) (hhi : hi ≤ w.heap.size) (hs : Small f) (hn : ms.length = n) (hm : n ≤ 1048576) (hM : MagI w lo2 hi2 A ms) (hhi2 : hi2 ≤ w.heap.size) (wf : wfM ms) :
    Calls Tryd.prog 15 #[v, .slice A n c] w fun e w' => ∃ u, e = .returned u ∧ Own w' w.heap.size u (kindL f ms) ∧ Below w.heap.size w w' := by
  obtain ⟨B, d, B2, d2, hv⟩ := fontForm h
  obtain ⟨s, hs0⟩ : ∃ s, f.s = s := ⟨_, rfl⟩
  obtain ⟨p, hp⟩ : ∃ n, f.ws.length = n := ⟨_, rfl⟩
  obtain ⟨q, hq⟩ : ∃ m, f.cs.length = m := ⟨_, rfl⟩
  rw [hs0, hp, hq] at hv
  rw [hv] at h
  rw [hv]
  have hW : Below w.heap.size w (w.alloc (.cells #[.string s, .slice B p d, .slice B2 q d2] 25)) := (Below.refl _ _).alloc (Nat.le_refl _) _
  have V0 := Lib.hid (h.below hhi hW)
  have M0 := Lib.hid (hM.below hhi2 hW)
  have T0 := Lib.hid hW
  have Hn := Lib.hid hn
  have HS := Lib.hid hs
  have Hs0 := Lib.hid hs0
  clear hp hq h hW hM hn hs hv hs0
  cases hmg : magB f ms
  · have HR : Hid (kindL f ms = []) := by show _ = _; unfold kindL; rw [hmg]; rfl
    go_enter Tryd.func15, Tryd.ntmps15
    go_wp2_with (go_at_call 19; refine (implMagOk_any lo hi lo2 hi2 _ f _ _ _ ms _ V0.out (by simp; omega) HS.out Hn.out hm M0.out (by simp; omega) wf).mono ?_; rintro e w1 ⟨rfl, hb1⟩; have T1 := Lib.hid (T0.out.trans (hb1.mono (by simp))); clear hb1)
    go_ret
    exact ⟨_, rfl, by rw [HR.out]; exact World.ownsRow_nil _ _ _ _, T1.out⟩
  obtain ⟨hf, hlen, hrows⟩ := magB_rows hmg
  have hfs := fontB_size hf
  have HR : Hid (kindL f ms = kAll n ms) := by show _ = _; unfold kindL; rw [hmg, Hn.out]; rfl
  have HF := Lib.hid hf; have Hrows := Lib.hid hrows
  have hn40 : n ≤ 40 := by rw [← Hn.out, hlen]; omega
  have HL := Lib.hid (between_all (n := n) (fun xs hx => (hrows xs hx).1))
  have Hlen := Lib.hid hlen
  clear hf hlen hrows hfs
  go_enter Tryd.func15, Tryd.ntmps15
  go_wp2_with (first
    | (go_at_call 19; refine (implMagOk_any lo hi lo2 hi2 _ f _ _ _ ms _ V0.out (by simp; omega) HS.out Hn.out hm M0.out (by simp; omega) wf).mono ?_; rintro e w1 ⟨rfl, hb1⟩; have T1 := Lib.hid (T0.out.trans (hb1.mono (by simp))); have M1 := Lib.hid (M0.out.below (by simp; omega) hb1); have s1 : w.heap.size + 1 ≤ w1.heap.size := (by have := hb1.size; simpa using this); clear hb1)
    | (at_make; refine wpl_make_int _ rfl _ rfl n _ rfl rfl (by omega) ?_; intro w2 hown2 hb2))
  have HO2 := Lib.hid hown2; have HB2 := Lib.hid hb2
  clear hown2 hb2 V0 T0 M0
  go_loopw [19] (fun i wr => ∃ k : Nat, k ≤ n ∧ i = .int .i64 k ∧ wr.ownsRow w1.heap.size 3 1 (.slice (some ⟨w1.heap.size, 0, none⟩) n n) n ((kAll n (ms.take k)).map (Value.int .i64)) ∧ Below w1.heap.size w1 wr) (fun i _ => n - (intOf i).toNat)
  case atStart => exact ⟨0, Nat.zero_le _, rfl, by have := HO2.out; simpa [kAll] using this, HB2.out⟩
  case round =>
    obtain ⟨k, hk, rfl, hown, hb⟩ := hrel
    have HB := Lib.hid hb; have HO := Lib.hid hown
    have hc0 := Lib.hid (HL.out k (by rw [Hn.out]; exact hk))
    clear hb hown
    by_cases hlt : k < n
    · obtain ⟨ad, xs, Aj, cj, rfl, hx, hc, hcap, hcm, hI⟩ := (M1.out.below (by omega) HB.out).at_ (k := k) (by rw [Hn.out]; exact hlt)
      obtain ⟨l, hl⟩ : ∃ l, xs.length = l := ⟨_, rfl⟩
      have hl20 : l ≤ 20 := by rw [← hl]; exact (Hrows.out xs (List.mem_of_getElem? hx.out)).1
      rw [hl] at hc hcap
      have HI := Lib.hid hI; have HLx := Lib.hid hl
      have HC := Lib.hid (kAll_succ (n := n) hx.out)
      clear hI hcap hcm hl
      go_wp2
      go_loopw [25] (fun i wr => ∃ j : Nat, j ≤ l ∧ i = .int .i64 j ∧ wr.ownsRow w1.heap.size 3 1 (.slice (some ⟨w1.heap.size, 0, none⟩) n n) n ((kRow (kAll n (ms.take k)) (xs.take j)).map (Value.int .i64)) ∧ Below w1.heap.size w1 wr) (fun i _ => l - (intOf i).toNat)
      case atStart => exact ⟨0, Nat.zero_le _, rfl, HO.out, HB.out⟩
      case round =>
        obtain ⟨j, hj, rfl, hown2, hb2⟩ := hrel
        have HB2 := Lib.hid hb2; have HO2 := Lib.hid hown2
        clear hb2 hown2
        by_cases hjl : j < l
        · obtain ⟨bd, x, rfl, hxj, d1, e1⟩ := (HI.out.keep (w' := wr) (fun p _ h2 => (HB2.out.cell (by omega)).trans (HB.out.cell (by omega)).symm)).at_ (k := j) (by rw [HLx.out]; exact hjl)
          have hmx := (Hrows.out xs (List.mem_of_getElem? hx.out)).2 x (List.mem_of_getElem? hxj.out)
          unfold matB at hmx
          rw [Bool.and_eq_true] at hmx
          obtain ⟨k0, k1⟩ := (inB_iff _ _ _).1 hmx.1
          obtain ⟨a, t⟩ := x
          simp only at k0 k1 d1 e1
          obtain ⟨m, rfl⟩ := Int.eq_ofNat_of_zero_le k0
          have hmn : m < n := by rw [← Hn.out, Hlen.out]; omega
          have hbd := between_getD (between_row hc0.out xs j (by rw [HLx.out]; exact hj)) m
          obtain ⟨g, hg⟩ : ∃ g, (kRow (kAll n (ms.take k)) (xs.take j)).getD m 0 = g := ⟨_, rfl⟩
          rw [hg] at hbd
          have hz := HB2.out.size
          have hwz : w1.heap.size < wr.heap.size := (World.ownsRow.lt HO2.out w1.heap.size rfl).2
          have hlen2 : (kRow (kAll n (ms.take k)) (xs.take j)).length = n := by rw [kRow_len, kAll_len]
          have hcl := (HO2.out.cellAt m (by omega)).trans (show ((kRow (kAll n (ms.take k)) (xs.take j)).map (Value.int .i64))[m]? = some (.int .i64 g) by
            rw [List.getElem?_map, List.getElem?_eq_getElem (by omega), ← hg]; simp [List.getD, hlen2, hmn])
          have hfz := HO2.out.frozenAt m
          have hst := (HO2.out.stored m (.int .i64 (g + 1))).1
          rw [← hg, kAdd_set (x := ((m : Int), t)) rfl, ← kRow_succ hxj.out, hg] at hst
          have HST := Lib.hid (World.ownsRow.alloc hst (.cells #[.int .i64 (m : Int), .int .i64 t] 30))
          have HE := Lib.hid ((HB2.out.setCell (p := ⟨w1.heap.size, m, none⟩) (Nat.le_refl _) (.int .i64 (g + 1))).alloc (by simp only [World.setCell, Array.size_modify]; exact hz) (.cells #[.int .i64 (m : Int), .int .i64 t] 30))
          have hg0 : 0 ≤ g := hbd.1
          have hg1 : g ≤ 1000 := by have := hbd.2; omega
          have hm0 : (0 : Int) ≤ (m : Int) := by omega
          have hm1 : (m : Int) < (n : Int) := by omega
          clear hst hlen2 hmx k0 k1 hbd hg
          go_wp2
          go_roundw
          case rel => exact ⟨j + 1, by omega, by go_num, HST.out, HE.out⟩
          case measure => simp [intOf]; omega
        · have hjn : j = l := by omega
          subst hjn
          have HN := HO2.out
          rw [mtake_all HLx.out, ← HC.out] at HN
          have HN2 := Lib.hid HN
          clear HN
          go_wp2
          go_roundw
          case rel => exact ⟨k + 1, by omega, by go_num, HN2.out, HB2.out⟩
          case measure => simp [intOf]; omega
    · have hkn : k = n := by omega
      subst hkn
      go_wp2
      go_ret
      refine ⟨_, rfl, ?_, T1.out.trans (HB.out.mono (by omega))⟩
      have hO := HO.out
      rw [ttake_all Hn.out] at hO
      rw [HR.out]
      refine own_baseB (B := w1.heap.size) ?_ (by omega)
      unfold Own
      rw [kAll_len]
      exact hO
end Go.Proofs.YtdijlofcgcikjaaDoor
