/-
  The marks of the laws on lists of matrices and on magazines of the call's own, by contract. Conditions: sizes of at most 2^20.
-/
import Derived.Test.YthoepelgmplcmaaMagH
namespace Go.Proofs.Ythoepelgmplcmaa
open Go.RowKit
set_option linter.unusedVariables false

/-- (k, k + 1), (k + 2, k + 3), .. (n of them) -/
def upM (k : Int) (n : Nat) : List Mat := (List.range n).map (fun (i : Nat) => (k + 2 * (i : Int), k + 2 * (i : Int) + 1))
theorem upM_len (k : Int) (n : Nat) : (upM k n).length = n := by simp [upM]
theorem upM_get (k : Int) {n i : Nat} (h : i < n) : (upM k n)[i]? = some (k + 2 * (i : Int), k + 2 * (i : Int) + 1) := by simp [upM, h]
def markedM (xs : List Mat) (k : Int) (j : Nat) : List Mat := upM k j ++ xs.drop j
theorem markedM_len (xs : List Mat) (k : Int) (j : Nat) (h : j ≤ xs.length) : (markedM xs k j).length = xs.length := by
  simp [markedM, upM_len]; omega
theorem markedM_full (xs : List Mat) (k : Int) : markedM xs k xs.length = upM k xs.length := by simp [markedM]
theorem upM_succ (k : Int) (j : Nat) : upM k (j + 1) = upM k j ++ [(k + 2 * (j : Int), k + 2 * (j : Int) + 1)] := by
  unfold upM; rw [List.range_succ, List.map_append]; rfl
theorem markedM_set {xs : List Mat} {k : Int} {j : Nat} (h : j < xs.length) : ((mcells (markedM xs k j)).set (j * 2) (.int .i64 (k + 2 * (j : Int)))).set (j * 2 + 1) (.int .i64 (k + 2 * (j : Int) + 1)) = mcells (markedM xs k (j + 1)) := by
  unfold markedM
  have hl : (mcells (upM k j)).length = j * 2 := by rw [mcells_len, upM_len]
  have hd : xs.drop j = xs[j] :: xs.drop (j + 1) := List.drop_eq_getElem_cons h
  rw [hd, upM_succ, mcells_append, mcells_append, mcells_append, List.set_append, if_neg (by omega), hl, Nat.sub_self, List.set_append, if_neg (by omega), hl, show j * 2 + 1 - j * 2 = 1 from by omega]
  have e1 : mcells (xs[j] :: xs.drop (j + 1)) = .int .i64 xs[j].1 :: .int .i64 xs[j].2 :: mcells (xs.drop (j + 1)) := rfl
  have e2 : mcells [(k + 2 * (j : Int), k + 2 * (j : Int) + 1)] = [.int .i64 (k + 2 * (j : Int)), .int .i64 (k + 2 * (j : Int) + 1)] := rfl
  rw [e1, e2]
  simp

set_option maxRecDepth 100000 in
set_option maxHeartbeats 800000 in
theorem markMatrixS_any (B : Nat) (v : Value) (k : Int) (xs : List Mat) (w : World) (hk0 : 0 ≤ k) (hk1 : k ≤ 4194304) (hl : xs.length ≤ 1048576) (h : OwnM w B v xs) :
    Calls Try.prog 126 #[v, .int .i64 k] w fun e w' => e = .returned (.int .i64 (k + 2 * xs.length)) ∧ OwnM w' B v (upM k xs.length) ∧ w.grownBy w' v.ownBlock := by
  rcases h.2 with ⟨rfl, hn⟩ | ⟨g, cap, cur, rfl, hg, hh, hrest⟩
  · have hz : xs = [] := List.eq_nil_of_length_eq_zero hn
    subst hz
    go_enter Try.func126, Try.ntmps126
    go_wp2
    refine wp_loop_rounds 1 ?_
    rw [rounds_succ]
    go_wp2
    go_ret
    exact ⟨ret_int (by simp), h, World.grownBy.refl w _⟩
  · obtain ⟨n, hn⟩ : ∃ n, xs.length = n := ⟨_, rfl⟩
    have hO := h
    unfold OwnM at hO
    rw [hn] at hO hl ⊢
    have Hn := Lib.hid hn
    have HO := Lib.hid hO
    clear hn hO h hh hrest cur hg
    go_enter Try.func126, Try.ntmps126
    go_wp2
    go_loopw [1, 5] (fun q i wr => ∃ j : Nat, j ≤ n ∧ i = .int .i64 j ∧ q = .int .i64 (k + 2 * j) ∧ wr.ownsRow B 34 2 (.slice (some ⟨g, 0, none⟩) n cap) n (mcells (markedM xs k j)) ∧ w.grownBy wr (some g)) (fun _ i _ => n - (intOf i).toNat)
    case atStart => exact ⟨0, Nat.zero_le _, rfl, by simp, by have := HO.out; simpa [markedM, upM] using this, World.grownBy.refl w _⟩
    case round =>
      obtain ⟨j, hj, rfl, rfl, hown, hgr⟩ := hrel
      by_cases hlt : j < n
      · have hlz : j < xs.length := by rw [Hn.out]; exact hlt
        have hml : (mcells (markedM xs k j)).length = n * 2 := by rw [mcells_len, markedM_len _ _ _ (by omega), Hn.out]
        obtain ⟨v1, hv1⟩ : ∃ v, (mcells (markedM xs k j))[j * 2]? = some v := ⟨_, List.getElem?_eq_getElem (by omega)⟩
        obtain ⟨v2, hv2⟩ : ∃ v, (mcells (markedM xs k j))[j * 2 + 1]? = some v := ⟨_, List.getElem?_eq_getElem (by omega)⟩
        have d1 := (hown.cellAt (j * 2) (by omega)).trans hv1
        have d2 := (hown.cellAt (j * 2 + 1) (by omega)).trans hv2
        have f1 := hown.frozenAt (j * 2)
        have f2 := hown.frozenAt (j * 2 + 1)
        have hst := ((hown.stored (j * 2) (.int .i64 (k + 2 * (j : Int)))).1.stored (j * 2 + 1) (.int .i64 (k + 2 * (j : Int) + 1))).1
        rw [markedM_set hlz] at hst
        have HS := Lib.hid hst
        have HG := Lib.hid (grown_set (grown_set hgr (j * 2) (.int .i64 (k + 2 * (j : Int)))) (j * 2 + 1) (.int .i64 (k + 2 * (j : Int) + 1)))
        have hkb : 0 ≤ k + 2 * (j : Int) := by omega
        have hkc : k + 2 * (j : Int) ≤ 8388608 := by omega
        clear hst hv1 hv2 hown hgr hlz hml
        go_wp2
        go_roundw
        case rel => exact ⟨j + 1, by omega, by go_num, by (first | go_num | (congr 1; push_cast; omega)), HS.out, HG.out⟩
        case measure => simp [intOf]; omega
      · have hjn : j = n := by omega
        subst hjn
        go_wp2
        go_ret
        refine ⟨rfl, ?_, hgr⟩
        unfold OwnM
        rw [upM_len, ← Hn.out, ← markedM_full, Hn.out]
        exact hown
end Go.Proofs.Ythoepelgmplcmaa
