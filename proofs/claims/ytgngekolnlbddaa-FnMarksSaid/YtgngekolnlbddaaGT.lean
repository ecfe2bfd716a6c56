/-
  GalleyText by contract, model and program: the strings with one blank between neighbors. Condition: at most 2^20 strings and bytes.
-/
import Derived.Test.YtgngekolnlbddaaSzS
import Derived.Test.YtgngekolnlbddaaShelf
import Derived.Lib.Join
namespace Go.Proofs.Ytgngekolnlbddaa
open Go.RowKit
set_option linter.unusedVariables false

/-- the first k strings -/
def gtK (zs : List ByteArray) (k : Nat) : ByteArray := ⟨(Lib.join ((zs.take k).map (·.data.toList)) [32]).toArray⟩
def gtS (zs : List ByteArray) : ByteArray := ⟨(Lib.join (zs.map (·.data.toList)) [32]).toArray⟩
theorem gt_full {zs : List ByteArray} {n : Nat} (h : zs.length = n) : gtK zs n = gtS zs := by unfold gtK gtS; rw [stake_all h]
theorem join_snoc (y : List UInt8) (r : List (List UInt8)) (x sep : List UInt8) : Lib.join (y :: r ++ [x]) sep = Lib.join (y :: r) sep ++ (sep ++ x) := by
  rw [List.cons_append, Lib.join_cons, Lib.join_cons]
  unfold Lib.joinTail
  rw [List.map_append, List.flatten_append]
  simp
theorem ba_append (a b : List UInt8) : (⟨a.toArray⟩ : ByteArray) ++ ⟨b.toArray⟩ = ⟨(a ++ b).toArray⟩ := by
  apply ByteArray.ext
  rw [ByteArray.data_append]
  simp
theorem ba_self (x : ByteArray) : x = ⟨x.data.toList.toArray⟩ := by cases x; simp
theorem gt_one {zs : List ByteArray} {x : ByteArray} (h : zs[0]? = some x) : (⟨#[]⟩ : ByteArray) ++ x = gtK zs 1 := by
  unfold gtK
  rw [stake_at h, List.take_zero, List.nil_append, List.map_cons, List.map_nil, Lib.join_one]
  conv => lhs; rw [ba_self x]
  exact ba_append [] _
theorem gt_more {zs : List ByteArray} {k : Nat} {x : ByteArray} (hk : 0 < k) (h : zs[k]? = some x) : (gtK zs k ++ (⟨#[32]⟩ : ByteArray)) ++ x = gtK zs (k + 1) := by
  unfold gtK
  rw [stake_at h, List.map_append]
  have hl : 0 < ((zs.take k).map (·.data.toList)).length := by rw [List.length_map, List.length_take]; have := slt_at h; omega
  generalize (zs.take k).map (·.data.toList) = L at hl
  cases L with
  | nil => simp at hl
  | cons y r =>
    rw [List.map_cons, List.map_nil, join_snoc]
    conv => lhs; rw [ba_self x]
    rw [show (⟨#[32]⟩ : ByteArray) = ⟨([32] : List UInt8).toArray⟩ from rfl, ba_append, ba_append, List.append_assoc]
theorem gt_size {zs : List ByteArray} : ∀ k, k ≤ zs.length → (gtK zs k).size ≤ szT zs k + k
  | 0, _ => by simp [gtK, Lib.join_nil, ByteArray.size]
  | k + 1, h => by
    obtain ⟨x, hx⟩ : ∃ x, zs[k]? = some x := ⟨_, List.getElem?_eq_getElem h⟩
    have ih := gt_size (zs := zs) k (by omega)
    rw [szT_succ hx]
    rcases Nat.eq_zero_or_pos k with h0 | h0
    · subst h0
      rw [← gt_one hx, ByteArray.size_append]
      have : (⟨#[]⟩ : ByteArray).size = 0 := rfl
      omega
    · rw [← gt_more h0 hx, ByteArray.size_append, ByteArray.size_append]
      have : (⟨#[32]⟩ : ByteArray).size = 1 := rfl
      omega

set_option maxRecDepth 100000 in
set_option maxHeartbeats 1600000 in
theorem l6Join_any (A : Option Addr) (n c : Nat) (zs : List ByteArray) (w : World) (hn : zs.length = n) (hm : szL zs ≤ 1048576) (h : Strs w A zs) :
    Calls Try.prog 45 #[.slice A n c] w fun e w' => e = .returned (.string (gtS zs)) ∧ w = w' := by
  have Hn := Lib.hid hn; have H := Lib.hid h
  have hsz : n + szT zs n ≤ 1048576 := by unfold szL at hm; rw [hn] at hm; exact hm
  have HZ := Lib.hid hsz
  have hnb : n ≤ 1048576 := by omega
  clear hn h hm hsz
  go_enter Try.func45, Try.ntmps45
  go_wp2
  go_loop [3, 8] (fun v i => ∃ (k : Nat) (s : ByteArray), k ≤ n ∧ i = .int .i64 k ∧ v = .string s ∧ s = gtK zs k) (fun _ i => n - (intOf i).toNat)
  case atStart => exact ⟨0, _, Nat.zero_le _, rfl, rfl, by simp [gtK, Lib.join_nil]⟩
  case round =>
    obtain ⟨k, s, hk, rfl, rfl, hs⟩ := hrel
    have HS := Lib.hid hs
    have hss : s.size ≤ 1048576 := by rw [hs]; have := gt_size (zs := zs) k (by rw [Hn.out]; exact hk); have := szT_le zs hk; have := HZ.out; omega
    clear hs
    by_cases hlt : k < n
    · obtain ⟨ad, x, rfl, hx, hc⟩ := H.out.at_ (k := k) (by rw [Hn.out]; exact hlt)
      have hxs : x.size ≤ 1048576 := by have := szT_succ hx.out; have := szT_le zs (show k + 1 ≤ n from hlt); have := HZ.out; omega
      by_cases hp : 0 < k
      · have HX : Hid ((s ++ (⟨#[32]⟩ : ByteArray)) ++ x = gtK zs (k + 1)) := by show _ = _; rw [HS.out]; exact gt_more hp hx.out
        have hs1 : (s ++ (⟨#[32]⟩ : ByteArray)).size ≤ 1048577 := by rw [ByteArray.size_append]; have : (⟨#[32]⟩ : ByteArray).size = 1 := rfl; omega
        go_wp2
        go_round
        case rel => exact ⟨k + 1, _, by omega, by go_num, rfl, HX.out⟩
        case measure => simp [intOf]; omega
      · have HX : Hid (s ++ x = gtK zs (k + 1)) := by
          show _ = _
          have hk0 : k = 0 := by omega
          have h1 := HS.out
          have h2 := hx.out
          rw [hk0] at h1 h2 ⊢
          rw [h1, ← gt_one h2]
          congr 1
        go_wp2
        go_round
        case rel => exact ⟨k + 1, _, by omega, by go_num, rfl, HX.out⟩
        case measure => simp [intOf]; omega
    · have HX : Hid (s = gtS zs) := by show _ = _; rw [HS.out, show k = n from by omega, gt_full Hn.out]
      go_wp2
      go_ret
      exact ⟨by rw [HX.out]; rfl, rfl⟩

theorem specGT_any (A : Option Addr) (n c : Nat) (zs : List ByteArray) (w : World) (hn : zs.length = n) (hm : szL zs ≤ 1048576) (h : Strs w A zs) :
    Calls Try.prog 32 #[.slice A n c] w fun e w' => e = .returned (.string (gtS zs)) ∧ Below w.heap.size w w' := by
  have Hn := Lib.hid hn; have H := Lib.hid h; have Hm := Lib.hid hm
  clear hn h hm
  go_enter Try.func32, Try.ntmps32
  go_wp2_with fail
  refine (l6Join_any _ _ _ zs _ Hn.out Hm.out H.out).mono ?_
  rintro e w' ⟨rfl, rfl⟩
  go_wp2
  go_ret
  exact ⟨rfl, Below.refl _ _⟩

theorem blanks_any (g n c : Nat) (zs : List ByteArray) (w : World) (hn : zs.length = n) (hm : szL zs ≤ 1048576) (hc : n ≤ c) (hg : g < w.heap.size) (h : Strs w (some ⟨g, 0, none⟩) zs) :
    Calls Try.prog 46 #[.slice (some ⟨g, 0, none⟩) n c] w fun e w' => e = .returned (.string (gtS zs)) ∧ Below w.heap.size w w' := by
  subst hn
  have hsz := hm
  unfold szL at hsz
  have HL : Hid ((Lib.join (zs.map (·.data.toList)) (⟨#[32]⟩ : ByteArray).data.toList).length ≤ 140737488355328) := by
    show _ ≤ _
    have h1 := gt_size (zs := zs) zs.length (Nat.le_refl _)
    rw [gt_full rfl] at h1
    have h2 : (gtS zs).size = (Lib.join (zs.map (·.data.toList)) (⟨#[32]⟩ : ByteArray).data.toList).length := by simp [gtS, ByteArray.size]
    omega
  have HN : zs.length ≤ 140737488355328 := by omega
  have HC : Hid (∀ (j : Nat) x, zs[j]? = some x → w.cell? ⟨g, 0 + j, none⟩ = some (.string x)) := fun j x hx => by
    obtain ⟨ad, e, hcell⟩ := h (by have := slt_at hx; omega)
    injection e with e
    subst e
    rw [Nat.zero_add, ← add_zero_at g j, hcell j (slt_at hx), sgetD_at hx]
  clear h hsz
  go_enter Try.func46, Try.ntmps46
  go_wp2_with fail
  refine (Try.strings_Join g 0 c zs ⟨#[32]⟩ _ HC.out hg HN hc HL.out).mono ?_
  rintro e w1 ⟨rfl, hb1⟩
  have HB := Lib.hid hb1
  clear hb1
  go_wp2
  go_ret
  exact ⟨rfl, HB.out⟩
theorem implGT_any (g n c : Nat) (zs : List ByteArray) (w : World) (hn : zs.length = n) (hm : szL zs ≤ 1048576) (hc : n ≤ c) (hg : g < w.heap.size) (h : Strs w (some ⟨g, 0, none⟩) zs) :
    Calls Try.prog 33 #[.slice (some ⟨g, 0, none⟩) n c] w fun e w' => e = .returned (.string (gtS zs)) ∧ Below w.heap.size w w' := by
  have H := Lib.hid h; have Hn := Lib.hid hn; have Hm := Lib.hid hm
  clear h hn hm
  go_enter Try.func33, Try.ntmps33
  go_wp2_with fail
  refine (blanks_any g n c zs _ Hn.out Hm.out hc hg H.out).mono ?_
  rintro e w1 ⟨rfl, hb1⟩
  have HB := Lib.hid hb1
  clear hb1
  go_wp2
  go_ret
  exact ⟨rfl, HB.out⟩
theorem implGT_own (B : Nat) (A : Option Addr) (n c : Nat) (zs : List ByteArray) (w : World) (hn : zs.length = n) (hm : szL zs ≤ 1048576) (h : OwnS w B (.slice A n c) zs) :
    Calls Try.prog 33 #[.slice A n c] w fun e w' => e = .returned (.string (gtS zs)) ∧ Below w.heap.size w w' := by
  rcases h.2 with ⟨hv, hz⟩ | ⟨g, cap, cur, hv, hg, hh, hnc, _⟩
  · injection hv with e1 e2 e3
    subst e1; subst e2; subst e3
    have hzs : zs = [] := List.eq_nil_of_length_eq_zero hz
    have HG : Hid (gtS zs = ⟨#[]⟩) := by show _ = _; subst hzs; rfl
    clear hzs hz hn hm h
    go_enter Try.func33, Try.ntmps33
    go_wp2_with (first
      | (go_at_call 57; refine (Try.strings_Join_none _ _ _ _).mono ?_; rintro e w' ⟨rfl, rfl⟩)
      | go_in)
    go_ret
    exact ⟨by rw [HG.out]; rfl, Below.refl _ _⟩
  · injection hv with e1 e2 e3
    subst e1
    have hI : Strs w (some ⟨g, 0, none⟩) zs := by
      obtain ⟨A', c', hv', hI, _⟩ := h.form
      injection hv' with h1 h2 h3
      subst h1
      exact hI
    exact implGT_any g n c zs w hn hm (by omega) ((Array.getElem?_eq_some_iff.1 hh).1) hI
end Go.Proofs.Ytgngekolnlbddaa
