/-
  FaultsOf by contract, model and program: the indices of the bytes in which two strings differ. Condition: strings of at most 2^20 bytes.
-/
import Derived.Test.YtobakeahbgodbaaPkC
namespace Go.Proofs.Ytobakeahbgodbaa
open Go.RowKit
set_option linter.unusedVariables false

def byA (s : ByteArray) (i : Nat) : Nat := if h : i < s.size then s[i].toNat else 0
theorem byA_eq {s : ByteArray} {i : Nat} (h : i < s.size) : byA s i = (s[i]'h).toNat := by unfold byA; rw [dif_pos h]
/-- the faults below k -/
def fauN (a b : ByteArray) (k : Nat) : List Int := ((List.range k).filter (fun i => byA a i != byA b i)).map (fun (i : Nat) => (i : Int))
theorem fauN_yes {a b : ByteArray} {k : Nat} (h : byA a k ≠ byA b k) : fauN a b (k + 1) = fauN a b k ++ [(k : Int)] := by
  unfold fauN; rw [List.range_succ, List.filter_append, List.map_append]; simp [h]
theorem fauN_no {a b : ByteArray} {k : Nat} (h : byA a k = byA b k) : fauN a b (k + 1) = fauN a b k := by
  unfold fauN; rw [List.range_succ, List.filter_append, List.map_append]; simp [h]
theorem fauN_len (a b : ByteArray) (k : Nat) : (fauN a b k).length ≤ k := by
  unfold fauN
  rw [List.length_map]
  have := List.length_filter_le (fun i => byA a i != byA b i) (List.range k)
  rwa [List.length_range] at this
def fauB (a b : ByteArray) : Bool := a.size == b.size
def fauL (a b : ByteArray) : List Int := if a.size = b.size then fauN a b a.size else []
theorem fauL_len (a b : ByteArray) : (fauL a b).length ≤ a.size := by
  unfold fauL; split
  · exact fauN_len a b _
  · simp
theorem u8_ne {x y : UInt8} (h : x.toNat ≠ y.toNat) : ((x.toNat : Int) == (y.toNat : Int)) = false ∧ ((x.toNat : Int) != (y.toNat : Int)) = true := by
  constructor
  · rw [beq_eq_false_iff_ne]; omega
  · rw [bne_iff_ne]; omega
theorem u8_eq {x y : UInt8} (h : x.toNat = y.toNat) : ((x.toNat : Int) == (y.toNat : Int)) = true ∧ ((x.toNat : Int) != (y.toNat : Int)) = false := by
  constructor
  · rw [beq_iff_eq]; omega
  · rw [bne_eq_false_iff_eq]; omega
theorem own_intsF {w : World} {B n c : Nat} {A : Option Addr} {zs : List Int} (h : Own w B (.slice A n c) zs) : Ints w A zs := by
  obtain ⟨A', c', hv, hI, _⟩ := h.form
  injection hv with h1 h2 h3
  subst h1
  exact hI
theorem own_form5 {w : World} {B : Nat} {v : Value} {zs : List Int} (h : Own w B v zs) :
    ∃ A n c, v = .slice A n c ∧ zs.length = n ∧ Own w B (.slice A n c) zs ∧ n ≤ c ∧ c ≤ maxLen := by
  obtain ⟨A, c, rfl, hI, _, h1, h2⟩ := h.form
  exact ⟨A, zs.length, c, rfl, rfl, h, h1, h2⟩

set_option maxRecDepth 100000 in
set_option maxHeartbeats 1600000 in
theorem implFau_any (a b : ByteArray) (w : World) (ha : a.size ≤ 1048576) (hb : b.size ≤ 1048576) :
    Calls Try.prog 23 #[.string a, .string b] w fun e w' => ∃ v, e = .returned (.tuple #[v, .bool (fauB a b)]) ∧ Own w' w.heap.size v (fauL a b) ∧ Below w.heap.size w w' := by
  by_cases hn : a.size = b.size
  · have hne : ((a.size : Int) != (b.size : Int)) = false := by rw [bne_eq_false_iff_eq]; omega
    have HB : Hid (fauB a b = true) := by show _ = _; unfold fauB; rw [beq_iff_eq]; exact hn
    have HL : Hid (fauL a b = fauN a b a.size) := by show _ = _; unfold fauL; rw [if_pos hn]
    have hle : b.size ≤ a.size := by omega
    have hge : a.size ≤ b.size := by omega
    clear hn
    go_enter Try.func23, Try.ntmps23
    go_wp2
    go_loopw [6, 15] (fun u i wr => ∃ k : Nat, k ≤ a.size ∧ i = .int .i64 k ∧ Own wr w.heap.size u (fauN a b k) ∧ Below w.heap.size w wr) (fun _ i _ => a.size - (intOf i).toNat)
    case atStart =>
      exact ⟨0, Nat.zero_le _, rfl, ⟨rfl, .inl ⟨rfl, rfl⟩⟩, Below.refl _ _⟩
    case round =>
      obtain ⟨k, hk, rfl, hO, hb2⟩ := hrel
      have HO := Lib.hid hO; have HBl := Lib.hid hb2
      have hsz := hb2.size
      have hlen := fauN_len a b k
      clear hO hb2
      by_cases hlt : k < a.size
      · have hlb : k < b.size := by omega
        by_cases hxy : byA a k = byA b k
        · have HN := Lib.hid (fauN_no hxy)
          rw [byA_eq hlt, byA_eq hlb] at hxy
          obtain ⟨t1, t2⟩ := u8_eq hxy
          clear hxy
          go_wp2
          go_quiet (fail)
          go_wp2
          go_roundw
          case rel => exact ⟨k + 1, by omega, by go_num, by rw [HN.out]; exact HO.out.drewN _, below_drewN HBl.out _⟩
          case measure => simp [intOf]; omega
        · have HN := Lib.hid (fauN_yes hxy)
          rw [byA_eq hlt, byA_eq hlb] at hxy
          obtain ⟨t1, t2⟩ := u8_ne hxy
          clear hxy
          go_wp2
          go_quiet (fail)
          go_wp2_with (at_builtin; refine wpl_push _ rfl (.tmp 25) (.tmp 27) rfl w.heap.size _ (fauN a b k) (k : Int) rfl rfl (HO.out.drewN _) hsz (by omega) ?_; intro v1 w1 hO1 hb1; have HO1 := Lib.hid hO1; have HB1 := Lib.hid hb1; clear hO1 hb1)
          go_roundw
          case rel => exact ⟨k + 1, by omega, by go_num, by rw [HN.out]; exact HO1.out, (below_drewN HBl.out _).trans HB1.out⟩
          case measure => simp [intOf]; omega
      · have hkn : k = a.size := by omega
        subst hkn
        obtain ⟨A', n', c', rfl, _, hO', _, _⟩ := own_form5 HO.out
        go_wp2
        go_ret2
        exact ⟨.slice A' n' c', by rw [HB.out]; rfl, by rw [HL.out]; exact hO', HBl.out⟩
  · have hne : ((a.size : Int) != (b.size : Int)) = true := by rw [bne_iff_ne]; omega
    have HB : Hid (fauB a b = false) := by show _ = _; unfold fauB; rw [beq_eq_false_iff_ne]; exact hn
    have HL : Hid (fauL a b = []) := by show _ = _; unfold fauL; rw [if_neg hn]
    clear hn
    go_enter Try.func23, Try.ntmps23
    go_wp2
    go_ret2
    exact ⟨.slice none 0 0, by rw [HB.out]; rfl, by rw [HL.out]; exact ⟨rfl, .inl ⟨rfl, rfl⟩⟩, Below.refl _ _⟩

end Go.Proofs.Ytobakeahbgodbaa
