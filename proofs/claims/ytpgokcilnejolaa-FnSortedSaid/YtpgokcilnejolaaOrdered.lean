/-
  laws.ordered by contract: the numbers of a list in ascending order, in memory of the call's own. Condition: at most 2^20 numbers.
-/
import Derived.Test.YtpgokcilnejolaaSortM
import Derived.Test.YtpgokcilnejolaaOrders
import Derived.Test.YtpgokcilnejolaaConcat
namespace Go.Proofs.Ytpgokcilnejolaa
open Go.RowKit
set_option linter.unusedVariables false

theorem srt_take {zs : List Int} {k : Nat} {x : Int} (h : zs[k]? = some x) : srt (zs.take (k + 1)) = ins x (srt (zs.take k)) := by
  rw [take_at h]; unfold srt; rw [List.foldl_append]; rfl
theorem srt_len (zs : List Int) : (srt zs).length = zs.length := (srt_is_perm zs).length_eq
theorem ins_at {x : Int} : ∀ {l : List Int} {j : Nat}, (∀ t, t < j → l.getD t 0 < x) → (j = l.length ∨ (j < l.length ∧ ¬ l.getD j 0 < x)) → ins x l = (l.take j ++ [x]) ++ l.drop j
  | [], j, _, h => by
    rcases h with h | h
    · subst h; rfl
    · simp at h
  | a :: l, 0, _, h => by
    rcases h with h | h
    · simp at h
    · have h2 : ¬ a < x := by simpa using h.2
      simp [ins, h2]
  | a :: l, j + 1, hlo, h => by
    have h0 : a < x := by simpa using hlo 0 (by omega)
    have ih := ins_at (x := x) (l := l) (j := j) (fun t ht => by simpa using hlo (t + 1) (by omega)) (by
      rcases h with h | h
      · left; simpa using h
      · right; simpa using h)
    simp [ins, h0, ih]
theorem Ints.at_some {w : World} {ad : Addr} {zs : List Int} {k : Nat} (h : Ints w (some ad) zs) (hk : k < zs.length) : ∃ x, Hid (zs[k]? = some x) ∧ w.cell? (ad.add k) = some (.int .i64 x) := by
  obtain ⟨ad', x, e, hx, hc⟩ := h.at_ hk
  injection e with e
  subst e
  exact ⟨x, hx, hc⟩
theorem ints_from {w : World} {A : Option Addr} {c l : Nat} {zs : List Int} (h : Ints w A zs) (hc : zs.length ≤ c) : Ints w (if c = l then A else Option.map (fun x => x.add l) A) (zs.drop l) := by
  intro hp
  have hp' := hp
  rw [List.length_drop] at hp
  obtain ⟨ad, rfl, _⟩ := h (by omega)
  rw [if_neg (by omega)]
  exact ints_drop h hp'

set_option maxRecDepth 100000 in
set_option maxHeartbeats 1600000 in
theorem ordered_any (A : Option Addr) (n c : Nat) (zs : List Int) (w : World) (hn : zs.length = n) (hm : n ≤ 1048576) (h : Ints w A zs) :
    Calls Try.prog 24 #[.slice A n c] w fun e w' => ∃ A' c', e = .returned (.slice A' n c') ∧ Own w' w.heap.size (.slice A' n c') (srt zs) ∧ Below w.heap.size w w' := by
  have Hn := Lib.hid hn; have H := Lib.hid h
  clear hn h
  go_enter Try.func24, Try.ntmps24
  go_wp2
  go_loopw [3, 11] (fun v i wr => ∃ (k : Nat) (A' : Option Addr) (c' : Nat), k ≤ n ∧ v = .slice A' k c' ∧ i = .int .i64 k ∧ Own wr w.heap.size (.slice A' k c') (srt (zs.take k)) ∧ k ≤ c' ∧ c' ≤ maxLen ∧ Below w.heap.size w wr) (fun _ i _ => n - (intOf i).toNat)
  case atStart =>
    have h1 : Own (w.alloc (.cells #[] 3)) w.heap.size (.slice (some ⟨w.heap.size, 0, none⟩) 0 0) [] := World.ownsRow_lit w #[] 0 (Nat.le_refl _) (Nat.zero_le _) rfl
    exact ⟨0, _, 0, Nat.zero_le _, rfl, rfl, h1, Nat.zero_le _, Nat.zero_le _, (Below.refl _ _).alloc (Nat.le_refl _) _⟩
  case round =>
    obtain ⟨k, A', c', hk, rfl, rfl, hO, hkc, hcm, hb⟩ := hrel
    have HO := Lib.hid hO; have HB := Lib.hid hb
    have hszr := hb.size
    clear hO hb
    by_cases hlt : k < n
    · obtain ⟨ad0, x, rfl, hx, hc⟩ := (H.out.below HB.out).at_ (k := k) (by rw [Hn.out]; exact hlt)
      have HT := Lib.hid (srt_take hx.out)
      have hLl : (srt (zs.take k)).length = k := by rw [srt_len, List.length_take, Hn.out]; omega
      obtain ⟨L, hL⟩ : ∃ L, srt (zs.take k) = L := ⟨_, rfl⟩
      rw [hL] at HO HT hLl
      have HL := Lib.hid hLl
      have HI := Lib.hid (own_ints HO.out)
      unfold maxLen at hcm
      clear hL hLl
      go_wp2
      go_loop [6] (fun u => ∃ j : Nat, j ≤ k ∧ u = .int .i64 j ∧ ∀ t, t < j → L.getD t 0 < x) (fun u => k - (intOf u).toNat)
      case atStart => exact ⟨0, Nat.zero_le _, rfl, fun t ht => absurd ht (by omega)⟩
      case round =>
        obtain ⟨j, hj, rfl, hlo⟩ := hrel
        have Hlo := Lib.hid hlo
        clear hlo
        by_cases hjk : j < k
        · obtain ⟨ad, y, rfl, hy, hcy⟩ := HI.out.at_ (k := j) (by rw [HL.out]; exact hjk)
          by_cases hyx : y < x
          · have t1 : decide (y < x) = true := decide_eq_true hyx
            have HN : Hid (∀ t, t < j + 1 → L.getD t 0 < x) := fun t ht => by
              by_cases e : t = j
              · subst e; rw [getD_at hy.out]; exact hyx
              · exact Hlo.out t (by omega)
            clear hyx
            go_wp2
            go_round
            case rel => exact ⟨j + 1, by omega, by go_num, HN.out⟩
            case measure => simp [intOf]; omega
          · have t1 : decide (y < x) = false := decide_eq_false hyx
            have HX := Lib.hid (ins_at Hlo.out (.inr ⟨by rw [HL.out]; exact hjk, by rw [getD_at hy.out]; exact hyx⟩))
            clear hyx
            have hjc : j ≤ c' := by omega
            have hcj : ¬ c' = j := by omega
            obtain ⟨d, hd⟩ : ∃ d, k - j = d := ⟨_, rfl⟩
            have hd1 : (k : Int) - (j : Int) = (d : Int) := by omega
            have HLT : Hid ((L.take j).length = j) := by show _ = _; rw [List.length_take, HL.out]; omega
            have HLD : Hid ((L.drop j).length = d) := by show _ = _; rw [List.length_drop, HL.out]; exact hd
            have HAN := Lib.hid (ints_drop (q := j) HI.out)
            have HE : Hid (Own (wr.alloc (.cells #[] 3)) wr.heap.size (.slice (some ⟨wr.heap.size, 0, none⟩) 0 0) []) := World.ownsRow_lit wr #[] 0 (Nat.le_refl _) (Nat.zero_le _) rfl
            have HBA : Hid (Below wr.heap.size wr (wr.alloc (.cells #[] 3))) := (Below.refl _ _).alloc (Nat.le_refl _) _
            have hn20 : n ≤ 1048576 := hm
            go_wp2_with (first
              | (at_builtin; refine wpl_append_any _ rfl (.tmp 29) (.tmp 32) rfl wr.heap.size (.slice (some ⟨wr.heap.size, 0, none⟩) 0 0) [] (L.take j) (some ad) j c' rfl rfl HLT.out (ints_take (HI.out.below HBA.out)) HE.out (by simp) (by simp; omega) ?_; intro v1 w4 hO4 hg4 hv4; have HB4 := Lib.hid (HBA.out.trans ((Below.refl wr.heap.size _).grown hg4 (by simp) (fun k hk => (World.ownsRow.lt HE.out k hk).1))); have HO4 := Lib.hid hO4; clear hO4 hg4 hv4)
              | (at_builtin; refine wpl_push _ rfl (.tmp 33) (.tmp 35) rfl wr.heap.size v1 ([] ++ L.take j) x rfl rfl HO4.out HB4.out.size (by rw [List.nil_append, HLT.out]; omega) ?_; intro v2 w5 hO5 hb5; have HB5 := Lib.hid (HB4.out.trans hb5); have HO5 := Lib.hid hO5; clear hO5 hb5)
              | (at_builtin; refine wpl_append_any _ rfl (.tmp 37) (.tmp 40) rfl wr.heap.size v2 (([] ++ L.take j) ++ [x]) (L.drop j) (some (ad.add j)) d (c' - j) rfl rfl HLD.out (HAN.out.below HB5.out) HO5.out HB5.out.size (by rw [List.nil_append, List.length_append, HLT.out]; simp; omega) ?_; intro v3 w6 hO6 hg6 hv6; have HB6 := Lib.hid (HB5.out.trans ((Below.refl wr.heap.size _).grown hg6 HB5.out.size (fun k hk => (World.ownsRow.lt HO5.out k hk).1))); have HO6 := Lib.hid hO6; clear hO6 hg6 hv6))
            have hO7 := HO6.out
            rw [List.nil_append, ← HX.out, ← HT.out] at hO7
            obtain ⟨A7, n7, c7, rfl, hn7, hO8, hnc7, hcm7⟩ := own_form3 hO7
            have hn8 : n7 = k + 1 := by rw [← hn7, srt_len, List.length_take, Hn.out]; omega
            subst hn8
            go_roundw
            case rel => exact ⟨k + 1, A7, c7, by omega, rfl, by go_num, own_base hO8 (by omega), hnc7, hcm7, HB.out.trans (HB6.out.mono (by omega))⟩
            case measure => simp [intOf]; omega
        · have hkj : k ≤ j := by omega
          have HX := Lib.hid (ins_at Hlo.out (.inl (by rw [HL.out]; omega)))
          have hjc : j ≤ c' := by omega
          obtain ⟨AN, hAN⟩ : ∃ AN, (if c' = j then A' else Option.map (fun x => x.add j) A') = AN := ⟨_, rfl⟩
          obtain ⟨d, hd⟩ : ∃ d, k - j = d := ⟨_, rfl⟩
          have hd1 : (k : Int) - (j : Int) = (d : Int) := by omega
          have HLT : Hid ((L.take j).length = j) := by show _ = _; rw [List.length_take, HL.out]; omega
          have HLD : Hid ((L.drop j).length = d) := by show _ = _; rw [List.length_drop, HL.out]; exact hd
          have HIF := ints_from (c := c') (l := j) HI.out (by rw [HL.out]; exact hkc)
          rw [hAN] at HIF
          have HAN := Lib.hid HIF
          clear HIF
          have HE : Hid (Own (wr.alloc (.cells #[] 3)) wr.heap.size (.slice (some ⟨wr.heap.size, 0, none⟩) 0 0) []) := World.ownsRow_lit wr #[] 0 (Nat.le_refl _) (Nat.zero_le _) rfl
          have HBA : Hid (Below wr.heap.size wr (wr.alloc (.cells #[] 3))) := (Below.refl _ _).alloc (Nat.le_refl _) _
          have hn20 : n ≤ 1048576 := hm
          go_wp2_with (first
            | (at_builtin; refine wpl_append_any _ rfl (.tmp 29) (.tmp 32) rfl wr.heap.size (.slice (some ⟨wr.heap.size, 0, none⟩) 0 0) [] (L.take j) A' j c' rfl rfl HLT.out (ints_take (HI.out.below HBA.out)) HE.out (by simp) (by simp; omega) ?_; intro v1 w4 hO4 hg4 hv4; have HB4 := Lib.hid (HBA.out.trans ((Below.refl wr.heap.size _).grown hg4 (by simp) (fun k hk => (World.ownsRow.lt HE.out k hk).1))); have HO4 := Lib.hid hO4; clear hO4 hg4 hv4)
            | (at_builtin; refine wpl_push _ rfl (.tmp 33) (.tmp 35) rfl wr.heap.size v1 ([] ++ L.take j) x rfl rfl HO4.out HB4.out.size (by rw [List.nil_append, HLT.out]; omega) ?_; intro v2 w5 hO5 hb5; have HB5 := Lib.hid (HB4.out.trans hb5); have HO5 := Lib.hid hO5; clear hO5 hb5)
            | (at_builtin; refine wpl_append_any _ rfl (.tmp 37) (.tmp 40) rfl wr.heap.size v2 (([] ++ L.take j) ++ [x]) (L.drop j) AN d (c' - j) rfl rfl HLD.out (HAN.out.below HB5.out) HO5.out HB5.out.size (by rw [List.nil_append, List.length_append, HLT.out]; simp; omega) ?_; intro v3 w6 hO6 hg6 hv6; have HB6 := Lib.hid (HB5.out.trans ((Below.refl wr.heap.size _).grown hg6 HB5.out.size (fun k hk => (World.ownsRow.lt HO5.out k hk).1))); have HO6 := Lib.hid hO6; clear hO6 hg6 hv6))
          clear hAN
          have hO7 := HO6.out
          rw [List.nil_append, ← HX.out, ← HT.out] at hO7
          obtain ⟨A7, n7, c7, rfl, hn7, hO8, hnc7, hcm7⟩ := own_form3 hO7
          have hn8 : n7 = k + 1 := by rw [← hn7, srt_len, List.length_take, Hn.out]; omega
          subst hn8
          go_roundw
          case rel => exact ⟨k + 1, A7, c7, by omega, rfl, by go_num, own_base hO8 (by omega), hnc7, hcm7, HB.out.trans (HB6.out.mono (by omega))⟩
          case measure => simp [intOf]; omega
    · obtain rfl : k = n := by omega
      go_wp2
      go_ret
      refine ⟨_, _, rfl, ?_, HB.out⟩
      have := HO.out
      rw [take_all Hn.out] at this
      exact this
end Go.Proofs.Ytpgokcilnejolaa
