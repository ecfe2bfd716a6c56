/-
  FnOrders: its walk. No condition.
-/
import Derived.Test.YtpgokcilnejolaaCntV
import Derived.Test.YtpgokcilnejolaaAt
import Derived.Test.YtpgokcilnejolaaAny
import Derived.OwnWalk
import Derived.Deep.RegionLaw
import Derived.Outline
namespace Go.Proofs.Ytpgokcilnejolaa
open Go.RowKit
set_option linter.unusedVariables false

/-- append([]int{y}, ys...): a row of the call's own, y ahead of ys -/
theorem wpl_consof {ops : Array Oper} {o : Oper} {rest : List Oper} {a : Act} {Q : Exit → Act → World → Prop} (w : World) (hg : o.guard = none) (s x : Operand) (ho : o.op = .call { callee := .builtin .append, args := #[s, x], argTypes := #[23, 23] })
    (y : Int) (ys : List Int) (ad : Addr) (m c : Nat) (hs : a.eval s = .slice (some ⟨w.heap.size, 0, none⟩) 1 1) (hx : a.eval x = .slice (some ad) m c) (hm : ys.length = m) (hI : Ints w (some ad) ys) (hlen : m ≤ 1048575)
    (hK : ∀ v' w', Own w' w.heap.size v' (y :: ys) → Below w.heap.size w w' → wpList Try.prog ops Q rest (a.put o.dst v') w') :
    wpList Try.prog ops Q (o :: rest) a (w.alloc (.cells #[.int .i64 y] 3)) := by
  obtain ⟨i0, hi, hz0, hz1, hz2⟩ := info_parts intInfo
  have hE : Own (w.alloc (.cells #[.int .i64 y] 3)) w.heap.size (.slice (some ⟨w.heap.size, 0, none⟩) 1 1) [y] := World.ownsRow_lit w #[.int .i64 y] 1 (Nat.le_refl _) (by unfold maxLen; omega) rfl
  have hb0 : Below w.heap.size w (w.alloc (.cells #[.int .i64 y] 3)) := (Below.refl _ _).alloc (Nat.le_refl _) _
  have hI2 : Ints (w.alloc (.cells #[.int .i64 y] 3)) (some ad) ys := hI.below hb0
  refine wpList_append_own _ hg s x 23 ho w.heap.size 3 i0 (.int .i64 0) 1 8 Try.underlying23 hi hz0 hz1 hz2 rfl (by decide) _ 1 [.int .i64 y] hs hE ad m c (ys.map (Value.int .i64)) hx (by simp [hm]) ?_ ?_ (by unfold maxLen; omega) (by omega) (by simp) ?_
  · intro j u hj
    rw [List.getElem?_map] at hj
    cases hy : ys[j]? with
    | none => rw [hy] at hj; cases hj
    | some y =>
      rw [hy] at hj
      simp at hj; subst hj
      obtain ⟨ad', e, hc⟩ := hI2 (by have := lt_at hy; omega)
      obtain rfl := Option.some.inj e
      rw [hc j (lt_at hy), getD_at hy]
  · intro u hu
    obtain ⟨y, _, rfl⟩ := List.mem_map.1 hu
    rfl
  · intro v' w' h1 h2 _
    refine hK v' w' ?_ (hb0.trans ((Below.refl _ _).grown h2 (by simp) (fun k hk => (World.ownsRow.lt hE k hk).1)))
    unfold Own
    rw [List.length_cons, hm, Nat.add_comm]
    simpa using h1

/-- append(s, q) onto a row of the call's own, at an operation with a guard that lets it through -/
theorem wpl_push_g {ops : Array Oper} {o : Oper} {rest : List Oper} {a : Act} {Q : Exit → Act → World → Prop} (w : World) (hg : Region.wanted o (yielded ops a.tmps) = true) (s x : Operand) (ho : o.op = .call { callee := .builtin .append, args := #[s, x], argTypes := #[23, 23] })
    (B : Nat) (v : Value) (zs : List Int) (q : Int) (hs : a.eval s = v) (hx : a.eval x = .slice (some ⟨w.heap.size, 0, none⟩) 1 1) (hown : Own w B v zs) (hB : B ≤ w.heap.size) (hlen : zs.length ≤ 1048576)
    (hK : ∀ v' w', Own w' B v' (zs ++ [q]) → Below B w w' → wpList Try.prog ops Q rest (a.put o.dst v') w') :
    wpList Try.prog ops Q (o :: rest) a (w.alloc (.cells #[.int .i64 q] 3)) := by
  obtain ⟨i0, hi, hz0, hz1, hz2⟩ := info_parts intInfo
  unfold wpList
  rw [if_pos hg]
  left
  refine wp_append_own _ s x 23 ho B 3 i0 (.int .i64 0) 1 8 Try.underlying23 hi hz0 hz1 hz2 rfl (by decide) v zs.length (zs.map (Value.int .i64)) hs (World.ownsRow.alloc hown _) ⟨w.heap.size, 0, none⟩ 1 1 [.int .i64 q] hx rfl ?_ ?_ (by unfold maxLen; omega) (by omega) (by simp; omega) ?_
  · intro j u hj
    match j, hj with
    | 0, hj =>
      simp at hj; subst hj
      rw [add_zero_at, World.cell?_alloc_at _ _ _ _ rfl]
      rfl
  · intro u hu; simp at hu; subst hu; rfl
  · intro v' w' h1 h2 _
    refine hK v' w' ?_ ?_
    · unfold Own
      rw [List.map_append, List.length_append]
      exact h1
    · refine (((Below.refl B w).alloc hB (.cells #[.int .i64 q] 3))).trans ?_
      exact (Below.refl B _).grown h2 (by simp; omega) (fun k hk => (World.ownsRow.lt hown k hk).1)

theorem ints_take {w : World} {A : Option Addr} {zs : List Int} {q : Nat} (h : Ints w A zs) : Ints w A (zs.take q) := fun hp => by
  rw [List.length_take] at hp
  obtain ⟨ad, e, hc⟩ := h (by omega)
  refine ⟨ad, e, fun j hj => ?_⟩
  rw [List.length_take] at hj
  rw [hc j (by omega)]
  simp only [List.getD, List.getElem?_take]
  rw [if_pos (by omega)]
theorem ints_drop {w : World} {ad : Addr} {zs : List Int} {q : Nat} (h : Ints w (some ad) zs) : Ints w (some (ad.add q)) (zs.drop q) := fun hp => by
  rw [List.length_drop] at hp
  obtain ⟨ad', e, hc⟩ := h (by omega)
  injection e with e
  subst e
  refine ⟨_, rfl, fun j hj => ?_⟩
  rw [List.length_drop] at hj
  rw [show (ad.add q).add j = ad.add (q + j) from by by_cases hq0 : q = 0 <;> by_cases hj0 : j = 0 <;> simp [Addr.add, hq0, hj0, Nat.add_assoc], hc (q + j) (by omega)]
  simp [List.getD, List.getElem?_drop]

set_option maxHeartbeats 800000 in
theorem fnOrders_walk (A : Option Addr) (n c : Nat) (bs : List Int) (w : World) (hn : bs.length = n) (hm : n ≤ maxLen) (h : Bytes w A bs) (wf : ∀ z ∈ bs, (Lit.int .u8 z).wf = true) :
    Calls Try.prog 8 #[.slice A n c] w fun e w' => e = .returned (.bool true) ∧ Below w.heap.size w w' := by
  have H := Lib.hid h; have Hn := Lib.hid hn; have Hwf := Lib.hid wf
  clear h hn wf
  have hm0 := hm
  unfold maxLen at hm
  by_cases hbig : 1048576 < n
  · go_enter Try.func8, Try.ntmps8
    go_wp2
    go_ret
    exact ⟨rfl, Below.refl _ _⟩
  · have hb00 : decide ((1048576 : Int) < (n : Int)) = false := by simp; omega
    go_enter Try.func8, Try.ntmps8
    go_wp2_with fail
    refine (at0 _ _ _ bs _ Hn.out (by omega) H.out Hwf.out).mono ?_
    rintro e w1 ⟨x, rfl, hx, rfl⟩
    obtain ⟨r, hr⟩ : ∃ r, x % 6 = r := ⟨_, rfl⟩
    have hr6 : r < 6 := by omega
    obtain ⟨M, hM⟩ : ∃ M, r + 1 = M := ⟨_, rfl⟩
    have hM6 : M ≤ 6 := by omega
    have hM1 : 1 ≤ M := by omega
    have hr1 : Int.tmod (x : Int) 6 = (r : Int) := by rw [Int.tmod_eq_emod_of_nonneg (by omega)]; omega
    have hr2 : 1 + (r : Int) = (M : Int) := by omega
    go_wp2
    go_loopw [4, 5, 6, 7] (fun v4 v5 va vi wr => ∃ (k : Nat) (a4 a5 : Addr) (c4 c5 : Nat), k ≤ M ∧ v4 = .slice (some a4) k c4 ∧ v5 = .slice (some a5) k c5 ∧ va = .int .i64 (prodN k : Int) ∧ vi = .int .i64 k ∧ Ints wr (some a4) (flatL k) ∧ k ≤ c4 ∧ c4 ≤ maxLen ∧ Own wr w.heap.size (.slice (some a5) k c5) (chainL k) ∧ k ≤ c5 ∧ c5 ≤ maxLen ∧ Below w.heap.size w wr) (fun _ _ _ vi _ => M - (intOf vi).toNat)
    case atStart =>
      have h1 : Own ((w.alloc (.cells #[] 3)).alloc (.cells #[] 3)) (w.alloc (.cells #[] 3)).heap.size (.slice (some ⟨(w.alloc (.cells #[] 3)).heap.size, 0, none⟩) 0 0) [] := World.ownsRow_lit (w.alloc (.cells #[] 3)) #[] 0 (Nat.le_refl _) (Nat.zero_le _) rfl
      have e : (w.alloc (.cells #[] 3)).heap.size = w.heap.size + 1 := by simp
      rw [e] at h1
      exact ⟨0, _, _, 0, 0, Nat.zero_le _, rfl, rfl, rfl, rfl, Ints.nil _ _, Nat.le_refl _, Nat.zero_le _, own_base h1 (by omega), Nat.le_refl _, Nat.zero_le _, ((Below.refl _ _).alloc (Nat.le_refl _) _).alloc (by simp) _⟩
    case round =>
      obtain ⟨k, a4, a5, c4, c5, hk, rfl, rfl, rfl, rfl, hI4, hk4, hm4, hO5, hk5, hm5, hbr⟩ := hrel
      have HI4 := Lib.hid hI4; have HO5 := Lib.hid hO5; have HBr := Lib.hid hbr
      have hszr := hbr.size
      clear hI4 hO5 hbr
      by_cases hkM : k < M
      · obtain ⟨P, hP⟩ : ∃ P, prodN k = P := ⟨_, rfl⟩
        obtain ⟨T, hT⟩ : ∃ T, 2 * 2 ^ k = T := ⟨_, rfl⟩
        obtain ⟨R, hR⟩ : ∃ R, prodN (k + 1) = R := ⟨_, rfl⟩
        have hP1 := prod_bd k (by omega)
        have hR1 := prod_bd (k + 1) (by omega)
        have hT1 : T ≤ 64 := by rw [← hT]; have := Nat.pow_le_pow_right (show 0 < 2 by omega) (show k ≤ 5 by omega); omega
        have hT0 : 1 ≤ T := by rw [← hT]; have := Nat.two_pow_pos k; omega
        have hPR : (P : Int) * ((k : Int) + 1) = (R : Int) := by rw [← hP, ← hR]; simp [prodN]
        have hTw : IntKind.i64.wrap (2 * 2 ^ k) = (T : Int) := by
          have e : (2 * 2 ^ k : Int) = (T : Int) := by rw [← hT]; simp
          rw [e, wrap64_i64]; exact wrap64_small (by omega) (by omega)
        rw [hP] at hP1 ⊢
        rw [hR] at hR1
        have HT := Lib.hid hT; have HP := Lib.hid hP; have HR := Lib.hid hR
        clear hT hP hR
        go_wp2_with ((first
          | (at_builtin; refine wpl_consof _ rfl (.tmp 27) (.tmp 28) rfl (1 + (T : Int)) (flatL k) a4 k c4 rfl rfl (flat_len k) HI4.out (by omega) ?_; intro v1 w4 hO4 hb4)
          | (at_builtin; refine wpl_consof _ rfl (.tmp 33) (.tmp 34) rfl ((T : Int) - 1) (chainL k) a5 k c5 rfl rfl (chain_len k) (own_ints (HO5.out.below hb4)) (by omega) ?_; intro v2 w5 hO5 hb5)))
        go_roundw
        case rel =>
          have hf : (1 + (T : Int)) :: flatL k = flatL (k + 1) := by rw [flatL, ← HT.out]; simp
          have hc : ((T : Int) - 1) :: chainL k = chainL (k + 1) := by rw [chainL, ← HT.out]; simp
          rw [hf] at hO4
          rw [hc] at hO5
          have s4 := hb4.size
          obtain ⟨a4', c4', e1, hi1, hl1, hm1⟩ := own_row2 (hO4.below hb5) (by rw [flat_len]; omega)
          obtain ⟨a5', c5', e2, hi2, hl2, hm2⟩ := own_row2 hO5 (by rw [chain_len]; omega)
          rw [flat_len] at e1 hl1
          rw [chain_len] at e2 hl2
          have hO6 := own_base hO5 (show w.heap.size ≤ w4.heap.size by omega)
          rw [e2] at hO6
          exact ⟨k + 1, a4', a5', c4', c5', by omega, e1, e2, by rw [HR.out], by go_num, hi1, hl1, hm1, hO6, hl2, hm2, HBr.out.trans ((hb4.mono hszr).trans (hb5.mono (by omega)))⟩
        case measure => simp [intOf]; omega
      · obtain rfl : k = M := by omega
        have HB1 : Hid (Bytes wr A bs) := fun hp => by
          obtain ⟨ad, e, hc⟩ := H.out hp
          exact ⟨ad, e, fun j hj => (HBr.out.cell (World.block_lt_of_cell? _ _ (hc j hj))).trans (hc j hj)⟩
        clear H
        go_wp2_with fail
        refine (at1 _ _ _ bs _ Hn.out (by omega) HB1.out Hwf.out).mono ?_
        rintro e w1 ⟨y, rfl, hy, rfl⟩
        obtain ⟨q, hq⟩ : ∃ q, y % k = q := ⟨_, rfl⟩
        have hq6 : q < k := by rw [← hq]; exact Nat.mod_lt _ (by omega)
        have hq1 : Int.tmod (y : Int) (k : Int) = (q : Int) := by rw [Int.tmod_eq_emod_of_nonneg (by omega), ← hq]; rfl
        clear hq hr1 hr2 hr hM
        go_wp2_with fail
        have hqc : q ≤ c5 := by omega
        have hqk : q ≤ k := by omega
        obtain ⟨d, hd⟩ : ∃ d, k - q = d := ⟨_, rfl⟩
        have hd1 : (k : Int) - (q : Int) = (d : Int) := by omega
        have hcq : ¬ c5 = q := by omega
        obtain ⟨P, hP⟩ : ∃ P, prodN k = P := ⟨_, rfl⟩
        rw [hP]
        have HID : Hid (Ints (wr.alloc (.cells #[] 3)).drew (some (a5.add q)) ((chainL k).drop q)) := Ints.drew (ints_drop ((own_ints HO5.out).below ((Below.refl _ _).alloc (Nat.le_refl _) (.cells #[] 3))))
        have HOE : Hid (Own (wr.alloc (.cells #[] 3)).drew wr.heap.size (.slice (some ⟨wr.heap.size, 0, none⟩) 0 0) []) := World.ownsRow_lit wr #[] 0 (Nat.le_refl _) (Nat.zero_le _) rfl
        have HLD : Hid (((chainL k).drop q).length = d) := by show _ = _; rw [List.length_drop, chain_len]; exact hd
        have HLT : Hid (((chainL k).take q).length = q) := by show _ = _; rw [List.length_take, chain_len]; omega
        go_region_law (first
          | (refine step_app rfl (.tmp 44) (.tmp 47) rfl wr.heap.size (.slice (some ⟨wr.heap.size, 0, none⟩) 0 0) [] ((chainL k).drop q) (a5.add q) d (c5 - q) (by simp [Act.eval]) (by simp [Act.eval]) HLD.out HID.out HOE.out (by simp) (by simp; omega) ?_; intro v2 w2 hO2 hb2)
          | (refine step_app rfl (.tmp 48) (.tmp 51) rfl wr.heap.size v2 ([] ++ (chainL k).drop q) ((chainL k).take q) a5 q c5 (by simp [Act.eval]) (by simp [Act.eval]) HLT.out (ints_take ((own_ints HO5.out).below ((below_drewN ((Below.refl _ _).alloc (Nat.le_refl _) (.cells #[] 3)) 1).trans hb2))) hO2 (Nat.le_trans (by simp) hb2.size) (by rw [List.nil_append, HLD.out]; omega) ?_; intro v3 w3 hO3 hb3))
        have E1 : cntI (flatL k) = (P : Int) := by
          have h := cnt_flat (k - 1) (by omega)
          rwa [show k - 1 + 1 = k from by omega, ← cntF_eq, hP] at h
        have E2 : cntI (chainL k) = 1 := by
          have h := cnt_chain (k - 1) (by omega)
          rwa [show k - 1 + 1 = k from by omega, ← cntF_eq] at h
        have E3 : cntI (turnL k q) = 1 := by
          have h := cnt_turn (k - 1) (by omega) q (by omega)
          rwa [show k - 1 + 1 = k from by omega, ← cntF_eq] at h
        have E4 : cntI (chainL k ++ [(chainL k).getD 0 0]) = -1 := by
          have h := cnt_twice (k - 1) (by omega)
          rwa [show k - 1 + 1 = k from by omega, ← cntF_eq] at h
        obtain ⟨z, hz⟩ : ∃ z, (chainL k).getD 0 0 = z := ⟨_, rfl⟩
        rw [hz] at E4
        have hbs := ((below_drewN ((Below.refl _ _).alloc (Nat.le_refl _) (.cells #[] 3)) 1).trans hb2).trans hb3
        rw [List.nil_append] at hO3
        obtain ⟨A3, n3, c3, rfl, hn3, hO3', hnc3, hcm3⟩ := own_form3 hO3
        have HI4 := Lib.hid (HI4.out.below hbs); have HO5 := Lib.hid (HO5.out.below hbs); have HBr := Lib.hid (HBr.out.trans (hbs.mono hszr))
        have HI3 : Hid (Ints w3 A3 (turnL k q)) := own_ints hO3'
        have HN3 : Hid ((turnL k q).length = n3) := hn3
        have HE1 := Lib.hid E1; have HE2 := Lib.hid E2; have HE3 := Lib.hid E3; have HE4 := Lib.hid E4
        have Hz := Lib.hid hz
        have s3 := hbs.size
        clear E1 E2 E3 E4 hz hO3 hO3' hn3 hbs hb2 hb3 hO2 HID HOE HLD HLT hP hd hd1 hcq
        go_wp2_with fail
        refine (implCnt_any _ _ _ (flatL k) _ (flat_len k) (by unfold maxLen; omega) hk4 hm4 HI4.out).mono ?_
        rintro e w4 ⟨he, hb4⟩
        rw [HE1.out] at he
        subst he
        have HO54 := Lib.hid (HO5.out.below hb4); have HI34 := Lib.hid (HI3.out.below hb4); have HB4 := Lib.hid (HBr.out.trans (hb4.mono (by omega)))
        have s4 := hb4.size
        clear HI4 HI3 HO5 HBr hb4
        go_wp2_with fail
        refine (implCnt_any _ _ _ (chainL k) _ (chain_len k) (by unfold maxLen; omega) hk5 hm5 (own_ints HO54.out)).mono ?_
        rintro e w5 ⟨he, hb5⟩
        rw [HE2.out] at he
        subst he
        have HO55 := Lib.hid (HO54.out.below hb5); have HI35 := Lib.hid (HI34.out.below hb5); have HB5 := Lib.hid (HB4.out.trans (hb5.mono (by omega)))
        have s5 := hb5.size
        clear HI34 HO54 HB4 hb5
        go_wp2_with fail
        refine (implCnt_any _ _ _ (turnL k q) _ HN3.out (by omega) hnc3 hcm3 HI35.out).mono ?_
        rintro e w6 ⟨he, hb6⟩
        rw [HE3.out] at he
        subst he
        have HO56 := Lib.hid (HO55.out.below hb6); have HB6 := Lib.hid (HB5.out.trans (hb6.mono (by omega)))
        have s6 := hb6.size
        clear HI35 HO55 HB5 hb6
        obtain ⟨ad, e0, hc0⟩ := own_ints HO56.out (by rw [chain_len]; omega)
        injection e0 with e0
        subst e0
        have hca := hc0 0 (by rw [chain_len]; omega)
        rw [Hz.out, show a5.add 0 = a5 from by simp [Addr.add]] at hca
        clear hc0
        have hkl : (chainL k).length ≤ 1048576 := by rw [chain_len]; omega
        go_wp2_with (at_builtin; refine wpl_push_g _ rfl (.tmp 68) (.tmp 72) rfl w.heap.size (.slice (some a5) k c5) (chainL k) z rfl rfl HO56.out (by omega) hkl ?_; intro v7 w7 hO7 hb7)
        have s7 := hb7.size
        obtain ⟨A7, n7, c7, rfl, hn7, hO7', hnc7, hcm7⟩ := own_form3 hO7
        have HI7 := Lib.hid (own_ints hO7')
        have HN7 := Lib.hid hn7
        clear hO7 hO7' hn7
        refine (implCnt_any _ _ _ (chainL k ++ [z]) _ HN7.out (by omega) hnc7 hcm7 HI7.out).mono ?_
        rintro e w8 ⟨he, hb8⟩
        rw [HE4.out] at he
        subst he
        have HB8 := Lib.hid (HB6.out.trans (hb7.trans (hb8.mono (by omega))))
        clear HB6 hb7 hb8
        go_wp2
        go_ret
        exact ⟨rfl, HB8.out⟩
end Go.Proofs.Ytpgokcilnejolaa
