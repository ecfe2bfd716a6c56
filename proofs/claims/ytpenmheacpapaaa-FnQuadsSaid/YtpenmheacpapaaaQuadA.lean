/-
  Quads, model and program, and the program's blank letters, by contract. Conditions: lengths of at most 2^20.
-/
import Derived.Test.YtpenmheacpapaaaQuadM
import Derived.Test.YtpenmheacpapaaaFitN
namespace Go.Proofs.Ytpenmheacpapaaa
open Go.RowKit
set_option linter.unusedVariables false

theorem isWidth_enter (args : Array Value) (w : World) : Sem.run Try.prog (callFunc 129 args) w = .ok (.enter 129 args) w := by kernel_rfl
theorem own_down0 {w : World} {B B' : Nat} {v : Value} {zs : List Int} (h : Own w B v zs) (hB : B' ≤ B) : Own w B' v zs := by
  refine ⟨h.1, ?_⟩
  rcases h.2 with hn | ⟨g, cap, cur, hv, hg, rest⟩
  · exact .inl hn
  · exact .inr ⟨g, cap, cur, hv, by omega, rest⟩
theorem own_ints0 {w : World} {B n c : Nat} {A : Option Addr} {zs : List Int} (h : Own w B (.slice A n c) zs) : Ints w A zs := by
  obtain ⟨A', c', hv, hI, _⟩ := h.form
  injection hv with h1 h2 h3
  subst h1
  exact hI
theorem pre_all {qs : List Int} {k : Nat} {x : Int} (hx : qs[k]? = some x) {P : Nat → Int → Prop} (hp : P k x) (h : ∀ (i : Nat) (y : Int), i < k → qs[i]? = some y → P i y) : ∀ (i : Nat) (y : Int), i < k + 1 → qs[i]? = some y → P i y := fun i y hi hy => by
  by_cases he : i = k
  · subst he; rw [hx] at hy; injection hy with hy; subst hy; exact hp
  · exact h i y (by omega) hy

set_option maxRecDepth 100000 in
set_option maxHeartbeats 1600000 in
theorem areQuads_any (A : Option Addr) (n c : Nat) (qs : List Int) (w : World) (hn : qs.length = n) (hm : n ≤ 1048576) (h : Ints w A qs) :
    Calls Try.prog 122 #[.slice A n c] w fun e w' => e = .returned (.bool (quadsB qs)) ∧ Below w.heap.size w w' := by
  have Hn := Lib.hid hn; have H := Lib.hid h
  clear hn h
  go_enter Try.func122, Try.ntmps122
  go_wp2
  go_loopw [3] (fun i wr => ∃ k q : Nat, 1 ≤ k ∧ (k ≤ n ∨ k = 1) ∧ i = .int .i64 k ∧ wr = w.drewN q ∧ (∀ (i : Nat) (x : Int), i < k → qs[i]? = some x → 0 < i → x < qs.getD (i - 1) 0)) (fun i _ => n - (intOf i).toNat)
  case atStart => exact ⟨1, 0, Nat.le_refl _, .inr rfl, rfl, rfl, fun i x hi hx h0 => absurd hi (by omega)⟩
  case round =>
    obtain ⟨k, q, hk1, hk, rfl, rfl, hall⟩ := hrel
    have HA := Lib.hid hall
    clear hall
    by_cases hlt : k < n
    · obtain ⟨ad, x, hade, hx, hc⟩ := H.out.at_ (k := k) (by rw [Hn.out]; exact hlt)
      obtain ⟨ad', y, hade', hy, hd⟩ := H.out.at_ (k := k - 1) (by rw [Hn.out]; omega)
      subst hade
      obtain rfl := Option.some.inj hade'
      obtain ⟨p, hp⟩ : ∃ p, k - 1 = p := ⟨_, rfl⟩
      have hkp : (k : Int) - 1 = (p : Int) := by omega
      have hp1 : p < n := by omega
      have HP := Lib.hid hp
      rw [hp] at hd hy
      have HY := Lib.hid (getD_at hy.out)
      have e1 : IntKind.i64.wrap ((k : Int) - 1) = (p : Int) := by rw [IntKind.wrap_i64]; omega
      have hk0 : (0 : Int) ≤ (k : Int) := by omega
      have hkn : (k : Int) < (n : Int) := by omega
      have hp0 : (0 : Int) ≤ (p : Int) := by omega
      have hpn : (p : Int) < (n : Int) := by omega
      clear hp hade'
      by_cases hge : y ≤ x
      · have HR := Lib.hid (quads_bad (qs := qs) (i := k) (by omega) hx.out (by rw [HP.out, HY.out]; exact hge))
        go_wp2_with fail
        go_quiet (fail)
        go_wp2
        go_ret
        exact ⟨ret_bool HR.out.symm, by rw [World.drewN_drewN]; exact below_drewN (Below.refl _ _) _⟩
      · have HA2 := Lib.hid (pre_all hx.out (P := fun i x => 0 < i → x < qs.getD (i - 1) 0) (fun _ => by rw [HP.out, HY.out]; omega) HA.out)
        have hge2 : decide (y ≤ x) = false := decide_eq_false hge
        clear hge
        go_wp2_with fail
        go_quiet (fail)
        go_wp2
        go_roundw
        case rel => exact ⟨k + 1, _, by omega, by omega, by go_num, rfl, HA2.out⟩
        case measure => simp [intOf]; omega
    · have HR := Lib.hid (quads_is (qs := qs) (fun i x h0 hx => HA.out i x (by have := lt_at hx; rw [Hn.out] at this; omega) hx h0))
      go_wp2_with fail
      refine (isListOf_any 129 isWidth_enter (fun x => inB x 1 60) isWidth_any _ _ _ qs _ _ _ Hn.out (by unfold maxLen; omega) (H.out.drewN q)).mono ?_
      rintro e w' ⟨rfl, rfl⟩
      go_wp2
      go_ret
      exact ⟨ret_bool (by rw [HR.out, Hn.out]), below_drewN (Below.refl _ _) _⟩

set_option maxRecDepth 100000 in
set_option maxHeartbeats 1600000 in
theorem l3Quads_any (A : Option Addr) (n c : Nat) (qs : List Int) (w : World) (hn : qs.length = n) (hm : n ≤ 1048576) (h : Ints w A qs) :
    Calls Try.prog 105 #[.slice A n c] w fun e w' => e = .returned (.bool (quadsB qs)) ∧ w = w' := by
  have Hn := Lib.hid hn; have H := Lib.hid h
  clear hn h
  go_enter Try.func105, Try.ntmps105
  go_wp2
  go_loop [7] (fun i => ∃ k : Nat, k ≤ n ∧ i = .int .i64 k ∧ (∀ (i : Nat) (x : Int), i < k → qs[i]? = some x → inB x 1 60 = true ∧ (0 < i → x < qs.getD (i - 1) 0))) (fun i => n - (intOf i).toNat)
  case atStart => exact ⟨0, Nat.zero_le _, rfl, fun i x hi => absurd hi (by omega)⟩
  case round =>
    obtain ⟨k, hk, rfl, hall⟩ := hrel
    have HA := Lib.hid hall
    clear hall
    by_cases hlt : k < n
    · obtain ⟨ad, x, rfl, hx, hc⟩ := H.out.at_ (k := k) (by rw [Hn.out]; exact hlt)
      cases hw : inB x 1 60
      · have HR := Lib.hid (quads_badW hx.out hw)
        go_wp2_with (go_at_call 71; refine (l1In_any _ _ _ _).mono ?_; rintro e w' ⟨rfl, rfl⟩; rw [hw])
        go_ret
        exact ⟨ret_bool HR.out.symm, rfl⟩
      · by_cases hk0 : k = 0
        · subst hk0
          have hc0 : w.cell? ad = some (.int .i64 x) := by
            have e0 : ad.add 0 = ad := by unfold Addr.add; rw [if_pos rfl]
            rw [← e0]; exact hc
          have HA2 := Lib.hid (pre_all hx.out (P := fun i x => inB x 1 60 = true ∧ (0 < i → x < qs.getD (i - 1) 0)) ⟨hw, fun h => absurd h (by omega)⟩ HA.out)
          go_wp2_with (go_at_call 71; refine (l1In_any _ _ _ _).mono ?_; rintro e w' ⟨rfl, rfl⟩; rw [hw])
          go_round
          case rel => exact ⟨1, by omega, rfl, HA2.out⟩
          case measure => simp [intOf]; omega
        · obtain ⟨ad', y, hade', hy, hd⟩ := H.out.at_ (k := k - 1) (by rw [Hn.out]; omega)
          obtain rfl := Option.some.inj hade'
          obtain ⟨p, hp⟩ : ∃ p, k - 1 = p := ⟨_, rfl⟩
          have hkp : (k : Int) - 1 = (p : Int) := by omega
          have hp1 : p < n := by omega
          have HP := Lib.hid hp
          rw [hp] at hd hy
          have HY := Lib.hid (getD_at hy.out)
          have hkpos : decide ((0 : Int) < (k : Int)) = true := decide_eq_true (by omega)
          clear hp hade'
          by_cases hge : y ≤ x
          · have HR := Lib.hid (quads_bad (qs := qs) (i := k) (by omega) hx.out (by rw [HP.out, HY.out]; exact hge))
            go_wp2_with (go_at_call 71; refine (l1In_any _ _ _ _).mono ?_; rintro e w' ⟨rfl, rfl⟩; rw [hw])
            go_ret
            exact ⟨ret_bool HR.out.symm, rfl⟩
          · have HA2 := Lib.hid (pre_all hx.out (P := fun i x => inB x 1 60 = true ∧ (0 < i → x < qs.getD (i - 1) 0)) ⟨hw, fun _ => by rw [HP.out, HY.out]; omega⟩ HA.out)
            have hge2 : decide (y ≤ x) = false := decide_eq_false hge
            clear hge
            go_wp2_with (go_at_call 71; refine (l1In_any _ _ _ _).mono ?_; rintro e w' ⟨rfl, rfl⟩; rw [hw])
            go_round
            case rel => exact ⟨k + 1, by omega, by go_num, HA2.out⟩
            case measure => simp [intOf]; omega
    · have hkn : k = n := by omega
      subst hkn
      have HR := Lib.hid (quads_isW (qs := qs) (fun i x h0 hx => (HA.out i x (by have := lt_at hx; rw [Hn.out] at this; omega) hx).2 h0) (fun i x hx => (HA.out i x (by have := lt_at hx; rw [Hn.out] at this; omega) hx).1))
      go_wp2_with (go_at_call 71; refine (l1In_any _ _ _ _).mono ?_; rintro e w' ⟨rfl, rfl⟩)
      go_ret
      exact ⟨ret_bool (by rw [HR.out, Hn.out]), rfl⟩

/-- how long a slice is -/
def lenV : Value → Nat
  | .slice _ n _ => n
  | _ => 0

set_option maxRecDepth 100000 in
set_option maxHeartbeats 3200000 in
/-- addBlanks, whatever function adds -/
theorem addBlanks_any (F : Nat) (hF : ∀ (args : Array Value) (w : World), Sem.run Try.prog (callFunc F args) w = .ok (.enter F args) w) (both : Bool)
    (hadd : ∀ (A : Option Addr) (n c : Nat) (zs : List Int) (q : Int) (w : World), zs.length = n → n ≤ 200 → IntsB w w.heap.size A zs → Calls Try.prog F #[.slice A n c, .int .i64 q] w fun e w' => ∃ v, e = .returned v ∧ Own w' w.heap.size v (addQ both zs q) ∧ Below w.heap.size w w')
    (W t k : Int) (A : Option Addr) (n c : Nat) (zs : List Int) (A2 : Option Addr) (n2 c2 : Nat) (qs : List Int) (L : List Int) (w : World) (hn : zs.length = n) (hm : n ≤ 1048576) (h : Ints w A zs) (hn2 : qs.length = n2) (hm2 : n2 ≤ 1048576) (h2 : Ints w A2 qs) (hR : QdRes ⟨W, t, k⟩ both zs qs L) :
    Calls Try.prog 100 #[.agg #[.int .i64 W, .int .i64 t, .int .i64 k], .slice A n c, .slice A2 n2 c2, .func (.func F) #[] #[]] w fun e w' => ∃ v, e = .returned (.tuple #[v, .bool (qdB ⟨W, t, k⟩ zs qs)]) ∧ Own w' w.heap.size v L ∧ Below w.heap.size w w' := by
  have Hn := Lib.hid hn; have Hn2 := Lib.hid hn2
  obtain ⟨w0, hw0, hb0, hz0, P⟩ := msWorld w W t k
  have T0 := Lib.hid hb0; have P0 := Lib.hid P; have Z0 := Lib.hid hz0
  have I0 := Lib.hid ((IntsB.of h).keep (Nat.le_refl _) hb0)
  have J0 := Lib.hid ((IntsB.of h2).keep (Nat.le_refl _) hb0)
  have hm0 : n ≤ maxLen := by unfold maxLen; omega
  have hm20 : n2 ≤ maxLen := by unfold maxLen; omega
  have hzz := Z0.out
  have HADD := Lib.hid hadd
  obtain ⟨hR1, hR2, _⟩ := hR
  clear hb0 hz0 P hn hn2 h h2 hadd
  obtain ⟨p0, p1, p2⟩ := P0.out
  cases hg : goodB ⟨W, t, k⟩ zs
  · have hq : qdB ⟨W, t, k⟩ zs qs = false := by unfold qdB; rw [hg]; rfl
    rw [hR2 hq, hq]
    clear hR1 hR2 hq
    go_enter Try.func100, Try.ntmps100
    go_wp2_with fail
    clear hw0
    refine (isFitting_any W t k A n c zs _ Hn.out hm0 I0.out.ints).mono ?_
    rintro e' w1 ⟨he', hb1⟩
    rw [hg] at he'; subst he'
    have T1 := Lib.hid (T0.out.trans (hb1.mono (by omega)))
    clear hb1
    go_wp2
    go_ret2
    exact ⟨_, rfl, ⟨rfl, .inl ⟨rfl, rfl⟩⟩, T1.out⟩
  cases hqd : quadsB qs
  · have hq : qdB ⟨W, t, k⟩ zs qs = false := by unfold qdB; rw [hqd, Bool.and_false]
    rw [hR2 hq, hq]
    clear hR1 hR2 hq
    go_enter Try.func100, Try.ntmps100
    go_wp2_with fail
    clear hw0
    refine (isFitting_any W t k A n c zs _ Hn.out hm0 I0.out.ints).mono ?_
    rintro e' w1 ⟨he', hb1⟩
    rw [hg] at he'; subst he'
    have T1 := Lib.hid (T0.out.trans (hb1.mono (by omega))); have J1 := Lib.hid (J0.out.keep (by omega) hb1)
    clear hb1
    go_wp2_with fail
    refine (areQuads_any A2 n2 c2 qs _ Hn2.out hm2 J1.out.ints).mono ?_
    rintro e' w2 ⟨he', hb2⟩
    rw [hqd] at he'; subst he'
    have T2 := Lib.hid (T1.out.trans (hb2.mono (by have := T1.out.size; omega)))
    clear hb2
    go_wp2
    go_ret2
    exact ⟨_, rfl, ⟨rfl, .inl ⟨rfl, rfl⟩⟩, T2.out⟩
  have hq : qdB ⟨W, t, k⟩ zs qs = true := by unfold qdB; rw [hqd, hg]; rfl
  have HR := Lib.hid (hR1 hq)
  rw [hq]
  obtain ⟨hms, hli, _⟩ := goodB_parts hg
  have hn120 : n ≤ 120 := by rw [← Hn.out]; exact (lineB_parts hli).2
  have hn28 : n2 ≤ 8 := by rw [← Hn2.out]; exact (quads_len hqd).2
  have HQM := Lib.hid (quads_mem hqd)
  have HGF : Hid (∀ xs, goodB ⟨W, t, k⟩ xs = fitsB ⟨W, t, k⟩ xs) := fun xs => by unfold goodB; rw [hms]; rfl
  clear hR1 hR2 hq hms hli
  go_enter Try.func100, Try.ntmps100
  go_wp2_with fail
  clear hw0
  refine (isFitting_any W t k A n c zs _ Hn.out hm0 I0.out.ints).mono ?_
  rintro e' w1 ⟨he', hb1⟩
  rw [hg] at he'; subst he'
  have T1 := Lib.hid (T0.out.trans (hb1.mono (by omega))); have P1 := Lib.hid (hold3 hb1 (by omega) P0.out); have I1 := Lib.hid (I0.out.keep (by omega) hb1); have J1 := Lib.hid (J0.out.keep (by omega) hb1)
  have z1 := hb1.size
  clear hb1 p0 p1 p2 hg
  go_wp2_with fail
  refine (areQuads_any A2 n2 c2 qs _ Hn2.out hm2 J1.out.ints).mono ?_
  rintro e' w2 ⟨he', hb2⟩
  rw [hqd] at he'; subst he'
  have T2 := Lib.hid (T1.out.trans (hb2.mono (by omega))); have P2 := Lib.hid (hold3 hb2 (by omega) P1.out); have I2 := Lib.hid (I1.out.keep (by omega) hb2); have J2 := Lib.hid (J1.out.keep (by omega) hb2)
  have z2 := hb2.size
  clear hb2 hqd
  go_wp2_with fail
  refine (clone_any A n c zs _ Hn.out hm (fun h => by obtain ⟨ad, e, hl, hc⟩ := I2.out h; exact ⟨ad, e, by omega, hc⟩)).mono ?_
  rintro e' w3 ⟨v3, rfl, hO3, hb3⟩
  obtain ⟨A3, c3, hv3, _⟩ := hO3.form
  rw [Hn.out] at hv3
  subst hv3
  have O3 := Lib.hid (own_down0 hO3 (show w2.heap.size ≤ w2.heap.size from Nat.le_refl _)); have B3 := Lib.hid hb3
  have z3 := hb3.size
  clear hb3 hO3
  go_wp2
  go_loopw [10, 27] (fun u i wr => ∃ j : Nat, ∃ fs A5 n5 c5, j ≤ n2 ∧ i = .int .i64 j ∧ u = .slice A5 n5 c5 ∧ fs.length = n5 ∧ n5 ≤ 120 ∧ Own wr w2.heap.size (.slice A5 n5 c5) fs ∧ Res ⟨W, t, k⟩ both qs fs L ∧ (∀ (i : Nat) (x : Int), i < j → qs[i]? = some x → fitsB ⟨W, t, k⟩ (addQ both fs x) = false) ∧ Below w2.heap.size w2 wr) (fun _ i _ => n2 - (intOf i).toNat)
  case atStart => exact ⟨0, zs, A3, n, c3, Nat.zero_le _, rfl, rfl, Hn.out, hn120, O3.out, HR.out, fun i x hi => absurd hi (by omega), B3.out⟩
  case round =>
    clear O3 B3 HR
    obtain ⟨j, fs, A5, n5, c5, hj, rfl, rfl, hfl, hn5, hown, hres, hno, hb⟩ := hrel
    have hsz := hb.size
    have HO := Lib.hid hown; have HB := Lib.hid hb; have HRs := Lib.hid hres; have HNO := Lib.hid hno; have HFl := Lib.hid hfl
    clear hown hb hres hno hfl
    by_cases hlt : j < n2
    · obtain ⟨ad, q, rfl, hx, hc⟩ := (J2.out.keep (by omega) HB.out).ints.at_ (k := j) (by rw [Hn2.out]; exact hlt)
      have hq1 := HQM.out q (mem_at hx.out)
      go_wp2_with fail
      refine (HADD.out A5 n5 c5 fs q _ HFl.out (by omega) (IntsB.of (own_ints0 HO.out))).mono ?_
      rintro e' w4 ⟨v4, rfl, hO4, hb4⟩
      obtain ⟨A4, c4, hv4, _⟩ := hO4.form
      obtain ⟨n4, hn4⟩ : ∃ m, (addQ both fs q).length = m := ⟨_, rfl⟩
      have hn4b : n4 ≤ 122 := by have := moreQ_pos both; rw [addQ_len, HFl.out] at hn4; omega
      rw [hn4] at hv4
      subst hv4
      have O4 := Lib.hid (own_down0 hO4 (show w2.heap.size ≤ _ by omega)); have B4 := Lib.hid (HB.out.trans (hb4.mono hsz)); have F4 := Lib.hid (HO.out.below hb4); have L4 := Lib.hid hn4
      clear hO4 hb4 hn4
      go_wp2
      go_loopw [10, 13] (fun u v wr => ∃ fs A5 n5 c5 A4 n4 c4, u = .slice A5 n5 c5 ∧ v = .slice A4 n4 c4 ∧ fs.length = n5 ∧ n5 ≤ 120 ∧ (addQ both fs q).length = n4 ∧ n4 ≤ 122 ∧ Own wr w2.heap.size (.slice A5 n5 c5) fs ∧ Own wr w2.heap.size (.slice A4 n4 c4) (addQ both fs q) ∧ Res ⟨W, t, k⟩ both qs fs L ∧ (∀ (i : Nat) (x : Int), i < j → qs[i]? = some x → fitsB ⟨W, t, k⟩ (addQ both fs x) = false) ∧ Below w2.heap.size w2 wr) (fun u _ _ => 200 - lenV u)
      case atStart => exact ⟨fs, A5, n5, c5, A4, n4, c4, rfl, rfl, HFl.out, hn5, L4.out, hn4b, F4.out, O4.out, HRs.out, HNO.out, B4.out⟩
      case round =>
        clear O4 F4 B4 L4 HRs HNO HFl HO HB
        obtain ⟨fs, A5, n5, c5, A4, n4, c4, rfl, rfl, hfl, hn5, hal, hn4b, hownf, hownl, hres, hno, hb⟩ := hrel
        have hsz := hb.size
        have HF := Lib.hid hownf; have HL := Lib.hid hownl; have HB := Lib.hid hb; have HRs := Lib.hid hres; have HNO := Lib.hid hno; have HFl := Lib.hid hfl; have HAl := Lib.hid hal
        have Pr := Lib.hid (hold3 hb (by omega) P2.out)
        obtain ⟨p0, p1, p2⟩ := Pr.out
        clear hownf hownl hb hres hno hfl hal
        cases hfit : fitsB ⟨W, t, k⟩ (addQ both fs q)
        · have HN2 := Lib.hid (pre_all hx.out (P := fun _ x => fitsB ⟨W, t, k⟩ (addQ both fs x) = false) hfit HNO.out)
          go_wp2_with fail
          refine (isFitting_any W t k A4 n4 c4 (addQ both fs q) _ HAl.out (by unfold maxLen; omega) (own_ints0 HL.out)).mono ?_
          rintro e' w5 ⟨he', hb5⟩
          rw [HGF.out, hfit] at he'; subst he'
          have F5 := Lib.hid (HF.out.below hb5); have B5 := Lib.hid (HB.out.trans (hb5.mono hsz))
          clear hb5
          go_wp2
          go_roundw
          case rel => exact ⟨j + 1, fs, A5, n5, c5, by omega, by go_num, rfl, HFl.out, hn5, F5.out, HRs.out, HN2.out, B5.out⟩
          case measure => simp [intOf]; omega
        · have HRn := Lib.hid (HRs.out.step ⟨j, hx.out, hfit, HNO.out⟩)
          have HNn : Hid (∀ (i : Nat) (x : Int), i < j → qs[i]? = some x → fitsB ⟨W, t, k⟩ (addQ both (addQ both fs q) x) = false) := fun i x hi hxx => fits_mono (HQM.out x (mem_at hxx)).1 hq1.1 (HNO.out i x hi hxx)
          have hn4c : n4 ≤ 120 := by have := fits_len hfit; rw [HAl.out] at this; exact this
          have hgrow : n5 < n4 := by have h1 := HAl.out; have h2 := HFl.out; have h3 := moreQ_pos both; rw [addQ_len, h2] at h1; omega
          go_wp2_with fail
          refine (isFitting_any W t k A4 n4 c4 (addQ both fs q) _ HAl.out (by unfold maxLen; omega) (own_ints0 HL.out)).mono ?_
          rintro e' w5 ⟨he', hb5⟩
          rw [HGF.out, hfit] at he'; subst he'
          have L5 := Lib.hid (HL.out.below hb5); have B5 := Lib.hid (HB.out.trans (hb5.mono hsz))
          have z5 := hb5.size
          clear hb5 p0 p1 p2
          go_wp2_with fail
          refine (HADD.out A4 n4 c4 (addQ both fs q) q _ HAl.out (by omega) (IntsB.of (own_ints0 L5.out))).mono ?_
          rintro e' w6 ⟨v6, rfl, hO6, hb6⟩
          obtain ⟨A6, c6, hv6, _⟩ := hO6.form
          obtain ⟨n6, hn6⟩ : ∃ m, (addQ both (addQ both fs q) q).length = m := ⟨_, rfl⟩
          have hn6b : n6 ≤ 122 := by have := moreQ_pos both; rw [addQ_len, HAl.out] at hn6; omega
          rw [hn6] at hv6
          subst hv6
          have O6 := Lib.hid (own_down0 hO6 (show w2.heap.size ≤ _ by omega)); have B6 := Lib.hid (B5.out.trans (hb6.mono (by omega))); have L6 := Lib.hid (L5.out.below hb6); have N6 := Lib.hid hn6
          clear hO6 hb6 hn6
          go_wp2
          go_roundw
          case rel => exact ⟨addQ both fs q, A4, n4, c4, A6, n6, c6, rfl, rfl, HAl.out, hn4c, N6.out, hn6b, L6.out, O6.out, HRn.out, HNn.out, B6.out⟩
          case measure => simp [lenV]; omega
    · have hjn : j = n2 := by omega
      subst hjn
      have HS := Lib.hid (HRs.out.stop (fun x hx => by
        obtain ⟨i, hi, rfl⟩ := List.mem_iff_getElem.1 hx
        exact HNO.out i _ (by rw [← Hn2.out]; exact hi) (List.getElem?_eq_getElem hi)))
      go_wp2
      go_ret2
      exact ⟨_, rfl, by rw [HS.out]; exact own_down0 HO.out (by omega), T2.out.trans (HB.out.mono (by omega))⟩
end Go.Proofs.Ytpenmheacpapaaa
