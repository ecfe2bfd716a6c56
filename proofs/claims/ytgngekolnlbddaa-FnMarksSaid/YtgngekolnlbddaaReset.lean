/-
  FnReset: the draw of two lists, and its walk: what lies between is what one list needs to become the other. No condition.
-/
import Derived.Test.YtgngekolnlbddaaPick
import Derived.Test.YtgngekolnlbddaaRst
import Derived.Test.YtgngekolnlbddaaApl
import Derived.Outline
namespace Go.Proofs.Ytgngekolnlbddaa
open Go.RowKit
set_option linter.unusedVariables false

theorem stake_eq_snoc {zs ys : List ByteArray} {k : Nat} {x y : ByteArray} (hx : zs[k]? = some x) (hy : ys[k]? = some y) (h : zs.take k = ys.take k) (e : x = y) : zs.take (k + 1) = ys.take (k + 1) := by
  rw [List.take_add_one, List.take_add_one, hx, hy, h, e]
/-- two lists of as many numbers: equal or not -/
theorem lawStrings_any (A A2 : Option Addr) (n c n2 c2 : Nat) (zs ys : List ByteArray) (w : World) (hn : zs.length = n) (hn2 : ys.length = n2) (hm : n ≤ maxLen) (hm2 : n2 ≤ maxLen) (h : Strs w A zs) (h2 : Strs w A2 ys) :
    Calls Try.prog 17 #[.slice A n c, .slice A2 n2 c2] w fun e w' => ∃ k, e = .returned (.bool (decide (zs = ys))) ∧ w' = w.drewN k := by
  unfold maxLen at hm hm2
  have Hn := Lib.hid hn; have Hn2 := Lib.hid hn2; clear hn hn2
  by_cases hnn : n = n2
  · subst hnn
    have hb : ((n : Int) != (n : Int)) = false := by simp
    go_enter Try.func17, Try.ntmps17
    go_wp2
    go_loopw [13] (fun i wr => ∃ k j : Nat, k ≤ n ∧ i = .int .i64 k ∧ zs.take k = ys.take k ∧ wr = w.drewN j) (fun i _ => n - (intOf i).toNat)
    case atStart => exact ⟨0, 0, Nat.zero_le _, rfl, rfl, rfl⟩
    case round =>
      obtain ⟨k, j, hk, rfl, hq, rfl⟩ := hrel
      have Hq := Lib.hid hq
      clear hq
      by_cases hlt : k < n
      · obtain ⟨ad, x, rfl, hx, hc⟩ := h.at_ (k := k) (by rw [Hn.out]; exact hlt)
        obtain ⟨ad2, y, rfl, hy, hc2⟩ := h2.at_ (k := k) (by rw [Hn2.out]; exact hlt)
        by_cases hs : x = y
        · have Hs := Lib.hid (stake_eq_snoc hx.out hy.out Hq.out hs)
          subst hs
          have hb := str_eq x
          go_wp2
          go_quiet (fail)
          go_wp2
          go_roundw
          case rel => exact ⟨k + 1, _, by omega, by go_num, Hs.out, rfl⟩
          case measure => simp [intOf]; omega
        · have hb := str_ne hs
          have hb2 := (Lib.bytes_beq_false_iff x y).2 hs
          have hne : decide (zs = ys) = false := by
            rw [decide_eq_false_iff_not]
            intro e
            have h1 := hx.out
            rw [e, hy.out] at h1
            injection h1 with h1
            exact hs h1.symm
          go_wp2
          go_quiet (fail)
          go_wp2
          go_ret
          exact ⟨_, ret_bool hne.symm, World.drewN_drewN _ _ _⟩
      · have hkn : k = n := by omega
        subst hkn
        have e : decide (zs = ys) = true := by
          have h := Hq.out
          rw [List.take_of_length_le (by rw [Hn.out]; exact Nat.le_refl _), List.take_of_length_le (by rw [Hn2.out]; exact Nat.le_refl _)] at h
          simpa using h
        go_wp2
        go_ret
        exact ⟨j, ret_bool e.symm, rfl⟩
  · have hb : ((n : Int) != (n2 : Int)) = true := by rw [bne_iff_ne]; omega
    have hne : decide (zs = ys) = false := by
      rw [decide_eq_false_iff_not]
      intro e
      rw [e, Hn2.out] at Hn
      exact hnn Hn.out.symm
    go_enter Try.func17, Try.ntmps17
    go_wp2
    go_ret
    exact ⟨0, ret_bool hne.symm, rfl⟩

theorem lawStrings_same (A A2 : Option Addr) (n c c2 : Nat) (zs : List ByteArray) (w : World) (hn : zs.length = n) (hm : n ≤ maxLen) (h : Strs w A zs) (h2 : Strs w A2 zs) :
    Calls Try.prog 17 #[.slice A n c, .slice A2 n c2] w fun e w' => ∃ k, e = .returned (.bool true) ∧ w' = w.drewN k :=
  (lawStrings_any A A2 n c n c2 zs zs w hn hn hm hm h h2).mono fun e w' ⟨k, he, hw⟩ => ⟨k, by rw [he, decide_eq_true rfl], hw⟩
/-! ### mathematics -/
theorem ext_strAt {a b : List ByteArray} (h : a.length = b.length) (hs : ∀ i, i < a.length → strAt a i = strAt b i) : a = b := by
  apply List.ext_getElem h
  intro i h1 h2
  have := hs i h1
  unfold strAt at this
  simpa [List.getD, List.getElem?_eq_getElem h1, List.getElem?_eq_getElem h2] using this
theorem strAt_take {a : List ByteArray} {k i : Nat} (h : i < k) : strAt (a.take k) i = strAt a i := by
  unfold strAt; simp only [List.getD, List.getElem?_take]; rw [if_pos h]
theorem strAt_drop {a : List ByteArray} {k i : Nat} : strAt (a.drop k) i = strAt a (k + i) := by
  unfold strAt; simp only [List.getD, List.getElem?_drop]
theorem rst_pre (a b : List ByteArray) : a.take (preL a b) = b.take (preL a b) := by
  have h := preL_le a b
  apply ext_strAt
  · rw [List.length_take, List.length_take]; omega
  · intro i hi
    rw [List.length_take] at hi
    rw [strAt_take (by omega), strAt_take (by omega)]
    exact preL_all (by omega)
theorem rst_suf (a b : List ByteArray) : a.drop (a.length - sufL a b) = b.drop (b.length - sufL a b) := by
  have h := sufL_le a b
  apply ext_strAt
  · rw [List.length_drop, List.length_drop]; omega
  · intro i hi
    rw [List.length_drop] at hi
    rw [strAt_drop, strAt_drop]
    have := sufL_all (a := a) (b := b) (t := sufL a b - 1 - i) (by omega)
    rw [show a.length - 1 - (sufL a b - 1 - i) = a.length - sufL a b + i from by omega, show b.length - 1 - (sufL a b - 1 - i) = b.length - sufL a b + i from by omega] at this
    exact this
theorem three {α : Type} (b : List α) (K i : Nat) : (b.take K ++ (b.drop K).take i) ++ b.drop (K + i) = b := by
  rw [← List.drop_drop, List.append_assoc, List.take_append_drop, List.take_append_drop]
/-- what lies between makes one list of the other -/
theorem rst_join {a b : List ByteArray} {K S o i : Nat} (hK : preL a b = K) (hS : sufL a b = S) (ho : K + o + S = a.length) (hi : K + i + S = b.length) : (a.take K ++ (b.drop K).take i) ++ a.drop (K + o) = b ∧ (b.take K ++ (a.drop K).take o) ++ b.drop (K + i) = a := by
  have h1 := rst_pre a b
  have h2 := rst_suf a b
  rw [hK] at h1
  rw [hS, show a.length - S = K + o from by omega, show b.length - S = K + i from by omega] at h2
  constructor
  · rw [h1, h2]; exact three b K i
  · rw [← h1, ← h2]; exact three a K o

theorem drawReset_any (A : Option Addr) (n c : Nat) (bs : List Int) (w : World) (hn : bs.length = n) (hm : n ≤ maxLen) (h : Bytes w A bs) (wf : ∀ z ∈ bs, (Lit.int .u8 z).wf = true) :
    Calls Try.prog 14 #[.slice A n c] w fun e w' => ∃ A1 n1 c1 zs A2 n2 c2 ys, e = .returned (.tuple #[.slice A1 n1 c1, .slice A2 n2 c2]) ∧ Strs w' A1 zs ∧ Strs w' A2 ys ∧ zs.length = n1 ∧ ys.length = n2 ∧ n1 ≤ 8 ∧ n2 ≤ 8 ∧ n1 ≤ c1 ∧ c1 ≤ maxLen ∧ n2 ≤ c2 ∧ c2 ≤ maxLen ∧ Below w.heap.size w w' := by
  have H := Lib.hid h; have Hn := Lib.hid hn; have Hwf := Lib.hid wf
  clear h hn wf
  go_enter Try.func14, Try.ntmps14
  go_wp2_with fail
  refine (l01New_any _ _ _ bs _ Hn.out hm H.out Hwf.out).mono ?_
  rintro e w1 ⟨rfl, hc1, hb1, hs1⟩
  have HB1 := Lib.hid hb1; have HS1 := Lib.hid hs1; have HC1 := Lib.hid hc1
  clear hc1 hb1 hs1
  go_wp2_with fail
  refine (lists_cm _ _ HC1.out).mono ?_
  rintro e w2 ⟨u, v, zs, ys, rfl, hR⟩
  obtain ⟨hO1, hO2, _, hl1, hl2, hcm⟩ := hR
  obtain ⟨A1, n1, c1, rfl, hn1, hQ1, hc1, hm1, hI1⟩ := owns_form hO1
  obtain ⟨A2, n2, c2, rfl, hn2, hQ2, hc2, hm2, hI2⟩ := owns_form hO2
  have hb := cm_below HB1.out HS1.out hcm
  have hn18 : n1 ≤ 8 := by omega
  have hn28 : n2 ≤ 8 := by omega
  have R := Lib.hid (show Strs w2 A1 zs ∧ Strs w2 A2 ys ∧ zs.length = n1 ∧ ys.length = n2 ∧ n1 ≤ 8 ∧ n2 ≤ 8 ∧ n1 ≤ c1 ∧ c1 ≤ maxLen ∧ n2 ≤ c2 ∧ c2 ≤ maxLen ∧ Below w.heap.size w w2 from ⟨hI1, hI2, hn1, hn2, hn18, hn28, hc1, hm1, hc2, hm2, hb⟩)
  clear hO1 hO2 hcm hQ1 hQ2 hI1 hI2 hn1 hn2 hb
  go_wp2
  go_ret2
  exact ⟨_, _, _, zs, _, _, _, ys, rfl, R.out⟩

set_option maxRecDepth 100000 in
set_option maxHeartbeats 6400000 in
theorem fnReset_walk (A : Option Addr) (n c : Nat) (bs : List Int) (w : World) (hn : bs.length = n) (hm : n ≤ maxLen) (h : Bytes w A bs) (wf : ∀ z ∈ bs, (Lit.int .u8 z).wf = true) :
    Calls Try.prog 4 #[.slice A n c] w fun e w' => e = .returned (.bool true) ∧ Below w.heap.size w w' := by
  have H := Lib.hid h; have Hn := Lib.hid hn; have Hwf := Lib.hid wf
  clear h hn wf
  have hm0 := hm
  unfold maxLen at hm
  by_cases hbig : 1048576 < n
  · go_enter Try.func4, Try.ntmps4
    go_wp2
    go_ret
    exact ⟨rfl, Below.refl _ _⟩
  go_enter Try.func4, Try.ntmps4
  go_wp2_with fail
  refine (drawReset_any _ _ _ bs _ Hn.out hm0 H.out Hwf.out).mono ?_
  rintro e w1 ⟨A1, n1, c1, zs, A2, n2, c2, ys, rfl, hI1, hI2, hn1, hn2, h18, h28, hc1, hm1, hc2, hm2, hb1⟩
  have I1 := Lib.hid hI1; have I2 := Lib.hid hI2; have N1 := Lib.hid hn1; have N2 := Lib.hid hn2; have T1 := Lib.hid hb1
  have s1 := hb1.size
  obtain ⟨K, hK⟩ : ∃ K, preL zs ys = K := ⟨_, rfl⟩
  obtain ⟨S, hS⟩ : ∃ S, sufL zs ys = S := ⟨_, rfl⟩
  have hle := sufL_le zs ys
  rw [hK, hS, hn1, hn2] at hle
  obtain ⟨hle1, hle2⟩ := hle
  obtain ⟨o, ho⟩ : ∃ o, n1 - K - S = o := ⟨_, rfl⟩
  obtain ⟨i, hi⟩ : ∃ i, n2 - K - S = i := ⟨_, rfl⟩
  obtain ⟨ko, hko⟩ : ∃ ko, K + o = ko := ⟨_, rfl⟩
  obtain ⟨ki, hki⟩ : ∃ ki, K + i = ki := ⟨_, rfl⟩
  obtain ⟨t, ht⟩ : ∃ t, K + S = t := ⟨_, rfl⟩
  have hj := rst_join hK hS (o := o) (i := i) (by rw [hn1]; omega) (by rw [hn2]; omega)
  have HJ1 := Lib.hid hj.1; have HJ2 := Lib.hid hj.2
  have hE := preL_end zs ys; have hSE := sufL_end zs ys
  rw [hK, hn1, hn2] at hE
  rw [hK, hS, hn1, hn2] at hSE
  have HE := Lib.hid hE; have HSE := Lib.hid hSE
  have HV : Hid (rstV zs ys = .tuple #[.int .i64 (K : Int), .int .i64 (o : Int), .int .i64 (i : Int)]) := by show _ = _; unfold rstV; rw [hK, hS, hn1, hn2, ho, hi]
  have hkoI : (K : Int) + (o : Int) = (ko : Int) := by omega
  have hkiI : (K : Int) + (i : Int) = (ki : Int) := by omega
  have htI1 : (n1 : Int) - (o : Int) = (t : Int) := by omega
  have htI2 : (n2 : Int) - (i : Int) = (t : Int) := by omega
  have hko1 : ko ≤ n1 := by omega
  have hki1 : ki ≤ n2 := by omega
  have hKko : K ≤ ko := by omega
  have hKki : K ≤ ki := by omega
  have hkoS : (ko : Int) - (K : Int) = (o : Int) := by omega
  have hkiS : (ki : Int) - (K : Int) = (i : Int) := by omega
  have hkoN : ko - K = o := by omega
  have hkiN : ki - K = i := by omega
  have hob : o ≤ 8 := by omega
  have hib : i ≤ 8 := by omega
  have hKb : K ≤ 8 := by omega
  have hkoc : ko ≤ c1 := by omega
  have hkic : ki ≤ c2 := by omega
  have hm1' := hm1; have hm2' := hm2
  unfold maxLen at hm1' hm2'
  have HOI := Lib.hid (show K + o = ko ∧ K + i = ki ∧ K + o + S = n1 ∧ K + i + S = n2 from ⟨hko, hki, by omega, by omega⟩)
  clear hj hE hSE hK hS ho hi hko hki ht hI1 hI2 hn1 hn2 hb1 hle1 hle2
  go_wp2_with fail
  refine (implReset_any _ _ _ _ _ _ zs ys _ N1.out N2.out (by omega) (by omega) I1.out I2.out).mono ?_
  rintro e w2 ⟨rfl, hb2⟩
  rw [HV.out]
  have J1 := Lib.hid (I1.out.below hb2); have J2 := Lib.hid (I2.out.below hb2)
  have T2 := Lib.hid (T1.out.trans (hb2.mono s1))
  have s2 : w.heap.size ≤ w2.heap.size := Nat.le_trans s1 hb2.size
  clear hb2 I1 I2 T1
  obtain ⟨AN, hAN⟩ : ∃ AN, (if c2 = K then A2 else Option.map (fun x => x.add K) A2) = AN := ⟨_, rfl⟩
  obtain ⟨AM, hAM⟩ : ∃ AM, (if c1 = K then A1 else Option.map (fun x => x.add K) A1) = AM := ⟨_, rfl⟩
  have SN := strs_from (c := c2) (l := K) J2.out (by rw [N2.out]; exact hc2)
  rw [hAN] at SN
  have SM := strs_from (c := c1) (l := K) J1.out (by rw [N1.out]; exact hc1)
  rw [hAM] at SM
  have SN2 := Lib.hid (strs_take (q := i) SN); have SM2 := Lib.hid (strs_take (q := o) SM)
  clear SN SM
  have LN : Hid (((ys.drop K).take i).length = i) := by show _ = _; rw [List.length_take, List.length_drop, N2.out]; have := HOI.out; omega
  have LM : Hid (((zs.drop K).take o).length = o) := by show _ = _; rw [List.length_take, List.length_drop, N1.out]; have := HOI.out; omega
  have wfi : ∀ x : Nat, x ≤ 8 → (Lit.int .i64 (x : Int)).wf = true := fun x hx => by simp [Lit.wf, IntKind.min, IntKind.max, IntKind.signed, IntKind.bits]; omega
  have WF := Lib.hid wfi
  have B1 : Hid (aplB n1 (K : Int) (o : Int) = true) := by show _ = _; rw [aplB_iff]; omega
  have B2 : Hid (aplB n2 (K : Int) (i : Int) = true) := by show _ = _; rw [aplB_iff]; omega
  have R1 : Hid (aplL zs ((ys.drop K).take i) (K : Int) (o : Int) = ys) := by
    show _ = _
    unfold aplL
    rw [N1.out, B1.out, if_pos rfl, Int.toNat_natCast, Int.toNat_natCast]; exact HJ1.out
  have R2 : Hid (aplL ys ((zs.drop K).take o) (K : Int) (i : Int) = zs) := by
    show _ = _
    unfold aplL
    rw [N2.out, B2.out, if_pos rfl, Int.toNat_natCast, Int.toNat_natCast]; exact HJ2.out
  clear wfi
  go_wp2_with fail
  refine (implApl_any _ _ _ _ _ _ zs ((ys.drop K).take i) (K : Int) (o : Int) _ N1.out LN.out (by omega) hc1 hm1 J1.out SN2.out (WF.out K hKb) (WF.out o hob)).mono ?_
  rintro e w3 ⟨v3, rfl, hO3, hb3⟩
  rw [R1.out] at hO3
  rw [B1.out]
  obtain ⟨A3, n3, c3, rfl, hn3, _, _, _, hI3⟩ := owns_form hO3
  obtain rfl : n2 = n3 := by rw [← hn3]; exact N2.out.symm
  have I3 := Lib.hid hI3
  have J1' := Lib.hid (J1.out.below hb3); have J2' := Lib.hid (J2.out.below hb3); have SM3 := Lib.hid (SM2.out.below hb3)
  have T3 := Lib.hid (T2.out.trans (hb3.mono s2))
  have s3 : w.heap.size ≤ w3.heap.size := Nat.le_trans s2 hb3.size
  clear hO3 hb3 hI3 hn3 J1 J2 SN2 SM2 T2
  go_wp2_with fail
  refine (implApl_any _ _ _ _ _ _ ys ((zs.drop K).take o) (K : Int) (i : Int) _ N2.out LM.out (by omega) hc2 hm2 J2'.out SM3.out (WF.out K hKb) (WF.out i hib)).mono ?_
  rintro e w4 ⟨v4, rfl, hO4, hb4⟩
  rw [R2.out] at hO4
  rw [B2.out]
  obtain ⟨A4, n4, c4, rfl, hn4, _, _, _, hI4⟩ := owns_form hO4
  obtain rfl : n1 = n4 := by rw [← hn4]; exact N1.out.symm
  have I4 := Lib.hid hI4
  have I3f := Lib.hid (I3.out.below hb4)
  have J1f := Lib.hid (J1'.out.below hb4); have J2f := Lib.hid (J2'.out.below hb4)
  have T4 := Lib.hid (T3.out.trans (hb4.mono s3))
  clear hO4 hb4 hI4 hn4 I3 J1' J2' SM3 T3 hAN hAM
  have hmx1 : n1 ≤ maxLen := by unfold maxLen; omega
  have hmx2 : n2 ≤ maxLen := by unfold maxLen; omega
  go_wp2_with fail
  refine (lawStrings_same _ _ _ _ _ ys _ N2.out hmx2 I3f.out J2f.out).mono ?_
  rintro e w5 ⟨q5, rfl, rfl⟩
  go_wp2_with fail
  refine (lawStrings_same _ _ _ _ _ zs _ N1.out hmx1 (I4.out.drewN _) (J1f.out.drewN _)).mono ?_
  rintro e w6 ⟨q6, rfl, rfl⟩
  by_cases ho0 : 0 < o
  · by_cases hi0 : 0 < i
    · obtain ⟨p, hp⟩ : ∃ p, p + 1 = ko := ⟨ko - 1, by have := HOI.out; omega⟩
      obtain ⟨r, hr⟩ : ∃ r, r + 1 = ki := ⟨ki - 1, by have := HOI.out; omega⟩
      have hKn1 : K < n1 := by have := HOI.out; omega
      have hKn2 : K < n2 := by have := HOI.out; omega
      have j1 := J1f.out
      have j2 := J2f.out
      obtain ⟨ad, x, had, hx, hc⟩ := j1.at_ (k := K) (by rw [N1.out]; exact hKn1)
      obtain ⟨ad', x2, had', hx2, hcx⟩ := j1.at_ (k := p) (by rw [N1.out]; omega)
      obtain ⟨bd, y, hbd, hy, hd⟩ := j2.at_ (k := K) (by rw [N2.out]; exact hKn2)
      obtain ⟨bd', y2, hbd', hy2, hdy⟩ := j2.at_ (k := r) (by rw [N2.out]; omega)
      have eA : ad' = ad := by rw [had] at had'; injection had' with e; exact e.symm
      have eB : bd' = bd := by rw [hbd] at hbd'; injection hbd' with e; exact e.symm
      subst eA; subst eB
      have hne : x ≠ y := by
        rcases HE.out with e | e
        · omega
        · rwa [strAt_at hx.out, strAt_at hy.out] at e
      have hne2 : x2 ≠ y2 := by
        rcases HSE.out with e | e
        · have := HOI.out; omega
        · have h1 := HOI.out
          rw [show n1 - 1 - S = p from by omega, show n2 - 1 - S = r from by omega, strAt_at hx2.out, strAt_at hy2.out] at e; exact e
      have b1 := str_ne hne
      have b2 := (Lib.bytes_beq_false_iff x y).2 hne
      have b3 := str_ne hne2
      have b4 := (Lib.bytes_beq_false_iff x2 y2).2 hne2
      have a1 : IntKind.i64.wrap (ko : Int) = (ko : Int) := by rw [IntKind.wrap_i64]; omega
      have a2 : (ko : Int) - 1 = (p : Int) := by omega
      have a3 : IntKind.i64.wrap (p : Int) = (p : Int) := by rw [IntKind.wrap_i64]; omega
      have a4 : IntKind.i64.wrap (ki : Int) = (ki : Int) := by rw [IntKind.wrap_i64]; omega
      have a5 : (ki : Int) - 1 = (r : Int) := by omega
      have a6 : IntKind.i64.wrap (r : Int) = (r : Int) := by rw [IntKind.wrap_i64]; omega
      have hpn : p < n1 := by omega
      have hrn : r < n2 := by omega
      subst had; subst hbd
      clear had' hbd' hx hx2 hy hy2 hne hne2 hp hr j1 j2
      go_wp2
      go_quiet (fail)
      go_wp2
      go_ret
      first | exact ⟨rfl, below_drewN (below_drewN T4.out _) _⟩ | exact ⟨rfl, below_drewN T4.out _⟩
    · have hex : (zs = ys ∧ n1 = n2) ∨ (zs ≠ ys ∧ n1 ≠ n2) := by
        by_cases he : zs = ys
        · left; refine ⟨he, ?_⟩; rw [← N1.out, ← N2.out, he]
        · right; refine ⟨he, fun hnn => he ?_⟩
          have h1 := HOI.out
          have o0 : o = 0 := by omega
          have i0 : i = 0 := by omega
          have h2 := HJ1.out
          rw [o0, i0] at h2
          simpa using h2
      rcases hex with ⟨he, hnn⟩ | ⟨he, hnn⟩
      · have hd : decide (zs = ys) = true := decide_eq_true he
        have hb : ((n1 : Int) == (n2 : Int)) = true := by rw [beq_iff_eq]; omega
        have HD := Lib.hid hd
        clear he hnn hd
        go_wp2_with fail
        refine (lawStrings_any _ _ _ _ _ _ zs ys _ N1.out N2.out hmx1 hmx2 (J1f.out.drewN (q5 + q6)) (J2f.out.drewN (q5 + q6))).mono ?_
        rintro e w7 ⟨q7, rfl, rfl⟩
        rw [HD.out]
        go_wp2
        go_ret
        first | exact ⟨rfl, below_drewN (below_drewN T4.out _) _⟩ | exact ⟨rfl, below_drewN T4.out _⟩
      · have hd : decide (zs = ys) = false := decide_eq_false he
        have hb : ((n1 : Int) == (n2 : Int)) = false := by rw [beq_eq_false_iff_ne]; omega
        have HD := Lib.hid hd
        clear he hnn hd
        go_wp2_with fail
        refine (lawStrings_any _ _ _ _ _ _ zs ys _ N1.out N2.out hmx1 hmx2 (J1f.out.drewN (q5 + q6)) (J2f.out.drewN (q5 + q6))).mono ?_
        rintro e w7 ⟨q7, rfl, rfl⟩
        rw [HD.out]
        go_wp2
        go_ret
        first | exact ⟨rfl, below_drewN (below_drewN T4.out _) _⟩ | exact ⟨rfl, below_drewN T4.out _⟩
  · have hex : (zs = ys ∧ n1 = n2) ∨ (zs ≠ ys ∧ n1 ≠ n2) := by
      by_cases he : zs = ys
      · left; refine ⟨he, ?_⟩; rw [← N1.out, ← N2.out, he]
      · right; refine ⟨he, fun hnn => he ?_⟩
        have h1 := HOI.out
        have o0 : o = 0 := by omega
        have i0 : i = 0 := by omega
        have h2 := HJ1.out
        rw [o0, i0] at h2
        simpa using h2
    rcases hex with ⟨he, hnn⟩ | ⟨he, hnn⟩
    · have hd : decide (zs = ys) = true := decide_eq_true he
      have hb : ((n1 : Int) == (n2 : Int)) = true := by rw [beq_iff_eq]; omega
      have HD := Lib.hid hd
      clear he hnn hd
      go_wp2_with fail
      refine (lawStrings_any _ _ _ _ _ _ zs ys _ N1.out N2.out hmx1 hmx2 (J1f.out.drewN (q5 + q6)) (J2f.out.drewN (q5 + q6))).mono ?_
      rintro e w7 ⟨q7, rfl, rfl⟩
      rw [HD.out]
      go_wp2
      go_ret
      first | exact ⟨rfl, below_drewN (below_drewN T4.out _) _⟩ | exact ⟨rfl, below_drewN T4.out _⟩
    · have hd : decide (zs = ys) = false := decide_eq_false he
      have hb : ((n1 : Int) == (n2 : Int)) = false := by rw [beq_eq_false_iff_ne]; omega
      have HD := Lib.hid hd
      clear he hnn hd
      go_wp2_with fail
      refine (lawStrings_any _ _ _ _ _ _ zs ys _ N1.out N2.out hmx1 hmx2 (J1f.out.drewN (q5 + q6)) (J2f.out.drewN (q5 + q6))).mono ?_
      rintro e w7 ⟨q7, rfl, rfl⟩
      rw [HD.out]
      go_wp2
      go_ret
      first | exact ⟨rfl, below_drewN (below_drewN T4.out _) _⟩ | exact ⟨rfl, below_drewN T4.out _⟩
end Go.Proofs.Ytgngekolnlbddaa
