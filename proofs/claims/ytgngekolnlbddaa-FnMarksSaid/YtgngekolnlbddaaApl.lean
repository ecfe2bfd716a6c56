/-
  ApplyReset by contract, model and program. Condition: lists of at most 2^20 strings; the numbers are in the range of int.
-/
import Derived.Test.YtgngekolnlbddaaStrC
import Derived.Test.YtgngekolnlbddaaIn
import Derived.Deep.RegionWith
import Derived.Outline
namespace Go.Proofs.Ytgngekolnlbddaa
open Go.RowKit
set_option linter.unusedVariables false

theorem isFromQ_any (a x b : Int) (w : World) : Calls Try.prog 40 #[.int .i64 a, .int .i64 x, .int .i64 b] w fun e w' => e = .returned (.bool (inB x a b)) ∧ w = w' := by
  by_cases h1 : a ≤ x
  · by_cases h2 : x ≤ b
    · have hr : inB x a b = true := by simp [inB, h1, h2]
      rw [hr]; clear hr
      go_enter Try.func40, Try.ntmps40
      go_wp2
      go_ret
      exact ⟨rfl, rfl⟩
    · have hr : inB x a b = false := by simp [inB, h2]
      rw [hr]; clear hr
      go_enter Try.func40, Try.ntmps40
      go_wp2
      go_ret
      exact ⟨rfl, rfl⟩
  · have hr : inB x a b = false := by simp [inB, h1]
    rw [hr]; clear hr
    go_enter Try.func40, Try.ntmps40
    go_wp2
    go_ret
    exact ⟨rfl, rfl⟩
def aplB (n : Nat) (f o : Int) : Bool := inB f 0 n && inB o 0 ((n : Int) - f)
def aplL (zs ls : List ByteArray) (f o : Int) : List ByteArray := if aplB zs.length f o = true then (zs.take f.toNat ++ ls) ++ zs.drop (f.toNat + o.toNat) else []
theorem aplB_iff (n : Nat) (f o : Int) : aplB n f o = true ↔ (0 ≤ f ∧ 0 ≤ o ∧ f + o ≤ n) := by
  unfold aplB inB
  rw [Bool.and_eq_true, decide_eq_true_eq, decide_eq_true_eq]
  omega
theorem aplB_nat {n : Nat} {f o : Int} (h : aplB n f o = true) : ∃ p q r : Nat, f = p ∧ o = q ∧ p + q = r ∧ r ≤ n := by
  obtain ⟨h1, h2, h3⟩ := (aplB_iff n f o).1 h
  obtain ⟨p, rfl⟩ := Int.eq_ofNat_of_zero_le h1
  obtain ⟨q, rfl⟩ := Int.eq_ofNat_of_zero_le h2
  exact ⟨p, q, p + q, rfl, rfl, rfl, by omega⟩
theorem aplL_len {zs ls : List ByteArray} {f o : Int} : (aplL zs ls f o).length ≤ zs.length + ls.length := by
  unfold aplL
  split
  · rename_i h
    obtain ⟨p, q, r, rfl, rfl, hr, hl⟩ := aplB_nat h
    simp
    omega
  · simp
theorem owns_form {w : World} {B : Nat} {v : Value} {zs : List ByteArray} (h : OwnS w B v zs) :
    ∃ A n c, v = .slice A n c ∧ zs.length = n ∧ OwnS w B (.slice A n c) zs ∧ n ≤ c ∧ c ≤ maxLen ∧ Strs w A zs := by
  obtain ⟨A, c, rfl, hI, _, h1, h2⟩ := h.form
  exact ⟨A, zs.length, c, rfl, rfl, h, h1, h2, hI⟩
theorem owns_base {w : World} {B B' : Nat} {v : Value} {zs : List ByteArray} (h : OwnS w B v zs) (hB : B' ≤ B) : OwnS w B' v zs := by
  refine ⟨h.1, ?_⟩
  rcases h.2 with hn | ⟨g, cap, cur, hv, hg, rest⟩
  · exact .inl hn
  · exact .inr ⟨g, cap, cur, hv, by omega, rest⟩
theorem strs_take {w : World} {A : Option Addr} {zs : List ByteArray} {q : Nat} (h : Strs w A zs) : Strs w A (zs.take q) := fun hp => by
  rw [List.length_take] at hp
  obtain ⟨ad, e, hc⟩ := h (by omega)
  refine ⟨ad, e, fun j hj => ?_⟩
  rw [List.length_take] at hj
  rw [hc j (by omega)]
  simp only [List.getD, List.getElem?_take]
  rw [if_pos (by omega)]
theorem strs_from {w : World} {A : Option Addr} {c l : Nat} {zs : List ByteArray} (h : Strs w A zs) (hc : zs.length ≤ c) : Strs w (if c = l then A else Option.map (fun x => x.add l) A) (zs.drop l) := by
  intro hp
  rw [List.length_drop] at hp
  obtain ⟨ad, rfl, hcell⟩ := h (by omega)
  rw [if_neg (by omega)]
  refine ⟨ad.add l, rfl, fun j hj => ?_⟩
  rw [List.length_drop] at hj
  rw [show (ad.add l).add j = ad.add (l + j) from by by_cases hq0 : l = 0 <;> by_cases hj0 : j = 0 <;> simp [Addr.add, hq0, hj0, Nat.add_assoc], hcell (l + j) (by omega)]
  simp [List.getD, List.getElem?_drop]

set_option maxRecDepth 100000 in
set_option maxHeartbeats 3200000 in
theorem implApl_any (A B : Option Addr) (n c m d : Nat) (zs ls : List ByteArray) (f o : Int) (w : World) (hn : zs.length = n) (hm : ls.length = m) (hl : n + m ≤ 1048576) (hc : n ≤ c) (hcm : c ≤ maxLen) (h : Strs w A zs) (h2 : Strs w B ls)
    (wf : (Lit.int .i64 f).wf = true) (wo : (Lit.int .i64 o).wf = true) :
    Calls Try.prog 16 #[.slice A n c, .int .i64 f, .int .i64 o, .slice B m d] w fun e w' => ∃ v, e = .returned (.tuple #[v, .bool (aplB n f o)]) ∧ OwnS w' w.heap.size v (aplL zs ls f o) ∧ Below w.heap.size w w' := by
  unfold maxLen at hcm
  have hfr : -9223372036854775808 ≤ f ∧ f ≤ 9223372036854775807 := by simpa [Lit.wf, IntKind.min, IntKind.max, IntKind.signed, IntKind.bits] using wf
  obtain ⟨hf1, hf2⟩ := hfr
  have Hn := Lib.hid hn; have Hm := Lib.hid hm; have H1 := Lib.hid h; have H2 := Lib.hid h2
  clear hn hm h h2 wf wo
  cases hb : aplB n f o
  · have HL : Hid (aplL zs ls f o = []) := by show _ = _; unfold aplL; rw [Hn.out, hb]; rfl
    by_cases hf0 : f < 0
    · go_enter Try.func16, Try.ntmps16
      go_wp2
      go_ret2
      exact ⟨.slice none 0 0, rfl, by rw [HL.out]; exact ⟨rfl, .inl ⟨rfl, rfl⟩⟩, Below.refl _ _⟩
    · have hB : inB o 0 ((n : Int) - f) = false := by
        have h1 := aplB_iff n f o
        rw [hb] at h1
        unfold inB
        rw [decide_eq_false_iff_not]
        intro h2
        have := h1.2 ⟨by omega, by omega, by omega⟩
        cases this
      go_enter Try.func16, Try.ntmps16
      go_wp2_with (go_at_call 40; refine (isFromQ_any _ _ _ _).mono ?_; rintro e w' ⟨rfl, rfl⟩; rw [hB])
      go_ret2
      exact ⟨.slice none 0 0, rfl, by rw [HL.out]; exact ⟨rfl, .inl ⟨rfl, rfl⟩⟩, Below.refl _ _⟩
  · obtain ⟨p, q, r, rfl, rfl, hr, hrn⟩ := aplB_nat hb
    have HL : Hid (aplL zs ls (p : Int) (q : Int) = (zs.take p ++ ls) ++ zs.drop r) := by
      show _ = _
      unfold aplL
      rw [Hn.out, hb, if_pos rfl, Int.toNat_natCast, Int.toNat_natCast, hr]
    have hB : inB (q : Int) 0 ((n : Int) - (p : Int)) = true := by unfold inB; rw [decide_eq_true_eq]; omega
    have hpn : p ≤ n := by omega
    obtain ⟨t, ht⟩ : ∃ t, n - r = t := ⟨_, rfl⟩
    obtain ⟨AN, hAN⟩ : ∃ AN, (if c = r then A else Option.map (fun x => x.add r) A) = AN := ⟨_, rfl⟩
    have SD := strs_from (c := c) (l := r) H1.out (by rw [Hn.out]; exact hc)
    rw [hAN] at SD
    have HT1 : Hid ((zs.take p).length = p) := by show _ = _; rw [List.length_take, Hn.out]; omega
    have HT3 : Hid ((zs.drop r).length = t) := by show _ = _; rw [List.length_drop, Hn.out]; exact ht
    have HP := Lib.hid (sparts3 w A p c (zs.take p) B m d ls AN t (c - r) (zs.drop r) 30 HT1.out Hm.out HT3.out (StrsB.of (strs_take H1.out)) (StrsB.of H2.out) (StrsB.of SD))
    have HW : Hid (Below w.heap.size w (w.alloc (.cells #[.slice A p c, .slice B m d, .slice AN t (c - r)] 30))) := (Below.refl _ _).alloc (Nat.le_refl _) _
    have HFL : Hid ((sflat [⟨A, p, c, zs.take p⟩, ⟨B, m, d, ls⟩, ⟨AN, t, c - r, zs.drop r⟩]) = (zs.take p ++ ls) ++ zs.drop r) := by show _ = _; simp [sflat]
    have HFN : Hid ((sflat [⟨A, p, c, zs.take p⟩, ⟨B, m, d, ls⟩, ⟨AN, t, c - r, zs.drop r⟩]).length ≤ 1048576) := by
      show _ ≤ _
      rw [HFL.out, List.length_append, List.length_append, HT1.out, Hm.out, HT3.out]; omega
    have a1 : (p : Int) + (q : Int) = (r : Int) := by omega
    have a2 : IntKind.i64.wrap (r : Int) = (r : Int) := by rw [IntKind.wrap_i64]; omega
    have hrc : r ≤ c := by omega
    have hpc : p ≤ c := by omega
    have a3 : (n : Int) - (r : Int) = (t : Int) := by omega
    clear hr SD hb
    go_enter Try.func16, Try.ntmps16
    go_wp2_with (go_at_call 40; refine (isFromQ_any _ _ _ _).mono ?_; rintro e w' ⟨rfl, rfl⟩; rw [hB])
    have HPd : Hid (SPartsAt ((w.alloc (.cells #[.slice A p c, .slice B m d, .slice AN t (c - r)] 30)).drew) ⟨w.heap.size, 0, none⟩ (w.heap.size + 1) [⟨A, p, c, zs.take p⟩, ⟨B, m, d, ls⟩, ⟨AN, t, c - r, zs.drop r⟩]) := HP.out
    have HWd : Hid (Below w.heap.size w ((w.alloc (.cells #[.slice A p c, .slice B m d, .slice AN t (c - r)] 30)).drew)) := below_drewN HW.out 1
    clear HP HW
    go_region_with ((go_at_call 41; refine (sconcat_any ⟨w.heap.size, 0, none⟩ (w.heap.size + 1) 3 3 [⟨A, p, c, zs.take p⟩, ⟨B, m, d, ls⟩, ⟨AN, t, c - r, zs.drop r⟩] _ rfl (by omega) (by simp) HPd.out HFN.out).mono ?_; rintro e w2 ⟨v2, rfl, hO2, hb2⟩))
    go_wp2
    go_ret2
    have hO3 := owns_base hO2 (show w.heap.size ≤ _ from HWd.out.size)
    exact ⟨v2, rfl, by rw [HL.out, ← HFL.out]; exact hO3, HWd.out.trans (hb2.mono HWd.out.size)⟩

set_option maxRecDepth 100000 in
set_option maxHeartbeats 3200000 in
theorem specApl_any (A B : Option Addr) (n c m d : Nat) (zs ls : List ByteArray) (f o : Int) (w : World) (hn : zs.length = n) (hm : ls.length = m) (hl : n + m ≤ 1048576) (hc : n ≤ c) (hcm : c ≤ maxLen) (h : Strs w A zs) (h2 : Strs w B ls)
    (wf : (Lit.int .i64 f).wf = true) (wo : (Lit.int .i64 o).wf = true) :
    Calls Try.prog 28 #[.slice A n c, .int .i64 f, .int .i64 o, .slice B m d] w fun e w' => ∃ v, e = .returned (.tuple #[v, .bool (aplB n f o)]) ∧ OwnS w' w.heap.size v (aplL zs ls f o) ∧ Below w.heap.size w w' := by
  unfold maxLen at hcm
  have hfr : -9223372036854775808 ≤ f ∧ f ≤ 9223372036854775807 := by simpa [Lit.wf, IntKind.min, IntKind.max, IntKind.signed, IntKind.bits] using wf
  obtain ⟨hf1, hf2⟩ := hfr
  have Hn := Lib.hid hn; have Hm := Lib.hid hm; have H1 := Lib.hid h; have H2 := Lib.hid h2
  clear hn hm h h2 wf wo
  cases hb : aplB n f o
  · have HL : Hid (aplL zs ls f o = []) := by show _ = _; unfold aplL; rw [Hn.out, hb]; rfl
    cases hA : inB f 0 (n : Int)
    · go_enter Try.func28, Try.ntmps28
      go_wp2_with (go_at_call 43; refine (l1In_any _ _ _ _).mono ?_; rintro e w' ⟨rfl, rfl⟩; rw [hA])
      go_ret2
      exact ⟨.slice none 0 0, rfl, by rw [HL.out]; exact ⟨rfl, .inl ⟨rfl, rfl⟩⟩, Below.refl _ _⟩
    · have hB : inB o 0 ((n : Int) - f) = false := by unfold aplB at hb; rw [hA, Bool.true_and] at hb; exact hb
      have hf0 : 0 ≤ f ∧ f ≤ n := by unfold inB at hA; rwa [decide_eq_true_eq] at hA
      obtain ⟨hf3, hf4⟩ := hf0
      go_enter Try.func28, Try.ntmps28
      go_wp2_with (go_at_call 43; refine (l1In_any _ _ _ _).mono ?_; rintro e w' ⟨rfl, rfl⟩; first | rw [hA] | rw [hB])
      go_ret2
      exact ⟨.slice none 0 0, rfl, by rw [HL.out]; exact ⟨rfl, .inl ⟨rfl, rfl⟩⟩, Below.refl _ _⟩
  · obtain ⟨p, q, r, rfl, rfl, hr, hrn⟩ := aplB_nat hb
    have HL : Hid (aplL zs ls (p : Int) (q : Int) = (zs.take p ++ ls) ++ zs.drop r) := by
      show _ = _
      unfold aplL
      rw [Hn.out, hb, if_pos rfl, Int.toNat_natCast, Int.toNat_natCast, hr]
    have hA : inB (p : Int) 0 (n : Int) = true := by unfold inB; rw [decide_eq_true_eq]; omega
    have hB : inB (q : Int) 0 ((n : Int) - (p : Int)) = true := by unfold inB; rw [decide_eq_true_eq]; omega
    have hpn : p ≤ n := by omega
    obtain ⟨t, ht⟩ : ∃ t, n - r = t := ⟨_, rfl⟩
    obtain ⟨AN, hAN⟩ : ∃ AN, (if c = r then A else Option.map (fun x => x.add r) A) = AN := ⟨_, rfl⟩
    have SD := strs_from (c := c) (l := r) H1.out (by rw [Hn.out]; exact hc)
    rw [hAN] at SD
    have HSD := Lib.hid SD
    have HT1 : Hid ((zs.take p).length = p) := by show _ = _; rw [List.length_take, Hn.out]; omega
    have HT3 : Hid ((zs.drop r).length = t) := by show _ = _; rw [List.length_drop, Hn.out]; exact ht
    have HE : Hid (OwnS (w.alloc (.cells #[] 9)) w.heap.size (.slice (some ⟨w.heap.size, 0, none⟩) 0 0) []) := World.ownsRow_lit w #[] 0 (Nat.le_refl _) (Nat.zero_le _) rfl
    have HBA : Hid (Below w.heap.size w (w.alloc (.cells #[] 9))) := (Below.refl _ _).alloc (Nat.le_refl _) _
    have a1 : (p : Int) + (q : Int) = (r : Int) := by omega
    have hrc : r ≤ c := by omega
    have hpc : p ≤ c := by omega
    have a3 : (n : Int) - (r : Int) = (t : Int) := by omega
    clear hr SD hb
    go_enter Try.func28, Try.ntmps28
    go_wp2_with (first
      | (go_at_call 43; refine (l1In_any _ _ _ _).mono ?_; rintro e w' ⟨rfl, rfl⟩; first | rw [hA] | rw [hB])
      | (at_builtin; refine wpls_append_any _ rfl (.tmp 25) (.tmp 28) rfl w.heap.size (.slice (some ⟨w.heap.size, 0, none⟩) 0 0) [] (zs.take p) A p c rfl rfl HT1.out (strs_take (H1.out.below HBA.out)) HE.out (by simp) (by simp; omega) ?_; intro v1 w4 hO4 hg4 hv4; have HB4 := Lib.hid (HBA.out.trans ((Below.refl w.heap.size _).grown hg4 (by simp) (fun k hk => (World.ownsRow.lt HE.out k hk).1))); have HO4 := Lib.hid hO4; clear hO4 hg4 hv4)
      | (at_builtin; refine wpls_append_any _ rfl (.tmp 29) (.tmp 30) rfl w.heap.size v1 ([] ++ zs.take p) ls B m d rfl rfl Hm.out (H2.out.below HB4.out) HO4.out HB4.out.size (by rw [List.nil_append, HT1.out]; omega) ?_; intro v2 w5 hO5 hg5 hv5; have HB5 := Lib.hid (HB4.out.trans ((Below.refl w.heap.size _).grown hg5 HB4.out.size (fun k hk => (World.ownsRow.lt HO4.out k hk).1))); have HO5 := Lib.hid hO5; clear hO5 hg5 hv5)
      | (at_builtin; refine wpls_append_any _ rfl (.tmp 32) (.tmp 37) rfl w.heap.size v2 (([] ++ zs.take p) ++ ls) (zs.drop r) AN t (c - r) rfl rfl HT3.out (HSD.out.below HB5.out) HO5.out HB5.out.size (by rw [List.nil_append, List.length_append, HT1.out, Hm.out]; omega) ?_; intro v3 w6 hO6 hg6 hv6; have HB6 := Lib.hid (HB5.out.trans ((Below.refl w.heap.size _).grown hg6 HB5.out.size (fun k hk => (World.ownsRow.lt HO5.out k hk).1))); have HO6 := Lib.hid hO6; clear hO6 hg6 hv6))
    clear hAN
    go_ret2
    have hO7 := HO6.out
    rw [List.nil_append, ← HL.out] at hO7
    exact ⟨v3, rfl, hO7, HB6.out⟩
end Go.Proofs.Ytgngekolnlbddaa
