/-
  ResetOf by contract, model and program. Condition: lists of at most 2^20 strings.
-/
import Derived.Test.YtgngekolnlbddaaRstM
import Derived.Deep.QuietTactic
import Derived.BigQuiet
namespace Go.Proofs.Ytgngekolnlbddaa
open Go.RowKit
set_option linter.unusedVariables false

def rstV (zs ys : List ByteArray) : Value := .tuple #[.int .i64 (preL zs ys : Int), .int .i64 ((zs.length - preL zs ys - sufL zs ys : Nat) : Int), .int .i64 ((ys.length - preL zs ys - sufL zs ys : Nat) : Int)]
theorem preL_all {a b : List ByteArray} {t : Nat} (h : t < preL a b) : strAt a t = strAt b t := (Go.MapKept.bytes_beq _ _).1 (upTo_all h)
theorem sufL_all {a b : List ByteArray} {t : Nat} (h : t < sufL a b) : strAt a (a.length - 1 - t) = strAt b (b.length - 1 - t) := (Go.MapKept.bytes_beq _ _).1 (upTo_all h)
theorem preL_end (a b : List ByteArray) : preL a b = min a.length b.length ∨ strAt a (preL a b) ≠ strAt b (preL a b) := by
  rcases upTo_end (fun j => strAt a j == strAt b j) (min a.length b.length) with h | h
  · exact .inl h
  · refine .inr fun e => ?_
    have h' : (strAt a (preL a b) == strAt b (preL a b)) = false := h
    rw [e, str_eq] at h'; cases h'
theorem sufL_end (a b : List ByteArray) : sufL a b = min (a.length - preL a b) (b.length - preL a b) ∨ strAt a (a.length - 1 - sufL a b) ≠ strAt b (b.length - 1 - sufL a b) := by
  rcases upTo_end (fun j => strAt a (a.length - 1 - j) == strAt b (b.length - 1 - j)) (min (a.length - preL a b) (b.length - preL a b)) with h | h
  · exact .inl h
  · refine .inr fun e => ?_
    have h' : (strAt a (a.length - 1 - sufL a b) == strAt b (b.length - 1 - sufL a b)) = false := h
    rw [e, str_eq] at h'; cases h'

set_option maxRecDepth 100000 in
set_option maxHeartbeats 6400000 in
theorem implReset_any (A B : Option Addr) (n c m d : Nat) (zs ys : List ByteArray) (w : World) (hn : zs.length = n) (hm : ys.length = m) (hl : n ≤ 1048576) (hl2 : m ≤ 1048576) (h : Strs w A zs) (h2 : Strs w B ys) :
    Calls Try.prog 15 #[.slice A n c, .slice B m d] w fun e w' => e = .returned (rstV zs ys) ∧ Below w.heap.size w w' := by
  have Hn := Lib.hid hn; have Hm := Lib.hid hm; have H1 := Lib.hid h; have H2 := Lib.hid h2
  clear h h2
  obtain ⟨K, hK⟩ : ∃ K, preL zs ys = K := ⟨_, rfl⟩
  obtain ⟨S, hS⟩ : ∃ S, sufL zs ys = S := ⟨_, rfl⟩
  have hKle := preL_le zs ys
  have hSle := sufL_le zs ys
  have HA := Lib.hid (fun t ht => preL_all (a := zs) (b := ys) (t := t) ht)
  have HSA := Lib.hid (fun t ht => sufL_all (a := zs) (b := ys) (t := t) ht)
  have hE := preL_end zs ys
  have hSE := sufL_end zs ys
  rw [hK] at hKle hSle HA hE hSE
  rw [hS] at hSle HSA hSE
  rw [hn, hm] at hKle hSle HSA hE hSE
  have HV : Hid (rstV zs ys = .tuple #[.int .i64 (K : Int), .int .i64 ((n - K - S : Nat) : Int), .int .i64 ((m - K - S : Nat) : Int)]) := by show _ = _; unfold rstV; rw [hK, hS, hn, hm]
  obtain ⟨hK1, hK2⟩ := hKle
  obtain ⟨hS1, hS2⟩ := hSle
  have HSE := Lib.hid hSE
  clear hK hS hn hm hSE
  have hc3 : (K = n ∧ K ≤ m) ∨ (K = m ∧ K < n) ∨ ((K < n ∧ K < m ∧ strAt zs K ≠ strAt ys K) ∧ m < n) ∨ ((K < n ∧ K < m ∧ strAt zs K ≠ strAt ys K) ∧ ¬ m < n) := by
    rcases hE with hE | hE
    · omega
    · by_cases h1 : K < n <;> by_cases h2 : K < m <;> by_cases h3 : m < n
      all_goals first
        | exact .inr (.inr (.inl ⟨⟨h1, h2, hE⟩, h3⟩))
        | exact .inr (.inr (.inr ⟨⟨h1, h2, hE⟩, h3⟩))
        | omega
  clear hE
  rcases hc3 with ⟨hq1, hq2⟩ | ⟨hq1, hq2⟩ | ⟨⟨hq1, hq2, hd0⟩, hnm⟩ | ⟨⟨hq1, hq2, hd0⟩, hnm⟩
  · have hnm : ¬ m < n := by omega
    have hge : n ≤ K := by omega
    have hqe := Lib.hid hq1
    clear hq1
    go_enter Try.func15, Try.ntmps15
    go_wp2
    go_loopw [7] (fun u wr => ∃ k q : Nat, k ≤ K ∧ u = .int .i64 k ∧ wr = w.drewN q) (fun u _ => K - (intOf u).toNat)
    case atStart => exact ⟨0, 0, Nat.zero_le _, rfl, rfl⟩
    case round =>
      obtain ⟨k, q, hk, rfl, rfl⟩ := hrel
      have h1 := H1.out
      have h2 := H2.out
      by_cases hlt : k < K
      · obtain ⟨ad, x, rfl, hx, hc⟩ := h1.at_ (k := k) (by rw [Hn.out]; omega)
        obtain ⟨bd, y, rfl, hy, hd⟩ := h2.at_ (k := k) (by rw [Hm.out]; omega)
        have hxy : x = y := by have := HA.out k hlt; rw [strAt_at hx.out, strAt_at hy.out] at this; exact this
        subst hxy
        have hkn : k < n := by omega
        have hkm : k < m := by omega
        have hb := str_eq x
        clear hx hy h1 h2
        go_wp2
        go_quiet (fail)
        go_wp2
        go_roundw
        case rel => exact ⟨k + 1, _, by omega, by go_num, rfl⟩
        case measure => simp [intOf]; omega
      · have hkK : K ≤ k := by omega
        have hkn : ¬ k < n := by omega
        clear h1 h2
        go_wp2
        go_quiet (fail)
        go_wp2
        obtain rfl : k = K := by omega
        go_loopw [8, 9] (fun u v wr => ∃ s q o i : Nat, s ≤ S ∧ u = .int .i64 o ∧ v = .int .i64 i ∧ o + s + k = n ∧ i + s + k = m ∧ wr = w.drewN q) (fun u _ _ => (intOf u).toNat)
        case atStart => exact ⟨0, _, n - k, m - k, Nat.zero_le _, by congr 1; omega, by congr 1; omega, by omega, by omega, rfl⟩
        case round =>
          obtain ⟨s, q2, o, i, hs, rfl, rfl, ho, hi, rfl⟩ := hrel
          have h1 := H1.out
          have h2 := H2.out
          have hlay : ∀ (p1 p : Nat), p1 ≤ 1048576 → p + 1 = p1 → IntKind.i64.wrap (p1 : Int) = (p1 : Int) ∧ (p1 : Int) - 1 = (p : Int) ∧ IntKind.i64.wrap (p : Int) = (p : Int) := fun p1 p _ _ => ⟨by rw [IntKind.wrap_i64]; omega, by omega, by rw [IntKind.wrap_i64]; omega⟩
          have HLAY := Lib.hid hlay
          clear hlay
          have hob : o ≤ 1048576 := by omega
          have hib : i ≤ 1048576 := by omega
          by_cases ho0 : 0 < o
          · by_cases hi0 : 0 < i
            · obtain ⟨p, hp⟩ : ∃ p, p + 1 + s = n := ⟨n - 1 - s, by omega⟩
              obtain ⟨r, hr⟩ : ∃ r, r + 1 + s = m := ⟨m - 1 - s, by omega⟩
              obtain ⟨p1, hp1⟩ : ∃ p1, k + o = p1 := ⟨_, rfl⟩
              obtain ⟨r1, hr1⟩ : ∃ r1, k + i = r1 := ⟨_, rfl⟩
              obtain ⟨ad2, x, had, hx, hc⟩ := h1.at_ (k := p) (by rw [Hn.out]; omega)
              obtain ⟨bd2, y, hbd, hy, hd⟩ := h2.at_ (k := r) (by rw [Hm.out]; omega)
              first | subst had | (injection had with had; subst had)
              first | subst hbd | (injection hbd with hbd; subst hbd)
              have hpn : n - 1 - s = p := by omega
              have hrm : m - 1 - s = r := by omega
              obtain ⟨w1, w2, w3⟩ := HLAY.out p1 p (by omega) (by omega)
              obtain ⟨v1, v2, v3⟩ := HLAY.out r1 r (by omega) (by omega)
              have a1 : (k : Int) + (o : Int) = (p1 : Int) := by omega
              have b1 : (k : Int) + (i : Int) = (r1 : Int) := by omega
              have hpl : p < n := by omega
              have hrl : r < m := by omega
              have ho1 : 1 ≤ o := ho0
              have hi1 : 1 ≤ i := hi0
              by_cases hlt : s < S
              · have hxy : x = y := by have := HSA.out s hlt; rw [hpn, hrm, strAt_at hx.out, strAt_at hy.out] at this; exact this
                subst hxy
                have hb := str_eq x
                have HP := Lib.hid hp; have HR := Lib.hid hr; have HO := Lib.hid ho; have HI := Lib.hid hi; have HO0 := Lib.hid ho0; have HI0 := Lib.hid hi0
                clear hx hy h1 h2 hpn hrm hp hr ho hi hp1 hr1
                go_wp2
                go_quiet (fail)
                clear w1 w2 w3 v1 v2 v3 a1 b1
                go_wp2
                go_roundw
                case rel => exact ⟨s + 1, _, o - 1, i - 1, by omega, by have := HO0.out; congr 1; omega, by have := HI0.out; congr 1; omega, by have := HO.out; have := HO0.out; omega, by have := HI.out; have := HI0.out; omega, rfl⟩
                case measure => have := HO0.out; simp [intOf]; omega
              · have hsS : s = S := by omega
                have hxy : x ≠ y := by
                  rcases HSE.out with e | e
                  · have := ho; have := hi; omega
                  · rw [← hsS, hpn, hrm, strAt_at hx.out, strAt_at hy.out] at e; exact e
                have hb := str_ne hxy
                have hb2 := (Lib.bytes_beq_false_iff x y).2 hxy
                have HR1 : Hid (((o : Nat) : Int) = ((n - k - S : Nat) : Int)) := by show _ = _; omega
                have HR2 : Hid (((i : Nat) : Int) = ((m - k - S : Nat) : Int)) := by show _ = _; omega
                clear hx hy h1 h2 hpn hrm hp hr ho hi hp1 hr1 hxy hsS
                go_wp2
                go_quiet (fail)
                clear w1 w2 w3 v1 v2 v3 a1 b1
                go_wp2
                refine bodyPost_ret (v := .tuple #[.int .i64 (k : Int), .int .i64 (o : Int), .int .i64 (i : Int)]) (by simp [results, Try.results15, go_sem]) rfl ⟨?_, by first | exact below_drewN (Below.refl _ _) _ | (rw [World.drewN_drewN]; exact below_drewN (Below.refl _ _) _)⟩
                rw [HV.out, ← HR1.out, ← HR2.out]
            · have HR1 : Hid (((o : Nat) : Int) = ((n - k - S : Nat) : Int)) := by
                show _ = _
                rcases HSE.out with e | e <;> omega
              have HR2 : Hid (((i : Nat) : Int) = ((m - k - S : Nat) : Int)) := by show _ = _; omega
              clear h1 h2 ho hi
              go_wp2
              go_quiet (fail)
              go_wp2
              refine bodyPost_ret (v := .tuple #[.int .i64 (k : Int), .int .i64 (o : Int), .int .i64 (i : Int)]) (by simp [results, Try.results15, go_sem]) rfl ⟨?_, by first | exact below_drewN (Below.refl _ _) _ | (rw [World.drewN_drewN]; exact below_drewN (Below.refl _ _) _)⟩
              rw [HV.out, ← HR1.out, ← HR2.out]
          · have HR1 : Hid (((o : Nat) : Int) = ((n - k - S : Nat) : Int)) := by show _ = _; omega
            have HR2 : Hid (((i : Nat) : Int) = ((m - k - S : Nat) : Int)) := by
              show _ = _
              rcases HSE.out with e | e <;> omega
            clear h1 h2 ho hi
            go_wp2
            go_quiet (fail)
            go_wp2
            refine bodyPost_ret (v := .tuple #[.int .i64 (k : Int), .int .i64 (o : Int), .int .i64 (i : Int)]) (by simp [results, Try.results15, go_sem]) rfl ⟨?_, by first | exact below_drewN (Below.refl _ _) _ | (rw [World.drewN_drewN]; exact below_drewN (Below.refl _ _) _)⟩
            rw [HV.out, ← HR1.out, ← HR2.out]
  · have hnm : m < n := by omega
    have hge : m ≤ K := by omega
    have hqe := Lib.hid hq1
    clear hq1
    go_enter Try.func15, Try.ntmps15
    go_wp2
    go_loopw [7] (fun u wr => ∃ k q : Nat, k ≤ K ∧ u = .int .i64 k ∧ wr = w.drewN q) (fun u _ => K - (intOf u).toNat)
    case atStart => exact ⟨0, 0, Nat.zero_le _, rfl, rfl⟩
    case round =>
      obtain ⟨k, q, hk, rfl, rfl⟩ := hrel
      have h1 := H1.out
      have h2 := H2.out
      by_cases hlt : k < K
      · obtain ⟨ad, x, rfl, hx, hc⟩ := h1.at_ (k := k) (by rw [Hn.out]; omega)
        obtain ⟨bd, y, rfl, hy, hd⟩ := h2.at_ (k := k) (by rw [Hm.out]; omega)
        have hxy : x = y := by have := HA.out k hlt; rw [strAt_at hx.out, strAt_at hy.out] at this; exact this
        subst hxy
        have hkn : k < n := by omega
        have hkm : k < m := by omega
        have hb := str_eq x
        clear hx hy h1 h2
        go_wp2
        go_quiet (fail)
        go_wp2
        go_roundw
        case rel => exact ⟨k + 1, _, by omega, by go_num, rfl⟩
        case measure => simp [intOf]; omega
      · have hkK : K ≤ k := by omega
        have hkn : ¬ k < m := by omega
        have hkn2 : k < n := by omega
        clear h1 h2
        go_wp2
        go_quiet (fail)
        go_wp2
        obtain rfl : k = K := by omega
        go_loopw [8, 9] (fun u v wr => ∃ s q o i : Nat, s ≤ S ∧ u = .int .i64 o ∧ v = .int .i64 i ∧ o + s + k = n ∧ i + s + k = m ∧ wr = w.drewN q) (fun u _ _ => (intOf u).toNat)
        case atStart => exact ⟨0, _, n - k, m - k, Nat.zero_le _, by congr 1; omega, by congr 1; omega, by omega, by omega, rfl⟩
        case round =>
          obtain ⟨s, q2, o, i, hs, rfl, rfl, ho, hi, rfl⟩ := hrel
          have h1 := H1.out
          have h2 := H2.out
          have hlay : ∀ (p1 p : Nat), p1 ≤ 1048576 → p + 1 = p1 → IntKind.i64.wrap (p1 : Int) = (p1 : Int) ∧ (p1 : Int) - 1 = (p : Int) ∧ IntKind.i64.wrap (p : Int) = (p : Int) := fun p1 p _ _ => ⟨by rw [IntKind.wrap_i64]; omega, by omega, by rw [IntKind.wrap_i64]; omega⟩
          have HLAY := Lib.hid hlay
          clear hlay
          have hob : o ≤ 1048576 := by omega
          have hib : i ≤ 1048576 := by omega
          by_cases ho0 : 0 < o
          · by_cases hi0 : 0 < i
            · obtain ⟨p, hp⟩ : ∃ p, p + 1 + s = n := ⟨n - 1 - s, by omega⟩
              obtain ⟨r, hr⟩ : ∃ r, r + 1 + s = m := ⟨m - 1 - s, by omega⟩
              obtain ⟨p1, hp1⟩ : ∃ p1, k + o = p1 := ⟨_, rfl⟩
              obtain ⟨r1, hr1⟩ : ∃ r1, k + i = r1 := ⟨_, rfl⟩
              obtain ⟨ad2, x, had, hx, hc⟩ := h1.at_ (k := p) (by rw [Hn.out]; omega)
              obtain ⟨bd2, y, hbd, hy, hd⟩ := h2.at_ (k := r) (by rw [Hm.out]; omega)
              first | subst had | (injection had with had; subst had)
              first | subst hbd | (injection hbd with hbd; subst hbd)
              have hpn : n - 1 - s = p := by omega
              have hrm : m - 1 - s = r := by omega
              obtain ⟨w1, w2, w3⟩ := HLAY.out p1 p (by omega) (by omega)
              obtain ⟨v1, v2, v3⟩ := HLAY.out r1 r (by omega) (by omega)
              have a1 : (k : Int) + (o : Int) = (p1 : Int) := by omega
              have b1 : (k : Int) + (i : Int) = (r1 : Int) := by omega
              have hpl : p < n := by omega
              have hrl : r < m := by omega
              have ho1 : 1 ≤ o := ho0
              have hi1 : 1 ≤ i := hi0
              by_cases hlt : s < S
              · have hxy : x = y := by have := HSA.out s hlt; rw [hpn, hrm, strAt_at hx.out, strAt_at hy.out] at this; exact this
                subst hxy
                have hb := str_eq x
                have HP := Lib.hid hp; have HR := Lib.hid hr; have HO := Lib.hid ho; have HI := Lib.hid hi; have HO0 := Lib.hid ho0; have HI0 := Lib.hid hi0
                clear hx hy h1 h2 hpn hrm hp hr ho hi hp1 hr1
                go_wp2
                go_quiet (fail)
                clear w1 w2 w3 v1 v2 v3 a1 b1
                go_wp2
                go_roundw
                case rel => exact ⟨s + 1, _, o - 1, i - 1, by omega, by have := HO0.out; congr 1; omega, by have := HI0.out; congr 1; omega, by have := HO.out; have := HO0.out; omega, by have := HI.out; have := HI0.out; omega, rfl⟩
                case measure => have := HO0.out; simp [intOf]; omega
              · have hsS : s = S := by omega
                have hxy : x ≠ y := by
                  rcases HSE.out with e | e
                  · have := ho; have := hi; omega
                  · rw [← hsS, hpn, hrm, strAt_at hx.out, strAt_at hy.out] at e; exact e
                have hb := str_ne hxy
                have hb2 := (Lib.bytes_beq_false_iff x y).2 hxy
                have HR1 : Hid (((o : Nat) : Int) = ((n - k - S : Nat) : Int)) := by show _ = _; omega
                have HR2 : Hid (((i : Nat) : Int) = ((m - k - S : Nat) : Int)) := by show _ = _; omega
                clear hx hy h1 h2 hpn hrm hp hr ho hi hp1 hr1 hxy hsS
                go_wp2
                go_quiet (fail)
                clear w1 w2 w3 v1 v2 v3 a1 b1
                go_wp2
                refine bodyPost_ret (v := .tuple #[.int .i64 (k : Int), .int .i64 (o : Int), .int .i64 (i : Int)]) (by simp [results, Try.results15, go_sem]) rfl ⟨?_, by first | exact below_drewN (Below.refl _ _) _ | (rw [World.drewN_drewN]; exact below_drewN (Below.refl _ _) _)⟩
                rw [HV.out, ← HR1.out, ← HR2.out]
            · have HR1 : Hid (((o : Nat) : Int) = ((n - k - S : Nat) : Int)) := by
                show _ = _
                rcases HSE.out with e | e <;> omega
              have HR2 : Hid (((i : Nat) : Int) = ((m - k - S : Nat) : Int)) := by show _ = _; omega
              clear h1 h2 ho hi
              go_wp2
              go_quiet (fail)
              go_wp2
              refine bodyPost_ret (v := .tuple #[.int .i64 (k : Int), .int .i64 (o : Int), .int .i64 (i : Int)]) (by simp [results, Try.results15, go_sem]) rfl ⟨?_, by first | exact below_drewN (Below.refl _ _) _ | (rw [World.drewN_drewN]; exact below_drewN (Below.refl _ _) _)⟩
              rw [HV.out, ← HR1.out, ← HR2.out]
          · have HR1 : Hid (((o : Nat) : Int) = ((n - k - S : Nat) : Int)) := by show _ = _; omega
            have HR2 : Hid (((i : Nat) : Int) = ((m - k - S : Nat) : Int)) := by
              show _ = _
              rcases HSE.out with e | e <;> omega
            clear h1 h2 ho hi
            go_wp2
            go_quiet (fail)
            go_wp2
            refine bodyPost_ret (v := .tuple #[.int .i64 (k : Int), .int .i64 (o : Int), .int .i64 (i : Int)]) (by simp [results, Try.results15, go_sem]) rfl ⟨?_, by first | exact below_drewN (Below.refl _ _) _ | (rw [World.drewN_drewN]; exact below_drewN (Below.refl _ _) _)⟩
            rw [HV.out, ← HR1.out, ← HR2.out]
  · have HD0 := Lib.hid hd0
    clear hd0
    go_enter Try.func15, Try.ntmps15
    go_wp2
    go_loopw [7] (fun u wr => ∃ k q : Nat, k ≤ K ∧ u = .int .i64 k ∧ wr = w.drewN q) (fun u _ => K - (intOf u).toNat)
    case atStart => exact ⟨0, 0, Nat.zero_le _, rfl, rfl⟩
    case round =>
      obtain ⟨k, q, hk, rfl, rfl⟩ := hrel
      have h1 := H1.out
      have h2 := H2.out
      by_cases hlt : k < K
      · obtain ⟨ad, x, rfl, hx, hc⟩ := h1.at_ (k := k) (by rw [Hn.out]; omega)
        obtain ⟨bd, y, rfl, hy, hd⟩ := h2.at_ (k := k) (by rw [Hm.out]; omega)
        have hxy : x = y := by have := HA.out k hlt; rw [strAt_at hx.out, strAt_at hy.out] at this; exact this
        subst hxy
        have hkn : k < n := by omega
        have hkm : k < m := by omega
        have hb := str_eq x
        clear hx hy h1 h2
        go_wp2
        go_quiet (fail)
        go_wp2
        go_roundw
        case rel => exact ⟨k + 1, _, by omega, by go_num, rfl⟩
        case measure => simp [intOf]; omega
      · have hkK : K ≤ k := by omega
        obtain ⟨ad, x, rfl, hx, hc⟩ := h1.at_ (k := k) (by rw [Hn.out]; omega)
        obtain ⟨bd, y, rfl, hy, hd⟩ := h2.at_ (k := k) (by rw [Hm.out]; omega)
        have hxy : x ≠ y := by have := HD0.out; have e : k = K := by omega
                               subst e; rw [strAt_at hx.out, strAt_at hy.out] at this; exact this
        have hkn : k < n := by omega
        have hkm : k < m := by omega
        have hb := str_ne hxy
        have hb2 := (Lib.bytes_beq_false_iff x y).2 hxy
        clear hx hy hxy
        clear h1 h2
        go_wp2
        go_quiet (fail)
        go_wp2
        obtain rfl : k = K := by omega
        go_loopw [8, 9] (fun u v wr => ∃ s q o i : Nat, s ≤ S ∧ u = .int .i64 o ∧ v = .int .i64 i ∧ o + s + k = n ∧ i + s + k = m ∧ wr = w.drewN q) (fun u _ _ => (intOf u).toNat)
        case atStart => exact ⟨0, _, n - k, m - k, Nat.zero_le _, by congr 1; omega, by congr 1; omega, by omega, by omega, rfl⟩
        case round =>
          obtain ⟨s, q2, o, i, hs, rfl, rfl, ho, hi, rfl⟩ := hrel
          have h1 := H1.out
          have h2 := H2.out
          have hlay : ∀ (p1 p : Nat), p1 ≤ 1048576 → p + 1 = p1 → IntKind.i64.wrap (p1 : Int) = (p1 : Int) ∧ (p1 : Int) - 1 = (p : Int) ∧ IntKind.i64.wrap (p : Int) = (p : Int) := fun p1 p _ _ => ⟨by rw [IntKind.wrap_i64]; omega, by omega, by rw [IntKind.wrap_i64]; omega⟩
          have HLAY := Lib.hid hlay
          clear hlay
          have hob : o ≤ 1048576 := by omega
          have hib : i ≤ 1048576 := by omega
          by_cases ho0 : 0 < o
          · by_cases hi0 : 0 < i
            · obtain ⟨p, hp⟩ : ∃ p, p + 1 + s = n := ⟨n - 1 - s, by omega⟩
              obtain ⟨r, hr⟩ : ∃ r, r + 1 + s = m := ⟨m - 1 - s, by omega⟩
              obtain ⟨p1, hp1⟩ : ∃ p1, k + o = p1 := ⟨_, rfl⟩
              obtain ⟨r1, hr1⟩ : ∃ r1, k + i = r1 := ⟨_, rfl⟩
              obtain ⟨ad2, x, had, hx, hc⟩ := h1.at_ (k := p) (by rw [Hn.out]; omega)
              obtain ⟨bd2, y, hbd, hy, hd⟩ := h2.at_ (k := r) (by rw [Hm.out]; omega)
              first | subst had | (injection had with had; subst had)
              first | subst hbd | (injection hbd with hbd; subst hbd)
              have hpn : n - 1 - s = p := by omega
              have hrm : m - 1 - s = r := by omega
              obtain ⟨w1, w2, w3⟩ := HLAY.out p1 p (by omega) (by omega)
              obtain ⟨v1, v2, v3⟩ := HLAY.out r1 r (by omega) (by omega)
              have a1 : (k : Int) + (o : Int) = (p1 : Int) := by omega
              have b1 : (k : Int) + (i : Int) = (r1 : Int) := by omega
              have hpl : p < n := by omega
              have hrl : r < m := by omega
              have ho1 : 1 ≤ o := ho0
              have hi1 : 1 ≤ i := hi0
              by_cases hlt : s < S
              · have hxy : x = y := by have := HSA.out s hlt; rw [hpn, hrm, strAt_at hx.out, strAt_at hy.out] at this; exact this
                subst hxy
                have hb := str_eq x
                have HP := Lib.hid hp; have HR := Lib.hid hr; have HO := Lib.hid ho; have HI := Lib.hid hi; have HO0 := Lib.hid ho0; have HI0 := Lib.hid hi0
                clear hx hy h1 h2 hpn hrm hp hr ho hi hp1 hr1
                go_wp2
                go_quiet (fail)
                clear w1 w2 w3 v1 v2 v3 a1 b1
                go_wp2
                go_roundw
                case rel => exact ⟨s + 1, _, o - 1, i - 1, by omega, by have := HO0.out; congr 1; omega, by have := HI0.out; congr 1; omega, by have := HO.out; have := HO0.out; omega, by have := HI.out; have := HI0.out; omega, rfl⟩
                case measure => have := HO0.out; simp [intOf]; omega
              · have hsS : s = S := by omega
                have hxy : x ≠ y := by
                  rcases HSE.out with e | e
                  · have := ho; have := hi; omega
                  · rw [← hsS, hpn, hrm, strAt_at hx.out, strAt_at hy.out] at e; exact e
                have hb := str_ne hxy
                have hb2 := (Lib.bytes_beq_false_iff x y).2 hxy
                have HR1 : Hid (((o : Nat) : Int) = ((n - k - S : Nat) : Int)) := by show _ = _; omega
                have HR2 : Hid (((i : Nat) : Int) = ((m - k - S : Nat) : Int)) := by show _ = _; omega
                clear hx hy h1 h2 hpn hrm hp hr ho hi hp1 hr1 hxy hsS
                go_wp2
                go_quiet (fail)
                clear w1 w2 w3 v1 v2 v3 a1 b1
                go_wp2
                refine bodyPost_ret (v := .tuple #[.int .i64 (k : Int), .int .i64 (o : Int), .int .i64 (i : Int)]) (by simp [results, Try.results15, go_sem]) rfl ⟨?_, by first | exact below_drewN (Below.refl _ _) _ | (rw [World.drewN_drewN]; exact below_drewN (Below.refl _ _) _)⟩
                rw [HV.out, ← HR1.out, ← HR2.out]
            · have HR1 : Hid (((o : Nat) : Int) = ((n - k - S : Nat) : Int)) := by
                show _ = _
                rcases HSE.out with e | e <;> omega
              have HR2 : Hid (((i : Nat) : Int) = ((m - k - S : Nat) : Int)) := by show _ = _; omega
              clear h1 h2 ho hi
              go_wp2
              go_quiet (fail)
              go_wp2
              refine bodyPost_ret (v := .tuple #[.int .i64 (k : Int), .int .i64 (o : Int), .int .i64 (i : Int)]) (by simp [results, Try.results15, go_sem]) rfl ⟨?_, by first | exact below_drewN (Below.refl _ _) _ | (rw [World.drewN_drewN]; exact below_drewN (Below.refl _ _) _)⟩
              rw [HV.out, ← HR1.out, ← HR2.out]
          · have HR1 : Hid (((o : Nat) : Int) = ((n - k - S : Nat) : Int)) := by show _ = _; omega
            have HR2 : Hid (((i : Nat) : Int) = ((m - k - S : Nat) : Int)) := by
              show _ = _
              rcases HSE.out with e | e <;> omega
            clear h1 h2 ho hi
            go_wp2
            go_quiet (fail)
            go_wp2
            refine bodyPost_ret (v := .tuple #[.int .i64 (k : Int), .int .i64 (o : Int), .int .i64 (i : Int)]) (by simp [results, Try.results15, go_sem]) rfl ⟨?_, by first | exact below_drewN (Below.refl _ _) _ | (rw [World.drewN_drewN]; exact below_drewN (Below.refl _ _) _)⟩
            rw [HV.out, ← HR1.out, ← HR2.out]
  · have HD0 := Lib.hid hd0
    clear hd0
    go_enter Try.func15, Try.ntmps15
    go_wp2
    go_loopw [7] (fun u wr => ∃ k q : Nat, k ≤ K ∧ u = .int .i64 k ∧ wr = w.drewN q) (fun u _ => K - (intOf u).toNat)
    case atStart => exact ⟨0, 0, Nat.zero_le _, rfl, rfl⟩
    case round =>
      obtain ⟨k, q, hk, rfl, rfl⟩ := hrel
      have h1 := H1.out
      have h2 := H2.out
      by_cases hlt : k < K
      · obtain ⟨ad, x, rfl, hx, hc⟩ := h1.at_ (k := k) (by rw [Hn.out]; omega)
        obtain ⟨bd, y, rfl, hy, hd⟩ := h2.at_ (k := k) (by rw [Hm.out]; omega)
        have hxy : x = y := by have := HA.out k hlt; rw [strAt_at hx.out, strAt_at hy.out] at this; exact this
        subst hxy
        have hkn : k < n := by omega
        have hkm : k < m := by omega
        have hb := str_eq x
        clear hx hy h1 h2
        go_wp2
        go_quiet (fail)
        go_wp2
        go_roundw
        case rel => exact ⟨k + 1, _, by omega, by go_num, rfl⟩
        case measure => simp [intOf]; omega
      · have hkK : K ≤ k := by omega
        obtain ⟨ad, x, rfl, hx, hc⟩ := h1.at_ (k := k) (by rw [Hn.out]; omega)
        obtain ⟨bd, y, rfl, hy, hd⟩ := h2.at_ (k := k) (by rw [Hm.out]; omega)
        have hxy : x ≠ y := by have := HD0.out; have e : k = K := by omega
                               subst e; rw [strAt_at hx.out, strAt_at hy.out] at this; exact this
        have hkn : k < n := by omega
        have hkm : k < m := by omega
        have hb := str_ne hxy
        have hb2 := (Lib.bytes_beq_false_iff x y).2 hxy
        clear hx hy hxy
        clear h1 h2
        go_wp2
        go_quiet (fail)
        go_wp2
        obtain rfl : k = K := by omega
        go_loopw [8, 9] (fun u v wr => ∃ s q o i : Nat, s ≤ S ∧ u = .int .i64 o ∧ v = .int .i64 i ∧ o + s + k = n ∧ i + s + k = m ∧ wr = w.drewN q) (fun u _ _ => (intOf u).toNat)
        case atStart => exact ⟨0, _, n - k, m - k, Nat.zero_le _, by congr 1; omega, by congr 1; omega, by omega, by omega, rfl⟩
        case round =>
          obtain ⟨s, q2, o, i, hs, rfl, rfl, ho, hi, rfl⟩ := hrel
          have h1 := H1.out
          have h2 := H2.out
          have hlay : ∀ (p1 p : Nat), p1 ≤ 1048576 → p + 1 = p1 → IntKind.i64.wrap (p1 : Int) = (p1 : Int) ∧ (p1 : Int) - 1 = (p : Int) ∧ IntKind.i64.wrap (p : Int) = (p : Int) := fun p1 p _ _ => ⟨by rw [IntKind.wrap_i64]; omega, by omega, by rw [IntKind.wrap_i64]; omega⟩
          have HLAY := Lib.hid hlay
          clear hlay
          have hob : o ≤ 1048576 := by omega
          have hib : i ≤ 1048576 := by omega
          by_cases ho0 : 0 < o
          · by_cases hi0 : 0 < i
            · obtain ⟨p, hp⟩ : ∃ p, p + 1 + s = n := ⟨n - 1 - s, by omega⟩
              obtain ⟨r, hr⟩ : ∃ r, r + 1 + s = m := ⟨m - 1 - s, by omega⟩
              obtain ⟨p1, hp1⟩ : ∃ p1, k + o = p1 := ⟨_, rfl⟩
              obtain ⟨r1, hr1⟩ : ∃ r1, k + i = r1 := ⟨_, rfl⟩
              obtain ⟨ad2, x, had, hx, hc⟩ := h1.at_ (k := p) (by rw [Hn.out]; omega)
              obtain ⟨bd2, y, hbd, hy, hd⟩ := h2.at_ (k := r) (by rw [Hm.out]; omega)
              first | subst had | (injection had with had; subst had)
              first | subst hbd | (injection hbd with hbd; subst hbd)
              have hpn : n - 1 - s = p := by omega
              have hrm : m - 1 - s = r := by omega
              obtain ⟨w1, w2, w3⟩ := HLAY.out p1 p (by omega) (by omega)
              obtain ⟨v1, v2, v3⟩ := HLAY.out r1 r (by omega) (by omega)
              have a1 : (k : Int) + (o : Int) = (p1 : Int) := by omega
              have b1 : (k : Int) + (i : Int) = (r1 : Int) := by omega
              have hpl : p < n := by omega
              have hrl : r < m := by omega
              have ho1 : 1 ≤ o := ho0
              have hi1 : 1 ≤ i := hi0
              by_cases hlt : s < S
              · have hxy : x = y := by have := HSA.out s hlt; rw [hpn, hrm, strAt_at hx.out, strAt_at hy.out] at this; exact this
                subst hxy
                have hb := str_eq x
                have HP := Lib.hid hp; have HR := Lib.hid hr; have HO := Lib.hid ho; have HI := Lib.hid hi; have HO0 := Lib.hid ho0; have HI0 := Lib.hid hi0
                clear hx hy h1 h2 hpn hrm hp hr ho hi hp1 hr1
                go_wp2
                go_quiet (fail)
                clear w1 w2 w3 v1 v2 v3 a1 b1
                go_wp2
                go_roundw
                case rel => exact ⟨s + 1, _, o - 1, i - 1, by omega, by have := HO0.out; congr 1; omega, by have := HI0.out; congr 1; omega, by have := HO.out; have := HO0.out; omega, by have := HI.out; have := HI0.out; omega, rfl⟩
                case measure => have := HO0.out; simp [intOf]; omega
              · have hsS : s = S := by omega
                have hxy : x ≠ y := by
                  rcases HSE.out with e | e
                  · have := ho; have := hi; omega
                  · rw [← hsS, hpn, hrm, strAt_at hx.out, strAt_at hy.out] at e; exact e
                have hb := str_ne hxy
                have hb2 := (Lib.bytes_beq_false_iff x y).2 hxy
                have HR1 : Hid (((o : Nat) : Int) = ((n - k - S : Nat) : Int)) := by show _ = _; omega
                have HR2 : Hid (((i : Nat) : Int) = ((m - k - S : Nat) : Int)) := by show _ = _; omega
                clear hx hy h1 h2 hpn hrm hp hr ho hi hp1 hr1 hxy hsS
                go_wp2
                go_quiet (fail)
                clear w1 w2 w3 v1 v2 v3 a1 b1
                go_wp2
                refine bodyPost_ret (v := .tuple #[.int .i64 (k : Int), .int .i64 (o : Int), .int .i64 (i : Int)]) (by simp [results, Try.results15, go_sem]) rfl ⟨?_, by first | exact below_drewN (Below.refl _ _) _ | (rw [World.drewN_drewN]; exact below_drewN (Below.refl _ _) _)⟩
                rw [HV.out, ← HR1.out, ← HR2.out]
            · have HR1 : Hid (((o : Nat) : Int) = ((n - k - S : Nat) : Int)) := by
                show _ = _
                rcases HSE.out with e | e <;> omega
              have HR2 : Hid (((i : Nat) : Int) = ((m - k - S : Nat) : Int)) := by show _ = _; omega
              clear h1 h2 ho hi
              go_wp2
              go_quiet (fail)
              go_wp2
              refine bodyPost_ret (v := .tuple #[.int .i64 (k : Int), .int .i64 (o : Int), .int .i64 (i : Int)]) (by simp [results, Try.results15, go_sem]) rfl ⟨?_, by first | exact below_drewN (Below.refl _ _) _ | (rw [World.drewN_drewN]; exact below_drewN (Below.refl _ _) _)⟩
              rw [HV.out, ← HR1.out, ← HR2.out]
          · have HR1 : Hid (((o : Nat) : Int) = ((n - k - S : Nat) : Int)) := by show _ = _; omega
            have HR2 : Hid (((i : Nat) : Int) = ((m - k - S : Nat) : Int)) := by
              show _ = _
              rcases HSE.out with e | e <;> omega
            clear h1 h2 ho hi
            go_wp2
            go_quiet (fail)
            go_wp2
            refine bodyPost_ret (v := .tuple #[.int .i64 (k : Int), .int .i64 (o : Int), .int .i64 (i : Int)]) (by simp [results, Try.results15, go_sem]) rfl ⟨?_, by first | exact below_drewN (Below.refl _ _) _ | (rw [World.drewN_drewN]; exact below_drewN (Below.refl _ _) _)⟩
            rw [HV.out, ← HR1.out, ← HR2.out]
set_option maxRecDepth 100000 in
set_option maxHeartbeats 6400000 in
theorem specReset_any (A B : Option Addr) (n c m d : Nat) (zs ys : List ByteArray) (w : World) (hn : zs.length = n) (hm : ys.length = m) (hl : n ≤ 1048576) (hl2 : m ≤ 1048576) (h : Strs w A zs) (h2 : Strs w B ys) :
    Calls Try.prog 25 #[.slice A n c, .slice B m d] w fun e w' => e = .returned (rstV zs ys) ∧ Below w.heap.size w w' := by
  have Hn := Lib.hid hn; have Hm := Lib.hid hm; have H1 := Lib.hid h; have H2 := Lib.hid h2
  clear h h2
  obtain ⟨K, hK⟩ : ∃ K, preL zs ys = K := ⟨_, rfl⟩
  obtain ⟨S, hS⟩ : ∃ S, sufL zs ys = S := ⟨_, rfl⟩
  have hKle := preL_le zs ys
  have hSle := sufL_le zs ys
  have HA := Lib.hid (fun t ht => preL_all (a := zs) (b := ys) (t := t) ht)
  have HSA := Lib.hid (fun t ht => sufL_all (a := zs) (b := ys) (t := t) ht)
  have hE := preL_end zs ys
  have hSE := sufL_end zs ys
  rw [hK] at hKle hSle HA hE hSE
  rw [hS] at hSle HSA hSE
  rw [hn, hm] at hKle hSle HSA hE hSE
  have HV : Hid (rstV zs ys = .tuple #[.int .i64 (K : Int), .int .i64 ((n - K - S : Nat) : Int), .int .i64 ((m - K - S : Nat) : Int)]) := by show _ = _; unfold rstV; rw [hK, hS, hn, hm]
  obtain ⟨hK1, hK2⟩ := hKle
  obtain ⟨hS1, hS2⟩ := hSle
  have HSE := Lib.hid hSE
  clear hK hS hn hm hSE
  have hc3 : (K = n ∧ K ≤ m) ∨ (K = m ∧ K < n) ∨ ((K < n ∧ K < m ∧ strAt zs K ≠ strAt ys K) ∧ m < n) ∨ ((K < n ∧ K < m ∧ strAt zs K ≠ strAt ys K) ∧ ¬ m < n) := by
    rcases hE with hE | hE
    · omega
    · by_cases h1 : K < n <;> by_cases h2 : K < m <;> by_cases h3 : m < n
      all_goals first
        | exact .inr (.inr (.inl ⟨⟨h1, h2, hE⟩, h3⟩))
        | exact .inr (.inr (.inr ⟨⟨h1, h2, hE⟩, h3⟩))
        | omega
  clear hE
  rcases hc3 with ⟨hq1, hq2⟩ | ⟨hq1, hq2⟩ | ⟨⟨hq1, hq2, hd0⟩, hnm⟩ | ⟨⟨hq1, hq2, hd0⟩, hnm⟩
  · have hnm : ¬ m < n := by omega
    have hge : n ≤ K := by omega
    have hqe := Lib.hid hq1
    clear hq1
    go_enter Try.func25, Try.ntmps25
    go_wp2
    go_loopw [7] (fun u wr => ∃ k q : Nat, k ≤ K ∧ u = .int .i64 k ∧ wr = w.drewN q) (fun u _ => K - (intOf u).toNat)
    case atStart => exact ⟨0, 0, Nat.zero_le _, rfl, rfl⟩
    case round =>
      obtain ⟨k, q, hk, rfl, rfl⟩ := hrel
      have h1 := H1.out
      have h2 := H2.out
      by_cases hlt : k < K
      · obtain ⟨ad, x, rfl, hx, hc⟩ := h1.at_ (k := k) (by rw [Hn.out]; omega)
        obtain ⟨bd, y, rfl, hy, hd⟩ := h2.at_ (k := k) (by rw [Hm.out]; omega)
        have hxy : x = y := by have := HA.out k hlt; rw [strAt_at hx.out, strAt_at hy.out] at this; exact this
        subst hxy
        have hkn : k < n := by omega
        have hkm : k < m := by omega
        have hb := str_eq x
        clear hx hy h1 h2
        go_wp2
        go_quiet (fail)
        go_wp2
        go_roundw
        case rel => exact ⟨k + 1, _, by omega, by go_num, rfl⟩
        case measure => simp [intOf]; omega
      · have hkK : K ≤ k := by omega
        have hkn : ¬ k < n := by omega
        clear h1 h2
        go_wp2
        go_quiet (fail)
        go_wp2
        obtain rfl : k = K := by omega
        go_loopw [8] (fun u wr => ∃ s q : Nat, s ≤ S ∧ u = .int .i64 s ∧ wr = w.drewN q) (fun u _ => S - (intOf u).toNat)
        case atStart => exact ⟨0, _, Nat.zero_le _, rfl, World.drewN_drewN _ _ _⟩
        case round =>
          obtain ⟨s, q2, hs, rfl, rfl⟩ := hrel
          have h1 := H1.out
          have h2 := H2.out
          have hlay : ∀ (p1 p t : Nat), p1 ≤ 1048576 → p + 1 + t = p1 → (p1 : Int) - 1 = ((p1 - 1 : Nat) : Int) ∧ IntKind.i64.wrap ((p1 - 1 : Nat) : Int) = ((p1 - 1 : Nat) : Int) ∧ ((p1 - 1 : Nat) : Int) - (t : Int) = (p : Int) ∧ IntKind.i64.wrap (p : Int) = (p : Int) := fun p1 p t _ _ => ⟨by omega, by rw [IntKind.wrap_i64]; omega, by omega, by rw [IntKind.wrap_i64]; omega⟩
          have HLAY := Lib.hid hlay
          clear hlay
          obtain ⟨j, hj⟩ : ∃ j, k + s = j := ⟨_, rfl⟩
          have a0 : (k : Int) + (s : Int) = (j : Int) := by omega
          have a1 : IntKind.i64.wrap (j : Int) = (j : Int) := by rw [IntKind.wrap_i64]; omega
          by_cases ho0 : j < n
          · by_cases hi0 : j < m
            · obtain ⟨p, hp⟩ : ∃ p, p + 1 + s = n := ⟨n - 1 - s, by omega⟩
              obtain ⟨r, hr⟩ : ∃ r, r + 1 + s = m := ⟨m - 1 - s, by omega⟩
              obtain ⟨ad2, x, had, hx, hc⟩ := h1.at_ (k := p) (by rw [Hn.out]; omega)
              obtain ⟨bd2, y, hbd, hy, hd⟩ := h2.at_ (k := r) (by rw [Hm.out]; omega)
              first | subst had | (injection had with had; subst had)
              first | subst hbd | (injection hbd with hbd; subst hbd)
              have hpn : n - 1 - s = p := by omega
              have hrm : m - 1 - s = r := by omega
              obtain ⟨x0, x1, x2, x3⟩ := HLAY.out n p s (by omega) (by omega)
              obtain ⟨y0, y1, y2, y3⟩ := HLAY.out m r s (by omega) (by omega)
              obtain ⟨n1, hn1⟩ : ∃ n1, n - 1 = n1 := ⟨_, rfl⟩
              obtain ⟨m1, hm1⟩ : ∃ m1, m - 1 = m1 := ⟨_, rfl⟩
              rw [hn1] at x0 x1 x2
              rw [hm1] at y0 y1 y2
              have hpl : p < n := by omega
              have hrl : r < m := by omega
              by_cases hlt : s < S
              · have hxy : x = y := by have := HSA.out s hlt; rw [hpn, hrm, strAt_at hx.out, strAt_at hy.out] at this; exact this
                subst hxy
                have hb := str_eq x
                clear hx hy h1 h2 hpn hrm hp hr hj hn1 hm1
                go_wp2
                go_quiet (fail)
                clear a0 a1 x0 x1 x2 x3 y0 y1 y2 y3
                go_wp2
                go_roundw
                case rel => exact ⟨s + 1, _, by omega, by go_num, rfl⟩
                case measure => simp [intOf]; omega
              · have hsS : s = S := by omega
                have hxy : x ≠ y := by
                  rcases HSE.out with e | e
                  · omega
                  · rw [← hsS, hpn, hrm, strAt_at hx.out, strAt_at hy.out] at e; exact e
                have hb := str_ne hxy
                have hb2 := (Lib.bytes_beq_false_iff x y).2 hxy
                have HSS := Lib.hid hsS
                clear hx hy h1 h2 hpn hrm hp hr hj hxy hsS hn1 hm1
                go_wp2
                go_quiet (fail)
                clear a0 a1 x0 x1 x2 x3 y0 y1 y2 y3
                obtain ⟨o, ho⟩ : ∃ o, n - k - S = o := ⟨_, rfl⟩
                obtain ⟨i, hi⟩ : ∃ i, m - k - S = i := ⟨_, rfl⟩
                have HO := Lib.hid ho; have HI := Lib.hid hi
                have b1 : (n : Int) - (k : Int) = ((n - k : Nat) : Int) := by omega
                have b2 : (m : Int) - (k : Int) = ((m - k : Nat) : Int) := by omega
                have b3 : ((n - k : Nat) : Int) - (s : Int) = (o : Int) := by have := HSS.out; omega
                have b4 : ((m - k : Nat) : Int) - (s : Int) = (i : Int) := by have := HSS.out; omega
                obtain ⟨nk, hnk⟩ : ∃ nk, n - k = nk := ⟨_, rfl⟩
                obtain ⟨mk, hmk⟩ : ∃ mk, m - k = mk := ⟨_, rfl⟩
                rw [hnk] at b1 b3
                rw [hmk] at b2 b4
                clear ho hi hnk hmk
                go_wp2
                refine bodyPost_ret (v := .tuple #[.int .i64 (k : Int), .int .i64 (o : Int), .int .i64 (i : Int)]) (by simp [results, Try.results25, go_sem]) rfl ⟨?_, by first | exact below_drewN (Below.refl _ _) _ | (rw [World.drewN_drewN]; exact below_drewN (Below.refl _ _) _)⟩
                rw [HV.out, HO.out, HI.out]
            · have HSS : Hid (s = S) := by
                show _ = _
                rcases HSE.out with e | e <;> omega
              clear h1 h2 hj
              go_wp2
              go_quiet (fail)
              clear a0 a1
              obtain ⟨o, ho⟩ : ∃ o, n - k - S = o := ⟨_, rfl⟩
              obtain ⟨i, hi⟩ : ∃ i, m - k - S = i := ⟨_, rfl⟩
              have HO := Lib.hid ho; have HI := Lib.hid hi
              have b1 : (n : Int) - (k : Int) = ((n - k : Nat) : Int) := by omega
              have b2 : (m : Int) - (k : Int) = ((m - k : Nat) : Int) := by omega
              have b3 : ((n - k : Nat) : Int) - (s : Int) = (o : Int) := by have := HSS.out; omega
              have b4 : ((m - k : Nat) : Int) - (s : Int) = (i : Int) := by have := HSS.out; omega
              obtain ⟨nk, hnk⟩ : ∃ nk, n - k = nk := ⟨_, rfl⟩
              obtain ⟨mk, hmk⟩ : ∃ mk, m - k = mk := ⟨_, rfl⟩
              rw [hnk] at b1 b3
              rw [hmk] at b2 b4
              clear ho hi hnk hmk
              go_wp2
              refine bodyPost_ret (v := .tuple #[.int .i64 (k : Int), .int .i64 (o : Int), .int .i64 (i : Int)]) (by simp [results, Try.results25, go_sem]) rfl ⟨?_, by first | exact below_drewN (Below.refl _ _) _ | (rw [World.drewN_drewN]; exact below_drewN (Below.refl _ _) _)⟩
              rw [HV.out, HO.out, HI.out]
          · have HSS : Hid (s = S) := by
              show _ = _
              rcases HSE.out with e | e <;> omega
            clear h1 h2 hj
            go_wp2
            go_quiet (fail)
            clear a0 a1
            obtain ⟨o, ho⟩ : ∃ o, n - k - S = o := ⟨_, rfl⟩
            obtain ⟨i, hi⟩ : ∃ i, m - k - S = i := ⟨_, rfl⟩
            have HO := Lib.hid ho; have HI := Lib.hid hi
            have b1 : (n : Int) - (k : Int) = ((n - k : Nat) : Int) := by omega
            have b2 : (m : Int) - (k : Int) = ((m - k : Nat) : Int) := by omega
            have b3 : ((n - k : Nat) : Int) - (s : Int) = (o : Int) := by have := HSS.out; omega
            have b4 : ((m - k : Nat) : Int) - (s : Int) = (i : Int) := by have := HSS.out; omega
            obtain ⟨nk, hnk⟩ : ∃ nk, n - k = nk := ⟨_, rfl⟩
            obtain ⟨mk, hmk⟩ : ∃ mk, m - k = mk := ⟨_, rfl⟩
            rw [hnk] at b1 b3
            rw [hmk] at b2 b4
            clear ho hi hnk hmk
            go_wp2
            refine bodyPost_ret (v := .tuple #[.int .i64 (k : Int), .int .i64 (o : Int), .int .i64 (i : Int)]) (by simp [results, Try.results25, go_sem]) rfl ⟨?_, by first | exact below_drewN (Below.refl _ _) _ | (rw [World.drewN_drewN]; exact below_drewN (Below.refl _ _) _)⟩
            rw [HV.out, HO.out, HI.out]
  · have hnm : m < n := by omega
    have hge : m ≤ K := by omega
    have hqe := Lib.hid hq1
    clear hq1
    go_enter Try.func25, Try.ntmps25
    go_wp2
    go_loopw [7] (fun u wr => ∃ k q : Nat, k ≤ K ∧ u = .int .i64 k ∧ wr = w.drewN q) (fun u _ => K - (intOf u).toNat)
    case atStart => exact ⟨0, 0, Nat.zero_le _, rfl, rfl⟩
    case round =>
      obtain ⟨k, q, hk, rfl, rfl⟩ := hrel
      have h1 := H1.out
      have h2 := H2.out
      by_cases hlt : k < K
      · obtain ⟨ad, x, rfl, hx, hc⟩ := h1.at_ (k := k) (by rw [Hn.out]; omega)
        obtain ⟨bd, y, rfl, hy, hd⟩ := h2.at_ (k := k) (by rw [Hm.out]; omega)
        have hxy : x = y := by have := HA.out k hlt; rw [strAt_at hx.out, strAt_at hy.out] at this; exact this
        subst hxy
        have hkn : k < n := by omega
        have hkm : k < m := by omega
        have hb := str_eq x
        clear hx hy h1 h2
        go_wp2
        go_quiet (fail)
        go_wp2
        go_roundw
        case rel => exact ⟨k + 1, _, by omega, by go_num, rfl⟩
        case measure => simp [intOf]; omega
      · have hkK : K ≤ k := by omega
        have hkn : ¬ k < m := by omega
        have hkn2 : k < n := by omega
        clear h1 h2
        go_wp2
        go_quiet (fail)
        go_wp2
        obtain rfl : k = K := by omega
        go_loopw [8] (fun u wr => ∃ s q : Nat, s ≤ S ∧ u = .int .i64 s ∧ wr = w.drewN q) (fun u _ => S - (intOf u).toNat)
        case atStart => exact ⟨0, _, Nat.zero_le _, rfl, World.drewN_drewN _ _ _⟩
        case round =>
          obtain ⟨s, q2, hs, rfl, rfl⟩ := hrel
          have h1 := H1.out
          have h2 := H2.out
          have hlay : ∀ (p1 p t : Nat), p1 ≤ 1048576 → p + 1 + t = p1 → (p1 : Int) - 1 = ((p1 - 1 : Nat) : Int) ∧ IntKind.i64.wrap ((p1 - 1 : Nat) : Int) = ((p1 - 1 : Nat) : Int) ∧ ((p1 - 1 : Nat) : Int) - (t : Int) = (p : Int) ∧ IntKind.i64.wrap (p : Int) = (p : Int) := fun p1 p t _ _ => ⟨by omega, by rw [IntKind.wrap_i64]; omega, by omega, by rw [IntKind.wrap_i64]; omega⟩
          have HLAY := Lib.hid hlay
          clear hlay
          obtain ⟨j, hj⟩ : ∃ j, k + s = j := ⟨_, rfl⟩
          have a0 : (k : Int) + (s : Int) = (j : Int) := by omega
          have a1 : IntKind.i64.wrap (j : Int) = (j : Int) := by rw [IntKind.wrap_i64]; omega
          by_cases ho0 : j < n
          · by_cases hi0 : j < m
            · obtain ⟨p, hp⟩ : ∃ p, p + 1 + s = n := ⟨n - 1 - s, by omega⟩
              obtain ⟨r, hr⟩ : ∃ r, r + 1 + s = m := ⟨m - 1 - s, by omega⟩
              obtain ⟨ad2, x, had, hx, hc⟩ := h1.at_ (k := p) (by rw [Hn.out]; omega)
              obtain ⟨bd2, y, hbd, hy, hd⟩ := h2.at_ (k := r) (by rw [Hm.out]; omega)
              first | subst had | (injection had with had; subst had)
              first | subst hbd | (injection hbd with hbd; subst hbd)
              have hpn : n - 1 - s = p := by omega
              have hrm : m - 1 - s = r := by omega
              obtain ⟨x0, x1, x2, x3⟩ := HLAY.out n p s (by omega) (by omega)
              obtain ⟨y0, y1, y2, y3⟩ := HLAY.out m r s (by omega) (by omega)
              obtain ⟨n1, hn1⟩ : ∃ n1, n - 1 = n1 := ⟨_, rfl⟩
              obtain ⟨m1, hm1⟩ : ∃ m1, m - 1 = m1 := ⟨_, rfl⟩
              rw [hn1] at x0 x1 x2
              rw [hm1] at y0 y1 y2
              have hpl : p < n := by omega
              have hrl : r < m := by omega
              by_cases hlt : s < S
              · have hxy : x = y := by have := HSA.out s hlt; rw [hpn, hrm, strAt_at hx.out, strAt_at hy.out] at this; exact this
                subst hxy
                have hb := str_eq x
                clear hx hy h1 h2 hpn hrm hp hr hj hn1 hm1
                go_wp2
                go_quiet (fail)
                clear a0 a1 x0 x1 x2 x3 y0 y1 y2 y3
                go_wp2
                go_roundw
                case rel => exact ⟨s + 1, _, by omega, by go_num, rfl⟩
                case measure => simp [intOf]; omega
              · have hsS : s = S := by omega
                have hxy : x ≠ y := by
                  rcases HSE.out with e | e
                  · omega
                  · rw [← hsS, hpn, hrm, strAt_at hx.out, strAt_at hy.out] at e; exact e
                have hb := str_ne hxy
                have hb2 := (Lib.bytes_beq_false_iff x y).2 hxy
                have HSS := Lib.hid hsS
                clear hx hy h1 h2 hpn hrm hp hr hj hxy hsS hn1 hm1
                go_wp2
                go_quiet (fail)
                clear a0 a1 x0 x1 x2 x3 y0 y1 y2 y3
                obtain ⟨o, ho⟩ : ∃ o, n - k - S = o := ⟨_, rfl⟩
                obtain ⟨i, hi⟩ : ∃ i, m - k - S = i := ⟨_, rfl⟩
                have HO := Lib.hid ho; have HI := Lib.hid hi
                have b1 : (n : Int) - (k : Int) = ((n - k : Nat) : Int) := by omega
                have b2 : (m : Int) - (k : Int) = ((m - k : Nat) : Int) := by omega
                have b3 : ((n - k : Nat) : Int) - (s : Int) = (o : Int) := by have := HSS.out; omega
                have b4 : ((m - k : Nat) : Int) - (s : Int) = (i : Int) := by have := HSS.out; omega
                obtain ⟨nk, hnk⟩ : ∃ nk, n - k = nk := ⟨_, rfl⟩
                obtain ⟨mk, hmk⟩ : ∃ mk, m - k = mk := ⟨_, rfl⟩
                rw [hnk] at b1 b3
                rw [hmk] at b2 b4
                clear ho hi hnk hmk
                go_wp2
                refine bodyPost_ret (v := .tuple #[.int .i64 (k : Int), .int .i64 (o : Int), .int .i64 (i : Int)]) (by simp [results, Try.results25, go_sem]) rfl ⟨?_, by first | exact below_drewN (Below.refl _ _) _ | (rw [World.drewN_drewN]; exact below_drewN (Below.refl _ _) _)⟩
                rw [HV.out, HO.out, HI.out]
            · have HSS : Hid (s = S) := by
                show _ = _
                rcases HSE.out with e | e <;> omega
              clear h1 h2 hj
              go_wp2
              go_quiet (fail)
              clear a0 a1
              obtain ⟨o, ho⟩ : ∃ o, n - k - S = o := ⟨_, rfl⟩
              obtain ⟨i, hi⟩ : ∃ i, m - k - S = i := ⟨_, rfl⟩
              have HO := Lib.hid ho; have HI := Lib.hid hi
              have b1 : (n : Int) - (k : Int) = ((n - k : Nat) : Int) := by omega
              have b2 : (m : Int) - (k : Int) = ((m - k : Nat) : Int) := by omega
              have b3 : ((n - k : Nat) : Int) - (s : Int) = (o : Int) := by have := HSS.out; omega
              have b4 : ((m - k : Nat) : Int) - (s : Int) = (i : Int) := by have := HSS.out; omega
              obtain ⟨nk, hnk⟩ : ∃ nk, n - k = nk := ⟨_, rfl⟩
              obtain ⟨mk, hmk⟩ : ∃ mk, m - k = mk := ⟨_, rfl⟩
              rw [hnk] at b1 b3
              rw [hmk] at b2 b4
              clear ho hi hnk hmk
              go_wp2
              refine bodyPost_ret (v := .tuple #[.int .i64 (k : Int), .int .i64 (o : Int), .int .i64 (i : Int)]) (by simp [results, Try.results25, go_sem]) rfl ⟨?_, by first | exact below_drewN (Below.refl _ _) _ | (rw [World.drewN_drewN]; exact below_drewN (Below.refl _ _) _)⟩
              rw [HV.out, HO.out, HI.out]
          · have HSS : Hid (s = S) := by
              show _ = _
              rcases HSE.out with e | e <;> omega
            clear h1 h2 hj
            go_wp2
            go_quiet (fail)
            clear a0 a1
            obtain ⟨o, ho⟩ : ∃ o, n - k - S = o := ⟨_, rfl⟩
            obtain ⟨i, hi⟩ : ∃ i, m - k - S = i := ⟨_, rfl⟩
            have HO := Lib.hid ho; have HI := Lib.hid hi
            have b1 : (n : Int) - (k : Int) = ((n - k : Nat) : Int) := by omega
            have b2 : (m : Int) - (k : Int) = ((m - k : Nat) : Int) := by omega
            have b3 : ((n - k : Nat) : Int) - (s : Int) = (o : Int) := by have := HSS.out; omega
            have b4 : ((m - k : Nat) : Int) - (s : Int) = (i : Int) := by have := HSS.out; omega
            obtain ⟨nk, hnk⟩ : ∃ nk, n - k = nk := ⟨_, rfl⟩
            obtain ⟨mk, hmk⟩ : ∃ mk, m - k = mk := ⟨_, rfl⟩
            rw [hnk] at b1 b3
            rw [hmk] at b2 b4
            clear ho hi hnk hmk
            go_wp2
            refine bodyPost_ret (v := .tuple #[.int .i64 (k : Int), .int .i64 (o : Int), .int .i64 (i : Int)]) (by simp [results, Try.results25, go_sem]) rfl ⟨?_, by first | exact below_drewN (Below.refl _ _) _ | (rw [World.drewN_drewN]; exact below_drewN (Below.refl _ _) _)⟩
            rw [HV.out, HO.out, HI.out]
  · have HD0 := Lib.hid hd0
    clear hd0
    go_enter Try.func25, Try.ntmps25
    go_wp2
    go_loopw [7] (fun u wr => ∃ k q : Nat, k ≤ K ∧ u = .int .i64 k ∧ wr = w.drewN q) (fun u _ => K - (intOf u).toNat)
    case atStart => exact ⟨0, 0, Nat.zero_le _, rfl, rfl⟩
    case round =>
      obtain ⟨k, q, hk, rfl, rfl⟩ := hrel
      have h1 := H1.out
      have h2 := H2.out
      by_cases hlt : k < K
      · obtain ⟨ad, x, rfl, hx, hc⟩ := h1.at_ (k := k) (by rw [Hn.out]; omega)
        obtain ⟨bd, y, rfl, hy, hd⟩ := h2.at_ (k := k) (by rw [Hm.out]; omega)
        have hxy : x = y := by have := HA.out k hlt; rw [strAt_at hx.out, strAt_at hy.out] at this; exact this
        subst hxy
        have hkn : k < n := by omega
        have hkm : k < m := by omega
        have hb := str_eq x
        clear hx hy h1 h2
        go_wp2
        go_quiet (fail)
        go_wp2
        go_roundw
        case rel => exact ⟨k + 1, _, by omega, by go_num, rfl⟩
        case measure => simp [intOf]; omega
      · have hkK : K ≤ k := by omega
        obtain ⟨ad, x, rfl, hx, hc⟩ := h1.at_ (k := k) (by rw [Hn.out]; omega)
        obtain ⟨bd, y, rfl, hy, hd⟩ := h2.at_ (k := k) (by rw [Hm.out]; omega)
        have hxy : x ≠ y := by have := HD0.out; have e : k = K := by omega
                               subst e; rw [strAt_at hx.out, strAt_at hy.out] at this; exact this
        have hkn : k < n := by omega
        have hkm : k < m := by omega
        have hb := str_ne hxy
        have hb2 := (Lib.bytes_beq_false_iff x y).2 hxy
        clear hx hy hxy
        clear h1 h2
        go_wp2
        go_quiet (fail)
        go_wp2
        obtain rfl : k = K := by omega
        go_loopw [8] (fun u wr => ∃ s q : Nat, s ≤ S ∧ u = .int .i64 s ∧ wr = w.drewN q) (fun u _ => S - (intOf u).toNat)
        case atStart => exact ⟨0, _, Nat.zero_le _, rfl, World.drewN_drewN _ _ _⟩
        case round =>
          obtain ⟨s, q2, hs, rfl, rfl⟩ := hrel
          have h1 := H1.out
          have h2 := H2.out
          have hlay : ∀ (p1 p t : Nat), p1 ≤ 1048576 → p + 1 + t = p1 → (p1 : Int) - 1 = ((p1 - 1 : Nat) : Int) ∧ IntKind.i64.wrap ((p1 - 1 : Nat) : Int) = ((p1 - 1 : Nat) : Int) ∧ ((p1 - 1 : Nat) : Int) - (t : Int) = (p : Int) ∧ IntKind.i64.wrap (p : Int) = (p : Int) := fun p1 p t _ _ => ⟨by omega, by rw [IntKind.wrap_i64]; omega, by omega, by rw [IntKind.wrap_i64]; omega⟩
          have HLAY := Lib.hid hlay
          clear hlay
          obtain ⟨j, hj⟩ : ∃ j, k + s = j := ⟨_, rfl⟩
          have a0 : (k : Int) + (s : Int) = (j : Int) := by omega
          have a1 : IntKind.i64.wrap (j : Int) = (j : Int) := by rw [IntKind.wrap_i64]; omega
          by_cases ho0 : j < n
          · by_cases hi0 : j < m
            · obtain ⟨p, hp⟩ : ∃ p, p + 1 + s = n := ⟨n - 1 - s, by omega⟩
              obtain ⟨r, hr⟩ : ∃ r, r + 1 + s = m := ⟨m - 1 - s, by omega⟩
              obtain ⟨ad2, x, had, hx, hc⟩ := h1.at_ (k := p) (by rw [Hn.out]; omega)
              obtain ⟨bd2, y, hbd, hy, hd⟩ := h2.at_ (k := r) (by rw [Hm.out]; omega)
              first | subst had | (injection had with had; subst had)
              first | subst hbd | (injection hbd with hbd; subst hbd)
              have hpn : n - 1 - s = p := by omega
              have hrm : m - 1 - s = r := by omega
              obtain ⟨x0, x1, x2, x3⟩ := HLAY.out n p s (by omega) (by omega)
              obtain ⟨y0, y1, y2, y3⟩ := HLAY.out m r s (by omega) (by omega)
              obtain ⟨n1, hn1⟩ : ∃ n1, n - 1 = n1 := ⟨_, rfl⟩
              obtain ⟨m1, hm1⟩ : ∃ m1, m - 1 = m1 := ⟨_, rfl⟩
              rw [hn1] at x0 x1 x2
              rw [hm1] at y0 y1 y2
              have hpl : p < n := by omega
              have hrl : r < m := by omega
              by_cases hlt : s < S
              · have hxy : x = y := by have := HSA.out s hlt; rw [hpn, hrm, strAt_at hx.out, strAt_at hy.out] at this; exact this
                subst hxy
                have hb := str_eq x
                clear hx hy h1 h2 hpn hrm hp hr hj hn1 hm1
                go_wp2
                go_quiet (fail)
                clear a0 a1 x0 x1 x2 x3 y0 y1 y2 y3
                go_wp2
                go_roundw
                case rel => exact ⟨s + 1, _, by omega, by go_num, rfl⟩
                case measure => simp [intOf]; omega
              · have hsS : s = S := by omega
                have hxy : x ≠ y := by
                  rcases HSE.out with e | e
                  · omega
                  · rw [← hsS, hpn, hrm, strAt_at hx.out, strAt_at hy.out] at e; exact e
                have hb := str_ne hxy
                have hb2 := (Lib.bytes_beq_false_iff x y).2 hxy
                have HSS := Lib.hid hsS
                clear hx hy h1 h2 hpn hrm hp hr hj hxy hsS hn1 hm1
                go_wp2
                go_quiet (fail)
                clear a0 a1 x0 x1 x2 x3 y0 y1 y2 y3
                obtain ⟨o, ho⟩ : ∃ o, n - k - S = o := ⟨_, rfl⟩
                obtain ⟨i, hi⟩ : ∃ i, m - k - S = i := ⟨_, rfl⟩
                have HO := Lib.hid ho; have HI := Lib.hid hi
                have b1 : (n : Int) - (k : Int) = ((n - k : Nat) : Int) := by omega
                have b2 : (m : Int) - (k : Int) = ((m - k : Nat) : Int) := by omega
                have b3 : ((n - k : Nat) : Int) - (s : Int) = (o : Int) := by have := HSS.out; omega
                have b4 : ((m - k : Nat) : Int) - (s : Int) = (i : Int) := by have := HSS.out; omega
                obtain ⟨nk, hnk⟩ : ∃ nk, n - k = nk := ⟨_, rfl⟩
                obtain ⟨mk, hmk⟩ : ∃ mk, m - k = mk := ⟨_, rfl⟩
                rw [hnk] at b1 b3
                rw [hmk] at b2 b4
                clear ho hi hnk hmk
                go_wp2
                refine bodyPost_ret (v := .tuple #[.int .i64 (k : Int), .int .i64 (o : Int), .int .i64 (i : Int)]) (by simp [results, Try.results25, go_sem]) rfl ⟨?_, by first | exact below_drewN (Below.refl _ _) _ | (rw [World.drewN_drewN]; exact below_drewN (Below.refl _ _) _)⟩
                rw [HV.out, HO.out, HI.out]
            · have HSS : Hid (s = S) := by
                show _ = _
                rcases HSE.out with e | e <;> omega
              clear h1 h2 hj
              go_wp2
              go_quiet (fail)
              clear a0 a1
              obtain ⟨o, ho⟩ : ∃ o, n - k - S = o := ⟨_, rfl⟩
              obtain ⟨i, hi⟩ : ∃ i, m - k - S = i := ⟨_, rfl⟩
              have HO := Lib.hid ho; have HI := Lib.hid hi
              have b1 : (n : Int) - (k : Int) = ((n - k : Nat) : Int) := by omega
              have b2 : (m : Int) - (k : Int) = ((m - k : Nat) : Int) := by omega
              have b3 : ((n - k : Nat) : Int) - (s : Int) = (o : Int) := by have := HSS.out; omega
              have b4 : ((m - k : Nat) : Int) - (s : Int) = (i : Int) := by have := HSS.out; omega
              obtain ⟨nk, hnk⟩ : ∃ nk, n - k = nk := ⟨_, rfl⟩
              obtain ⟨mk, hmk⟩ : ∃ mk, m - k = mk := ⟨_, rfl⟩
              rw [hnk] at b1 b3
              rw [hmk] at b2 b4
              clear ho hi hnk hmk
              go_wp2
              refine bodyPost_ret (v := .tuple #[.int .i64 (k : Int), .int .i64 (o : Int), .int .i64 (i : Int)]) (by simp [results, Try.results25, go_sem]) rfl ⟨?_, by first | exact below_drewN (Below.refl _ _) _ | (rw [World.drewN_drewN]; exact below_drewN (Below.refl _ _) _)⟩
              rw [HV.out, HO.out, HI.out]
          · have HSS : Hid (s = S) := by
              show _ = _
              rcases HSE.out with e | e <;> omega
            clear h1 h2 hj
            go_wp2
            go_quiet (fail)
            clear a0 a1
            obtain ⟨o, ho⟩ : ∃ o, n - k - S = o := ⟨_, rfl⟩
            obtain ⟨i, hi⟩ : ∃ i, m - k - S = i := ⟨_, rfl⟩
            have HO := Lib.hid ho; have HI := Lib.hid hi
            have b1 : (n : Int) - (k : Int) = ((n - k : Nat) : Int) := by omega
            have b2 : (m : Int) - (k : Int) = ((m - k : Nat) : Int) := by omega
            have b3 : ((n - k : Nat) : Int) - (s : Int) = (o : Int) := by have := HSS.out; omega
            have b4 : ((m - k : Nat) : Int) - (s : Int) = (i : Int) := by have := HSS.out; omega
            obtain ⟨nk, hnk⟩ : ∃ nk, n - k = nk := ⟨_, rfl⟩
            obtain ⟨mk, hmk⟩ : ∃ mk, m - k = mk := ⟨_, rfl⟩
            rw [hnk] at b1 b3
            rw [hmk] at b2 b4
            clear ho hi hnk hmk
            go_wp2
            refine bodyPost_ret (v := .tuple #[.int .i64 (k : Int), .int .i64 (o : Int), .int .i64 (i : Int)]) (by simp [results, Try.results25, go_sem]) rfl ⟨?_, by first | exact below_drewN (Below.refl _ _) _ | (rw [World.drewN_drewN]; exact below_drewN (Below.refl _ _) _)⟩
            rw [HV.out, HO.out, HI.out]
  · have HD0 := Lib.hid hd0
    clear hd0
    go_enter Try.func25, Try.ntmps25
    go_wp2
    go_loopw [7] (fun u wr => ∃ k q : Nat, k ≤ K ∧ u = .int .i64 k ∧ wr = w.drewN q) (fun u _ => K - (intOf u).toNat)
    case atStart => exact ⟨0, 0, Nat.zero_le _, rfl, rfl⟩
    case round =>
      obtain ⟨k, q, hk, rfl, rfl⟩ := hrel
      have h1 := H1.out
      have h2 := H2.out
      by_cases hlt : k < K
      · obtain ⟨ad, x, rfl, hx, hc⟩ := h1.at_ (k := k) (by rw [Hn.out]; omega)
        obtain ⟨bd, y, rfl, hy, hd⟩ := h2.at_ (k := k) (by rw [Hm.out]; omega)
        have hxy : x = y := by have := HA.out k hlt; rw [strAt_at hx.out, strAt_at hy.out] at this; exact this
        subst hxy
        have hkn : k < n := by omega
        have hkm : k < m := by omega
        have hb := str_eq x
        clear hx hy h1 h2
        go_wp2
        go_quiet (fail)
        go_wp2
        go_roundw
        case rel => exact ⟨k + 1, _, by omega, by go_num, rfl⟩
        case measure => simp [intOf]; omega
      · have hkK : K ≤ k := by omega
        obtain ⟨ad, x, rfl, hx, hc⟩ := h1.at_ (k := k) (by rw [Hn.out]; omega)
        obtain ⟨bd, y, rfl, hy, hd⟩ := h2.at_ (k := k) (by rw [Hm.out]; omega)
        have hxy : x ≠ y := by have := HD0.out; have e : k = K := by omega
                               subst e; rw [strAt_at hx.out, strAt_at hy.out] at this; exact this
        have hkn : k < n := by omega
        have hkm : k < m := by omega
        have hb := str_ne hxy
        have hb2 := (Lib.bytes_beq_false_iff x y).2 hxy
        clear hx hy hxy
        clear h1 h2
        go_wp2
        go_quiet (fail)
        go_wp2
        obtain rfl : k = K := by omega
        go_loopw [8] (fun u wr => ∃ s q : Nat, s ≤ S ∧ u = .int .i64 s ∧ wr = w.drewN q) (fun u _ => S - (intOf u).toNat)
        case atStart => exact ⟨0, _, Nat.zero_le _, rfl, World.drewN_drewN _ _ _⟩
        case round =>
          obtain ⟨s, q2, hs, rfl, rfl⟩ := hrel
          have h1 := H1.out
          have h2 := H2.out
          have hlay : ∀ (p1 p t : Nat), p1 ≤ 1048576 → p + 1 + t = p1 → (p1 : Int) - 1 = ((p1 - 1 : Nat) : Int) ∧ IntKind.i64.wrap ((p1 - 1 : Nat) : Int) = ((p1 - 1 : Nat) : Int) ∧ ((p1 - 1 : Nat) : Int) - (t : Int) = (p : Int) ∧ IntKind.i64.wrap (p : Int) = (p : Int) := fun p1 p t _ _ => ⟨by omega, by rw [IntKind.wrap_i64]; omega, by omega, by rw [IntKind.wrap_i64]; omega⟩
          have HLAY := Lib.hid hlay
          clear hlay
          obtain ⟨j, hj⟩ : ∃ j, k + s = j := ⟨_, rfl⟩
          have a0 : (k : Int) + (s : Int) = (j : Int) := by omega
          have a1 : IntKind.i64.wrap (j : Int) = (j : Int) := by rw [IntKind.wrap_i64]; omega
          by_cases ho0 : j < n
          · by_cases hi0 : j < m
            · obtain ⟨p, hp⟩ : ∃ p, p + 1 + s = n := ⟨n - 1 - s, by omega⟩
              obtain ⟨r, hr⟩ : ∃ r, r + 1 + s = m := ⟨m - 1 - s, by omega⟩
              obtain ⟨ad2, x, had, hx, hc⟩ := h1.at_ (k := p) (by rw [Hn.out]; omega)
              obtain ⟨bd2, y, hbd, hy, hd⟩ := h2.at_ (k := r) (by rw [Hm.out]; omega)
              first | subst had | (injection had with had; subst had)
              first | subst hbd | (injection hbd with hbd; subst hbd)
              have hpn : n - 1 - s = p := by omega
              have hrm : m - 1 - s = r := by omega
              obtain ⟨x0, x1, x2, x3⟩ := HLAY.out n p s (by omega) (by omega)
              obtain ⟨y0, y1, y2, y3⟩ := HLAY.out m r s (by omega) (by omega)
              obtain ⟨n1, hn1⟩ : ∃ n1, n - 1 = n1 := ⟨_, rfl⟩
              obtain ⟨m1, hm1⟩ : ∃ m1, m - 1 = m1 := ⟨_, rfl⟩
              rw [hn1] at x0 x1 x2
              rw [hm1] at y0 y1 y2
              have hpl : p < n := by omega
              have hrl : r < m := by omega
              by_cases hlt : s < S
              · have hxy : x = y := by have := HSA.out s hlt; rw [hpn, hrm, strAt_at hx.out, strAt_at hy.out] at this; exact this
                subst hxy
                have hb := str_eq x
                clear hx hy h1 h2 hpn hrm hp hr hj hn1 hm1
                go_wp2
                go_quiet (fail)
                clear a0 a1 x0 x1 x2 x3 y0 y1 y2 y3
                go_wp2
                go_roundw
                case rel => exact ⟨s + 1, _, by omega, by go_num, rfl⟩
                case measure => simp [intOf]; omega
              · have hsS : s = S := by omega
                have hxy : x ≠ y := by
                  rcases HSE.out with e | e
                  · omega
                  · rw [← hsS, hpn, hrm, strAt_at hx.out, strAt_at hy.out] at e; exact e
                have hb := str_ne hxy
                have hb2 := (Lib.bytes_beq_false_iff x y).2 hxy
                have HSS := Lib.hid hsS
                clear hx hy h1 h2 hpn hrm hp hr hj hxy hsS hn1 hm1
                go_wp2
                go_quiet (fail)
                clear a0 a1 x0 x1 x2 x3 y0 y1 y2 y3
                obtain ⟨o, ho⟩ : ∃ o, n - k - S = o := ⟨_, rfl⟩
                obtain ⟨i, hi⟩ : ∃ i, m - k - S = i := ⟨_, rfl⟩
                have HO := Lib.hid ho; have HI := Lib.hid hi
                have b1 : (n : Int) - (k : Int) = ((n - k : Nat) : Int) := by omega
                have b2 : (m : Int) - (k : Int) = ((m - k : Nat) : Int) := by omega
                have b3 : ((n - k : Nat) : Int) - (s : Int) = (o : Int) := by have := HSS.out; omega
                have b4 : ((m - k : Nat) : Int) - (s : Int) = (i : Int) := by have := HSS.out; omega
                obtain ⟨nk, hnk⟩ : ∃ nk, n - k = nk := ⟨_, rfl⟩
                obtain ⟨mk, hmk⟩ : ∃ mk, m - k = mk := ⟨_, rfl⟩
                rw [hnk] at b1 b3
                rw [hmk] at b2 b4
                clear ho hi hnk hmk
                go_wp2
                refine bodyPost_ret (v := .tuple #[.int .i64 (k : Int), .int .i64 (o : Int), .int .i64 (i : Int)]) (by simp [results, Try.results25, go_sem]) rfl ⟨?_, by first | exact below_drewN (Below.refl _ _) _ | (rw [World.drewN_drewN]; exact below_drewN (Below.refl _ _) _)⟩
                rw [HV.out, HO.out, HI.out]
            · have HSS : Hid (s = S) := by
                show _ = _
                rcases HSE.out with e | e <;> omega
              clear h1 h2 hj
              go_wp2
              go_quiet (fail)
              clear a0 a1
              obtain ⟨o, ho⟩ : ∃ o, n - k - S = o := ⟨_, rfl⟩
              obtain ⟨i, hi⟩ : ∃ i, m - k - S = i := ⟨_, rfl⟩
              have HO := Lib.hid ho; have HI := Lib.hid hi
              have b1 : (n : Int) - (k : Int) = ((n - k : Nat) : Int) := by omega
              have b2 : (m : Int) - (k : Int) = ((m - k : Nat) : Int) := by omega
              have b3 : ((n - k : Nat) : Int) - (s : Int) = (o : Int) := by have := HSS.out; omega
              have b4 : ((m - k : Nat) : Int) - (s : Int) = (i : Int) := by have := HSS.out; omega
              obtain ⟨nk, hnk⟩ : ∃ nk, n - k = nk := ⟨_, rfl⟩
              obtain ⟨mk, hmk⟩ : ∃ mk, m - k = mk := ⟨_, rfl⟩
              rw [hnk] at b1 b3
              rw [hmk] at b2 b4
              clear ho hi hnk hmk
              go_wp2
              refine bodyPost_ret (v := .tuple #[.int .i64 (k : Int), .int .i64 (o : Int), .int .i64 (i : Int)]) (by simp [results, Try.results25, go_sem]) rfl ⟨?_, by first | exact below_drewN (Below.refl _ _) _ | (rw [World.drewN_drewN]; exact below_drewN (Below.refl _ _) _)⟩
              rw [HV.out, HO.out, HI.out]
          · have HSS : Hid (s = S) := by
              show _ = _
              rcases HSE.out with e | e <;> omega
            clear h1 h2 hj
            go_wp2
            go_quiet (fail)
            clear a0 a1
            obtain ⟨o, ho⟩ : ∃ o, n - k - S = o := ⟨_, rfl⟩
            obtain ⟨i, hi⟩ : ∃ i, m - k - S = i := ⟨_, rfl⟩
            have HO := Lib.hid ho; have HI := Lib.hid hi
            have b1 : (n : Int) - (k : Int) = ((n - k : Nat) : Int) := by omega
            have b2 : (m : Int) - (k : Int) = ((m - k : Nat) : Int) := by omega
            have b3 : ((n - k : Nat) : Int) - (s : Int) = (o : Int) := by have := HSS.out; omega
            have b4 : ((m - k : Nat) : Int) - (s : Int) = (i : Int) := by have := HSS.out; omega
            obtain ⟨nk, hnk⟩ : ∃ nk, n - k = nk := ⟨_, rfl⟩
            obtain ⟨mk, hmk⟩ : ∃ mk, m - k = mk := ⟨_, rfl⟩
            rw [hnk] at b1 b3
            rw [hmk] at b2 b4
            clear ho hi hnk hmk
            go_wp2
            refine bodyPost_ret (v := .tuple #[.int .i64 (k : Int), .int .i64 (o : Int), .int .i64 (i : Int)]) (by simp [results, Try.results25, go_sem]) rfl ⟨?_, by first | exact below_drewN (Below.refl _ _) _ | (rw [World.drewN_drewN]; exact below_drewN (Below.refl _ _) _)⟩
            rw [HV.out, HO.out, HI.out]
end Go.Proofs.Ytgngekolnlbddaa
