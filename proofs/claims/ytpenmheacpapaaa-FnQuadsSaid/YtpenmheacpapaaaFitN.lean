/-
  CountFitting by contract, model and program. Conditions: lengths of at most 2^20, which are at most the capacity.
-/
import Derived.Test.YtpenmheacpapaaaSpecW
import Derived.Test.YtpenmheacpapaaaConcat
import Derived.Deep.RegionWith
namespace Go.Proofs.Ytpenmheacpapaaa
open Go.RowKit
set_option linter.unusedVariables false

/-- appending a list to a row of the call's own, as a step of a region that draws -/
theorem step_app_any {ops : Array Oper} {o : Oper} {a : Act} {w : World} {K : Act → World → Prop} {Q : Exit → Act → World → Prop} {E : Prop} (hw : Region.wanted o (yielded ops a.tmps) = true) (s x : Operand)
    (ho : o.op = .call { callee := .builtin .append, args := #[s, x], argTypes := #[25, 25] })
    (B : Nat) (v : Value) (zs ys : List Int) (A : Option Addr) (m c : Nat) (hs : a.eval s = v) (hx : a.eval x = .slice A m c) (hm : ys.length = m) (hI : Ints w A ys) (hown : Own w B v zs) (hB : B ≤ w.heap.size) (hlen : zs.length + m ≤ 2097152)
    (hK : ∀ v' w', Own w' B v' (zs ++ ys) → w.grownBy w' v.ownBlock → K (a.put o.dst v') w') :
    if Region.wanted o (yielded ops a.tmps) = true then Oper.wp Try.prog o a w K Q else E := by
  rw [if_pos hw]
  obtain ⟨i0, hi, hz0, hz1, hz2⟩ := info_parts intInfo
  rcases Nat.eq_zero_or_pos m with h0 | hpos
  · subst h0
    have hy : ys = [] := List.eq_nil_of_length_eq_zero hm
    subst hy
    cases A with
    | none =>
      have hrun := run_append_none_int (w := w) B o.type v zs c hown
      unfold Oper.wp execOp
      simp only [ho, resolve, invoke, builtin, Sem.run_bind, Sem.run_pure, Result.andThen_ok, List.map_toArray, List.map_cons, List.map_nil, hs, hx, hrun]
      exact hK v w (by rw [List.append_nil]; exact hown) (World.grownBy.refl w _)
    | some ad =>
      refine wp_append_own w s x 25 ho B 3 i0 (.int .i64 0) 1 8 Try.underlying25 hi hz0 hz1 hz2 rfl (by decide) v zs.length (zs.map (Value.int .i64)) hs hown ad 0 c [] hx rfl (fun j u hj => by simp at hj) (fun u hu => by simp at hu) (by unfold maxLen; omega) (by omega) hB ?_
      intro v' w' h1 h2 _
      refine hK v' w' ?_ h2
      unfold Own
      rw [List.append_nil]
      simpa using h1
  · obtain ⟨ad, rfl, hc⟩ := hI (by omega)
    refine wp_append_own w s x 25 ho B 3 i0 (.int .i64 0) 1 8 Try.underlying25 hi hz0 hz1 hz2 rfl (by decide) v zs.length (zs.map (Value.int .i64)) hs hown ad m c (ys.map (Value.int .i64)) hx (by simp [hm]) ?_ ?_ (by unfold maxLen; omega) (by omega) hB ?_
    · intro j u hj
      rw [List.getElem?_map] at hj
      cases hy : ys[j]? with
      | none => rw [hy] at hj; cases hj
      | some y =>
        rw [hy] at hj
        simp at hj; subst hj
        rw [hc j (lt_at hy), getD_at hy]
    · intro u hu
      obtain ⟨y, _, rfl⟩ := List.mem_map.1 hu
      rfl
    · intro v' w' h1 h2 _
      refine hK v' w' ?_ h2
      unfold Own
      rw [List.map_append, List.length_append, hm]
      exact h1

/-- how many items of more fit -/
def cntF (m : Msr) (zs ys : List Int) : Nat := (List.range ys.length).findIdx (fun k => !fitsB m (zs ++ ys.take (k + 1)))
def cfB (m : Msr) (zs ys : List Int) : Bool := goodB m zs && lineB ys
def cfI (m : Msr) (zs ys : List Int) : Int := if cfB m zs ys then cntF m zs ys else -1
theorem range_at {n k : Nat} (h : k < n) : (List.range n)[k]? = some k := by rw [List.getElem?_range h]
theorem cntF_stop {m : Msr} {zs ys : List Int} {k : Nat} (hk : k < ys.length) (hno : fitsB m (zs ++ ys.take (k + 1)) = false) (hall : ∀ i, i < k → fitsB m (zs ++ ys.take (i + 1)) = true) : cntF m zs ys = k := by
  unfold cntF
  have hk' : k < (List.range ys.length).length := by simpa using hk
  rw [List.findIdx_eq hk']
  refine ⟨by simp [hno], fun j hj => by simp [hall j hj]⟩
theorem cntF_all {m : Msr} {zs ys : List Int} (hall : ∀ i, i < ys.length → fitsB m (zs ++ ys.take (i + 1)) = true) : cntF m zs ys = ys.length := by
  unfold cntF
  have : (List.range ys.length).findIdx (fun k => !fitsB m (zs ++ ys.take (k + 1))) = (List.range ys.length).length := by
    rw [List.findIdx_eq_length]
    intro x hx
    simp [hall x (List.mem_range.1 hx)]
  rw [this, List.length_range]
theorem ints_pre {w : World} {A : Option Addr} {zs : List Int} {k : Nat} (h : Ints w A zs) : Ints w A (zs.take k) := fun hn => by
  rw [List.length_take] at hn
  obtain ⟨ad, e, hc⟩ := h (by omega)
  refine ⟨ad, e, fun j hj => ?_⟩
  rw [List.length_take] at hj
  rw [hc j (by omega)]
  simp only [List.getD, List.getElem?_take]
  rw [if_pos (by omega)]
theorem intsB_pre {w : World} {b : Nat} {A : Option Addr} {zs : List Int} {k : Nat} (h : IntsB w b A zs) : IntsB w b A (zs.take k) := fun hn => by
  rw [List.length_take] at hn
  obtain ⟨ad, e, hl, hc⟩ := h (by omega)
  refine ⟨ad, e, hl, fun j hj => ?_⟩
  rw [List.length_take] at hj
  rw [hc j (by omega)]
  simp only [List.getD, List.getElem?_take]
  rw [if_pos (by omega)]

theorem parts2 (w : World) (A1 : Option Addr) (n1 c1 : Nat) (zs1 : List Int) (A2 : Option Addr) (n2 c2 : Nat) (zs2 : List Int) (T : TypeId) (h1 : zs1.length = n1) (h2 : zs2.length = n2) (i1 : IntsB w w.heap.size A1 zs1) (i2 : IntsB w w.heap.size A2 zs2) :
    PartsAt (w.alloc (.cells #[.slice A1 n1 c1, .slice A2 n2 c2] T)) ⟨w.heap.size, 0, none⟩ (w.heap.size + 1) [⟨A1, n1, c1, zs1⟩, ⟨A2, n2, c2, zs2⟩] := by
  have hb := below_new w (.cells #[.slice A1 n1 c1, .slice A2 n2 c2] T)
  refine ⟨Nat.lt_succ_self _, fun j p hp => ?_⟩
  have wide : ∀ {A : Option Addr} {zs : List Int}, IntsB w w.heap.size A zs → IntsB (w.alloc (.cells #[.slice A1 n1 c1, .slice A2 n2 c2] T)) (w.heap.size + 1) A zs := fun h hn => by
    obtain ⟨ad, e, hl, hc⟩ := (h.keep (Nat.le_refl _) hb) hn
    exact ⟨ad, e, by omega, hc⟩
  match j, hp with
  | 0, hp =>
    simp at hp; subst hp
    exact ⟨by rw [add_zero_at, World.cell?_alloc_at _ _ _ _ rfl]; rfl, h1, wide i1⟩
  | 1, hp =>
    simp at hp; subst hp
    exact ⟨by rw [add_zero_at, World.cell?_alloc_at _ _ _ _ rfl]; rfl, h2, wide i2⟩

set_option maxRecDepth 100000 in
set_option maxHeartbeats 3200000 in
theorem implFitN_any (W t k : Int) (A : Option Addr) (n c : Nat) (zs : List Int) (A2 : Option Addr) (n2 c2 : Nat) (ys : List Int) (w : World) (hn : zs.length = n) (hm : n ≤ 1048576) (h : Ints w A zs) (hn2 : ys.length = n2) (hm2 : n2 ≤ 1048576) (hc2 : n2 ≤ c2) (hc2m : c2 ≤ maxLen) (h2 : Ints w A2 ys) :
    Calls Try.prog 61 #[.agg #[.int .i64 W, .int .i64 t, .int .i64 k], .slice A n c, .slice A2 n2 c2] w fun e w' => e = .returned (.int .i64 (cfI ⟨W, t, k⟩ zs ys)) ∧ Below w.heap.size w w' := by
  have Hn := Lib.hid hn; have Hn2 := Lib.hid hn2
  obtain ⟨w0, hw0, hb0, hz0, P⟩ := msWorld w W t k
  have T0 := Lib.hid hb0; have P0 := Lib.hid P; have Z0 := Lib.hid hz0
  have I0 := Lib.hid ((IntsB.of h).keep (Nat.le_refl _) hb0)
  have J0 := Lib.hid ((IntsB.of h2).keep (Nat.le_refl _) hb0)
  have hm0 : n ≤ maxLen := by unfold maxLen; omega
  have hm20 : n2 ≤ maxLen := by unfold maxLen; omega
  have hzz := Z0.out
  unfold maxLen at hc2m
  clear hb0 hz0 P hn hn2 h h2
  obtain ⟨p0, p1, p2⟩ := P0.out
  cases hg : goodB ⟨W, t, k⟩ zs
  · have HR : Hid (cfI ⟨W, t, k⟩ zs ys = -1) := by show _ = _; unfold cfI cfB; rw [hg]; rfl
    go_enter Try.func61, Try.ntmps61
    go_wp2_with fail
    clear hw0
    refine (isFitting_any W t k A n c zs _ Hn.out hm0 I0.out.ints).mono ?_
    rintro e' w1 ⟨he', hb1⟩
    rw [hg] at he'; subst he'
    have T1 := Lib.hid (T0.out.trans (hb1.mono (by omega)))
    clear hb1
    go_wp2
    go_ret
    exact ⟨ret_int HR.out.symm, T1.out⟩
  cases hl : lineB ys
  · have HR : Hid (cfI ⟨W, t, k⟩ zs ys = -1) := by show _ = _; unfold cfI cfB; rw [hg, hl]; rfl
    go_enter Try.func61, Try.ntmps61
    go_wp2_with fail
    clear hw0
    refine (isFitting_any W t k A n c zs _ Hn.out hm0 I0.out.ints).mono ?_
    rintro e' w1 ⟨he', hb1⟩
    rw [hg] at he'; subst he'
    have T1 := Lib.hid (T0.out.trans (hb1.mono (by omega))); have J1 := Lib.hid (J0.out.keep (by omega) hb1)
    clear hb1
    go_wp2_with fail
    refine (implLineOk_any A2 n2 c2 ys _ Hn2.out hm20 J1.out.ints).mono ?_
    rintro e' w2 ⟨he', rfl⟩
    rw [hl] at he'; subst he'
    go_wp2
    go_ret
    exact ⟨ret_int HR.out.symm, T1.out⟩
  have HR : Hid (cfI ⟨W, t, k⟩ zs ys = cntF ⟨W, t, k⟩ zs ys) := by show _ = _; unfold cfI cfB; rw [hg, hl]; rfl
  obtain ⟨hms, hli, _⟩ := goodB_parts hg
  have hn120 : n ≤ 120 := by rw [← Hn.out]; exact (lineB_parts hli).2
  have hn2120 : n2 ≤ 120 := by rw [← Hn2.out]; exact (lineB_parts hl).2
  have HGF : Hid (∀ xs, goodB ⟨W, t, k⟩ xs = fitsB ⟨W, t, k⟩ xs) := fun xs => by unfold goodB; rw [hms]; rfl
  clear hms hli
  go_enter Try.func61, Try.ntmps61
  go_wp2_with fail
  clear hw0
  refine (isFitting_any W t k A n c zs _ Hn.out hm0 I0.out.ints).mono ?_
  rintro e' w1 ⟨he', hb1⟩
  rw [hg] at he'; subst he'
  have T1 := Lib.hid (T0.out.trans (hb1.mono (by omega))); have P1 := Lib.hid (hold3 hb1 (by omega) P0.out); have I1 := Lib.hid (I0.out.keep (by omega) hb1); have J1 := Lib.hid (J0.out.keep (by omega) hb1)
  have z1 := hb1.size
  clear hb1 p0 p1 p2 hg
  go_wp2_with fail
  refine (implLineOk_any A2 n2 c2 ys _ Hn2.out hm20 J1.out.ints).mono ?_
  rintro e' w2 ⟨he', rfl⟩
  rw [hl] at he'; subst he'
  clear hl
  go_wp2
  go_loopw [7] (fun i wr => ∃ q : Nat, q ≤ n2 ∧ i = .int .i64 q ∧ (∀ i, i < q → fitsB ⟨W, t, k⟩ (zs ++ ys.take (i + 1)) = true) ∧ Below w1.heap.size w1 wr) (fun i _ => n2 - (intOf i).toNat)
  case atStart => exact ⟨0, Nat.zero_le _, rfl, fun i hi => absurd hi (by omega), Below.refl _ _⟩
  case round =>
    obtain ⟨q, hq, rfl, hall, hb⟩ := hrel
    have HA := Lib.hid hall; have HB := Lib.hid hb
    have hsz := hb.size
    clear hall hb
    have Ir := Lib.hid (I1.out.keep (by omega) HB.out); have Jr := Lib.hid (J1.out.keep (by omega) HB.out); have Pr := Lib.hid (hold3 HB.out (by omega) P1.out)
    obtain ⟨p0, p1, p2⟩ := Pr.out
    by_cases hlt : q < n2
    · obtain ⟨ad2, rfl, _⟩ := Jr.out.ints (by rw [Hn2.out]; omega)
      have hqc : (q : Int) + 1 ≤ (c2 : Int) := by omega
      have hq0 : (0 : Int) ≤ (q : Int) + 1 := by omega
      have hlt' : (q : Int) < (n2 : Int) := by omega
      have e1 : IntKind.i64.wrap ((q : Int) + 1) = (q : Int) + 1 := by rw [IntKind.wrap_i64]; omega
      have hL2 : (ys.take (q + 1)).length = q + 1 := by rw [List.length_take, Hn2.out]; omega
      have HPD := Lib.hid (parts2 wr A n c zs (some ad2) (q + 1) c2 (ys.take (q + 1)) 25 Hn.out hL2 (fun h => by obtain ⟨ad, e, hl, hc⟩ := Ir.out h; exact ⟨ad, e, by omega, hc⟩) (fun h => by obtain ⟨ad, e, hl, hc⟩ := (intsB_pre (k := q + 1) Jr.out) h; exact ⟨ad, e, by omega, hc⟩))
      have HFL : Hid (flat [⟨A, n, c, zs⟩, ⟨some ad2, q + 1, c2, ys.take (q + 1)⟩] = zs ++ ys.take (q + 1)) := by show _ = _; unfold flat; simp
      have HLN : Hid ((zs ++ ys.take (q + 1)).length = n + (q + 1)) := by show _ = _; rw [List.length_append, Hn.out, hL2]
      obtain ⟨fb, hfb⟩ : ∃ b, fitsB ⟨W, t, k⟩ (zs ++ ys.take (q + 1)) = b := ⟨_, rfl⟩
      have HFB := Lib.hid hfb
      clear hL2 hfb
      go_wp2_with fail
      first
        | go_region_held3 (fun w' => w'.cell? ⟨w.heap.size, 0, none⟩ = some (.int .i64 W) ∧ w'.cell? ⟨w.heap.size, 1, none⟩ = some (.int .i64 t) ∧ w'.cell? ⟨w.heap.size, 2, none⟩ = some (.int .i64 k)) (first | go_keep | exact P5.out | exact P6.out | exact hold3 (below_new _ _) (by omega) Pr.out)
          (first
            | (go_at_call 102; refine (concat_any ⟨wr.heap.size, 0, none⟩ (wr.heap.size + 1) 2 2 [⟨A, n, c, zs⟩, ⟨some ad2, q + 1, c2, ys.take (q + 1)⟩] (wr.alloc (.cells #[.slice A n c, .slice (some ad2) (q + 1) c2] 25)).drew rfl (by omega) (by show _ ≤ (wr.alloc _).heap.size; simp) HPD.out (by rw [HFL.out, HLN.out]; omega)).mono ?_; rintro e' w5 ⟨v5, rfl, hO5, hb5⟩; rw [HFL.out] at hO5; obtain ⟨A5, c5, hv5, hI5, _⟩ := hO5.form; rw [HLN.out] at hv5; subst hv5; have hc5 : Below wr.heap.size wr w5 := ((below_new wr _).trans ((undrew hb5).mono (by simp))); have P5 := Lib.hid (hold3 hc5 (by omega) Pr.out); have B5 := Lib.hid (HB.out.trans (hc5.mono (B' := w1.heap.size) (by omega))); have I5 := Lib.hid hI5; have z5 := hc5.size; clear hb5 hc5 hO5 hI5)
            | (go_at_call 86; refine (isFitting_any W t k A5 (n + (q + 1)) c5 (zs ++ ys.take (q + 1)) _ HLN.out (by unfold maxLen; omega) I5.out).mono ?_; rintro e' w6 ⟨he', hb6⟩; rw [HGF.out, HFB.out] at he'; subst he'; have P6 := Lib.hid (hold3 hb6 (by omega) P5.out); have B6 := Lib.hid (B5.out.trans (hb6.mono (B' := w1.heap.size) (by omega))); clear hb6))
        | fail "the region"
      cases fb
      · have HS := Lib.hid (cntF_stop (by rw [Hn2.out]; exact hlt) HFB.out HA.out)
        go_wp2
        go_ret
        exact ⟨ret_int (by rw [HR.out, HS.out]), T1.out.trans (B6.out.mono (by omega))⟩
      · have HA2 : Hid (∀ i, i < q + 1 → fitsB ⟨W, t, k⟩ (zs ++ ys.take (i + 1)) = true) := fun i hi => by
          by_cases he : i = q
          · subst he; exact HFB.out
          · exact HA.out i (by omega)
        go_wp2
        go_roundw
        case rel => exact ⟨q + 1, by omega, by go_num, HA2.out, B6.out⟩
        case measure => simp [intOf]; omega
    · have hqn : q = n2 := by omega
      subst hqn
      have HS := Lib.hid (cntF_all (m := ⟨W, t, k⟩) (zs := zs) (ys := ys) (fun i hi => HA.out i (by rw [← Hn2.out]; exact hi)))
      have hd : decide ((q : Int) < (q : Int)) = false := by simp
      go_wp2_with fail
      go_quiet (fail)
      go_wp2
      go_ret
      exact ⟨ret_int (by rw [HR.out, HS.out, Hn2.out]), T1.out.trans (below_drewN (HB.out.mono (by omega)) _)⟩
end Go.Proofs.Ytpenmheacpapaaa
