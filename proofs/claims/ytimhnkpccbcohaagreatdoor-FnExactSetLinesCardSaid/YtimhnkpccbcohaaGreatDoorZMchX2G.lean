/-
 Contracts and plain mathematics (TailM, MchX2), each with its conditions in its own statement.
-/
import Derived.Test.YtimhnkpccbcohaaGreatDoorZPkB
import Derived.Test.YtimhnkpccbcohaaGreatDoorZPkE
namespace Go.Proofs.YtimhnkpccbcohaaGreatDoor
open Go.RowKit
set_option linter.unusedVariables false
set_option linter.unusedSimpArgs false

/-- a row of the call's own, from some place of its block on -/
def OwnT (w : World) (B : Nat) (v : Value) (xs : List Mat) : Prop :=
 (v = .slice none 0 0 ∧ xs = []) ∨ ∃ g o cap pre, v = .slice (some ⟨g, o, none⟩) xs.length cap ∧ OwnM w B (.slice (some ⟨g, 0, none⟩) (pre ++ xs).length (pre.length + cap)) (pre ++ xs) ∧ (0 < cap → o = pre.length * 2)
theorem OwnM.tailed {w : World} {B : Nat} {v : Value} {xs : List Mat} (h : OwnM w B v xs) : OwnT w B v xs := by
 rcases h.2 with ⟨rfl, hn⟩ | ⟨g, cap, cur, rfl, -⟩
 ·exact .inl ⟨rfl, List.eq_nil_of_length_eq_zero hn⟩
 ·exact .inr ⟨g, 0, cap, [], rfl, by simpa using h, fun _ => by simp⟩
theorem OwnT.lt {w : World} {B : Nat} {v : Value} {xs : List Mat} (h : OwnT w B v xs) : ∀ k, v.ownBlock = some k → B ≤ k ∧ k < w.heap.size := by
 rcases h with ⟨rfl, -⟩ | ⟨g, o, cap, pre, rfl, h, -⟩
 ·intro k hk; cases hk
 ·intro k hk; exact h.lt k hk
theorem OwnT.below {w w' : World} {B : Nat} {v : Value} {xs : List Mat} (h : OwnT w B v xs) (hb : Below w.heap.size w w') : OwnT w' B v xs := by
 rcases h with h | ⟨g, o, cap, pre, hv, h, ho⟩
 ·exact .inl h
 ·exact .inr ⟨g, o, cap, pre, hv, h.below hb, ho⟩
theorem OwnT.chg {lo hi B : Nat} {w w' : World} {v : Value} {xs : List Mat} (h : OwnT w B v xs) (hc : Chg lo hi w w') (hn : ∀ k, v.ownBlock = some k → ¬ (lo ≤ k ∧ k < hi)) : OwnT w' B v xs := by
 rcases h with h | ⟨g, o, cap, pre, rfl, h, ho⟩
 ·exact .inl h
 ·exact .inr ⟨g, o, cap, pre, rfl, h.chg hc hn, ho⟩
theorem OwnT.base {w : World} {B B' : Nat} {v : Value} {xs : List Mat} (h : OwnT w B v xs) (hB : B' ≤ B) : OwnT w B' v xs := by
 rcases h with h | ⟨g, o, cap, pre, hv, h, ho⟩
 ·exact .inl h
 ·exact .inr ⟨g, o, cap, pre, hv, h.base hB, ho⟩
theorem OwnT.caps {w : World} {B n c : Nat} {A : Option Addr} {xs : List Mat} (h : OwnT w B (.slice A n c) xs) : xs.length ≤ c ∧ c ≤ maxLen := by
 rcases h with ⟨e, rfl⟩ | ⟨g, o, cap, pre, e, h, ho⟩
 ·injection e with e1 e2 e3; subst e3; exact ⟨Nat.le_refl _, Nat.zero_le _⟩
 ·injection e with e1 e2 e3
  subst e3
  obtain ⟨h1, h2⟩ := ownM_caps h
  rw [List.length_append] at h1
  omega
theorem OwnT.form {w : World} {B : Nat} {v : Value} {xs : List Mat} (h : OwnT w B v xs) : ∃ A c, v = .slice A xs.length c ∧ xs.length ≤ c := by
 have hcap := h
 rcases h with ⟨rfl, rfl⟩ | ⟨g, o, cap, pre, rfl, h, ho⟩
 ·exact ⟨none, 0, rfl, Nat.le_refl _⟩
 ·exact ⟨_, _, rfl, hcap.caps.1⟩
theorem OwnT.cutM {w : World} {lo hi' n c : Nat} {A : Option Addr} {xs : List Mat} (h : OwnT w lo (.slice A n c) xs) (hk : ∀ k, (Value.slice A n c).ownBlock = some k → k < hi') : MatsI w lo hi' A xs := by
 have hcap := h.caps
 rcases h with ⟨e, rfl⟩ | ⟨g, o, cap, pre, e, h, ho⟩
 ·exact MatsI.nil _ _ _ _
 ·injection e with e1 e2 e3
  subst e1; subst e3
  have hr := MatsI.cutM h (hi' := hi') hk
  intro hn
  obtain ⟨ad, e, h1, h2, hc⟩ := hr (by rw [List.length_append]; omega)
  obtain rfl := Option.some.inj e
  have ho' := ho (by omega)
  refine ⟨⟨g, o, none⟩, rfl, h1, h2, fun j x hx => ?_⟩
  have h3 := hc (pre.length + j) x (by rw [List.getElem?_append_right (by omega), Nat.add_sub_cancel_left]; exact hx)
  have e4 : (⟨g, 0, none⟩ : Addr).add ((pre.length + j) * 2) = (⟨g, o, none⟩ : Addr).add (j * 2) := by
   rw [ho']
   unfold Addr.add
   split <;> split <;> simp_all <;> omega
  have e5 : (⟨g, 0, none⟩ : Addr).add ((pre.length + j) * 2 + 1) = (⟨g, o, none⟩ : Addr).add (j * 2 + 1) := by
   rw [ho']
   unfold Addr.add
   split <;> split <;> simp_all <;> omega
  rw [e4, e5] at h3
  exact h3
/-- x[1:] -/
theorem OwnT.tail {w : World} {B n c : Nat} {A : Option Addr} {x : Mat} {xs : List Mat} (h : OwnT w B (.slice A n c) (x :: xs)) {A' : Option Addr} (hA : 1 < c → A' = A.map (·.add 2)) (hA2 : c = 1 → A' = A) : OwnT w B (.slice A' xs.length (c - 1)) xs := by
 have hcap := h.caps
 rcases h with ⟨e, e2⟩ | ⟨g, o, cap, pre, e, h, ho⟩
 ·cases e2
 ·injection e with e1 e2 e3
  subst e1; subst e3
  have hc1 : 1 ≤ c := by have := hcap.1; simp at this; omega
  have ho' := ho (by omega)
  have h' : OwnM w B (.slice (some ⟨g, 0, none⟩) ((pre ++ [x]) ++ xs).length ((pre ++ [x]).length + (c - 1))) ((pre ++ [x]) ++ xs) := by
   have e4 : (pre ++ [x]) ++ xs = pre ++ x :: xs := by simp
   have e5 : (pre ++ [x]).length + (c - 1) = pre.length + c := by rw [List.length_append]; simp; omega
   rw [e4, e5]; exact h
  by_cases hc : c = 1
  ·rw [hA2 hc]
   exact .inr ⟨g, o, c - 1, pre ++ [x], rfl, h', fun h9 => by omega⟩
  ·rw [hA (by omega)]
   refine .inr ⟨g, o + 2, c - 1, pre ++ [x], by simp [Addr.add], h', fun _ => ?_⟩
   rw [List.length_append]; simp; omega
theorem mset_pre {A L : List Value} {i j : Nat} {v : Value} (h : A.length = i) : (A ++ L).set (i + j) v = A ++ L.set j v := by
 subst h
 rw [List.set_append, if_neg (by omega), Nat.add_sub_cancel_left]
theorem markedT_set {pre xs : List Mat} {k : Int} {j o : Nat} (ho : o = pre.length * 2) (h : j < xs.length) : ((mcells (pre ++ markedM xs k j)).set (o + j * 2) (.int .i64 (k + 2 * (j : Int)))).set (o + j * 2 + 1) (.int .i64 (k + 2 * (j : Int) + 1)) = mcells (pre ++ markedM xs k (j + 1)) := by
 have hl : (mcells pre).length = o := by rw [mcells_len, ho]
 rw [mcells_append, mcells_append, Nat.add_assoc o, mset_pre hl, mset_pre hl, markedM_set h]

set_option maxRecDepth 100000 in
set_option maxHeartbeats 800000 in
theorem markMatrixT_any (B : Nat) (v : Value) (k : Int) (xs : List Mat) (w : World) (hk0 : 0 ≤ k) (hk1 : k ≤ 4194304) (hl : xs.length ≤ 1048576) (h : OwnT w B v xs) :
  Calls Tryz.prog 48 #[v, .int .i64 k] w fun e w' => e = .returned (.int .i64 (k + 2 * xs.length)) ∧ OwnT w' B v (upM k xs.length) ∧ w.grownBy w' v.ownBlock := by
 have hh := h
 rcases h with ⟨rfl, rfl⟩ | ⟨g, o, cap, pre, rfl, h, ho⟩
 ·go_enter Tryz.func48, Tryz.ntmps48
  go_wp2
  refine wp_loop_rounds 1 ?_
  rw [rounds_succ]
  go_wp2
  go_ret
  exact ⟨ret_int (by simp), hh, World.grownBy.refl w _⟩
 ·obtain ⟨n, hn⟩ : ∃ n, xs.length = n := ⟨_, rfl⟩
  obtain ⟨N, hN⟩ : ∃ n, (pre ++ xs).length = n := ⟨_, rfl⟩
  obtain ⟨C, hC⟩ : ∃ n, pre.length + cap = n := ⟨_, rfl⟩
  have hcp := hh.caps.1
  have hO := h
  unfold OwnM at hO
  have hNn : pre.length + n = N := by rw [← hN, ← hn, List.length_append]
  rw [hN, hC] at hO
  rw [hn] at hl hcp ⊢
  have Hn := Lib.hid hn; have HN := Lib.hid hN; have HC := Lib.hid hC
  have HO := Lib.hid hO; have HP := Lib.hid ho; have HNn := Lib.hid hNn
  clear hn hO h hh hN hC ho hNn
  go_enter Tryz.func48, Tryz.ntmps48
  go_wp2
  go_loopw [1, 5] (fun q i wr => ∃ j : Nat, j ≤ n ∧ i = .int .i64 j ∧ q = .int .i64 (k + 2 * j) ∧ wr.ownsRow B 64 2 (.slice (some ⟨g, 0, none⟩) N C) N (mcells (pre ++ markedM xs k j)) ∧ w.grownBy wr (some g)) (fun _ i _ => n - (intOf i).toNat)
  case atStart => exact ⟨0, Nat.zero_le _, rfl, by simp, by have := HO.out; simpa [markedM, upM] using this, World.grownBy.refl w _⟩
  case round =>
   obtain ⟨j, hj, rfl, rfl, hown, hgr⟩ := hrel
   by_cases hlt : j < n
   ·have hlz : j < xs.length := by rw [Hn.out]; exact hlt
    have ho : o = pre.length * 2 := HP.out (by omega)
    have hpn := HNn.out
    have hml : (mcells (pre ++ markedM xs k j)).length = N * 2 := by rw [mcells_len, List.length_append, markedM_len _ _ _ (by omega), Hn.out, hpn]
    obtain ⟨v1, hv1⟩ : ∃ v, (mcells (pre ++ markedM xs k j))[o + j * 2]? = some v := ⟨_, List.getElem?_eq_getElem (by omega)⟩
    obtain ⟨v2, hv2⟩ : ∃ v, (mcells (pre ++ markedM xs k j))[o + j * 2 + 1]? = some v := ⟨_, List.getElem?_eq_getElem (by omega)⟩
    have d1 := (hown.cellAt (o + j * 2) (by omega)).trans hv1
    have d2 := (hown.cellAt (o + j * 2 + 1) (by omega)).trans hv2
    have f1 := hown.frozenAt (o + j * 2)
    have f2 := hown.frozenAt (o + j * 2 + 1)
    have hst := ((hown.stored (o + j * 2) (.int .i64 (k + 2 * (j : Int)))).1.stored (o + j * 2 + 1) (.int .i64 (k + 2 * (j : Int) + 1))).1
    rw [markedT_set ho hlz] at hst
    have HS := Lib.hid hst
    have HG := Lib.hid (grown_set (grown_set hgr (o + j * 2) (.int .i64 (k + 2 * (j : Int)))) (o + j * 2 + 1) (.int .i64 (k + 2 * (j : Int) + 1)))
    have hkb : 0 ≤ k + 2 * (j : Int) := by omega
    have hkc : k + 2 * (j : Int) ≤ 8388608 := by omega
    clear hst hv1 hv2 hown hgr hlz hml ho hpn
    go_wp2
    go_roundw
    case rel => exact ⟨j + 1, by omega, by go_num, by (first | go_num | (congr 1; push_cast; omega)), HS.out, HG.out⟩
    case measure => simp [intOf]; omega
   ·have hjn : j = n := by omega
    subst hjn
    go_wp2
    go_ret
    refine ⟨rfl, .inr ⟨g, o, cap, pre, by rw [upM_len], ?_, HP.out⟩, hgr⟩
    unfold OwnM
    rw [List.length_append, upM_len, HNn.out, HC.out, ← Hn.out, ← markedM_full, Hn.out]
    exact hown
end Go.Proofs.YtimhnkpccbcohaaGreatDoor

namespace Go.Proofs.YtimhnkpccbcohaaGreatDoor
open Go.RowKit
set_option linter.unusedVariables false
set_option linter.unusedSimpArgs false

/-- .. and each of its parts is the call's own, in ranges of blocks that do not meet -/
structure MchYO (w : World) (B hi : Nat) (v : Value) (X : Mch) (A : Option Addr) (c : Nat) (A2 : Option Addr) (d : Nat) (M : Option Addr) (e : Nat) (L : Option Addr) (lc : Nat) (T : Option Addr) (tc : Nat) (hs : List Value) (f0 f1 g0 g1 l0 l1 t0 t1 : Nat) : Prop where
 v : v = .agg (mwords X A c A2 d M e L lc T tc)
 font : FontO w f0 f1 (.agg #[.string X.f.s, .slice A X.f.ws.length c, .slice A2 X.f.cs.length d]) X.f
 mag : OwnMag w g0 g1 (.slice M X.ms.length e) hs X.ms
 line : OwnM w l0 (.slice L X.ln.length lc) X.ln
 lineT : ∀ k, (Value.slice L X.ln.length lc).ownBlock = some k → k < l1
 wait : OwnT w t0 (.slice T X.wt.length tc) X.wt
 waitT : ∀ k, (Value.slice T X.wt.length tc).ownBlock = some k → k < t1
 fg : Off f0 f1 g0 g1
 fl : Off f0 f1 l0 l1
 ft : Off f0 f1 t0 t1
 gl : Off g0 g1 l0 l1
 gt : Off g0 g1 t0 t1
 lt : Off l0 l1 t0 t1
 fi : B ≤ f0 ∧ f1 ≤ hi
 gi : B ≤ g0 ∧ g1 ≤ hi
 li : B ≤ l0 ∧ l1 ≤ hi
 ti : B ≤ t0 ∧ t1 ≤ hi
def MchY (w : World) (B hi : Nat) (v : Value) (X : Mch) : Prop := ∃ A c A2 d M e L lc T tc hs f0 f1 g0 g1 l0 l1 t0 t1, MchYO w B hi v X A c A2 d M e L lc T tc hs f0 f1 g0 g1 l0 l1 t0 t1
section
variable {w w' : World} {B hi : Nat} {X : Mch} {v : Value}
theorem MchY.reads (h : MchY w B hi v X) : MchV w B hi v X := by
 obtain ⟨A, c, A2, d, M, e, L, lc, T, tc, hs, f0, f1, g0, g1, l0, l1, t0, t1, h⟩ := h
 have fv := h.font.font
 refine ⟨A, c, A2, d, M, e, L, lc, T, tc, h.v, ?_, h.mag.reads.wide h.gi.1 h.gi.2, (MatsI.cutM h.line h.lineT).wide h.li.1 h.li.2, (OwnT.cutM h.wait h.waitT).wide h.ti.1 h.ti.2, (ownMag_caps h.mag).1, (ownMag_caps h.mag).2, (ownM_caps h.line).1, (ownM_caps h.line).2, (OwnT.caps h.wait).1, (OwnT.caps h.wait).2⟩
 obtain ⟨A', c', A2', d', hv, h1, h2, rest⟩ := fv
 exact ⟨A', c', A2', d', hv, h1.wide h.fi.1 h.fi.2, h2.wide h.fi.1 h.fi.2, rest⟩
theorem MchY.below (h : MchY w B hi v X) (hb : Below w.heap.size w w') : MchY w' B hi v X := by
 obtain ⟨A, c, A2, d, M, e, L, lc, T, tc, hs, f0, f1, g0, g1, l0, l1, t0, t1, h⟩ := h
 exact ⟨A, c, A2, d, M, e, L, lc, T, tc, hs, f0, f1, g0, g1, l0, l1, t0, t1, ⟨h.v, h.font.below hb, h.mag.below hb, h.line.below hb, h.lineT, h.wait.below hb, h.waitT, h.fg, h.fl, h.ft, h.gl, h.gt, h.lt, h.fi, h.gi, h.li, h.ti⟩⟩
theorem MchY.wide {B' hi' : Nat} (h : MchY w B hi v X) (h1 : B' ≤ B) (h2 : hi ≤ hi') : MchY w B' hi' v X := by
 obtain ⟨A, c, A2, d, M, e, L, lc, T, tc, hs, f0, f1, g0, g1, l0, l1, t0, t1, h⟩ := h
 exact ⟨A, c, A2, d, M, e, L, lc, T, tc, hs, f0, f1, g0, g1, l0, l1, t0, t1, ⟨h.v, h.font, h.mag, h.line, h.lineT, h.wait, h.waitT, h.fg, h.fl, h.ft, h.gl, h.gt, h.lt, ⟨by have := h.fi.1; omega, by have := h.fi.2; omega⟩, ⟨by have := h.gi.1; omega, by have := h.gi.2; omega⟩, ⟨by have := h.li.1; omega, by have := h.li.2; omega⟩, ⟨by have := h.ti.1; omega, by have := h.ti.2; omega⟩⟩⟩
theorem MchY.chg {lo' hi' : Nat} (h : MchY w B hi v X) (hc : Chg lo' hi' w w') (hn : Off B hi lo' hi') : MchY w' B hi v X := by
 obtain ⟨A, c, A2, d, M, e, L, lc, T, tc, hs, f0, f1, g0, g1, l0, l1, t0, t1, h⟩ := h
 have q1 := h.fi; have q2 := h.gi; have q3 := h.li; have q4 := h.ti
 unfold Off at hn
 refine ⟨A, c, A2, d, M, e, L, lc, T, tc, hs, f0, f1, g0, g1, l0, l1, t0, t1, ⟨h.v, h.font.chg hc (by unfold Off; omega), h.mag.chg hc (by omega), h.line.chg hc (fun k hk => ?_), h.lineT, h.wait.chg hc (fun k hk => ?_), h.waitT, h.fg, h.fl, h.ft, h.gl, h.gt, h.lt, h.fi, h.gi, h.li, h.ti⟩⟩
 ·have := h.line.lt k hk; have := h.lineT k hk; omega
 ·have := h.wait.lt k hk; have := h.waitT k hk; omega
end

theorem MchX.tailed {w : World} {B hi : Nat} {v : Value} {X : Mch} (h : MchX w B hi v X) : MchY w B hi v X := by
 obtain ⟨A, c, A2, d, M, e, L, lc, T, tc, hs, f0, f1, g0, g1, l0, l1, t0, t1, h⟩ := h
 exact ⟨A, c, A2, d, M, e, L, lc, T, tc, hs, f0, f1, g0, g1, l0, l1, t0, t1, ⟨h.v, h.font, h.mag, h.line, h.lineT, h.wait.tailed, h.waitT, h.fg, h.fl, h.ft, h.gl, h.gt, h.lt, h.fi, h.gi, h.li, h.ti⟩⟩
theorem MchY.build {w : World} {B hi : Nat} {X : Mch} {s : ByteArray} {A A2 M L T : Option Addr} {n c m d q e l lc r tc : Nat} {hs : List Value} {f0 f1 g0 g1 l0 l1 t0 t1 : Nat}
  (h1 : FontO w f0 f1 (.agg #[.string s, .slice A n c, .slice A2 m d]) X.f) (h2 : OwnMag w g0 g1 (.slice M q e) hs X.ms)
  (h3 : OwnM w l0 (.slice L l lc) X.ln) (h3t : ∀ k, (Value.slice L l lc).ownBlock = some k → k < l1) (h4 : OwnT w t0 (.slice T r tc) X.wt) (h4t : ∀ k, (Value.slice T r tc).ownBlock = some k → k < t1)
  (o1 : Off f0 f1 g0 g1) (o2 : Off f0 f1 l0 l1) (o3 : Off f0 f1 t0 t1) (o4 : Off g0 g1 l0 l1) (o5 : Off g0 g1 t0 t1) (o6 : Off l0 l1 t0 t1)
  (i1 : B ≤ f0 ∧ f1 ≤ hi) (i2 : B ≤ g0 ∧ g1 ≤ hi) (i3 : B ≤ l0 ∧ l1 ≤ hi) (i4 : B ≤ t0 ∧ t1 ≤ hi) :
  MchY w B hi (.agg #[.string s, .slice A n c, .slice A2 m d, .slice M q e, .int .i64 X.sp, .int .i64 X.w, .int .i64 X.t, .int .i64 X.k, .slice L l lc, .slice T r tc]) X := by
 have h1' := h1
 obtain ⟨A', c', A2', d', mid, hv, -⟩ := h1'
 injection hv with hv
 injection hv with hv
 simp only [List.cons.injEq, Value.string.injEq, Value.slice.injEq] at hv
 obtain ⟨rfl, ⟨rfl, rfl, rfl⟩, ⟨rfl, rfl, rfl⟩, -⟩ := hv
 obtain ⟨M', e', hv2, -⟩ := h2.form
 simp only [Value.slice.injEq] at hv2
 obtain ⟨rfl, rfl, rfl⟩ := hv2
 obtain ⟨L', e2', hv3, -⟩ := h3.form
 simp only [Value.slice.injEq] at hv3
 obtain ⟨rfl, rfl, rfl⟩ := hv3
 obtain ⟨T', e3', hv4, -⟩ := h4.form
 simp only [Value.slice.injEq] at hv4
 obtain ⟨rfl, rfl, rfl⟩ := hv4
 exact ⟨A, c, A2, d, M, e, L, lc, T, tc, hs, f0, f1, g0, g1, l0, l1, t0, t1, ⟨rfl, h1, h2, h3, h3t, h4, h4t, o1, o2, o3, o4, o5, o6, i1, i2, i3, i4⟩⟩
end Go.Proofs.YtimhnkpccbcohaaGreatDoor
