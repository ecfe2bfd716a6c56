/-
  QuadLine and CenterLine of the program by contract. Conditions: lengths of at most 2^20.
-/
import Derived.Test.YtpenmheacpapaaaQuadA
namespace Go.Proofs.Ytpenmheacpapaaa
open Go.RowKit
set_option linter.unusedVariables false

theorem lit_one (w : World) (q : Int) : IntsB (w.alloc (.cells #[.int .i64 q] 3)) (w.heap.size + 1) (some ⟨w.heap.size, 0, none⟩) [q] := fun _ =>
  ⟨_, rfl, Nat.lt_succ_self _, fun j hj => by
    have : j = 0 := by simp at hj; exact hj
    subst this
    rw [add_zero_at, World.cell?_alloc_at _ _ _ _ rfl]; rfl⟩
theorem IntsB.up {w : World} {b b' : Nat} {A : Option Addr} {zs : List Int} (h : IntsB w b A zs) (hb : b ≤ b') : IntsB w b' A zs := fun hn => by
  obtain ⟨ad, e, hl, hc⟩ := h hn
  exact ⟨ad, e, by omega, hc⟩
theorem parts3 (w : World) (A1 : Option Addr) (n1 c1 : Nat) (zs1 : List Int) (A2 : Option Addr) (n2 c2 : Nat) (zs2 : List Int) (A3 : Option Addr) (n3 c3 : Nat) (zs3 : List Int) (T : TypeId) (h1 : zs1.length = n1) (h2 : zs2.length = n2) (h3 : zs3.length = n3)
    (i1 : IntsB w w.heap.size A1 zs1) (i2 : IntsB w w.heap.size A2 zs2) (i3 : IntsB w w.heap.size A3 zs3) :
    PartsAt (w.alloc (.cells #[.slice A1 n1 c1, .slice A2 n2 c2, .slice A3 n3 c3] T)) ⟨w.heap.size, 0, none⟩ (w.heap.size + 1) [⟨A1, n1, c1, zs1⟩, ⟨A2, n2, c2, zs2⟩, ⟨A3, n3, c3, zs3⟩] := by
  have hb := below_new w (.cells #[.slice A1 n1 c1, .slice A2 n2 c2, .slice A3 n3 c3] T)
  refine ⟨Nat.lt_succ_self _, fun j p hp => ?_⟩
  have wide : ∀ {A : Option Addr} {zs : List Int}, IntsB w w.heap.size A zs → IntsB (w.alloc (.cells #[.slice A1 n1 c1, .slice A2 n2 c2, .slice A3 n3 c3] T)) (w.heap.size + 1) A zs := fun h => (h.keep (Nat.le_refl _) hb).up (by omega)
  match j, hp with
  | 0, hp =>
    simp at hp; subst hp
    exact ⟨by rw [add_zero_at, World.cell?_alloc_at _ _ _ _ rfl]; rfl, h1, wide i1⟩
  | 1, hp =>
    simp at hp; subst hp
    exact ⟨by rw [add_zero_at, World.cell?_alloc_at _ _ _ _ rfl]; rfl, h2, wide i2⟩
  | 2, hp =>
    simp at hp; subst hp
    exact ⟨by rw [add_zero_at, World.cell?_alloc_at _ _ _ _ rfl]; rfl, h3, wide i3⟩

set_option maxRecDepth 100000 in
set_option maxHeartbeats 1600000 in
theorem quadAdd_any (A : Option Addr) (n c : Nat) (zs : List Int) (q : Int) (w : World) (hn : zs.length = n) (hm : n ≤ 200) (h : IntsB w w.heap.size A zs) :
    Calls Try.prog 101 #[.slice A n c, .int .i64 q] w fun e w' => ∃ v, e = .returned v ∧ Own w' w.heap.size v (addQ false zs q) ∧ Below w.heap.size w w' := by
  have Hn := Lib.hid hn
  obtain ⟨w1, hw1⟩ : ∃ w1, w.alloc (.cells #[.int .i64 q] 3) = w1 := ⟨_, rfl⟩
  have z1 : w1.heap.size = w.heap.size + 1 := by rw [← hw1]; simp
  have hb1 : Below w.heap.size w w1 := by rw [← hw1]; exact below_new _ _
  have L1 : IntsB w1 w1.heap.size (some ⟨w.heap.size, 0, none⟩) [q] := by rw [← hw1]; exact (lit_one w q).up (by simp)
  have I1 : IntsB w1 w1.heap.size A zs := (h.keep (Nat.le_refl _) hb1).up (by omega)
  obtain ⟨w2, hw2⟩ : ∃ w2, w1.alloc (.cells #[.slice A n c, .slice (some ⟨w.heap.size, 0, none⟩) 1 1] 25) = w2 := ⟨_, rfl⟩
  have z2 : w2.heap.size = w1.heap.size + 1 := by rw [← hw2]; simp
  have hP : PartsAt w2 ⟨w1.heap.size, 0, none⟩ (w1.heap.size + 1) [⟨A, n, c, zs⟩, ⟨some ⟨w.heap.size, 0, none⟩, 1, 1, [q]⟩] := by rw [← hw2]; exact parts2 w1 A n c zs _ 1 1 [q] 25 hn rfl I1 L1
  have hb2 : Below w.heap.size w w2 := hb1.trans (by rw [← hw2]; exact (below_new _ _).mono (by omega))
  have HP := Lib.hid hP; have HB := Lib.hid hb2
  have hfl : flat [⟨A, n, c, zs⟩, ⟨some ⟨w.heap.size, 0, none⟩, 1, 1, [q]⟩] = addQ false zs q := by unfold flat addQ; simp
  have HFl := Lib.hid hfl
  have hsz : (addQ false zs q).length ≤ 1048576 := by have := moreQ_pos false; rw [addQ_len, hn]; omega
  have HSz := Lib.hid hsz
  clear hb1 L1 I1 hP hb2 hfl hsz hn h
  go_enter Try.func101, Try.ntmps101
  go_wp2_with fail
  clear hw1 hw2
  try rw [← z1]
  refine (concat_any ⟨w1.heap.size, 0, none⟩ (w1.heap.size + 1) 2 2 _ w2 rfl (by omega) (by omega) HP.out (by rw [HFl.out]; exact HSz.out)).mono ?_
  rintro e w3 ⟨v3, rfl, hO3, hb3⟩
  rw [HFl.out] at hO3
  have O3 := Lib.hid (own_down0 hO3 (show w.heap.size ≤ w2.heap.size by omega)); have B3 := Lib.hid (HB.out.trans (hb3.mono (by omega)))
  clear hO3 hb3
  go_wp2
  go_ret
  exact ⟨_, rfl, O3.out, B3.out⟩

set_option maxRecDepth 100000 in
set_option maxHeartbeats 1600000 in
theorem centerAdd_any (A : Option Addr) (n c : Nat) (zs : List Int) (q : Int) (w : World) (hn : zs.length = n) (hm : n ≤ 200) (h : IntsB w w.heap.size A zs) :
    Calls Try.prog 103 #[.slice A n c, .int .i64 q] w fun e w' => ∃ v, e = .returned v ∧ Own w' w.heap.size v (addQ true zs q) ∧ Below w.heap.size w w' := by
  have Hn := Lib.hid hn
  obtain ⟨w1, hw1⟩ : ∃ w1, w.alloc (.cells #[.int .i64 q] 3) = w1 := ⟨_, rfl⟩
  have z1 : w1.heap.size = w.heap.size + 1 := by rw [← hw1]; simp
  have hb1 : Below w.heap.size w w1 := by rw [← hw1]; exact below_new _ _
  have L1 : IntsB w1 w1.heap.size (some ⟨w.heap.size, 0, none⟩) [q] := by rw [← hw1]; exact (lit_one w q).up (by simp)
  have I1 : IntsB w1 w1.heap.size A zs := (h.keep (Nat.le_refl _) hb1).up (by omega)
  obtain ⟨w2, hw2⟩ : ∃ w2, w1.alloc (.cells #[.int .i64 q] 3) = w2 := ⟨_, rfl⟩
  have z2 : w2.heap.size = w1.heap.size + 1 := by rw [← hw2]; simp
  have hb2 : Below w1.heap.size w1 w2 := by rw [← hw2]; exact below_new _ _
  have M2 : IntsB w2 w2.heap.size (some ⟨w1.heap.size, 0, none⟩) [q] := by rw [← hw2]; exact (lit_one w1 q).up (by simp)
  have L2 : IntsB w2 w2.heap.size (some ⟨w.heap.size, 0, none⟩) [q] := (L1.keep (Nat.le_refl _) hb2).up (by omega)
  have I2 : IntsB w2 w2.heap.size A zs := (I1.keep (Nat.le_refl _) hb2).up (by omega)
  obtain ⟨w3, hw3⟩ : ∃ w3, w2.alloc (.cells #[.slice (some ⟨w.heap.size, 0, none⟩) 1 1, .slice A n c, .slice (some ⟨w1.heap.size, 0, none⟩) 1 1] 25) = w3 := ⟨_, rfl⟩
  have z3 : w3.heap.size = w2.heap.size + 1 := by rw [← hw3]; simp
  have hP : PartsAt w3 ⟨w2.heap.size, 0, none⟩ (w2.heap.size + 1) [⟨some ⟨w.heap.size, 0, none⟩, 1, 1, [q]⟩, ⟨A, n, c, zs⟩, ⟨some ⟨w1.heap.size, 0, none⟩, 1, 1, [q]⟩] := by rw [← hw3]; exact parts3 w2 _ 1 1 [q] A n c zs _ 1 1 [q] 25 rfl hn rfl L2 I2 M2
  have hb3 : Below w.heap.size w w3 := (hb1.trans (hb2.mono (by omega))).trans (by rw [← hw3]; exact (below_new _ _).mono (by omega))
  have HP := Lib.hid hP; have HB := Lib.hid hb3
  have hfl : flat [⟨some ⟨w.heap.size, 0, none⟩, 1, 1, [q]⟩, ⟨A, n, c, zs⟩, ⟨some ⟨w1.heap.size, 0, none⟩, 1, 1, [q]⟩] = addQ true zs q := by unfold flat addQ; simp
  have HFl := Lib.hid hfl
  have hsz : (addQ true zs q).length ≤ 1048576 := by have := moreQ_pos true; rw [addQ_len, hn]; omega
  have HSz := Lib.hid hsz
  have Z1 := Lib.hid z1; have Z2 := Lib.hid z2; have Z3 := Lib.hid z3
  clear hb1 L1 I1 hP hb2 hfl hsz hn h M2 L2 I2 hb3 z1 z2 z3
  go_enter Try.func103, Try.ntmps103
  go_wp2_with fail
  clear hw1 hw2 hw3
  have z1 := Z1.out
  have z2 := Z2.out
  have z3 := Z3.out
  refine (concat_any ⟨w2.heap.size, 0, none⟩ (w2.heap.size + 1) 3 3 _ w3 rfl (by omega) (by omega) HP.out (by rw [HFl.out]; exact HSz.out)).mono ?_
  rintro e w4 ⟨v4, rfl, hO4, hb4⟩
  rw [HFl.out] at hO4
  have O4 := Lib.hid (own_down0 hO4 (show w.heap.size ≤ w3.heap.size by omega)); have B4 := Lib.hid (HB.out.trans (hb4.mono (by omega)))
  clear hO4 hb4
  go_wp2
  go_ret
  exact ⟨_, rfl, O4.out, B4.out⟩

theorem quadAdd_enter (args : Array Value) (w : World) : Sem.run Try.prog (callFunc 101 args) w = .ok (.enter 101 args) w := by kernel_rfl
theorem centerAdd_enter (args : Array Value) (w : World) : Sem.run Try.prog (callFunc 103 args) w = .ok (.enter 103 args) w := by kernel_rfl

set_option maxRecDepth 100000 in
set_option maxHeartbeats 1600000 in
theorem implQuad_any (W t k : Int) (A : Option Addr) (n c : Nat) (zs : List Int) (A2 : Option Addr) (n2 c2 : Nat) (qs : List Int) (L : List Int) (w : World) (hn : zs.length = n) (hm : n ≤ 1048576) (h : Ints w A zs) (hn2 : qs.length = n2) (hm2 : n2 ≤ 1048576) (h2 : Ints w A2 qs) (hR : QdRes ⟨W, t, k⟩ false zs qs L) :
    Calls Try.prog 57 #[.agg #[.int .i64 W, .int .i64 t, .int .i64 k], .slice A n c, .slice A2 n2 c2] w fun e w' => ∃ v, e = .returned (.tuple #[v, .bool (qdB ⟨W, t, k⟩ zs qs)]) ∧ Own w' w.heap.size v L ∧ Below w.heap.size w w' := by
  have Hn := Lib.hid hn; have Hn2 := Lib.hid hn2; have HR := Lib.hid hR
  obtain ⟨w0, hw0, hb0, hz0, P⟩ := msWorld w W t k
  have T0 := Lib.hid hb0
  have I0 := Lib.hid (h.below hb0); have J0 := Lib.hid (h2.below hb0)
  have z0 : w.heap.size ≤ w0.heap.size := hb0.size
  obtain ⟨p0, p1, p2⟩ := P
  clear hb0 hz0 hn hn2 h h2 hR
  go_enter Try.func57, Try.ntmps57
  go_wp2_with fail
  clear hw0
  refine (addBlanks_any 101 quadAdd_enter false quadAdd_any W t k A n c zs A2 n2 c2 qs L _ Hn.out hm I0.out Hn2.out hm2 J0.out HR.out).mono ?_
  rintro e w1 ⟨v1, rfl, hO1, hb1⟩
  have O1 := Lib.hid (own_down0 hO1 z0); have B1 := Lib.hid (T0.out.trans (hb1.mono z0))
  clear hO1 hb1
  go_wp2
  go_ret2
  exact ⟨_, rfl, O1.out, B1.out⟩

set_option maxRecDepth 100000 in
set_option maxHeartbeats 1600000 in
theorem implCenter_any (W t k : Int) (A : Option Addr) (n c : Nat) (zs : List Int) (A2 : Option Addr) (n2 c2 : Nat) (qs : List Int) (L : List Int) (w : World) (hn : zs.length = n) (hm : n ≤ 1048576) (h : Ints w A zs) (hn2 : qs.length = n2) (hm2 : n2 ≤ 1048576) (h2 : Ints w A2 qs) (hR : QdRes ⟨W, t, k⟩ true zs qs L) :
    Calls Try.prog 58 #[.agg #[.int .i64 W, .int .i64 t, .int .i64 k], .slice A n c, .slice A2 n2 c2] w fun e w' => ∃ v, e = .returned (.tuple #[v, .bool (qdB ⟨W, t, k⟩ zs qs)]) ∧ Own w' w.heap.size v L ∧ Below w.heap.size w w' := by
  have Hn := Lib.hid hn; have Hn2 := Lib.hid hn2; have HR := Lib.hid hR
  obtain ⟨w0, hw0, hb0, hz0, P⟩ := msWorld w W t k
  have T0 := Lib.hid hb0
  have I0 := Lib.hid (h.below hb0); have J0 := Lib.hid (h2.below hb0)
  have z0 : w.heap.size ≤ w0.heap.size := hb0.size
  obtain ⟨p0, p1, p2⟩ := P
  clear hb0 hz0 hn hn2 h h2 hR
  go_enter Try.func58, Try.ntmps58
  go_wp2_with fail
  clear hw0
  refine (addBlanks_any 103 centerAdd_enter true centerAdd_any W t k A n c zs A2 n2 c2 qs L _ Hn.out hm I0.out Hn2.out hm2 J0.out HR.out).mono ?_
  rintro e w1 ⟨v1, rfl, hO1, hb1⟩
  have O1 := Lib.hid (own_down0 hO1 z0); have B1 := Lib.hid (T0.out.trans (hb1.mono z0))
  clear hO1 hb1
  go_wp2
  go_ret2
  exact ⟨_, rfl, O1.out, B1.out⟩
end Go.Proofs.Ytpenmheacpapaaa
