/-
  counterOf and CountBreakings of the program by contract. Conditions: lengths and capacities within the reach of a slice.
-/
import Derived.Test.YtddkedinkgnboaaCounts
import Derived.Test.YtddkedinkgnboaaWaysB
import Derived.Test.YtddkedinkgnboaaBrkC
namespace Go.Proofs.Ytddkedinkgnboaa
open Go.RowKit
set_option linter.unusedVariables false

theorem CMapG.anti {w : World} {r : Nat} {zs : List Int} {G G' : Nat → Prop} (h : CMapG w r zs G) (hG : ∀ k, G' k → G k) : CMapG w r zs G' := h.join (fun k hk => .inl (hG k hk))
theorem CMapG.empty {w : World} {r : Nat} (zs : List Int) (h : w.heap[r]? = some (.map #[] 0)) : CMapG w r zs (fun k => k ≠ r) := ⟨fun h => h rfl, #[], 0, h, fun e he => by cases he⟩

set_option maxHeartbeats 1600000 in
theorem counterOfG_any (A : Option Addr) (n c : Nat) (zs : List Int) (w : World) :
    Calls Try.prog 47 #[.slice A n c] w fun e w' => ∃ r, e = .returned (.agg #[.slice A n c, .map (some r)]) ∧ w.heap.size ≤ r ∧ CMapG w' r zs (fun k => k ≠ r) ∧ Below w.heap.size w w' := by
  have hmm := @run_makeMap Try.prog
  go_enter Try.func47, Try.ntmps47
  go_wp2
  refine bodyPost_ret (v := .agg #[.slice A n c, .map (some (w.heap.size + 1))]) (by simp [results, Try.results47, go_sem]) rfl ⟨w.heap.size + 1, rfl, by omega, ?_, ?_⟩
  · have h := heap_alloc_new (w.alloc (.cells #[.slice A n c, .map (some (w.heap.size + 1))] 63)) (.map #[] 0)
    rw [World.size_alloc] at h
    exact CMapG.empty zs h
  · exact (below_new _ _).trans ((below_new _ _).mono (by simp))
theorem counterOf_any (A : Option Addr) (n c : Nat) (zs : List Int) (w : World) :
    Calls Try.prog 47 #[.slice A n c] w fun e w' => ∃ r, e = .returned (.agg #[.slice A n c, .map (some r)]) ∧ w.heap.size ≤ r ∧ CMap w' r zs ∧ Below w.heap.size w w' :=
  (counterOfG_any A n c zs w).mono fun e w' ⟨r, h1, h2, h3, h4⟩ => ⟨r, h1, h2, h3.anti (fun _ h => h.elim), h4⟩
theorem cmWayG_any (G : Nat → Prop) (W t k : Int) (ad : Addr) (n c r i : Nat) (zs : List Int) (w : World) (hGw : ∀ j, G j → j < w.heap.size) (hn : zs.length = n) (hc : n ≤ c) (hcm : c ≤ maxLen) (h : Ints w (some ad) zs) (hm : msrB ⟨W, t, k⟩ = true) (ht : textB zs = true) (hr : CMapG w r zs G) (hi : i ≤ n) :
    Calls Try.prog 48 #[.agg #[.slice (some ad) n c, .map (some r)], .agg #[.int .i64 W, .int .i64 t, .int .i64 k], .int .i64 i] w fun e w' => e = .returned (.int .i64 (wayF ⟨W, t, k⟩ zs i)) ∧ w.grownBy w' (some r) ∧ CMapG w' r zs G := by
  have h1 := cmCountG_any G W t k ad n c r i zs w hGw hn hc hcm h hm ht hr hi
  subst hn
  exact h1
theorem cmWayG0_any (G : Nat → Prop) (W t k : Int) (ad : Addr) (n c r : Nat) (zs : List Int) (w : World) (hGw : ∀ j, G j → j < w.heap.size) (hn : zs.length = n) (hc : n ≤ c) (hcm : c ≤ maxLen) (h : Ints w (some ad) zs) (hm : msrB ⟨W, t, k⟩ = true) (ht : textB zs = true) (hr : CMapG w r zs G) :
    Calls Try.prog 48 #[.agg #[.slice (some ad) n c, .map (some r)], .agg #[.int .i64 W, .int .i64 t, .int .i64 k], .int .i64 0] w fun e w' => e = .returned (.int .i64 (wayF ⟨W, t, k⟩ zs 0)) ∧ w.grownBy w' (some r) ∧ CMapG w' r zs G :=
  cmWayG_any G W t k ad n c r 0 zs w hGw hn hc hcm h hm ht hr (Nat.zero_le _)
theorem cmWay0_any (W t k : Int) (ad : Addr) (n c r : Nat) (zs : List Int) (w : World) (hn : zs.length = n) (hc : n ≤ c) (hcm : c ≤ maxLen) (h : Ints w (some ad) zs) (hm : msrB ⟨W, t, k⟩ = true) (ht : textB zs = true) (hr : CMap w r zs) :
    Calls Try.prog 48 #[.agg #[.slice (some ad) n c, .map (some r)], .agg #[.int .i64 W, .int .i64 t, .int .i64 k], .int .i64 0] w fun e w' => e = .returned (.int .i64 (wayF ⟨W, t, k⟩ zs 0)) ∧ w.grownBy w' (some r) ∧ CMap w' r zs :=
  cmWayG0_any (fun _ => False) W t k ad n c r zs w (fun _ h => h.elim) hn hc hcm h hm ht hr
/-- an append to a row: the counter minds it not -/
theorem CMapG.pushed {w w' : World} {r : Nat} {zs : List Int} {v v' : Value} (h : CMapG w r zs (fun k => v.ownBlock = some k)) (hg : w.grownBy w' v.ownBlock) (hl : ∀ g, v'.ownBlock = some g → v.ownBlock = some g ∨ w.heap.size ≤ g) : CMapG w' r zs (fun k => v'.ownBlock = some k) :=
  ((h.join (G' := fun k => v.ownBlock = some k ∨ w.heap.size ≤ k) (fun k hk => hk)).ext (fun k hk hG => hg.block k hk (fun e => hG (.inl e.symm)))).anti (fun k hk => hl k hk)
theorem CMapG.kept {w w' : World} {r : Nat} {zs : List Int} {G : Nat → Prop} (h : CMapG w r zs G) (hb : Below w.heap.size w w') : CMapG w' r zs G := h.below hb

theorem hold3by {w w' : World} {B r : Nat} {x y z : Value} (hg : w.grownBy w' (some r)) (hB : B ≠ r) (h : w.cell? ⟨B, 0, none⟩ = some x ∧ w.cell? ⟨B, 1, none⟩ = some y ∧ w.cell? ⟨B, 2, none⟩ = some z) :
    w'.cell? ⟨B, 0, none⟩ = some x ∧ w'.cell? ⟨B, 1, none⟩ = some y ∧ w'.cell? ⟨B, 2, none⟩ = some z := by
  have hl : B < w.heap.size := World.block_lt_of_cell? _ _ h.1
  have hk : w'.heap[B]? = w.heap[B]? := hg.block B hl (fun e => hB (by cases e; rfl))
  exact ⟨(World.cell?_of_block (a := ⟨B, 0, none⟩) hk).trans h.1, (World.cell?_of_block (a := ⟨B, 1, none⟩) hk).trans h.2.1, (World.cell?_of_block (a := ⟨B, 2, none⟩) hk).trans h.2.2⟩

set_option maxRecDepth 100000 in
set_option maxHeartbeats 3200000 in
theorem implCount_any (W t k : Int) (A : Option Addr) (n c : Nat) (zs : List Int) (w : World) (hn : zs.length = n) (hc : n ≤ c) (hcm : c ≤ maxLen) (h : Ints w A zs) :
    Calls Try.prog 15 #[.agg #[.int .i64 W, .int .i64 t, .int .i64 k], .slice A n c] w fun e w' => e = .returned (.int .i64 (cntA ⟨W, t, k⟩ zs)) ∧ Below w.heap.size w w' := by
  have C := fun (w : World) (hI : Ints w A zs) => stOk_any W t k A n c zs w hn (Nat.le_trans hc hcm) hI
  have D := fun (ad : Addr) (r : Nat) (w : World) (hI : Ints w (some ad) zs) (hm : msrB ⟨W, t, k⟩ = true) (ht : textB zs = true) (hr : CMap w r zs) => cmWay0_any W t k ad n c r zs w hn hc hcm hI hm ht hr
  obtain ⟨w0, hw0, hb0, hz0, P⟩ := msWorld w W t k
  have T0 := Lib.hid hb0; have P0 := Lib.hid P; have Z0 := Lib.hid hz0
  have I0 := Lib.hid (h.below hb0)
  have CC := Lib.hid C; have DD := Lib.hid D; have Hn := Lib.hid hn
  obtain ⟨p0, p1, p2⟩ := P
  clear hb0 hz0 hn h C D hc hcm
  cases ho : okW ⟨W, t, k⟩ zs
  · have HR : Hid (cntA ⟨W, t, k⟩ zs = -1) := by show _ = _; unfold cntA; rw [ho]; rfl
    have HO := Lib.hid ho
    clear ho
    go_enter Try.func15, Try.ntmps15
    go_wp2_with fail
    clear hw0
    refine (CC.out _ I0.out).mono ?_
    rintro e w1 ⟨he, hb1⟩
    rw [show (msrB ⟨W, t, k⟩ && textB zs) = false from HO.out] at he; subst he
    have T1 := Lib.hid (T0.out.trans (hb1.mono (B' := w.heap.size) (by have := Z0.out; omega)))
    clear hb1 p0 p1 p2
    go_wp2
    go_ret
    exact ⟨ret_int HR.out.symm, T1.out⟩
  have HR : Hid (cntA ⟨W, t, k⟩ zs = wayF ⟨W, t, k⟩ zs 0) := by show _ = _; unfold cntA; rw [ho]; rfl
  have HO := Lib.hid ho
  have HM := Lib.hid (okW_parts ho)
  obtain ⟨-, hl1, hl2⟩ := textB_parts HM.out.2
  rw [Hn.out] at hl1 hl2
  obtain ⟨ad, rfl⟩ := ints_some I0.out (by rw [Hn.out]; exact hl1)
  have DD2 := Lib.hid (fun r w h hr => DD.out ad r w h HM.out.1 HM.out.2 hr)
  clear DD ho
  go_enter Try.func15, Try.ntmps15
  go_wp2_with fail
  clear hw0
  refine (CC.out _ I0.out).mono ?_
  rintro e w1 ⟨he, hb1⟩
  rw [show (msrB ⟨W, t, k⟩ && textB zs) = true from HO.out] at he; subst he
  have T1 := Lib.hid (T0.out.trans (hb1.mono (B' := w.heap.size) (by have := Z0.out; omega)))
  have I1 := Lib.hid (I0.out.below hb1)
  have P1 := Lib.hid (hold3 hb1 (by have := Z0.out; omega) P0.out)
  have Z1 : Hid (w.heap.size < w1.heap.size) := by show _ < _; have := Z0.out; have := hb1.size; omega
  clear p0 p1 p2 hb1 T0 I0 P0 Z0 CC
  obtain ⟨p0, p1, p2⟩ := P1.out
  go_wp2_with fail
  have hz1 := Z1.out
  (go_region_held3 (fun w' => w'.cell? ⟨w.heap.size, 0, none⟩ = some (.int .i64 W) ∧ w'.cell? ⟨w.heap.size, 1, none⟩ = some (.int .i64 t) ∧ w'.cell? ⟨w.heap.size, 2, none⟩ = some (.int .i64 k)) (first | go_keep | exact P2.out | exact P3.out) (first
        | (go_at_call 47; refine (counterOf_any _ _ _ zs _).mono ?_; rintro e w2 ⟨r, rfl, hr, hCM, hb2⟩; have hc2 : Below w1.heap.size w1 w2 := undrew hb2; have R2 : Hid (w1.heap.size ≤ r) := hr; have M2 := Lib.hid hCM; have P2 := Lib.hid (hold3 hc2 (by omega) P1.out); have I2 := Lib.hid (I1.out.below hc2); have T2 := Lib.hid (T1.out.trans (hc2.mono (B' := w.heap.size) (by omega))); clear hb2 hc2 hr hCM)
        | (go_at_call 48; refine (DD2.out _ _ I2.out M2.out).mono ?_; rintro e w3 ⟨rfl, hg3, hCM3⟩; have T3 := Lib.hid (T2.out.grown hg3 T2.out.size (fun k e => by cases e; have := R2.out; omega)); have P3 := Lib.hid (hold3by hg3 (by have := R2.out; omega) P2.out); clear hg3 hCM3))
    )
  all_goals
    go_wp2
    go_ret
    exact ⟨ret_int HR.out.symm, T3.out⟩
end Go.Proofs.Ytddkedinkgnboaa
