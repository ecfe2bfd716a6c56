/-
  Contracts and plain mathematics (Cur, Cm, EachM, Bridge), each with its conditions in its own statement.
-/
import Derived.Test.YtdijlofcgcikjaaDoorPkA
import Derived.Outline
import Derived.Deep.RegionWith
import Derived.OrdersIn
import Derived.OrdersHeld
import Derived.StillTailTactics
namespace Go.Proofs.YtdijlofcgcikjaaDoor
open Go.RowKit
set_option linter.unusedVariables false

/-- the bytes with the address A, below block b -/
def BytesB (w : World) (b : Nat) (A : Option Addr) (zs : List Int) : Prop :=
  0 < zs.length → ∃ ad, A = some ad ∧ ad.block < b ∧ ∀ j, j < zs.length → w.cell? (ad.add j) = some (.int .u8 (zs.getD j 0))
def CurAt (w : World) (g : Nat) (A : Option Addr) (n c : Nat) (i h : Int) (bs : List Int) : Prop :=
  w.heap[g]? = some (.cells #[.slice A n c, .int .i64 i, .int .i64 h] 98 (0, 0)) ∧ BytesB w g A bs ∧ bs.length = n ∧ n ≤ maxLen ∧ 0 ≤ i ∧ i ≤ n ∧ ∀ b ∈ bs, 0 ≤ b ∧ b ≤ 255
def Cur (w : World) (g : Nat) : Prop := ∃ A n c i h bs, CurAt w g A n c i h bs
/-- only the cursor's block has turned, nothing is new -/
def Turned (w w' : World) (g : Nat) : Prop := w.grownBy w' (some g) ∧ w'.heap.size = w.heap.size
theorem Turned.refl (w : World) (g : Nat) : Turned w w g := ⟨World.grownBy.refl w _, rfl⟩
theorem Turned.trans {a b c : World} {g : Nat} (h : Turned a b g) (k : Turned b c g) : Turned a c g :=
  ⟨⟨k.1.os.trans h.1.os, k.1.tape.trans h.1.tape, k.1.output.trans h.1.output, Nat.le_trans h.1.size k.1.size, fun i hi hne => (k.1.block i (by rw [h.2]; exact hi) hne).trans (h.1.block i hi hne)⟩, k.2.trans h.2⟩

theorem cell3 {w : World} {g : Nat} {a b c : Value} {t : TypeId} (h : w.heap[g]? = some (.cells #[a, b, c] t (0, 0))) :
    w.cell? ⟨g, 0, none⟩ = some a ∧ w.cell? ⟨g, 1, none⟩ = some b ∧ w.cell? ⟨g, 2, none⟩ = some c ∧ ∀ i, w.frozen? ⟨g, i, none⟩ = false := by
  refine ⟨?_, ?_, ?_, fun i => ?_⟩
  · rw [cell_of_row w g 0 _ t (0, 0) h]; rfl
  · rw [cell_of_row w g 1 _ t (0, 0) h]; rfl
  · rw [cell_of_row w g 2 _ t (0, 0) h]; rfl
  · exact frozen_of_row w g i _ t h

theorem and255 (z : Int) : 0 ≤ bits .and .i64 z 255 ∧ bits .and .i64 z 255 ≤ 255 := by
  have h : (BitVec.ofInt 64 z &&& BitVec.ofInt 64 255).toNat ≤ 255 := by
    rw [BitVec.toNat_and]
    exact Nat.le_trans Nat.and_le_right (by decide)
  have e : bits .and .i64 z 255 = IntKind.i64.wrap ((BitVec.ofInt 64 z &&& BitVec.ofInt 64 255).toNat : Int) := rfl
  rw [e, IntKind.wrap_i64]
  omega

section
variable {w : World} {g n c : Nat} {A : Option Addr} {i h : Int} {bs : List Int}
theorem BytesB.keep {w w' : World} {b : Nat} {A : Option Addr} {zs : List Int} (h : BytesB w b A zs) (hk : ∀ p : Addr, p.block < b → w'.cell? p = w.cell? p) : BytesB w' b A zs := fun hn => by
  obtain ⟨ad, e, hl, hc⟩ := h hn
  exact ⟨ad, e, hl, fun j hj => (hk _ (by rw [block_add]; exact hl)).trans (hc j hj)⟩
theorem CurAt.bytes_set (hb : BytesB w g A bs) (j : Nat) (u : Value) : BytesB (w.setCell ⟨g, j, none⟩ u) g A bs :=
  hb.keep fun p hp => World.cell?_setCell_other w ⟨g, j, none⟩ p u (fun e => by subst e; exact Nat.lt_irrefl _ hp)
theorem CurAt.seth (hc : CurAt w g A n c i h bs) (h' : Int) : CurAt (w.setCell ⟨g, 2, none⟩ (.int .i64 h')) g A n c i h' bs := by
  obtain ⟨hh, hB, rest⟩ := hc
  exact ⟨by rw [heap_setCell_same w g 2 _ _ _ hh]; rfl, CurAt.bytes_set hB 2 _, rest⟩
theorem CurAt.seti (hc : CurAt w g A n c i h bs) (i' : Int) (h0 : 0 ≤ i') (h1 : i' ≤ n) : CurAt (w.setCell ⟨g, 1, none⟩ (.int .i64 i')) g A n c i' h bs := by
  obtain ⟨hh, hB, hn, hm, _, _, hb⟩ := hc
  exact ⟨by rw [heap_setCell_same w g 1 _ _ _ hh]; rfl, CurAt.bytes_set hB 1 _, hn, hm, h0, h1, hb⟩
theorem CurAt.drewN (hc : CurAt w g A n c i h bs) (q : Nat) : CurAt (w.drewN q) g A n c i h bs := hc
theorem Turned.set (w : World) (g j : Nat) (u : Value) : Turned w (w.setCell ⟨g, j, none⟩ u) g :=
  ⟨grown_set (World.grownBy.refl w _) j u, by simp [World.setCell]⟩
theorem Turned.drewN {a : World} (ht : Turned a w g) (q : Nat) : Turned a (w.drewN q) g := ⟨⟨ht.1.os, ht.1.tape, ht.1.output, ht.1.size, ht.1.block⟩, ht.2⟩
end

set_option maxHeartbeats 1600000 in
theorem l01Byte_any (g : Nat) (w : World) (hc : Cur w g) :
    Calls Tryd.prog 75 #[.pointer (some ⟨g, 0, none⟩)] w fun e w' => ∃ x : Int, e = .returned (.int .i64 x) ∧ 0 ≤ x ∧ x ≤ 255 ∧ Cur w' g ∧ Turned w w' g := by
  obtain ⟨A, n, c, i, h, bs, hcur⟩ := hc
  have HC := Lib.hid hcur
  obtain ⟨hh, hB, hn, hm, hi0, hi1, hbs⟩ := hcur
  obtain ⟨c0, c1, c2, hf⟩ := cell3 hh
  have f0 := hf 0; have f1 := hf 1; have f2 := hf 2
  clear hf hbs hh
  unfold maxLen at hm
  have Hn := Lib.hid hn; clear hn
  by_cases hlt : i < n
  · obtain ⟨k, rfl⟩ := Int.eq_ofNat_of_zero_le hi0
    have hlk : k < n := by omega
    obtain ⟨ad, rfl, hab, hcell⟩ := hB (by rw [Hn.out]; omega)
    have hcb := hcell k (by rw [Hn.out]; exact hlk)
    obtain ⟨b, hb⟩ : ∃ b, bs.getD k 0 = b := ⟨_, rfl⟩
    rw [hb] at hcb
    have hne : (⟨g, 2, none⟩ : Addr) ≠ ad.add k := fun e => by have := congrArg Addr.block e; rw [block_add] at this; simp at this; omega
    have hcb2 : ∀ u, (w.setCell ⟨g, 2, none⟩ u).cell? (ad.add k) = some (.int .u8 b) := fun u => (World.cell?_setCell_other w ⟨g, 2, none⟩ (ad.add k) u hne).trans hcb
    clear hcell hcb hne hb hB hab
    go_enter Tryd.func75, Tryd.ntmps75
    go_wp2
    go_quiet (fail)
    go_wp2
    go_quiet (fail)
    go_wp2
    go_quiet (fail)
    go_wp2
    go_ret
    exact ⟨_, rfl, (and255 _).1, (and255 _).2, ⟨_, _, _, _, _, _, ((HC.out.seth _).drewN _).seti _ (by omega) (by omega)⟩, ((Turned.set _ _ _ _).drewN _).trans (Turned.set _ _ _ _)⟩
  · clear hB
    go_enter Tryd.func75, Tryd.ntmps75
    go_wp2
    go_quiet (fail)
    go_wp2
    go_quiet (fail)
    go_wp2
    go_ret
    exact ⟨_, rfl, (and255 _).1, (and255 _).2, ⟨_, _, _, _, _, _, (((HC.out.seth _).drewN _).drewN _)⟩, (((Turned.set _ _ _ _).drewN _).drewN _)⟩

set_option maxHeartbeats 800000 in
theorem l01Below_any (g : Nat) (m : Int) (w : World) (hc : Cur w g) :
    Calls Tryd.prog 38 #[.pointer (some ⟨g, 0, none⟩), .int .i64 m] w fun e w' => ∃ x : Int, e = .returned (.int .i64 x) ∧ 0 ≤ x ∧ (0 < m → x < m) ∧ Cur w' g ∧ Turned w w' g := by
  have HC := Lib.hid hc; clear hc
  by_cases h0 : m ≤ 0
  · go_enter Tryd.func38, Tryd.ntmps38
    go_wp2
    go_ret
    exact ⟨0, rfl, by omega, by omega, HC.out, Turned.refl _ _⟩
  by_cases h1 : m ≤ 256
  · go_enter Tryd.func38, Tryd.ntmps38
    go_wp2_with (go_at_call 75; refine (l01Byte_any g _ HC.out).mono ?_; rintro e w1 ⟨x, rfl, hx0, hx1, hc1, ht1⟩)
    go_ret
    exact ⟨x % m, rfl, Int.emod_nonneg _ (by omega), fun _ => Int.emod_lt_of_pos _ (by omega), hc1, ht1⟩
  · go_enter Tryd.func38, Tryd.ntmps38
    go_wp2_with fail
    refine (l01Byte_any g _ HC.out).mono ?_
    rintro e w1 ⟨x, rfl, hx0, hx1, hc1, ht1⟩
    go_wp2_with fail
    refine (l01Byte_any g _ hc1).mono ?_
    rintro e w2 ⟨y, rfl, hy0, hy1, hc2, ht2⟩
    go_wp2_with fail
    refine (l01Byte_any g _ hc2).mono ?_
    rintro e w3 ⟨z, rfl, hz0, hz1, hc3, ht3⟩
    go_wp2_with fail
    refine (l01Byte_any g _ hc3).mono ?_
    rintro e w4 ⟨u, rfl, hu0, hu1, hc4, ht4⟩
    go_wp2
    go_ret
    exact ⟨(x * 16777216 + y * 65536 + z * 256 + u) % m, rfl, Int.emod_nonneg _ (by omega), fun _ => Int.emod_lt_of_pos _ (by omega), hc4, ((ht1.trans ht2).trans ht3).trans ht4⟩

theorem l01Once_any (g : Nat) (m : Int) (w : World) (hc : Cur w g) :
    Calls Tryd.prog 74 #[.pointer (some ⟨g, 0, none⟩), .int .i64 m] w fun e w' => ∃ b : Bool, e = .returned (.bool b) ∧ Cur w' g ∧ Turned w w' g := by
  have HC := Lib.hid hc; clear hc
  go_enter Tryd.func74, Tryd.ntmps74
  go_wp2_with (go_at_call 38; refine (l01Below_any g _ _ HC.out).mono ?_; rintro e w1 ⟨x, rfl, hx0, hx1, hc1, ht1⟩)
  go_ret
  exact ⟨_, rfl, hc1, ht1⟩

/-- the slice of bytes with the address A reads as zs -/
def Bytes (w : World) (A : Option Addr) (zs : List Int) : Prop :=
  0 < zs.length → ∃ ad, A = some ad ∧ ∀ j, j < zs.length → w.cell? (ad.add j) = some (.int .u8 (zs.getD j 0))
theorem Bytes.nil (w : World) (A : Option Addr) : Bytes w A [] := fun h => absurd h (by simp)
theorem Bytes.of_row {w : World} {x : Addr} {zs : List Int} {n : Nat} (hn : n ≤ zs.length) (hc : ∀ i, i < zs.length → w.cell? (x.add i) = some (.int .u8 (zs.getD i 0))) : Bytes w (some x) (zs.take n) := by
  intro _
  refine ⟨x, rfl, fun j hj => ?_⟩
  rw [List.length_take] at hj
  rw [hc j (by omega)]
  simp only [List.getD, List.getElem?_take]
  rw [if_pos (by omega)]
theorem Bytes.toB {w : World} {A : Option Addr} {zs : List Int} (h : Bytes w A zs) : BytesB w w.heap.size A zs := fun hn => by
  obtain ⟨ad, e, hc⟩ := h hn
  exact ⟨ad, e, by have := World.block_lt_of_cell? _ _ (hc 0 hn); rwa [block_add] at this, hc⟩
theorem u8_bd {z : Int} (h : (Lit.int .u8 z).wf = true) : 0 ≤ z ∧ z ≤ 255 := by
  simp [Lit.wf, IntKind.min, IntKind.max, IntKind.signed, IntKind.bits] at h
  omega

set_option maxRecDepth 100000 in
set_option maxHeartbeats 800000 in
theorem l01New_any (A : Option Addr) (n c : Nat) (bs : List Int) (w : World) (hn : bs.length = n) (hm : n ≤ maxLen) (h : Bytes w A bs) (wf : ∀ z ∈ bs, (Lit.int .u8 z).wf = true) :
    Calls Tryd.prog 36 #[.slice A n c] w fun e w' => e = .returned (.pointer (some ⟨w.heap.size, 0, none⟩)) ∧ Cur w' w.heap.size ∧ Below w.heap.size w w' ∧ w'.heap.size = w.heap.size + 1 := by
  have HB := Lib.hid h.toB
  have Hn := Lib.hid hn; clear hn
  have Hwf := Lib.hid wf; clear wf
  have hm0 := hm
  unfold maxLen at hm
  go_enter Tryd.func36, Tryd.ntmps36
  go_wp2
  go_loop [3, 4] (fun hv i => ∃ k : Nat, ∃ q : Int, k ≤ n ∧ k ≤ 4000 ∧ i = .int .i64 k ∧ hv = .int .i64 q) (fun _ i => n - (intOf i).toNat)
  case atStart => exact ⟨0, _, Nat.zero_le _, Nat.zero_le _, rfl, rfl⟩
  case round =>
    obtain ⟨k, q, hk, hk4, rfl, rfl⟩ := hrel
    have fin : ∀ (q : Int), Cur (w.alloc (.cells #[.slice A n c, .int .i64 0, .int .i64 q] 98)) w.heap.size := fun q =>
      ⟨A, n, c, 0, q, bs, heap_alloc_new w _, HB.out.keep fun p hp => World.cell?_alloc_lt w _ p hp, Hn.out, hm0, by omega, by omega, fun b hb => u8_bd (Hwf.out b hb)⟩
    have FIN := Lib.hid fin; clear fin
    by_cases hlt : k < n
    · by_cases h4 : k < 4000
      · obtain ⟨ad, rfl, hc⟩ := h (by rw [Hn.out]; omega)
        have hck := hc k (by rw [Hn.out]; exact hlt)
        obtain ⟨b, hb⟩ : ∃ b, bs.getD k 0 = b := ⟨_, rfl⟩
        rw [hb] at hck
        clear hb hc
        go_wp2
        go_round
        case rel => exact ⟨k + 1, _, by omega, by omega, by go_num, rfl⟩
        case measure => simp [intOf]; omega
      · go_wp2
        go_ret
        exact ⟨rfl, FIN.out _, (Below.refl _ _).alloc (Nat.le_refl _) _, by simp⟩
    · go_wp2
      go_ret
      exact ⟨rfl, FIN.out _, (Below.refl _ _).alloc (Nat.le_refl _) _, by simp⟩

set_option maxHeartbeats 800000 in
/-- l01Int: one of the list's numbers; the list is not empty and lies elsewhere -/
theorem l01Int_any (g : Nat) (A : Option Addr) (n c b : Nat) (zs : List Int) (w : World) (hc : Cur w g) (hn : zs.length = n) (hm : n ≤ maxLen) (hp : 0 < n) (h : IntsB w b A zs) (hne : ∀ ad, A = some ad → ad.block ≠ g) :
    Calls Tryd.prog 91 #[.pointer (some ⟨g, 0, none⟩), .slice A n c] w fun e w' => ∃ x : Int, e = .returned (.int .i64 x) ∧ x ∈ zs ∧ Cur w' g ∧ Turned w w' g := by
  have HC := Lib.hid hc; clear hc
  have Hn := Lib.hid hn; clear hn
  unfold maxLen at hm
  obtain ⟨ad, rfl, hlt, hcell⟩ := h (by rw [Hn.out]; exact hp)
  have Hcell := Lib.hid hcell; clear hcell
  have hne' := hne ad rfl
  clear hne
  go_enter Tryd.func91, Tryd.ntmps91
  go_wp2_with fail
  refine (l01Below_any g _ _ HC.out).mono ?_
  rintro e w1 ⟨x, rfl, hx0, hx1, hc1, ht1⟩
  obtain ⟨k, rfl⟩ := Int.eq_ofNat_of_zero_le hx0
  have hk : k < n := by have := hx1 (by omega); omega
  have hck : w1.cell? (ad.add k) = some (.int .i64 (zs.getD k 0)) := ht1.1.cell (Hcell.out k (by rw [Hn.out]; exact hk)) (by rw [block_add]; intro e; injection e with e; exact hne' e)
  have HT := Lib.hid ht1
  have HC1 := Lib.hid hc1
  obtain ⟨y, hy⟩ : ∃ y, zs.getD k 0 = y := ⟨_, rfl⟩
  rw [hy] at hck
  have HY := Lib.hid hy
  clear hx1 ht1 hc1 hy
  go_wp2
  go_ret
  refine ⟨y, rfl, ?_, HC1.out, HT.out⟩
  have := HY.out
  have hkz : k < zs.length := by rw [Hn.out]; exact hk
  rw [← this]
  simp only [List.getD, List.getElem?_eq_getElem hkz, Option.getD_some]
  exact List.getElem_mem hkz
end Go.Proofs.YtdijlofcgcikjaaDoor

namespace Go.Proofs.YtdijlofcgcikjaaDoor
open Go.RowKit
set_option linter.unusedVariables false

/-- the cursor's block has turned, and new ones may have come -/
def Moved (w w' : World) (g : Nat) : Prop := w.grownBy w' (some g)
theorem Turned.moved {w w' : World} {g : Nat} (h : Turned w w' g) : Moved w w' g := h.1
theorem Moved.trans {a b c : World} {g : Nat} (h : Moved a b g) (k : Moved b c g) : Moved a c g :=
  ⟨k.os.trans h.os, k.tape.trans h.tape, k.output.trans h.output, Nat.le_trans h.size k.size, fun i hi hne => (k.block i (Nat.lt_of_lt_of_le hi h.size) hne).trans (h.block i hi hne)⟩
theorem Moved.refl (w : World) (g : Nat) : Moved w w g := World.grownBy.refl w _
theorem Moved.alloc (w : World) (o : Obj) (g : Nat) : Moved w (w.alloc o) g := World.grownBy_alloc w o _
theorem Moved.drewN {a w : World} {g : Nat} (h : Moved a w g) (n : Nat) : Moved a (w.drewN n) g := ⟨h.os, h.tape, h.output, h.size, h.block⟩
theorem Moved.drew {a w : World} {g : Nat} (h : Moved a w g) : Moved a w.drew g := ⟨h.os, h.tape, h.output, h.size, h.block⟩
theorem Moved.below {a w : World} {g B : Nat} (h : Moved a w g) (hB : B ≤ g) (hg : g < a.heap.size) : Below B a w :=
  ⟨h.os, h.tape, h.output, h.size, fun k hk => h.block k (by omega) (fun e => by injection e with e; omega)⟩
theorem Cur.alloc {w : World} {g : Nat} (h : Cur w g) (o : Obj) : Cur (w.alloc o) g := by
  obtain ⟨A, n, c, i, hv, bs, hh, hB, rest⟩ := h
  have hg := (Array.getElem?_eq_some_iff.1 hh).1
  exact ⟨A, n, c, i, hv, bs, (Below.heap_alloc w o g hg).trans hh, hB.keep fun p hp => World.cell?_alloc_lt w o p (by omega), rest⟩
theorem Cur.lt {w : World} {g : Nat} (h : Cur w g) : g < w.heap.size := by
  obtain ⟨A, n, c, i, hv, bs, hh, _⟩ := h
  exact (Array.getElem?_eq_some_iff.1 hh).1
theorem Cur.below {w w' : World} {g : Nat} (h : Cur w g) (hb : Below w.heap.size w w') : Cur w' g := by
  have hg := h.lt
  obtain ⟨A, n, c, i, hv, bs, hh, hB, rest⟩ := h
  exact ⟨A, n, c, i, hv, bs, (hb.block g hg).trans hh, hB.keep fun p hp => hb.cell (by omega), rest⟩
theorem Cur.drew {w : World} {g : Nat} (h : Cur w g) : Cur w.drew g := h

/-- the cursor is whole, and since w0 only it has turned -/
def CM (w0 w : World) (g : Nat) : Prop := Cur w g ∧ Moved w0 w g
theorem CM.of {w : World} {g : Nat} (h : Cur w g) : CM w w g := ⟨h, Moved.refl _ _⟩
theorem CM.drew {w0 w : World} {g : Nat} (h : CM w0 w g) : CM w0 w.drew g := ⟨h.1, h.2.drew⟩
theorem CM.alloc {w0 w : World} {g : Nat} (h : CM w0 w g) (o : Obj) : CM w0 (w.alloc o) g := ⟨h.1.alloc o, h.2.trans (Moved.alloc _ _ _)⟩
theorem CM.step {w0 w w' : World} {g : Nat} (h : CM w0 w g) (hb : Below w.heap.size w w') : CM w0 w' g := ⟨h.1.below hb, h.2.trans ⟨hb.os, hb.tape, hb.output, hb.size, fun i hi _ => hb.block i hi⟩⟩
theorem CM.lt {w0 w : World} {g : Nat} (h : CM w0 w g) : g < w.heap.size := h.1.lt
theorem below_cm (w0 : World) (g : Nat) (m : Int) (w : World) (hm : 0 < m) (hc : CM w0 w g) :
    Calls Tryd.prog 38 #[.pointer (some ⟨g, 0, none⟩), .int .i64 m] w fun e w' => ∃ x : Nat, e = .returned (.int .i64 x) ∧ (x : Int) < m ∧ CM w0 w' g ∧ Moved w w' g := by
  refine (l01Below_any g m w hc.1).mono ?_
  rintro e w' ⟨x, rfl, h0, h1, hc', ht⟩
  obtain ⟨k, rfl⟩ := Int.eq_ofNat_of_zero_le h0
  exact ⟨k, rfl, h1 hm, ⟨hc', hc.2.trans ht.moved⟩, ht.moved⟩
theorem once_cm (w0 : World) (g : Nat) (m : Int) (w : World) (hc : CM w0 w g) :
    Calls Tryd.prog 74 #[.pointer (some ⟨g, 0, none⟩), .int .i64 m] w fun e w' => ∃ b : Bool, e = .returned (.bool b) ∧ CM w0 w' g ∧ Moved w w' g := by
  refine (l01Once_any g m w hc.1).mono ?_
  rintro e w' ⟨b, rfl, hc', ht⟩
  exact ⟨b, rfl, ⟨hc', hc.2.trans ht.moved⟩, ht.moved⟩

theorem lit_ints (w : World) (zs : List Int) : IntsB (w.alloc (.cells (zs.map (Value.int .i64)).toArray 3)) (w.heap.size + 1) (some ⟨w.heap.size, 0, none⟩) zs := fun _ =>
  ⟨_, rfl, by simp, fun j hj => by
    rw [add_zero_at, World.cell?_alloc_at _ _ _ _ rfl, List.getElem?_toArray, List.getElem?_map, List.getElem?_eq_getElem hj]
    simp [List.getD, hj]⟩

theorem moved_below {w w' : World} {g : Nat} (hb : Below w.heap.size w w') : Moved w w' g := ⟨hb.os, hb.tape, hb.output, hb.size, fun i hi _ => hb.block i hi⟩
theorem own_take {w : World} {B n c k : Nat} {A : Option Addr} {zs : List Int} (h : Own w B (.slice A n c) zs) (hn : zs.length = n) (hk : k ≤ n) (hA : ∃ ad, A = some ad) : Own w B (.slice A k c) (zs.take k) := by
  obtain ⟨ad, rfl⟩ := hA
  rcases h.2 with ⟨hv, _⟩ | ⟨g, cap, cur, hv, hg, hh, hnc, hcm, hcs, ht⟩
  · cases hv
  · injection hv with h1 h2 h3
    subst h3
    injection h1 with h1
    subst h1
    rw [Nat.mul_one] at ht
    refine ⟨by simp, .inr ⟨g, c, cur, by rw [List.length_take, Nat.min_eq_left (by omega)], hg, hh, by rw [List.length_take]; omega, hcm, hcs, ?_⟩⟩
    rw [List.length_take, Nat.mul_one, List.map_take, Nat.min_eq_left (by omega), ← ht, List.take_take, Nat.min_eq_left (by omega)]
theorem own_form2 {w : World} {B : Nat} {v : Value} {zs : List Int} (h : Own w B v zs) (hp : 0 < zs.length) :
    ∃ g m c, v = .slice (some ⟨g, 0, none⟩) m c ∧ zs.length = m ∧ B ≤ g ∧ m ≤ c ∧ c ≤ maxLen ∧ Own w B (.slice (some ⟨g, 0, none⟩) m c) zs ∧ w.ownsRow B 3 1 (.slice (some ⟨g, 0, none⟩) m c) m (zs.map (Value.int .i64)) := by
  have h0 := h
  unfold Own at h0
  rcases h.2 with ⟨_, h2⟩ | ⟨g, cap, cur, rfl, hg, hh, hnc, hcm, _⟩
  · omega
  · exact ⟨g, zs.length, cap, rfl, rfl, hg, hnc, hcm, h, h0⟩

theorem Moved.set_new {a w : World} {g : Nat} (h : Moved a w g) {p : Addr} (hp : a.heap.size ≤ p.block) (u : Value) : Moved a (w.setCell p u) g :=
  ⟨h.os, h.tape, h.output, by simpa [World.setCell] using h.size, fun i hi hne => (Below.heap_setCell w p u i (by omega)).trans (h.block i hi hne)⟩
theorem Cur.set_other {w : World} {g : Nat} (h : Cur w g) {p : Addr} (hp : g < p.block) (u : Value) : Cur (w.setCell p u) g := by
  obtain ⟨A, n, cc, i, hv, bs, hh, hB, rest⟩ := h
  exact ⟨A, n, cc, i, hv, bs, (Below.heap_setCell _ _ _ _ (by omega)).trans hh, hB.keep fun q hq => World.cell?_setCell_other _ p q _ (fun e => by subst e; omega), rest⟩
theorem Cur.belowB {w w' : World} {g B : Nat} (h : Cur w g) (hb : Below B w w') (hg : g < B) : Cur w' g := by
  obtain ⟨A, n, c, i, hv, bs, hh, hB, rest⟩ := h
  exact ⟨A, n, c, i, hv, bs, (hb.block g hg).trans hh, hB.keep fun p hp => hb.cell (by omega), rest⟩
theorem Moved.below_base {a w w' : World} {g B : Nat} (h : Moved a w g) (hb : Below B w w') (hB : a.heap.size ≤ B) : Moved a w' g :=
  ⟨hb.os.trans h.os, hb.tape.trans h.tape, hb.output.trans h.output, Nat.le_trans h.size hb.size, fun i hi hne => (hb.block i (by omega)).trans (h.block i hi hne)⟩
/-- storing into a row of the call's own -/
theorem own_store {w : World} {B g j m c : Nat} {zs : List Int} (h : Own w B (.slice (some ⟨g, 0, none⟩) m c) zs) (hm : zs.length = m) (hj : j < m) :
    (∃ y, w.cell? ⟨g, j, none⟩ = some (.int .i64 y)) ∧ w.frozen? ⟨g, j, none⟩ = false ∧ ∀ x, Own (w.setCell ⟨g, j, none⟩ (.int .i64 x)) B (.slice (some ⟨g, 0, none⟩) m c) (zs.set j x) := by
  unfold Own at *
  rw [hm] at h
  refine ⟨⟨zs.getD j 0, (h.cellAt j (by omega)).trans ?_⟩, h.frozenAt j, fun x => ?_⟩
  · rw [List.getElem?_map, List.getElem?_eq_getElem (by omega)]
    simp [List.getD, show j < zs.length by omega]
  · rw [List.length_set, hm, List.map_set]
    exact (h.stored j _).1

theorem cm_below {w w1 w' : World} (hb : Below w.heap.size w w1) (hs : w1.heap.size = w.heap.size + 1) (hc : CM w1 w' w.heap.size) : Below w.heap.size w w' :=
  hb.trans (hc.2.below (Nat.le_refl _) (by omega))
theorem CM.set {w0 w : World} {g : Nat} (h : CM w0 w g) {p : Addr} (hp : w0.heap.size ≤ p.block) (hg : g < w0.heap.size) (u : Value) : CM w0 (w.setCell p u) g :=
  ⟨h.1.set_other (by omega) u, h.2.set_new hp u⟩
theorem CM.belowB {w0 w w' : World} {g B : Nat} (h : CM w0 w g) (hb : Below B w w') (hB : w0.heap.size ≤ B) (hg : g < w0.heap.size) : CM w0 w' g :=
  ⟨h.1.belowB hb (by omega), h.2.below_base hb hB⟩
theorem CM.trans {a b c : World} {g : Nat} (h : CM a b g) (k : CM b c g) : CM a c g := ⟨k.1, h.2.trans k.2⟩
/-- l01Int at a list that was just laid -/
theorem int_cm (w0 : World) (g n c : Nat) (zs : List Int) (w : World) (hc : CM w0 w g) (hn : zs.length = n) (hp : 0 < n) (hm : n ≤ 1000) :
    Calls Tryd.prog 91 #[.pointer (some ⟨g, 0, none⟩), .slice (some ⟨w.heap.size, 0, none⟩) n c] (w.alloc (.cells (zs.map (Value.int .i64)).toArray 3)) fun e w' => ∃ x : Int, e = .returned (.int .i64 x) ∧ CM w0 w' g ∧ CM w w' g := by
  refine (l01Int_any g _ n c (w.heap.size + 1) zs _ (hc.1.alloc _) hn (by unfold maxLen; omega) hp (lit_ints w zs) (fun ad had => by injection had with had; subst had; have := hc.1.lt; simp; omega)).mono ?_
  rintro e w2 ⟨x, rfl, hx, hc2, ht2⟩
  have hm2 : Moved w w2 g := (Moved.alloc w _ g).trans ht2.moved
  exact ⟨x, rfl, ⟨hc2, hc.2.trans hm2⟩, ⟨hc2, hm2⟩⟩
end Go.Proofs.YtdijlofcgcikjaaDoor

namespace Go.Proofs.YtdijlofcgcikjaaDoor
open Go.RowKit
set_option linter.unusedVariables false

/-- the numbers for lines that begin with word i: none, and then add for each end in p, given the numbers r behind -/
def accE (add : Int → Nat → Nat → Int → Int) (z : Int) (i : Nat) (r : List Int) (es : List Nat) : Int := es.foldl (fun acc q => add acc i q (r.getD q 0)) z
theorem accE_snoc (add : Int → Nat → Nat → Int → Int) (z : Int) (i : Nat) (r : List Int) (es : List Nat) (q : Nat) : accE add z i r (es ++ [q]) = add (accE add z i r es) i q (r.getD q 0) := by
  unfold accE; rw [List.foldl_append]; rfl
/-- the row when the last d words are done -/
def rowE (m : Msr) (zs : List Int) (add : Int → Nat → Nat → Int → Int) (e z : Int) : Nat → List Int
  | 0 => List.replicate zs.length 0 ++ [e]
  | d + 1 => (rowE m zs add e z d).set (zs.length - 1 - d) (accE add z (zs.length - 1 - d) (rowE m zs add e z d) (endsTo m zs (zs.length - 1 - d) (zs.length + 1)))
theorem rowE_len (m : Msr) (zs : List Int) (add : Int → Nat → Nat → Int → Int) (e z : Int) (d : Nat) : (rowE m zs add e z d).length = zs.length + 1 := by
  induction d with
  | zero => simp [rowE]
  | succ d ih => simp [rowE, ih]
theorem set_set_same {l : List Int} {i : Nat} {x y : Int} : (l.set i x).set i y = l.set i y := by simp
theorem getD_set_ne {l : List Int} {i q : Nat} {x : Int} (h : i ≠ q) : (l.set i x).getD q 0 = l.getD q 0 := by
  simp [List.getD, List.getElem?_set_ne h]
theorem getD_set_eq {l : List Int} {i : Nat} {x : Int} (h : i < l.length) : (l.set i x).getD i 0 = x := by
  simp [List.getD, h]
theorem row_start (n : Nat) (e : Int) : (List.replicate (n + 1) (0 : Int)).set n e = List.replicate n 0 ++ [e] := by
  rw [List.replicate_succ']
  rw [List.set_append_right _ _ (by simp)]
  simp
/-- a block of cells -/
def Blk (w : World) (B : Nat) (cs : Array Value) (T : TypeId) : Prop := w.heap[B]? = some (.cells cs T (0, 0))
theorem Blk.new (w : World) (cs : Array Value) (T : TypeId) : Blk (w.alloc (.cells cs T)) w.heap.size cs T := heap_alloc_new w _
theorem Blk.lt {w : World} {B : Nat} {cs : Array Value} {T : TypeId} (h : Blk w B cs T) : B < w.heap.size := (Array.getElem?_eq_some_iff.1 h).1
theorem Blk.below {w w' : World} {B b : Nat} {cs : Array Value} {T : TypeId} (h : Blk w B cs T) (hb : Below b w w') (hB : B < b) : Blk w' B cs T := (hb.block B hB).trans h
theorem Blk.kept {w w' : World} {B : Nat} {cs : Array Value} {T : TypeId} {row : Option Nat} (h : Blk w B cs T) (hg : w.grownBy w' row) (hr : ∀ r, row = some r → ∃ o : Obj, w.heap[r]? = some o ∧ o.isCells = false) : Blk w' B cs T := by
  refine (hg.block B h.lt (fun e => ?_)).trans h
  obtain ⟨o, ho, hc⟩ := hr B e.symm
  rw [show w.heap[B]? = _ from h] at ho; cases ho; cases hc
theorem Blk.other {w : World} {B : Nat} {cs : Array Value} {T : TypeId} (h : Blk w B cs T) (p : Addr) (u : Value) (hne : B ≠ p.block) : Blk (w.setCell p u) B cs T := by
  unfold Blk; rw [Below.heap_setCell w p u B hne]; exact h
theorem Blk.set1 {w : World} {B : Nat} {v : Value} {T : TypeId} (h : Blk w B #[v] T) (u : Value) : Blk (w.setCell ⟨B, 0, none⟩ u) B #[u] T := by
  unfold Blk; rw [heap_setCell_same w B 0 _ _ _ h]; rfl
theorem Blk.one {w : World} {B : Nat} {v : Value} {T : TypeId} (h : Blk w B #[v] T) : w.cell? ⟨B, 0, none⟩ = some v ∧ w.frozen? ⟨B, 0, none⟩ = false :=
  ⟨by rw [cell_of_row w B 0 _ _ (0, 0) h]; rfl, frozen_of_row w B 0 _ _ h⟩
theorem Blk.st {w : World} {B : Nat} {W t k : Int} {s : Value} {T : TypeId} (h : Blk w B #[.int .i64 W, .int .i64 t, .int .i64 k, s] T) : St w B W t k s :=
  ⟨by rw [cell_of_row w B 0 _ _ (0, 0) h]; rfl, by rw [cell_of_row w B 1 _ _ (0, 0) h]; rfl, by rw [cell_of_row w B 2 _ _ (0, 0) h]; rfl, by rw [cell_of_row w B 3 _ _ (0, 0) h]; rfl⟩
theorem Own.keptC {w w' : World} {B : Nat} {v : Value} {zs : List Int} {row : Option Nat} (h : Own w B v zs) (hg : w.grownBy w' row) (hr : ∀ r, row = some r → ∃ o : Obj, w.heap[r]? = some o ∧ o.isCells = false) : Own w' B v zs := by
  refine ⟨h.1, ?_⟩
  rcases h.2 with hn | ⟨g, cap, cur, hv, hB, hh, rest⟩
  · exact .inl hn
  · refine .inr ⟨g, cap, cur, hv, hB, (hg.block g (Array.getElem?_eq_some_iff.1 hh).1 (fun e => ?_)).trans hh, rest⟩
    obtain ⟨o, ho, hc⟩ := hr g e.symm
    rw [hh] at ho; cases ho; cases hc
theorem Own.setOther {w : World} {B : Nat} {v : Value} {zs : List Int} (h : Own w B v zs) (p : Addr) (u : Value) (hne : ∀ g, v.ownBlock = some g → g ≠ p.block) : Own (w.setCell p u) B v zs := by
  refine ⟨h.1, ?_⟩
  rcases h.2 with hn | ⟨g, cap, cur, hv, hB, hh, rest⟩
  · exact .inl hn
  · refine .inr ⟨g, cap, cur, hv, hB, (Below.heap_setCell w p u g (hne g (by rw [hv]; rfl))).trans hh, rest⟩

/-- marks of loops over functions: each names a block for deferred calls that holds none -/
def Marks (w : World) (Ds : List Nat) : Prop := ∀ D ∈ Ds, w.heap[D]? = some (.deferred (some []))
def markOf (D : Nat) : Deferred := { target := .collected D, args := #[] }
theorem Marks.below {w w' : World} {Ds : List Nat} {b : Nat} (h : Marks w Ds) (hb : Below b w w') (hB : ∀ D ∈ Ds, D < b) : Marks w' Ds := fun D hD => (hb.block D (hB D hD)).trans (h D hD)
theorem Marks.kept {w w' : World} {Ds : List Nat} {row : Option Nat} (h : Marks w Ds) (hg : w.grownBy w' row) (hr : ∀ D ∈ Ds, row ≠ some D) : Marks w' Ds := fun D hD =>
  (hg.block D (Array.getElem?_eq_some_iff.1 (h D hD)).1 (fun e => hr D hD e.symm)).trans (h D hD)
theorem Marks.lt {w : World} {Ds : List Nat} (h : Marks w Ds) : ∀ D ∈ Ds, D < w.heap.size := fun D hD => (Array.getElem?_eq_some_iff.1 (h D hD)).1
theorem Marks.set {w : World} {Ds : List Nat} (h : Marks w Ds) {p : Addr} (u : Value) (hp : ∃ o : Obj, w.heap[p.block]? = some o ∧ o.isCells = true) : Marks (w.setCell p u) Ds := fun D hD => by
  refine (Below.heap_setCell w p u D (fun e => ?_)).trans (h D hD)
  obtain ⟨o, ho, hc⟩ := hp
  have := h D hD
  rw [e, ho] at this; cases this; cases hc
theorem leaves_marks {F : Fence} {n : Nat} {fn : Func} {tmps : Array Value} {R : Ending → World → Prop} (b : Nat) (Φ : World → Prop) (hΦ : ∀ w D, b ≤ D → Φ w → w.heap[D]? = some (.deferred (some [])) → Φ (w.putObj D (.deferred none)))
    (hfin : ∀ w, Φ w → LeavesIn F n Tryd.prog fn tmps R [] .returning w) : ∀ (Ds : List Nat) (w : World), Ds.Nodup → (∀ D ∈ Ds, b ≤ D) → Marks w Ds → Φ w → LeavesInM F n Tryd.prog fn tmps R (Ds.map markOf) .returning w := by
  intro Ds
  induction Ds with
  | nil => intro w _ _ _ h; exact hfin w h
  | cons D Ds ih =>
    intro w hnd hb hm h
    have hD := hm D List.mem_cons_self
    rw [List.nodup_cons] at hnd
    refine ⟨by simp, .inl ⟨D, _, rfl, run_takeDeferred hD, ih _ hnd.2 (fun D' hD' => hb D' (List.mem_cons_of_mem _ hD')) (fun D' hD' => ?_) (hΦ w D (hb D List.mem_cons_self) h hD)⟩⟩
    exact (World.putObj_heap_other (fun e => hnd.1 (by rw [← e]; exact hD'))).trans (hm D' (List.mem_cons_of_mem _ hD'))
theorem own_putObj {w : World} {B D : Nat} {v : Value} {zs : List Int} (h : Own w B v zs) (hD : w.heap[D]? = some (.deferred (some []))) : Own (w.putObj D (.deferred none)) B v zs :=
  h.keptC (grownBy_putObj' w D _) (fun r e => by cases e; exact ⟨_, hD, rfl⟩)
theorem below_putObj {b : Nat} {w0 w : World} {D : Nat} (h : Below b w0 w) (hD : w.heap[D]? = some (.deferred (some []))) (hb : b ≤ D) : Below b w0 (w.putObj D (.deferred none)) :=
  h.grown (grownBy_putObj' w D _) (by have := h.size; have := (Array.getElem?_eq_some_iff.1 hD).1; omega) (fun k e => by cases e; exact hb)
theorem KpE.putObj {b g l : Nat} {w w' : World} {o : Obj} (o' : Obj) (hb : b + 1 < w.heap.size) (hg : g ≤ w.heap.size) (hl : w.heap.size ≤ l) (h : w'.heap[l]? = some o) : KpE b g w' (w'.putObj l o') := by
  have hg2 := grownBy_putObj' w' l o'
  refine ⟨hg2.size, fun p hp hps => World.cell?_of_block (hg2.block p.block hps (fun e => ?_))⟩
  injection e with e
  omega
theorem KpE.store {b g : Nat} {w : World} {p : Addr} (u : Value) (h1 : g ≤ p.block) (h2 : p.block < b) : KpE b g w (w.setCell p u) := by
  refine ⟨Nat.le_of_eq (by simp [World.setCell]), fun q hq _ => World.cell?_of_block (Below.heap_setCell w p u q.block (fun e => ?_))⟩
  omega
theorem KpE.drewN {b g : Nat} {w w' : World} (h : KpE b g w w') (k : Nat) : KpE b g w (w'.drewN k) := h
section
variable {F : Fence} {n0 : Nat} {ops : Array Oper} {rest : List Oper} {o : Oper} {a : Act} {Q : Exit → Act → World → Prop}
theorem wplI_make_int (w : World) (hg : o.guard = none) (l : Operand) (hop : o.op = Op.makeSlice 23 l l) (n : Nat) (L : Int) (hl : a.eval l = .int .i64 L) (hL : L = (n : Int)) (hn : n ≤ 2097152)
    (hK : ∀ w', Own w' w.heap.size (.slice (some ⟨w.heap.size, 0, none⟩) n n) (List.replicate n 0) → Below w.heap.size w w' → wpListIn F n0 Tryd.prog ops Q rest (a.put o.dst (.slice (some ⟨w.heap.size, 0, none⟩) n n)) w') :
    wpListIn F n0 Tryd.prog ops Q (o :: rest) a w := by
  obtain ⟨i0, hi, hz0, hz1, hz2⟩ := info_parts intInfo
  refine wpListIn_plain hg fun K hK' => ?_
  obtain ⟨w', hrun, r1, r2⟩ := run_make_full (P := Tryd.prog) w w.heap.size 23 3 i0 (.int .i64 0) 1 Tryd.underlying23 hi hz0 hz1 .i64 .i64 n (by rw [hz2]; omega) (by unfold maxLen; omega) (Nat.le_refl _)
  subst hL
  unfold Oper.wpIn
  refine ⟨?_, ?_⟩
  · simp [Oper.about, hop]
  · rw [Oper.semAt_plain F _ _ (by rw [hop]; intro c hc'; cases hc')]
    simp [execOp, hop, hl, hrun, Result.andThen]
    refine hK' _ _ (hK w' ?_ ((Below.refl _ _).grown r2 (Nat.le_refl _) (fun k hk => by cases hk)))
    rw [made_rep _ rfl] at r1
    unfold Own
    rw [List.length_replicate, List.map_replicate]
    exact r1
end
end Go.Proofs.YtdijlofcgcikjaaDoor

namespace Go.Proofs.YtdijlofcgcikjaaDoor
open Go.RowKit Go.Shelf
set_option linter.unusedVariables false

theorem grown_cell (w : World) (p : Addr) (v : Value) : w.grownBy (w.setCell p v) (some p.block) := by
  refine ⟨rfl, rfl, rfl, ?_, ?_⟩
  · simp [World.setCell]
  · intro k _ hk
    exact Below.heap_setCell _ _ _ _ (fun e => hk (by rw [e]))

theorem grown_cell_drew (w : World) (p : Addr) (v : Value) : w.grownBy (w.drew.setCell p v) (some p.block) := by
  have h := grown_cell w.drew p v
  exact ⟨h.os, h.tape, h.output, h.size, h.block⟩

theorem wpIn_oper_of {l n : Nat} {P : Program} {o : Oper} {a : Act} {K : Act → World → Prop} {Q : Exit → Act → World → Prop} {w : World} (hd : ∀ c, o.op ≠ .defer c) (h : o.wp P a w K Q) : o.wpIn (Fence.wide.inRound l) n P a w K Q := by
  unfold Oper.wp at h
  unfold Oper.wpIn
  refine ⟨fun _ _ => trivial, ?_⟩
  rw [Oper.semAt_eq _ _ _ hd]
  generalize (execOp a.eval o).run P w = r at *
  cases r with
  | ok x w' =>
    cases x <;> simp only [Oper.upon, Oper.uponIn] at h ⊢
    case value => exact h
    case skip => exact h
    case defer => exact h
    case enter f args => exact ⟨fun h0 => (by cases h0), CallsIn.inRound l (callsIn_wide.2 h)⟩
    case row row args => exact ⟨fun h0 => (by cases h0), fun c cs _ => let ⟨v, w'', r, s⟩ := h c cs; ⟨v, w'', r, stepsIn_wide.2 s⟩⟩
  | halt x w' => cases x <;> simp only [Oper.upon, Oper.uponIn] at h ⊢ <;> exact h

theorem wpOpIn_of {l n : Nat} {P : Program} {ops : Array Oper} {i : Nat} {a : Act} {K K' : Act → World → Prop} {Q : Exit → Act → World → Prop} {w : World} (hd : ∀ (o : Oper), ops[i]? = some o → ∀ c, o.op ≠ .defer c) (hq : ¬ LetsOut Q)
    (hk : ∀ a w, K a w → K' a w) (h : wpOp P ops Q i K a w) : wpOpIn (Fence.wide.inRound l) n P ops Q i K' a w := by
  unfold wpOp at h
  unfold wpOpIn
  split
  · rename_i ho; simp only [ho] at h; exact hk _ _ h
  · rename_i o ho
    simp only [ho] at h
    split
    · rename_i hw
      simp only [hw, if_true] at h
      rcases h with h | ⟨-, h⟩
      · exact Oper.wpIn_mono hk (wpIn_oper_of (hd o ho) h)
      · exact absurd h hq
    · rename_i hw
      simp only [hw] at h
      exact ⟨fun _ _ => trivial, hk _ _ h⟩

theorem wpAnyIn_of {l n : Nat} {P : Program} {md : Region.Mode} {ops : Array Oper} {Q : Exit → Act → World → Prop} (hd : ∀ (i : Nat) (o : Oper), ops[i]? = some o → ∀ c, o.op ≠ .defer c) (hq : ¬ LetsOut Q) :
    ∀ (fuel : Nat) (listed : Array Bool) (a : Act) (w : World), wpAny P md ops Q fuel listed a w → wpAnyIn (Fence.wide.inRound l) n P md ops Q fuel listed a w
  | 0, _, _, _, h => h
  | fuel + 1, _, _, _, h => ⟨h.1, fun i hi => wpOpIn_of (hd i) hq (fun a' w' h' => wpAnyIn_of hd hq fuel _ a' w' h') (h.2 i hi)⟩

def noDefer (ops : Array Oper) : Bool := ops.toList.all fun o => match o.op with | .defer _ => false | _ => true
theorem noDefer_spec {ops : Array Oper} (h : noDefer ops = true) (i : Nat) (o : Oper) (ho : ops[i]? = some o) (c : Call) : o.op ≠ .defer c := by
  intro e
  unfold noDefer at h
  rw [List.all_eq_true] at h
  have := h o (by obtain ⟨hi, rfl⟩ := Array.getElem?_eq_some_iff.1 ho; simp)
  rw [e] at this
  cases this

theorem wpIn_region_held {l n id : Nat} {P : Program} {ops : Array Oper} {Q : Exit → Act → World → Prop} {a : Act} {w : World} (S : World → Prop) (hm : P.follows .mixedOrders = true) (hd : noDefer ops = true) (hq : ¬ LetsOut Q)
    (hS : S w.drew) (h : S w.drew → wpAnyH P .any ops Q S ops.size (Array.replicate ops.size false) a w.drew) : (Code.region id ops true).wpIn (Fence.wide.inRound l) n P Q a w :=
  wpIn_region_any hm (wpAnyIn_of (noDefer_spec hd) hq _ _ _ _ (wpAny_of_held _ _ _ _ (h hS)))

/-- the first k operations leave the world as it is, in whatever order; the others come behind them, one after the other -/
theorem wpIn_region_tail {l n id : Nat} {P : Program} {ops : List Oper} {Q : Exit → Act → World → Prop} {a : Act} {w : World} (k : Nat) (hm : P.follows .mixedOrders = true) (hd : noDefer ops.toArray = true) (hq : ¬ LetsOut Q) (hB : Region.lexTailB .any ops.toArray k = true)
    (h : wpStill P ops.toArray w.drew (fun a' => wpList P ops.toArray Q (ops.drop k) a' w.drew) (ops.take k) a) : (Code.region id ops.toArray true).wpIn (Fence.wide.inRound l) n P Q a w := by
  refine wpIn_region_any hm (wpAnyIn_of (noDefer_spec hd) hq _ _ _ _ ?_)
  unfold Region.lexTailB at hB
  rw [Bool.and_eq_true, Bool.and_eq_true, Bool.and_eq_true, Bool.and_eq_true, decide_eq_true_eq] at hB
  obtain ⟨⟨⟨⟨b1, b2⟩, b3⟩, b4⟩, b5⟩ := hB
  have hk : k < ops.length := by rwa [List.size_toArray] at b2
  have hlen : (ops.take k).length = k := by rw [List.length_take]; omega
  have hdl : (ops.drop k).length = ops.toArray.size - k := by rw [List.length_drop, List.size_toArray]
  have H := wpAnyL_lex (md := .any) (g := ops.toArray.size - k) b1 b3 b4 b2 (ops.take k) 0 (Array.replicate ops.toArray.size false) a
    (fun j hj => by rw [hlen] at hj; rw [Nat.zero_add, List.getElem?_take_of_lt hj, List.getElem?_toArray]) (by rw [hlen, Nat.zero_add])
    ⟨by rw [Array.size_replicate], fun j oj _ hl => (by rw [getD_replicate_false] at hl; cases hl), fun t _ ht => getD_in (by rw [Array.size_replicate]; exact ht) (getD_replicate_false _ _)⟩
    (by rw [hlen]; exact b5) h
  have G := wpAny_of_head (Q' := Q) (g := ops.toArray.size - k) (fun listed a' hL => (by
    have t := wpAny_of_seq (md := .any) (Q' := Q) (ops.drop k) k listed a' w.drew (fun j => by rw [List.getElem?_drop, List.getElem?_toArray]) (by rw [hdl]; exact hL.1) hL.2
    rwa [hdl] at t)) _ _ _ H
  rw [hlen, Nat.add_sub_cancel' (Nat.le_of_lt b2)] at G
  exact G
end Go.Proofs.YtdijlofcgcikjaaDoor
