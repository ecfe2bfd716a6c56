/-
  Contracts and plain mathematics (Cur, Cm, EachM, Bridge, Each, Map, Counts, WaysM, WaysB, DfsM, DfsN), each with its conditions in its own statement.
-/
import Derived.Test.YtobakeahbgodbaaGreatPkA
import Derived.Outline
import Derived.Deep.RegionWith
import Derived.OrdersIn
import Derived.OrdersHeld
import Derived.StillTailTactics
import Derived.DeepKeys3
namespace Go.Proofs.YtobakeahbgodbaaGreat
open Go.RowKit
set_option linter.unusedVariables false

/-- the bytes with the address A, below block b -/
def BytesB (w : World) (b : Nat) (A : Option Addr) (zs : List Int) : Prop :=
  0 < zs.length → ∃ ad, A = some ad ∧ ad.block < b ∧ ∀ j, j < zs.length → w.cell? (ad.add j) = some (.int .u8 (zs.getD j 0))
def CurAt (w : World) (g : Nat) (A : Option Addr) (n c : Nat) (i h : Int) (bs : List Int) : Prop :=
  w.heap[g]? = some (.cells #[.slice A n c, .int .i64 i, .int .i64 h] 97 (0, 0)) ∧ BytesB w g A bs ∧ bs.length = n ∧ n ≤ maxLen ∧ 0 ≤ i ∧ i ≤ n ∧ ∀ b ∈ bs, 0 ≤ b ∧ b ≤ 255
def Cur (w : World) (g : Nat) : Prop := ∃ A n c i h bs, CurAt w g A n c i h bs
/-- only the cursor's block has turned, nothing is new -/
def Turned (w w' : World) (g : Nat) : Prop := w.grownBy w' (some g) ∧ w'.heap.size = w.heap.size
theorem Turned.refl (w : World) (g : Nat) : Turned w w g := ⟨World.grownBy.refl w _, rfl⟩
theorem Turned.trans {a b c : World} {g : Nat} (h : Turned a b g) (k : Turned b c g) : Turned a c g :=
  ⟨⟨k.1.os.trans h.1.os, k.1.tape.trans h.1.tape, k.1.output.trans h.1.output, Nat.le_trans h.1.size k.1.size, fun i hi hne => (k.1.block i (by rw [h.2]; exact hi) hne).trans (h.1.block i hi hne)⟩, k.2.trans h.2⟩

theorem cell3 {w : World} {g : Nat} {a b c : Value} {t : TypeId} (h : w.heap[g]? = some (.cells #[a, b, c] t (0, 0))) :
    w.cell? ⟨g, 0, none⟩ = some a ∧ w.cell? ⟨g, 1, none⟩ = some b ∧ w.cell? ⟨g, 2, none⟩ = some c ∧ ∀ i, w.frozen? ⟨g, i, none⟩ = false := by
  refine ⟨?_, ?_, ?_, fun i => ?_⟩
  · rw [cell_of_row w g 0 _ t (0, 0) h]; rfl
  · rw [cell_of_row w g 1 _ t (0, 0) h]; rfl
  · rw [cell_of_row w g 2 _ t (0, 0) h]; rfl
  · exact frozen_of_row w g i _ t h

theorem and255 (z : Int) : 0 ≤ bits .and .i64 z 255 ∧ bits .and .i64 z 255 ≤ 255 := by
  have h : (BitVec.ofInt 64 z &&& BitVec.ofInt 64 255).toNat ≤ 255 := by
    rw [BitVec.toNat_and]
    exact Nat.le_trans Nat.and_le_right (by decide)
  have e : bits .and .i64 z 255 = IntKind.i64.wrap ((BitVec.ofInt 64 z &&& BitVec.ofInt 64 255).toNat : Int) := rfl
  rw [e, IntKind.wrap_i64]
  omega

section
variable {w : World} {g n c : Nat} {A : Option Addr} {i h : Int} {bs : List Int}
theorem BytesB.keep {w w' : World} {b : Nat} {A : Option Addr} {zs : List Int} (h : BytesB w b A zs) (hk : ∀ p : Addr, p.block < b → w'.cell? p = w.cell? p) : BytesB w' b A zs := fun hn => by
  obtain ⟨ad, e, hl, hc⟩ := h hn
  exact ⟨ad, e, hl, fun j hj => (hk _ (by rw [block_add]; exact hl)).trans (hc j hj)⟩
theorem CurAt.bytes_set (hb : BytesB w g A bs) (j : Nat) (u : Value) : BytesB (w.setCell ⟨g, j, none⟩ u) g A bs :=
  hb.keep fun p hp => World.cell?_setCell_other w ⟨g, j, none⟩ p u (fun e => by subst e; exact Nat.lt_irrefl _ hp)
theorem CurAt.seth (hc : CurAt w g A n c i h bs) (h' : Int) : CurAt (w.setCell ⟨g, 2, none⟩ (.int .i64 h')) g A n c i h' bs := by
  obtain ⟨hh, hB, rest⟩ := hc
  exact ⟨by rw [heap_setCell_same w g 2 _ _ _ hh]; rfl, CurAt.bytes_set hB 2 _, rest⟩
theorem CurAt.seti (hc : CurAt w g A n c i h bs) (i' : Int) (h0 : 0 ≤ i') (h1 : i' ≤ n) : CurAt (w.setCell ⟨g, 1, none⟩ (.int .i64 i')) g A n c i' h bs := by
  obtain ⟨hh, hB, hn, hm, _, _, hb⟩ := hc
  exact ⟨by rw [heap_setCell_same w g 1 _ _ _ hh]; rfl, CurAt.bytes_set hB 1 _, hn, hm, h0, h1, hb⟩
theorem CurAt.drewN (hc : CurAt w g A n c i h bs) (q : Nat) : CurAt (w.drewN q) g A n c i h bs := hc
theorem Turned.set (w : World) (g j : Nat) (u : Value) : Turned w (w.setCell ⟨g, j, none⟩ u) g :=
  ⟨grown_set (World.grownBy.refl w _) j u, by simp [World.setCell]⟩
theorem Turned.drewN {a : World} (ht : Turned a w g) (q : Nat) : Turned a (w.drewN q) g := ⟨⟨ht.1.os, ht.1.tape, ht.1.output, ht.1.size, ht.1.block⟩, ht.2⟩
end

set_option maxHeartbeats 1600000 in
theorem l01Byte_any (g : Nat) (w : World) (hc : Cur w g) :
    Calls Tryz.prog 66 #[.pointer (some ⟨g, 0, none⟩)] w fun e w' => ∃ x : Int, e = .returned (.int .i64 x) ∧ 0 ≤ x ∧ x ≤ 255 ∧ Cur w' g ∧ Turned w w' g := by
  obtain ⟨A, n, c, i, h, bs, hcur⟩ := hc
  have HC := Lib.hid hcur
  obtain ⟨hh, hB, hn, hm, hi0, hi1, hbs⟩ := hcur
  obtain ⟨c0, c1, c2, hf⟩ := cell3 hh
  have f0 := hf 0; have f1 := hf 1; have f2 := hf 2
  clear hf hbs hh
  unfold maxLen at hm
  have Hn := Lib.hid hn; clear hn
  by_cases hlt : i < n
  · obtain ⟨k, rfl⟩ := Int.eq_ofNat_of_zero_le hi0
    have hlk : k < n := by omega
    obtain ⟨ad, rfl, hab, hcell⟩ := hB (by rw [Hn.out]; omega)
    have hcb := hcell k (by rw [Hn.out]; exact hlk)
    obtain ⟨b, hb⟩ : ∃ b, bs.getD k 0 = b := ⟨_, rfl⟩
    rw [hb] at hcb
    have hne : (⟨g, 2, none⟩ : Addr) ≠ ad.add k := fun e => by have := congrArg Addr.block e; rw [block_add] at this; simp at this; omega
    have hcb2 : ∀ u, (w.setCell ⟨g, 2, none⟩ u).cell? (ad.add k) = some (.int .u8 b) := fun u => (World.cell?_setCell_other w ⟨g, 2, none⟩ (ad.add k) u hne).trans hcb
    clear hcell hcb hne hb hB hab
    go_enter Tryz.func66, Tryz.ntmps66
    go_wp2
    go_quiet (fail)
    go_wp2
    go_quiet (fail)
    go_wp2
    go_quiet (fail)
    go_wp2
    go_ret
    exact ⟨_, rfl, (and255 _).1, (and255 _).2, ⟨_, _, _, _, _, _, ((HC.out.seth _).drewN _).seti _ (by omega) (by omega)⟩, ((Turned.set _ _ _ _).drewN _).trans (Turned.set _ _ _ _)⟩
  · clear hB
    go_enter Tryz.func66, Tryz.ntmps66
    go_wp2
    go_quiet (fail)
    go_wp2
    go_quiet (fail)
    go_wp2
    go_ret
    exact ⟨_, rfl, (and255 _).1, (and255 _).2, ⟨_, _, _, _, _, _, (((HC.out.seth _).drewN _).drewN _)⟩, (((Turned.set _ _ _ _).drewN _).drewN _)⟩

set_option maxHeartbeats 800000 in
theorem l01Below_any (g : Nat) (m : Int) (w : World) (hc : Cur w g) :
    Calls Tryz.prog 32 #[.pointer (some ⟨g, 0, none⟩), .int .i64 m] w fun e w' => ∃ x : Int, e = .returned (.int .i64 x) ∧ 0 ≤ x ∧ (0 < m → x < m) ∧ Cur w' g ∧ Turned w w' g := by
  have HC := Lib.hid hc; clear hc
  by_cases h0 : m ≤ 0
  · go_enter Tryz.func32, Tryz.ntmps32
    go_wp2
    go_ret
    exact ⟨0, rfl, by omega, by omega, HC.out, Turned.refl _ _⟩
  by_cases h1 : m ≤ 256
  · go_enter Tryz.func32, Tryz.ntmps32
    go_wp2_with (go_at_call 66; refine (l01Byte_any g _ HC.out).mono ?_; rintro e w1 ⟨x, rfl, hx0, hx1, hc1, ht1⟩)
    go_ret
    exact ⟨x % m, rfl, Int.emod_nonneg _ (by omega), fun _ => Int.emod_lt_of_pos _ (by omega), hc1, ht1⟩
  · go_enter Tryz.func32, Tryz.ntmps32
    go_wp2_with fail
    refine (l01Byte_any g _ HC.out).mono ?_
    rintro e w1 ⟨x, rfl, hx0, hx1, hc1, ht1⟩
    go_wp2_with fail
    refine (l01Byte_any g _ hc1).mono ?_
    rintro e w2 ⟨y, rfl, hy0, hy1, hc2, ht2⟩
    go_wp2_with fail
    refine (l01Byte_any g _ hc2).mono ?_
    rintro e w3 ⟨z, rfl, hz0, hz1, hc3, ht3⟩
    go_wp2_with fail
    refine (l01Byte_any g _ hc3).mono ?_
    rintro e w4 ⟨u, rfl, hu0, hu1, hc4, ht4⟩
    go_wp2
    go_ret
    exact ⟨(x * 16777216 + y * 65536 + z * 256 + u) % m, rfl, Int.emod_nonneg _ (by omega), fun _ => Int.emod_lt_of_pos _ (by omega), hc4, ((ht1.trans ht2).trans ht3).trans ht4⟩

theorem l01Once_any (g : Nat) (m : Int) (w : World) (hc : Cur w g) :
    Calls Tryz.prog 64 #[.pointer (some ⟨g, 0, none⟩), .int .i64 m] w fun e w' => ∃ b : Bool, e = .returned (.bool b) ∧ Cur w' g ∧ Turned w w' g := by
  have HC := Lib.hid hc; clear hc
  go_enter Tryz.func64, Tryz.ntmps64
  go_wp2_with (go_at_call 32; refine (l01Below_any g _ _ HC.out).mono ?_; rintro e w1 ⟨x, rfl, hx0, hx1, hc1, ht1⟩)
  go_ret
  exact ⟨_, rfl, hc1, ht1⟩

/-- the slice of bytes with the address A reads as zs -/
def Bytes (w : World) (A : Option Addr) (zs : List Int) : Prop :=
  0 < zs.length → ∃ ad, A = some ad ∧ ∀ j, j < zs.length → w.cell? (ad.add j) = some (.int .u8 (zs.getD j 0))
theorem Bytes.nil (w : World) (A : Option Addr) : Bytes w A [] := fun h => absurd h (by simp)
theorem Bytes.of_row {w : World} {x : Addr} {zs : List Int} {n : Nat} (hn : n ≤ zs.length) (hc : ∀ i, i < zs.length → w.cell? (x.add i) = some (.int .u8 (zs.getD i 0))) : Bytes w (some x) (zs.take n) := by
  intro _
  refine ⟨x, rfl, fun j hj => ?_⟩
  rw [List.length_take] at hj
  rw [hc j (by omega)]
  simp only [List.getD, List.getElem?_take]
  rw [if_pos (by omega)]
theorem Bytes.toB {w : World} {A : Option Addr} {zs : List Int} (h : Bytes w A zs) : BytesB w w.heap.size A zs := fun hn => by
  obtain ⟨ad, e, hc⟩ := h hn
  exact ⟨ad, e, by have := World.block_lt_of_cell? _ _ (hc 0 hn); rwa [block_add] at this, hc⟩
theorem u8_bd {z : Int} (h : (Lit.int .u8 z).wf = true) : 0 ≤ z ∧ z ≤ 255 := by
  simp [Lit.wf, IntKind.min, IntKind.max, IntKind.signed, IntKind.bits] at h
  omega

set_option maxRecDepth 100000 in
set_option maxHeartbeats 800000 in
theorem l01New_any (A : Option Addr) (n c : Nat) (bs : List Int) (w : World) (hn : bs.length = n) (hm : n ≤ maxLen) (h : Bytes w A bs) (wf : ∀ z ∈ bs, (Lit.int .u8 z).wf = true) :
    Calls Tryz.prog 28 #[.slice A n c] w fun e w' => e = .returned (.pointer (some ⟨w.heap.size, 0, none⟩)) ∧ Cur w' w.heap.size ∧ Below w.heap.size w w' ∧ w'.heap.size = w.heap.size + 1 := by
  have HB := Lib.hid h.toB
  have Hn := Lib.hid hn; clear hn
  have Hwf := Lib.hid wf; clear wf
  have hm0 := hm
  unfold maxLen at hm
  go_enter Tryz.func28, Tryz.ntmps28
  go_wp2
  go_loop [3, 4] (fun hv i => ∃ k : Nat, ∃ q : Int, k ≤ n ∧ k ≤ 4000 ∧ i = .int .i64 k ∧ hv = .int .i64 q) (fun _ i => n - (intOf i).toNat)
  case atStart => exact ⟨0, _, Nat.zero_le _, Nat.zero_le _, rfl, rfl⟩
  case round =>
    obtain ⟨k, q, hk, hk4, rfl, rfl⟩ := hrel
    have fin : ∀ (q : Int), Cur (w.alloc (.cells #[.slice A n c, .int .i64 0, .int .i64 q] 97)) w.heap.size := fun q =>
      ⟨A, n, c, 0, q, bs, heap_alloc_new w _, HB.out.keep fun p hp => World.cell?_alloc_lt w _ p hp, Hn.out, hm0, by omega, by omega, fun b hb => u8_bd (Hwf.out b hb)⟩
    have FIN := Lib.hid fin; clear fin
    by_cases hlt : k < n
    · by_cases h4 : k < 4000
      · obtain ⟨ad, rfl, hc⟩ := h (by rw [Hn.out]; omega)
        have hck := hc k (by rw [Hn.out]; exact hlt)
        obtain ⟨b, hb⟩ : ∃ b, bs.getD k 0 = b := ⟨_, rfl⟩
        rw [hb] at hck
        clear hb hc
        go_wp2
        go_round
        case rel => exact ⟨k + 1, _, by omega, by omega, by go_num, rfl⟩
        case measure => simp [intOf]; omega
      · go_wp2
        go_ret
        exact ⟨rfl, FIN.out _, (Below.refl _ _).alloc (Nat.le_refl _) _, by simp⟩
    · go_wp2
      go_ret
      exact ⟨rfl, FIN.out _, (Below.refl _ _).alloc (Nat.le_refl _) _, by simp⟩

set_option maxHeartbeats 800000 in
/-- l01Int: one of the list's numbers; the list is not empty and lies elsewhere -/
theorem l01Int_any (g : Nat) (A : Option Addr) (n c b : Nat) (zs : List Int) (w : World) (hc : Cur w g) (hn : zs.length = n) (hm : n ≤ maxLen) (hp : 0 < n) (h : IntsB w b A zs) (hne : ∀ ad, A = some ad → ad.block ≠ g) :
    Calls Tryz.prog 63 #[.pointer (some ⟨g, 0, none⟩), .slice A n c] w fun e w' => ∃ x : Int, e = .returned (.int .i64 x) ∧ x ∈ zs ∧ Cur w' g ∧ Turned w w' g := by
  have HC := Lib.hid hc; clear hc
  have Hn := Lib.hid hn; clear hn
  unfold maxLen at hm
  obtain ⟨ad, rfl, hlt, hcell⟩ := h (by rw [Hn.out]; exact hp)
  have Hcell := Lib.hid hcell; clear hcell
  have hne' := hne ad rfl
  clear hne
  go_enter Tryz.func63, Tryz.ntmps63
  go_wp2_with fail
  refine (l01Below_any g _ _ HC.out).mono ?_
  rintro e w1 ⟨x, rfl, hx0, hx1, hc1, ht1⟩
  obtain ⟨k, rfl⟩ := Int.eq_ofNat_of_zero_le hx0
  have hk : k < n := by have := hx1 (by omega); omega
  have hck : w1.cell? (ad.add k) = some (.int .i64 (zs.getD k 0)) := ht1.1.cell (Hcell.out k (by rw [Hn.out]; exact hk)) (by rw [block_add]; intro e; injection e with e; exact hne' e)
  have HT := Lib.hid ht1
  have HC1 := Lib.hid hc1
  obtain ⟨y, hy⟩ : ∃ y, zs.getD k 0 = y := ⟨_, rfl⟩
  rw [hy] at hck
  have HY := Lib.hid hy
  clear hx1 ht1 hc1 hy
  go_wp2
  go_ret
  refine ⟨y, rfl, ?_, HC1.out, HT.out⟩
  have := HY.out
  have hkz : k < zs.length := by rw [Hn.out]; exact hk
  rw [← this]
  simp only [List.getD, List.getElem?_eq_getElem hkz, Option.getD_some]
  exact List.getElem_mem hkz
end Go.Proofs.YtobakeahbgodbaaGreat

namespace Go.Proofs.YtobakeahbgodbaaGreat
open Go.RowKit
set_option linter.unusedVariables false

/-- the cursor's block has turned, and new ones may have come -/
def Moved (w w' : World) (g : Nat) : Prop := w.grownBy w' (some g)
theorem Turned.moved {w w' : World} {g : Nat} (h : Turned w w' g) : Moved w w' g := h.1
theorem Moved.trans {a b c : World} {g : Nat} (h : Moved a b g) (k : Moved b c g) : Moved a c g :=
  ⟨k.os.trans h.os, k.tape.trans h.tape, k.output.trans h.output, Nat.le_trans h.size k.size, fun i hi hne => (k.block i (Nat.lt_of_lt_of_le hi h.size) hne).trans (h.block i hi hne)⟩
theorem Moved.refl (w : World) (g : Nat) : Moved w w g := World.grownBy.refl w _
theorem Moved.alloc (w : World) (o : Obj) (g : Nat) : Moved w (w.alloc o) g := World.grownBy_alloc w o _
theorem Moved.drewN {a w : World} {g : Nat} (h : Moved a w g) (n : Nat) : Moved a (w.drewN n) g := ⟨h.os, h.tape, h.output, h.size, h.block⟩
theorem Moved.drew {a w : World} {g : Nat} (h : Moved a w g) : Moved a w.drew g := ⟨h.os, h.tape, h.output, h.size, h.block⟩
theorem Moved.below {a w : World} {g B : Nat} (h : Moved a w g) (hB : B ≤ g) (hg : g < a.heap.size) : Below B a w :=
  ⟨h.os, h.tape, h.output, h.size, fun k hk => h.block k (by omega) (fun e => by injection e with e; omega)⟩
theorem Cur.alloc {w : World} {g : Nat} (h : Cur w g) (o : Obj) : Cur (w.alloc o) g := by
  obtain ⟨A, n, c, i, hv, bs, hh, hB, rest⟩ := h
  have hg := (Array.getElem?_eq_some_iff.1 hh).1
  exact ⟨A, n, c, i, hv, bs, (Below.heap_alloc w o g hg).trans hh, hB.keep fun p hp => World.cell?_alloc_lt w o p (by omega), rest⟩
theorem Cur.lt {w : World} {g : Nat} (h : Cur w g) : g < w.heap.size := by
  obtain ⟨A, n, c, i, hv, bs, hh, _⟩ := h
  exact (Array.getElem?_eq_some_iff.1 hh).1
theorem Cur.below {w w' : World} {g : Nat} (h : Cur w g) (hb : Below w.heap.size w w') : Cur w' g := by
  have hg := h.lt
  obtain ⟨A, n, c, i, hv, bs, hh, hB, rest⟩ := h
  exact ⟨A, n, c, i, hv, bs, (hb.block g hg).trans hh, hB.keep fun p hp => hb.cell (by omega), rest⟩
theorem Cur.drew {w : World} {g : Nat} (h : Cur w g) : Cur w.drew g := h

/-- the cursor is whole, and since w0 only it has turned -/
def CM (w0 w : World) (g : Nat) : Prop := Cur w g ∧ Moved w0 w g
theorem CM.of {w : World} {g : Nat} (h : Cur w g) : CM w w g := ⟨h, Moved.refl _ _⟩
theorem CM.drew {w0 w : World} {g : Nat} (h : CM w0 w g) : CM w0 w.drew g := ⟨h.1, h.2.drew⟩
theorem CM.alloc {w0 w : World} {g : Nat} (h : CM w0 w g) (o : Obj) : CM w0 (w.alloc o) g := ⟨h.1.alloc o, h.2.trans (Moved.alloc _ _ _)⟩
theorem CM.step {w0 w w' : World} {g : Nat} (h : CM w0 w g) (hb : Below w.heap.size w w') : CM w0 w' g := ⟨h.1.below hb, h.2.trans ⟨hb.os, hb.tape, hb.output, hb.size, fun i hi _ => hb.block i hi⟩⟩
theorem CM.lt {w0 w : World} {g : Nat} (h : CM w0 w g) : g < w.heap.size := h.1.lt
theorem below_cm (w0 : World) (g : Nat) (m : Int) (w : World) (hm : 0 < m) (hc : CM w0 w g) :
    Calls Tryz.prog 32 #[.pointer (some ⟨g, 0, none⟩), .int .i64 m] w fun e w' => ∃ x : Nat, e = .returned (.int .i64 x) ∧ (x : Int) < m ∧ CM w0 w' g ∧ Moved w w' g := by
  refine (l01Below_any g m w hc.1).mono ?_
  rintro e w' ⟨x, rfl, h0, h1, hc', ht⟩
  obtain ⟨k, rfl⟩ := Int.eq_ofNat_of_zero_le h0
  exact ⟨k, rfl, h1 hm, ⟨hc', hc.2.trans ht.moved⟩, ht.moved⟩
theorem once_cm (w0 : World) (g : Nat) (m : Int) (w : World) (hc : CM w0 w g) :
    Calls Tryz.prog 64 #[.pointer (some ⟨g, 0, none⟩), .int .i64 m] w fun e w' => ∃ b : Bool, e = .returned (.bool b) ∧ CM w0 w' g ∧ Moved w w' g := by
  refine (l01Once_any g m w hc.1).mono ?_
  rintro e w' ⟨b, rfl, hc', ht⟩
  exact ⟨b, rfl, ⟨hc', hc.2.trans ht.moved⟩, ht.moved⟩

theorem lit_ints (w : World) (zs : List Int) : IntsB (w.alloc (.cells (zs.map (Value.int .i64)).toArray 3)) (w.heap.size + 1) (some ⟨w.heap.size, 0, none⟩) zs := fun _ =>
  ⟨_, rfl, by simp, fun j hj => by
    rw [add_zero_at, World.cell?_alloc_at _ _ _ _ rfl, List.getElem?_toArray, List.getElem?_map, List.getElem?_eq_getElem hj]
    simp [List.getD, hj]⟩

theorem moved_below {w w' : World} {g : Nat} (hb : Below w.heap.size w w') : Moved w w' g := ⟨hb.os, hb.tape, hb.output, hb.size, fun i hi _ => hb.block i hi⟩
theorem own_take {w : World} {B n c k : Nat} {A : Option Addr} {zs : List Int} (h : Own w B (.slice A n c) zs) (hn : zs.length = n) (hk : k ≤ n) (hA : ∃ ad, A = some ad) : Own w B (.slice A k c) (zs.take k) := by
  obtain ⟨ad, rfl⟩ := hA
  rcases h.2 with ⟨hv, _⟩ | ⟨g, cap, cur, hv, hg, hh, hnc, hcm, hcs, ht⟩
  · cases hv
  · injection hv with h1 h2 h3
    subst h3
    injection h1 with h1
    subst h1
    rw [Nat.mul_one] at ht
    refine ⟨by simp, .inr ⟨g, c, cur, by rw [List.length_take, Nat.min_eq_left (by omega)], hg, hh, by rw [List.length_take]; omega, hcm, hcs, ?_⟩⟩
    rw [List.length_take, Nat.mul_one, List.map_take, Nat.min_eq_left (by omega), ← ht, List.take_take, Nat.min_eq_left (by omega)]
theorem own_form2 {w : World} {B : Nat} {v : Value} {zs : List Int} (h : Own w B v zs) (hp : 0 < zs.length) :
    ∃ g m c, v = .slice (some ⟨g, 0, none⟩) m c ∧ zs.length = m ∧ B ≤ g ∧ m ≤ c ∧ c ≤ maxLen ∧ Own w B (.slice (some ⟨g, 0, none⟩) m c) zs ∧ w.ownsRow B 3 1 (.slice (some ⟨g, 0, none⟩) m c) m (zs.map (Value.int .i64)) := by
  have h0 := h
  unfold Own at h0
  rcases h.2 with ⟨_, h2⟩ | ⟨g, cap, cur, rfl, hg, hh, hnc, hcm, _⟩
  · omega
  · exact ⟨g, zs.length, cap, rfl, rfl, hg, hnc, hcm, h, h0⟩

theorem Moved.set_new {a w : World} {g : Nat} (h : Moved a w g) {p : Addr} (hp : a.heap.size ≤ p.block) (u : Value) : Moved a (w.setCell p u) g :=
  ⟨h.os, h.tape, h.output, by simpa [World.setCell] using h.size, fun i hi hne => (Below.heap_setCell w p u i (by omega)).trans (h.block i hi hne)⟩
theorem Cur.set_other {w : World} {g : Nat} (h : Cur w g) {p : Addr} (hp : g < p.block) (u : Value) : Cur (w.setCell p u) g := by
  obtain ⟨A, n, cc, i, hv, bs, hh, hB, rest⟩ := h
  exact ⟨A, n, cc, i, hv, bs, (Below.heap_setCell _ _ _ _ (by omega)).trans hh, hB.keep fun q hq => World.cell?_setCell_other _ p q _ (fun e => by subst e; omega), rest⟩
theorem Cur.belowB {w w' : World} {g B : Nat} (h : Cur w g) (hb : Below B w w') (hg : g < B) : Cur w' g := by
  obtain ⟨A, n, c, i, hv, bs, hh, hB, rest⟩ := h
  exact ⟨A, n, c, i, hv, bs, (hb.block g hg).trans hh, hB.keep fun p hp => hb.cell (by omega), rest⟩
theorem Moved.below_base {a w w' : World} {g B : Nat} (h : Moved a w g) (hb : Below B w w') (hB : a.heap.size ≤ B) : Moved a w' g :=
  ⟨hb.os.trans h.os, hb.tape.trans h.tape, hb.output.trans h.output, Nat.le_trans h.size hb.size, fun i hi hne => (hb.block i (by omega)).trans (h.block i hi hne)⟩
/-- storing into a row of the call's own -/
theorem own_store {w : World} {B g j m c : Nat} {zs : List Int} (h : Own w B (.slice (some ⟨g, 0, none⟩) m c) zs) (hm : zs.length = m) (hj : j < m) :
    (∃ y, w.cell? ⟨g, j, none⟩ = some (.int .i64 y)) ∧ w.frozen? ⟨g, j, none⟩ = false ∧ ∀ x, Own (w.setCell ⟨g, j, none⟩ (.int .i64 x)) B (.slice (some ⟨g, 0, none⟩) m c) (zs.set j x) := by
  unfold Own at *
  rw [hm] at h
  refine ⟨⟨zs.getD j 0, (h.cellAt j (by omega)).trans ?_⟩, h.frozenAt j, fun x => ?_⟩
  · rw [List.getElem?_map, List.getElem?_eq_getElem (by omega)]
    simp [List.getD, show j < zs.length by omega]
  · rw [List.length_set, hm, List.map_set]
    exact (h.stored j _).1

theorem cm_below {w w1 w' : World} (hb : Below w.heap.size w w1) (hs : w1.heap.size = w.heap.size + 1) (hc : CM w1 w' w.heap.size) : Below w.heap.size w w' :=
  hb.trans (hc.2.below (Nat.le_refl _) (by omega))
theorem CM.set {w0 w : World} {g : Nat} (h : CM w0 w g) {p : Addr} (hp : w0.heap.size ≤ p.block) (hg : g < w0.heap.size) (u : Value) : CM w0 (w.setCell p u) g :=
  ⟨h.1.set_other (by omega) u, h.2.set_new hp u⟩
theorem CM.belowB {w0 w w' : World} {g B : Nat} (h : CM w0 w g) (hb : Below B w w') (hB : w0.heap.size ≤ B) (hg : g < w0.heap.size) : CM w0 w' g :=
  ⟨h.1.belowB hb (by omega), h.2.below_base hb hB⟩
theorem CM.trans {a b c : World} {g : Nat} (h : CM a b g) (k : CM b c g) : CM a c g := ⟨k.1, h.2.trans k.2⟩
/-- l01Int at a list that was just laid -/
theorem int_cm (w0 : World) (g n c : Nat) (zs : List Int) (w : World) (hc : CM w0 w g) (hn : zs.length = n) (hp : 0 < n) (hm : n ≤ 1000) :
    Calls Tryz.prog 63 #[.pointer (some ⟨g, 0, none⟩), .slice (some ⟨w.heap.size, 0, none⟩) n c] (w.alloc (.cells (zs.map (Value.int .i64)).toArray 3)) fun e w' => ∃ x : Int, e = .returned (.int .i64 x) ∧ CM w0 w' g ∧ CM w w' g := by
  refine (l01Int_any g _ n c (w.heap.size + 1) zs _ (hc.1.alloc _) hn (by unfold maxLen; omega) hp (lit_ints w zs) (fun ad had => by injection had with had; subst had; have := hc.1.lt; simp; omega)).mono ?_
  rintro e w2 ⟨x, rfl, hx, hc2, ht2⟩
  have hm2 : Moved w w2 g := (Moved.alloc w _ g).trans ht2.moved
  exact ⟨x, rfl, ⟨hc2, hc.2.trans hm2⟩, ⟨hc2, hm2⟩⟩
end Go.Proofs.YtobakeahbgodbaaGreat

namespace Go.Proofs.YtobakeahbgodbaaGreat
open Go.RowKit
set_option linter.unusedVariables false

/-- the numbers for lines that begin with word i: none, and then add for each end in p, given the numbers r behind -/
def accE (add : Int → Nat → Nat → Int → Int) (z : Int) (i : Nat) (r : List Int) (es : List Nat) : Int := es.foldl (fun acc q => add acc i q (r.getD q 0)) z
theorem accE_snoc (add : Int → Nat → Nat → Int → Int) (z : Int) (i : Nat) (r : List Int) (es : List Nat) (q : Nat) : accE add z i r (es ++ [q]) = add (accE add z i r es) i q (r.getD q 0) := by
  unfold accE; rw [List.foldl_append]; rfl
/-- the row when the last d words are done -/
def rowE (m : Msr) (zs : List Int) (add : Int → Nat → Nat → Int → Int) (e z : Int) : Nat → List Int
  | 0 => List.replicate zs.length 0 ++ [e]
  | d + 1 => (rowE m zs add e z d).set (zs.length - 1 - d) (accE add z (zs.length - 1 - d) (rowE m zs add e z d) (endsTo m zs (zs.length - 1 - d) (zs.length + 1)))
theorem rowE_len (m : Msr) (zs : List Int) (add : Int → Nat → Nat → Int → Int) (e z : Int) (d : Nat) : (rowE m zs add e z d).length = zs.length + 1 := by
  induction d with
  | zero => simp [rowE]
  | succ d ih => simp [rowE, ih]
theorem set_set_same {l : List Int} {i : Nat} {x y : Int} : (l.set i x).set i y = l.set i y := by simp
theorem getD_set_ne {l : List Int} {i q : Nat} {x : Int} (h : i ≠ q) : (l.set i x).getD q 0 = l.getD q 0 := by
  simp [List.getD, List.getElem?_set_ne h]
theorem getD_set_eq {l : List Int} {i : Nat} {x : Int} (h : i < l.length) : (l.set i x).getD i 0 = x := by
  simp [List.getD, h]
theorem row_start (n : Nat) (e : Int) : (List.replicate (n + 1) (0 : Int)).set n e = List.replicate n 0 ++ [e] := by
  rw [List.replicate_succ']
  rw [List.set_append_right _ _ (by simp)]
  simp
/-- a block of cells -/
def Blk (w : World) (B : Nat) (cs : Array Value) (T : TypeId) : Prop := w.heap[B]? = some (.cells cs T (0, 0))
theorem Blk.new (w : World) (cs : Array Value) (T : TypeId) : Blk (w.alloc (.cells cs T)) w.heap.size cs T := heap_alloc_new w _
theorem Blk.lt {w : World} {B : Nat} {cs : Array Value} {T : TypeId} (h : Blk w B cs T) : B < w.heap.size := (Array.getElem?_eq_some_iff.1 h).1
theorem Blk.below {w w' : World} {B b : Nat} {cs : Array Value} {T : TypeId} (h : Blk w B cs T) (hb : Below b w w') (hB : B < b) : Blk w' B cs T := (hb.block B hB).trans h
theorem Blk.kept {w w' : World} {B : Nat} {cs : Array Value} {T : TypeId} {row : Option Nat} (h : Blk w B cs T) (hg : w.grownBy w' row) (hr : ∀ r, row = some r → ∃ o : Obj, w.heap[r]? = some o ∧ o.isCells = false) : Blk w' B cs T := by
  refine (hg.block B h.lt (fun e => ?_)).trans h
  obtain ⟨o, ho, hc⟩ := hr B e.symm
  rw [show w.heap[B]? = _ from h] at ho; cases ho; cases hc
theorem Blk.other {w : World} {B : Nat} {cs : Array Value} {T : TypeId} (h : Blk w B cs T) (p : Addr) (u : Value) (hne : B ≠ p.block) : Blk (w.setCell p u) B cs T := by
  unfold Blk; rw [Below.heap_setCell w p u B hne]; exact h
theorem Blk.set1 {w : World} {B : Nat} {v : Value} {T : TypeId} (h : Blk w B #[v] T) (u : Value) : Blk (w.setCell ⟨B, 0, none⟩ u) B #[u] T := by
  unfold Blk; rw [heap_setCell_same w B 0 _ _ _ h]; rfl
theorem Blk.one {w : World} {B : Nat} {v : Value} {T : TypeId} (h : Blk w B #[v] T) : w.cell? ⟨B, 0, none⟩ = some v ∧ w.frozen? ⟨B, 0, none⟩ = false :=
  ⟨by rw [cell_of_row w B 0 _ _ (0, 0) h]; rfl, frozen_of_row w B 0 _ _ h⟩
theorem Blk.st {w : World} {B : Nat} {W t k : Int} {s : Value} {T : TypeId} (h : Blk w B #[.int .i64 W, .int .i64 t, .int .i64 k, s] T) : St w B W t k s :=
  ⟨by rw [cell_of_row w B 0 _ _ (0, 0) h]; rfl, by rw [cell_of_row w B 1 _ _ (0, 0) h]; rfl, by rw [cell_of_row w B 2 _ _ (0, 0) h]; rfl, by rw [cell_of_row w B 3 _ _ (0, 0) h]; rfl⟩
theorem Own.keptC {w w' : World} {B : Nat} {v : Value} {zs : List Int} {row : Option Nat} (h : Own w B v zs) (hg : w.grownBy w' row) (hr : ∀ r, row = some r → ∃ o : Obj, w.heap[r]? = some o ∧ o.isCells = false) : Own w' B v zs := by
  refine ⟨h.1, ?_⟩
  rcases h.2 with hn | ⟨g, cap, cur, hv, hB, hh, rest⟩
  · exact .inl hn
  · refine .inr ⟨g, cap, cur, hv, hB, (hg.block g (Array.getElem?_eq_some_iff.1 hh).1 (fun e => ?_)).trans hh, rest⟩
    obtain ⟨o, ho, hc⟩ := hr g e.symm
    rw [hh] at ho; cases ho; cases hc
theorem Own.setOther {w : World} {B : Nat} {v : Value} {zs : List Int} (h : Own w B v zs) (p : Addr) (u : Value) (hne : ∀ g, v.ownBlock = some g → g ≠ p.block) : Own (w.setCell p u) B v zs := by
  refine ⟨h.1, ?_⟩
  rcases h.2 with hn | ⟨g, cap, cur, hv, hB, hh, rest⟩
  · exact .inl hn
  · refine .inr ⟨g, cap, cur, hv, hB, (Below.heap_setCell w p u g (hne g (by rw [hv]; rfl))).trans hh, rest⟩

/-- marks of loops over functions: each names a block for deferred calls that holds none -/
def Marks (w : World) (Ds : List Nat) : Prop := ∀ D ∈ Ds, w.heap[D]? = some (.deferred (some []))
def markOf (D : Nat) : Deferred := { target := .collected D, args := #[] }
theorem Marks.below {w w' : World} {Ds : List Nat} {b : Nat} (h : Marks w Ds) (hb : Below b w w') (hB : ∀ D ∈ Ds, D < b) : Marks w' Ds := fun D hD => (hb.block D (hB D hD)).trans (h D hD)
theorem Marks.kept {w w' : World} {Ds : List Nat} {row : Option Nat} (h : Marks w Ds) (hg : w.grownBy w' row) (hr : ∀ D ∈ Ds, row ≠ some D) : Marks w' Ds := fun D hD =>
  (hg.block D (Array.getElem?_eq_some_iff.1 (h D hD)).1 (fun e => hr D hD e.symm)).trans (h D hD)
theorem Marks.lt {w : World} {Ds : List Nat} (h : Marks w Ds) : ∀ D ∈ Ds, D < w.heap.size := fun D hD => (Array.getElem?_eq_some_iff.1 (h D hD)).1
theorem Marks.set {w : World} {Ds : List Nat} (h : Marks w Ds) {p : Addr} (u : Value) (hp : ∃ o : Obj, w.heap[p.block]? = some o ∧ o.isCells = true) : Marks (w.setCell p u) Ds := fun D hD => by
  refine (Below.heap_setCell w p u D (fun e => ?_)).trans (h D hD)
  obtain ⟨o, ho, hc⟩ := hp
  have := h D hD
  rw [e, ho] at this; cases this; cases hc
theorem leaves_marks {F : Fence} {n : Nat} {fn : Func} {tmps : Array Value} {R : Ending → World → Prop} (b : Nat) (Φ : World → Prop) (hΦ : ∀ w D, b ≤ D → Φ w → w.heap[D]? = some (.deferred (some [])) → Φ (w.putObj D (.deferred none)))
    (hfin : ∀ w, Φ w → LeavesIn F n Tryz.prog fn tmps R [] .returning w) : ∀ (Ds : List Nat) (w : World), Ds.Nodup → (∀ D ∈ Ds, b ≤ D) → Marks w Ds → Φ w → LeavesInM F n Tryz.prog fn tmps R (Ds.map markOf) .returning w := by
  intro Ds
  induction Ds with
  | nil => intro w _ _ _ h; exact hfin w h
  | cons D Ds ih =>
    intro w hnd hb hm h
    have hD := hm D List.mem_cons_self
    rw [List.nodup_cons] at hnd
    refine ⟨by simp, .inl ⟨D, _, rfl, run_takeDeferred hD, ih _ hnd.2 (fun D' hD' => hb D' (List.mem_cons_of_mem _ hD')) (fun D' hD' => ?_) (hΦ w D (hb D List.mem_cons_self) h hD)⟩⟩
    exact (World.putObj_heap_other (fun e => hnd.1 (by rw [← e]; exact hD'))).trans (hm D' (List.mem_cons_of_mem _ hD'))
theorem own_putObj {w : World} {B D : Nat} {v : Value} {zs : List Int} (h : Own w B v zs) (hD : w.heap[D]? = some (.deferred (some []))) : Own (w.putObj D (.deferred none)) B v zs :=
  h.keptC (grownBy_putObj' w D _) (fun r e => by cases e; exact ⟨_, hD, rfl⟩)
theorem below_putObj {b : Nat} {w0 w : World} {D : Nat} (h : Below b w0 w) (hD : w.heap[D]? = some (.deferred (some []))) (hb : b ≤ D) : Below b w0 (w.putObj D (.deferred none)) :=
  h.grown (grownBy_putObj' w D _) (by have := h.size; have := (Array.getElem?_eq_some_iff.1 hD).1; omega) (fun k e => by cases e; exact hb)
theorem KpE.putObj {b g l : Nat} {w w' : World} {o : Obj} (o' : Obj) (hb : b + 1 < w.heap.size) (hg : g ≤ w.heap.size) (hl : w.heap.size ≤ l) (h : w'.heap[l]? = some o) : KpE b g w' (w'.putObj l o') := by
  have hg2 := grownBy_putObj' w' l o'
  refine ⟨hg2.size, fun p hp hps => World.cell?_of_block (hg2.block p.block hps (fun e => ?_))⟩
  injection e with e
  omega
theorem KpE.store {b g : Nat} {w : World} {p : Addr} (u : Value) (h1 : g ≤ p.block) (h2 : p.block < b) : KpE b g w (w.setCell p u) := by
  refine ⟨Nat.le_of_eq (by simp [World.setCell]), fun q hq _ => World.cell?_of_block (Below.heap_setCell w p u q.block (fun e => ?_))⟩
  omega
theorem KpE.drewN {b g : Nat} {w w' : World} (h : KpE b g w w') (k : Nat) : KpE b g w (w'.drewN k) := h
section
variable {F : Fence} {n0 : Nat} {ops : Array Oper} {rest : List Oper} {o : Oper} {a : Act} {Q : Exit → Act → World → Prop}
theorem wplI_make_int (w : World) (hg : o.guard = none) (l : Operand) (hop : o.op = Op.makeSlice 23 l l) (n : Nat) (L : Int) (hl : a.eval l = .int .i64 L) (hL : L = (n : Int)) (hn : n ≤ 2097152)
    (hK : ∀ w', Own w' w.heap.size (.slice (some ⟨w.heap.size, 0, none⟩) n n) (List.replicate n 0) → Below w.heap.size w w' → wpListIn F n0 Tryz.prog ops Q rest (a.put o.dst (.slice (some ⟨w.heap.size, 0, none⟩) n n)) w') :
    wpListIn F n0 Tryz.prog ops Q (o :: rest) a w := by
  obtain ⟨i0, hi, hz0, hz1, hz2⟩ := info_parts intInfo
  refine wpListIn_plain hg fun K hK' => ?_
  obtain ⟨w', hrun, r1, r2⟩ := run_make_full (P := Tryz.prog) w w.heap.size 23 3 i0 (.int .i64 0) 1 Tryz.underlying23 hi hz0 hz1 .i64 .i64 n (by rw [hz2]; omega) (by unfold maxLen; omega) (Nat.le_refl _)
  subst hL
  unfold Oper.wpIn
  refine ⟨?_, ?_⟩
  · simp [Oper.about, hop]
  · rw [Oper.semAt_plain F _ _ (by rw [hop]; intro c hc'; cases hc')]
    simp [execOp, hop, hl, hrun, Result.andThen]
    refine hK' _ _ (hK w' ?_ ((Below.refl _ _).grown r2 (Nat.le_refl _) (fun k hk => by cases hk)))
    rw [made_rep _ rfl] at r1
    unfold Own
    rw [List.length_replicate, List.map_replicate]
    exact r1
end
end Go.Proofs.YtobakeahbgodbaaGreat

namespace Go.Proofs.YtobakeahbgodbaaGreat
open Go.RowKit Go.Shelf
set_option linter.unusedVariables false

theorem grown_cell (w : World) (p : Addr) (v : Value) : w.grownBy (w.setCell p v) (some p.block) := by
  refine ⟨rfl, rfl, rfl, ?_, ?_⟩
  · simp [World.setCell]
  · intro k _ hk
    exact Below.heap_setCell _ _ _ _ (fun e => hk (by rw [e]))

theorem grown_cell_drew (w : World) (p : Addr) (v : Value) : w.grownBy (w.drew.setCell p v) (some p.block) := by
  have h := grown_cell w.drew p v
  exact ⟨h.os, h.tape, h.output, h.size, h.block⟩

theorem wpIn_oper_of {l n : Nat} {P : Program} {o : Oper} {a : Act} {K : Act → World → Prop} {Q : Exit → Act → World → Prop} {w : World} (hd : ∀ c, o.op ≠ .defer c) (h : o.wp P a w K Q) : o.wpIn (Fence.wide.inRound l) n P a w K Q := by
  unfold Oper.wp at h
  unfold Oper.wpIn
  refine ⟨fun _ _ => trivial, ?_⟩
  rw [Oper.semAt_eq _ _ _ hd]
  generalize (execOp a.eval o).run P w = r at *
  cases r with
  | ok x w' =>
    cases x <;> simp only [Oper.upon, Oper.uponIn] at h ⊢
    case value => exact h
    case skip => exact h
    case defer => exact h
    case enter f args => exact ⟨fun h0 => (by cases h0), CallsIn.inRound l (callsIn_wide.2 h)⟩
    case row row args => exact ⟨fun h0 => (by cases h0), fun c cs _ => let ⟨v, w'', r, s⟩ := h c cs; ⟨v, w'', r, stepsIn_wide.2 s⟩⟩
  | halt x w' => cases x <;> simp only [Oper.upon, Oper.uponIn] at h ⊢ <;> exact h

theorem wpOpIn_of {l n : Nat} {P : Program} {ops : Array Oper} {i : Nat} {a : Act} {K K' : Act → World → Prop} {Q : Exit → Act → World → Prop} {w : World} (hd : ∀ (o : Oper), ops[i]? = some o → ∀ c, o.op ≠ .defer c) (hq : ¬ LetsOut Q)
    (hk : ∀ a w, K a w → K' a w) (h : wpOp P ops Q i K a w) : wpOpIn (Fence.wide.inRound l) n P ops Q i K' a w := by
  unfold wpOp at h
  unfold wpOpIn
  split
  · rename_i ho; simp only [ho] at h; exact hk _ _ h
  · rename_i o ho
    simp only [ho] at h
    split
    · rename_i hw
      simp only [hw, if_true] at h
      rcases h with h | ⟨-, h⟩
      · exact Oper.wpIn_mono hk (wpIn_oper_of (hd o ho) h)
      · exact absurd h hq
    · rename_i hw
      simp only [hw] at h
      exact ⟨fun _ _ => trivial, hk _ _ h⟩

theorem wpAnyIn_of {l n : Nat} {P : Program} {md : Region.Mode} {ops : Array Oper} {Q : Exit → Act → World → Prop} (hd : ∀ (i : Nat) (o : Oper), ops[i]? = some o → ∀ c, o.op ≠ .defer c) (hq : ¬ LetsOut Q) :
    ∀ (fuel : Nat) (listed : Array Bool) (a : Act) (w : World), wpAny P md ops Q fuel listed a w → wpAnyIn (Fence.wide.inRound l) n P md ops Q fuel listed a w
  | 0, _, _, _, h => h
  | fuel + 1, _, _, _, h => ⟨h.1, fun i hi => wpOpIn_of (hd i) hq (fun a' w' h' => wpAnyIn_of hd hq fuel _ a' w' h') (h.2 i hi)⟩

def noDefer (ops : Array Oper) : Bool := ops.toList.all fun o => match o.op with | .defer _ => false | _ => true
theorem noDefer_spec {ops : Array Oper} (h : noDefer ops = true) (i : Nat) (o : Oper) (ho : ops[i]? = some o) (c : Call) : o.op ≠ .defer c := by
  intro e
  unfold noDefer at h
  rw [List.all_eq_true] at h
  have := h o (by obtain ⟨hi, rfl⟩ := Array.getElem?_eq_some_iff.1 ho; simp)
  rw [e] at this
  cases this

theorem wpIn_region_held {l n id : Nat} {P : Program} {ops : Array Oper} {Q : Exit → Act → World → Prop} {a : Act} {w : World} (S : World → Prop) (hm : P.follows .mixedOrders = true) (hd : noDefer ops = true) (hq : ¬ LetsOut Q)
    (hS : S w.drew) (h : S w.drew → wpAnyH P .any ops Q S ops.size (Array.replicate ops.size false) a w.drew) : (Code.region id ops true).wpIn (Fence.wide.inRound l) n P Q a w :=
  wpIn_region_any hm (wpAnyIn_of (noDefer_spec hd) hq _ _ _ _ (wpAny_of_held _ _ _ _ (h hS)))

/-- the first k operations leave the world as it is, in whatever order; the others come behind them, one after the other -/
theorem wpIn_region_tail {l n id : Nat} {P : Program} {ops : List Oper} {Q : Exit → Act → World → Prop} {a : Act} {w : World} (k : Nat) (hm : P.follows .mixedOrders = true) (hd : noDefer ops.toArray = true) (hq : ¬ LetsOut Q) (hB : Region.lexTailB .any ops.toArray k = true)
    (h : wpStill P ops.toArray w.drew (fun a' => wpList P ops.toArray Q (ops.drop k) a' w.drew) (ops.take k) a) : (Code.region id ops.toArray true).wpIn (Fence.wide.inRound l) n P Q a w := by
  refine wpIn_region_any hm (wpAnyIn_of (noDefer_spec hd) hq _ _ _ _ ?_)
  unfold Region.lexTailB at hB
  rw [Bool.and_eq_true, Bool.and_eq_true, Bool.and_eq_true, Bool.and_eq_true, decide_eq_true_eq] at hB
  obtain ⟨⟨⟨⟨b1, b2⟩, b3⟩, b4⟩, b5⟩ := hB
  have hk : k < ops.length := by rwa [List.size_toArray] at b2
  have hlen : (ops.take k).length = k := by rw [List.length_take]; omega
  have hdl : (ops.drop k).length = ops.toArray.size - k := by rw [List.length_drop, List.size_toArray]
  have H := wpAnyL_lex (md := .any) (g := ops.toArray.size - k) b1 b3 b4 b2 (ops.take k) 0 (Array.replicate ops.toArray.size false) a
    (fun j hj => by rw [hlen] at hj; rw [Nat.zero_add, List.getElem?_take_of_lt hj, List.getElem?_toArray]) (by rw [hlen, Nat.zero_add])
    ⟨by rw [Array.size_replicate], fun j oj _ hl => (by rw [getD_replicate_false] at hl; cases hl), fun t _ ht => getD_in (by rw [Array.size_replicate]; exact ht) (getD_replicate_false _ _)⟩
    (by rw [hlen]; exact b5) h
  have G := wpAny_of_head (Q' := Q) (g := ops.toArray.size - k) (fun listed a' hL => (by
    have t := wpAny_of_seq (md := .any) (Q' := Q) (ops.drop k) k listed a' w.drew (fun j => by rw [List.getElem?_drop, List.getElem?_toArray]) (by rw [hdl]; exact hL.1) hL.2
    rwa [hdl] at t)) _ _ _ H
  rw [hlen, Nat.add_sub_cancel' (Nat.le_of_lt b2)] at G
  exact G
end Go.Proofs.YtobakeahbgodbaaGreat

namespace Go.Proofs.YtobakeahbgodbaaGreat
open Go.RowKit Go.Shelf
set_option linter.unusedVariables false
attribute [local go_sem] Oper.semAt_some

/-- what is still to do, read off the frame and the world -/
def leftE (a : Act) (w : World) : Nat := match a.tmps.getD 10 undef with
  | .pointer (some p) => match w.cell? p with
    | some (.int _ x) => (x + 1).toNat
    | _ => 0
  | _ => 0
def addC : Int → Nat → Nat → Int → Int := fun acc _ _ b => wrap64 (acc + b)

theorem leftE_at {a : Act} {w : World} {B : Nat} {x : Int} (ha : a.tmps.getD 10 undef = .pointer (some ⟨B, 0, none⟩)) (hc : w.cell? ⟨B, 0, none⟩ = some (.int .i64 x)) : leftE a w = (x + 1).toNat := by
  unfold leftE; rw [ha]; simp only [hc]
theorem own_cell {w : World} {B b m c j : Nat} {zs : List Int} (h : Own w B (.slice (some ⟨b, 0, none⟩) m c) zs) (hj : j < zs.length) : w.cell? ⟨b, j, none⟩ = some (.int .i64 (zs.getD j 0)) := by
  obtain ⟨A', c', hv, hI, _⟩ := h.form
  injection hv with h1 h2 h3
  subst h1
  obtain ⟨ad, e, hc⟩ := hI (by omega)
  injection e with e
  subst e
  have := hc j hj
  rwa [add_zero_at] at this
theorem own_base2 {w : World} {B B' : Nat} {v : Value} {zs : List Int} (h : Own w B v zs) (hB : B' ≤ B) : Own w B' v zs := by
  refine ⟨h.1, ?_⟩
  rcases h.2 with hn | ⟨g, cap, cur, hv, hg, rest⟩
  · exact .inl hn
  · exact .inr ⟨g, cap, cur, hv, by omega, rest⟩
theorem own_block {w : World} {g m c : Nat} {j : Nat} {zs : List Int} (h : Own w g (.slice (some ⟨g + 2, 0, none⟩) m c) zs) : ∃ o : Obj, w.heap[(⟨g + 2, j, none⟩ : Addr).block]? = some o ∧ o.isCells = true := by
  rcases h.2 with ⟨h1, _⟩ | ⟨g', cap, cur, hv, hB, hh, _⟩
  · cases h1
  · injection hv with h1 h2 h3
    injection h1 with h1
    injection h1 with h1
    exact ⟨_, by rw [show (⟨g + 2, j, none⟩ : Addr).block = g' from h1]; exact hh, rfl⟩
end Go.Proofs.YtobakeahbgodbaaGreat

namespace Go.Proofs.YtobakeahbgodbaaGreat
open Go.RowKit Go.Shelf
set_option linter.unusedVariables false

def keyV (W t k : Int) : Value := .agg #[.int .i64 W, .int .i64 t, .int .i64 k]
theorem msKeyLaw : WideMaps.KeyLaw Tryz.prog 27 := deep_law (m := 2) (by omega) (by kernel_rfl) (by kernel_rfl) (by kernel_rfl)
theorem msKey_ok {W t k : Int} (hW : (Lit.int .i64 W).wf = true) (ht : (Lit.int .i64 t).wf = true) (hk : (Lit.int .i64 k).wf = true) : ∃ l, keyOf Tryz.prog 27 (keyV W t k) = some l := by
  have h1 : ∀ (d : Nat) (x : Int), (Lit.int .i64 x).wf = true → Tryz.prog.keyLits (d + 1) 3 [.int .i64 x] = some [.int .i64 x] := fun d x hx => by
    unfold Program.keyLits
    rw [Tryz.underlying3]
    simp [hx]
  have hkt : Tryz.prog.keyType 27 = true := by kernel_rfl
  have hc : Tryz.prog.cellsOf 27 = 3 := by kernel_rfl
  have hc1 : Tryz.prog.cellsOf 3 = 1 := by kernel_rfl
  have hF : (keyV W t k).formed Tryz.prog 27 = true := by
    unfold keyV Value.formed
    rw [Tryz.underlying27]
    simp [hc]
  have hL : ∀ d, Tryz.prog.keyLits (d + 2) 27 (keyV W t k).cells.toList = some [.int .i64 W, .int .i64 t, .int .i64 k] := fun d => by
    unfold Program.keyLits
    rw [Tryz.underlying27, hc]
    simp [keyV, Value.cells, hc1, h1 d W hW, h1 d t ht, h1 d k hk]
  unfold keyOf
  rw [Tryz.underlying27, hkt, hF]
  simp only [Bool.and_self, if_true]
  have hsz : Nat.ble 1 Tryz.prog.types.size = true := by kernel_rfl
  have hsz := Nat.le_of_ble_eq_true hsz
  obtain ⟨d, hd⟩ : ∃ d, Tryz.prog.types.size + 1 = d + 2 := ⟨Tryz.prog.types.size - 1, by omega⟩
  rw [hd, hL]
  exact ⟨_, rfl⟩

section
variable {w : World} {r clock : Nat} {es : Array MapEntry} {key : Value} {kl : Lit}
/-- every key is a measure -/
def MKeys (es : Array MapEntry) : Prop := ∀ e ∈ es.toList, ∃ l, keyOf Tryz.prog 27 e.key = some l
end
end Go.Proofs.YtobakeahbgodbaaGreat

namespace Go.Proofs.YtobakeahbgodbaaGreat
open Go.RowKit Go.Shelf
set_option linter.unusedVariables false

/-- what the counter remembers: a map whose keys are measures, each with the numbers of breakings of the words from each one on -/
def CMapG (w : World) (r : Nat) (zs : List Int) (G : Nat → Prop) : Prop := ¬ G r ∧ ∃ es clock, w.heap[r]? = some (.map es clock) ∧ ∀ e ∈ es.toList, ∃ W t k p, e.key = keyV W t k ∧ (∃ l, keyOf Tryz.prog 27 (keyV W t k) = some l) ∧
  e.val = .slice (some ⟨p, 0, none⟩) (zs.length + 1) (zs.length + 1) ∧ ¬ G p ∧ Ints w (some ⟨p, 0, none⟩) (rowE ⟨W, t, k⟩ zs addC 1 0 zs.length)
theorem CMapG.lt {w : World} {r : Nat} {zs : List Int} {G : Nat → Prop} (h : CMapG w r zs G) : r < w.heap.size := by
  obtain ⟨-, es, clock, hb, -⟩ := h
  exact (Array.getElem?_eq_some_iff.1 hb).1
theorem CMapG.below {w w' : World} {r : Nat} {zs : List Int} {G : Nat → Prop} (h : CMapG w r zs G) (hb : Below w.heap.size w w') : CMapG w' r zs G := by
  have hr := h.lt
  obtain ⟨hG, es, clock, h1, h2⟩ := h
  refine ⟨hG, es, clock, (hb.block r hr).trans h1, fun e he => ?_⟩
  obtain ⟨W, t, k, p, a, b, c, g, d⟩ := h2 e he
  exact ⟨W, t, k, p, a, b, c, g, d.below hb⟩
theorem CMapG.start (w : World) (zs : List Int) {G : Nat → Prop} (hG : ¬ G w.heap.size) : CMapG (w.alloc (.map #[] 0)) w.heap.size zs G := ⟨hG, #[], 0, heap_alloc_new w _, fun e he => by cases he⟩
theorem ints_block {w w' : World} {p : Nat} {l : List Int} (h : Ints w (some ⟨p, 0, none⟩) l) (hb : w'.heap[p]? = w.heap[p]?) : Ints w' (some ⟨p, 0, none⟩) l := fun hn => by
  obtain ⟨a, e, hc⟩ := h hn
  injection e with e
  subst e
  exact ⟨_, rfl, fun j hj => (World.cell?_of_block (by rw [block_add]; exact hb)).trans (hc j hj)⟩
/-- whatever happens in the blocks of G, and in new ones -/
theorem CMapG.ext {w w' : World} {r : Nat} {zs : List Int} {G : Nat → Prop} (h : CMapG w r zs G) (hk : ∀ k, k < w.heap.size → ¬ G k → w'.heap[k]? = w.heap[k]?) : CMapG w' r zs G := by
  have hr := h.lt
  obtain ⟨hG, es, clock, h1, h2⟩ := h
  refine ⟨hG, es, clock, (hk r hr hG).trans h1, fun e he => ?_⟩
  obtain ⟨W, t, k, p, a, b, c, g, d⟩ := h2 e he
  have hp : p < w.heap.size := by
    obtain ⟨a', e', hc⟩ := d (by rw [rowE_len]; omega)
    injection e' with e'
    subst e'
    have := World.block_lt_of_cell? _ _ (hc 0 (by rw [rowE_len]; omega))
    rwa [block_add] at this
  exact ⟨W, t, k, p, a, b, c, g, ints_block d (hk p hp g)⟩
/-- a new block may join G -/
theorem CMapG.join {w : World} {r : Nat} {zs : List Int} {G G' : Nat → Prop} (h : CMapG w r zs G) (hG : ∀ k, G' k → G k ∨ w.heap.size ≤ k) : CMapG w r zs G' := by
  have hr := h.lt
  obtain ⟨hg, es, clock, h1, h2⟩ := h
  refine ⟨fun h => (hG r h).elim hg (fun h => by omega), es, clock, h1, fun e he => ?_⟩
  obtain ⟨W, t, k, p, a, b, c, g, d⟩ := h2 e he
  have hp : p < w.heap.size := by
    obtain ⟨a', e', hc⟩ := d (by rw [rowE_len]; omega)
    injection e' with e'
    subst e'
    have := World.block_lt_of_cell? _ _ (hc 0 (by rw [rowE_len]; omega))
    rwa [block_add] at this
  exact ⟨W, t, k, p, a, b, c, fun h => (hG p h).elim g (fun h => by omega), d⟩
theorem cell_putMap {w : World} {r : Nat} {es es' : Array MapEntry} {cl cl' : Nat} (hb : w.heap[r]? = some (.map es cl)) (p : Addr) : (w.putObj r (.map es' cl')).cell? p = w.cell? p := by
  have hlt : r < w.heap.size := (Array.getElem?_eq_some_iff.1 hb).1
  by_cases hp : p.block = r
  · unfold World.cell?
    rw [hp]
    rw [show (w.putObj r (.map es' cl')).heap[r]? = some (.map es' cl') from by simp [World.putObj, hlt], hb]
  · exact World.cell?_of_block (by simp [World.putObj, Ne.symm hp])
theorem grown_putMap (w : World) (r : Nat) (o : Obj) : w.grownBy (w.putObj r o) (some r) := ⟨rfl, rfl, rfl, by simp [World.putObj], fun k _ hk => by
  have : k ≠ r := fun e => hk (by rw [e])
  simp [World.putObj, Ne.symm this]⟩
theorem below_by {w w' : World} (h : Below w.heap.size w w') (row : Option Nat) : w.grownBy w' row := ⟨h.os, h.tape, h.output, h.size, fun k hk _ => h.block k hk⟩
theorem by_trans {a b c : World} {row : Option Nat} (h : a.grownBy b row) (k : b.grownBy c row) : a.grownBy c row :=
  ⟨k.os.trans h.os, k.tape.trans h.tape, k.output.trans h.output, Nat.le_trans h.size k.size, fun j hj hne => (k.block j (Nat.lt_of_lt_of_le hj h.size) hne).trans (h.block j hj hne)⟩
theorem CMapG.put {w : World} {r : Nat} {zs : List Int} {G : Nat → Prop} {es : Array MapEntry} {clock : Nat} {W t k : Int} {p : Nat} (hb : w.heap[r]? = some (.map es clock)) (h : CMapG w r zs G) (hp : ¬ G p) (hk : ∃ l, keyOf Tryz.prog 27 (keyV W t k) = some l)
    (hI : Ints w (some ⟨p, 0, none⟩) (rowE ⟨W, t, k⟩ zs addC 1 0 zs.length)) :
    CMapG (w.putObj r (.map (es.push ⟨keyV W t k, .slice (some ⟨p, 0, none⟩) (zs.length + 1) (zs.length + 1), clock⟩) (clock + 1))) r zs G := by
  obtain ⟨hG, es2, cl2, h1, h2⟩ := h
  rw [hb] at h1; cases h1
  have hlt : r < w.heap.size := (Array.getElem?_eq_some_iff.1 hb).1
  refine ⟨hG, _, _, by simp [World.putObj, hlt]; exact ⟨rfl, rfl⟩, fun e he => ?_⟩
  have hc : ∀ (q : Nat) (l : List Int), Ints w (some ⟨q, 0, none⟩) l → Ints (w.putObj r (.map (es.push ⟨keyV W t k, .slice (some ⟨p, 0, none⟩) (zs.length + 1) (zs.length + 1), clock⟩) (clock + 1))) (some ⟨q, 0, none⟩) l :=
    fun q l hq => hq.keep (fun a _ => cell_putMap hb a)
  rw [Array.toList_push, List.mem_append, List.mem_singleton] at he
  rcases he with he | rfl
  · obtain ⟨W', t', k', p', a, b, c, g, d⟩ := h2 e he
    exact ⟨W', t', k', p', a, b, c, g, hc _ _ d⟩
  · exact ⟨W, t, k, p, rfl, hk, rfl, hp, hc _ _ hI⟩
theorem CMapG.keys {w : World} {r : Nat} {zs : List Int} {G : Nat → Prop} {es : Array MapEntry} {clock : Nat} (hb : w.heap[r]? = some (.map es clock)) (h : CMapG w r zs G) : MKeys es := by
  obtain ⟨-, es2, cl2, h1, h2⟩ := h
  rw [hb] at h1; cases h1
  intro e he
  obtain ⟨W', t', k', p', a, b, -⟩ := h2 e he
  rw [a]; exact b
theorem Blk.two {w : World} {B : Nat} {x y : Value} {T : TypeId} (h : Blk w B #[x, y] T) : w.cell? ⟨B, 0, none⟩ = some x ∧ w.cell? ⟨B, 1, none⟩ = some y := by
  unfold Blk at h
  constructor <;> simp [World.cell?, h]
theorem Blk.three {w : World} {B : Nat} {x y z : Value} {T : TypeId} (h : Blk w B #[x, y, z] T) : w.cell? ⟨B, 0, none⟩ = some x ∧ w.cell? ⟨B, 1, none⟩ = some y ∧ w.cell? ⟨B, 2, none⟩ = some z := by
  unfold Blk at h
  refine ⟨?_, ?_, ?_⟩ <;> simp [World.cell?, h]

theorem ints_cell {w : World} {p i : Nat} {l : List Int} (h : Ints w (some ⟨p, 0, none⟩) l) (hi : i < l.length) : w.cell? ⟨p, i, none⟩ = some (.int .i64 (l.getD i 0)) := by
  obtain ⟨a, e, hc⟩ := h (by omega)
  injection e with e
  subst e
  have := hc i hi
  rwa [add_zero_at] at this

/-- no set asked -/
def CMap (w : World) (r : Nat) (zs : List Int) : Prop := CMapG w r zs (fun _ => False)
theorem CMap.lt {w : World} {r : Nat} {zs : List Int} (h : CMap w r zs) : r < w.heap.size := CMapG.lt h
theorem CMap.below {w w' : World} {r : Nat} {zs : List Int} (h : CMap w r zs) (hb : Below w.heap.size w w') : CMap w' r zs := CMapG.below h hb
theorem CMap.start (w : World) (zs : List Int) : CMap (w.alloc (.map #[] 0)) w.heap.size zs := CMapG.start w zs (fun h => h)
end Go.Proofs.YtobakeahbgodbaaGreat

namespace Go.Proofs.YtobakeahbgodbaaGreat
open Go.RowKit
set_option linter.unusedVariables false

/-- the number for word i when all are done -/
def valE (m : Msr) (zs : List Int) (add : Int → Nat → Nat → Int → Int) (e z : Int) (i : Nat) : Int := (rowE m zs add e z zs.length).getD i 0
theorem mem_endsTo {m : Msr} {zs : List Int} {a p q : Nat} : q ∈ endsTo m zs a p ↔ q < p ∧ a < q ∧ lineW m zs a q = true := by
  unfold endsTo
  rw [List.mem_filter, List.mem_range, Bool.and_eq_true, decide_eq_true_eq]
theorem row_keeps (m : Msr) (zs : List Int) (add : Int → Nat → Nat → Int → Int) (e z : Int) (d k i : Nat) (hi : zs.length ≤ i + d) (hk : d + k ≤ zs.length) : (rowE m zs add e z (d + k)).getD i 0 = (rowE m zs add e z d).getD i 0 := by
  induction k with
  | zero => rfl
  | succ k ih =>
    rw [← ih (by omega), show d + (k + 1) = (d + k) + 1 by omega, rowE]
    exact getD_set_ne (by omega)
theorem row_is {m : Msr} {zs : List Int} {add : Int → Nat → Nat → Int → Int} {e z : Int} {d i : Nat} (hi : zs.length ≤ i + d) (hd : d ≤ zs.length) : (rowE m zs add e z d).getD i 0 = valE m zs add e z i := by
  have := row_keeps m zs add e z d (zs.length - d) i hi (by omega)
  rw [show d + (zs.length - d) = zs.length by omega] at this
  exact this.symm
theorem valE_end (m : Msr) (zs : List Int) (add : Int → Nat → Nat → Int → Int) (e z : Int) : valE m zs add e z zs.length = e := by
  rw [← row_is (d := 0) (by omega) (by omega), rowE]
  simp [List.getD]
theorem foldl_same {α β : Type} {f g : β → α → β} {l : List α} (h : ∀ x ∈ l, ∀ b, f b x = g b x) (b : β) : l.foldl f b = l.foldl g b := by
  induction l generalizing b with
  | nil => rfl
  | cons x l ih =>
    rw [List.foldl_cons, List.foldl_cons, h x List.mem_cons_self]
    exact ih (fun y hy => h y (List.mem_cons_of_mem _ hy)) _
theorem accE_row {m : Msr} {zs : List Int} {add : Int → Nat → Nat → Int → Int} {e z : Int} {i d : Nat} (es : List Nat) (hes : ∀ q ∈ es, zs.length ≤ q + d) (hd : d ≤ zs.length) :
    accE add z i (rowE m zs add e z d) es = es.foldl (fun acc q => add acc i q (valE m zs add e z q)) z := by
  unfold accE
  exact foldl_same (fun q hq b => by rw [row_is (hes q hq) hd]) _
theorem valE_at {m : Msr} {zs : List Int} {add : Int → Nat → Nat → Int → Int} {e z : Int} {i : Nat} (hi : i < zs.length) :
    valE m zs add e z i = (endsTo m zs i (zs.length + 1)).foldl (fun acc q => add acc i q (valE m zs add e z q)) z := by
  obtain ⟨d, hd⟩ : ∃ d, zs.length - 1 - d = i ∧ d < zs.length := ⟨zs.length - 1 - i, by omega, by omega⟩
  rw [← row_is (d := d + 1) (by omega) (by omega), rowE, hd.1, getD_set_eq (by rw [rowE_len]; omega)]
  exact accE_row _ (fun q hq => by have := mem_endsTo.1 hq; omega) (by omega)

/-- the number of breakings of the words from i on, and of those whose first line ends before p -/
def wayF (m : Msr) (zs : List Int) (i : Nat) : Int := valE m zs addC 1 0 i
def befF (m : Msr) (zs : List Int) (i p : Nat) : Int := (endsTo m zs i p).foldl (fun acc q => addC acc i q (wayF m zs q)) 0
theorem wayF_end (m : Msr) (zs : List Int) : wayF m zs zs.length = 1 := valE_end _ _ _ _ _
theorem wayF_at {m : Msr} {zs : List Int} {i : Nat} (hi : i < zs.length) : wayF m zs i = befF m zs i (zs.length + 1) := valE_at hi
theorem befF_low {m : Msr} {zs : List Int} {i p : Nat} (h : p ≤ i + 1) : befF m zs i p = 0 := by unfold befF; rw [endsTo_low h]; rfl
theorem befF_no {m : Msr} {zs : List Int} {i p : Nat} (h : (decide (i < p) && lineW m zs i p) = false) : befF m zs i (p + 1) = befF m zs i p := by unfold befF; rw [endsTo_no h]
theorem befF_yesC {m : Msr} {zs : List Int} {i p : Nat} (h1 : i < p) (h2 : lineW m zs i p = true) : befF m zs i (p + 1) = wrap64 (befF m zs i p + wayF m zs p) := by
  unfold befF; rw [endsTo_yes h1 h2, List.foldl_append]; rfl
/-- no number is beyond int: at most 2^40 breakings -/
theorem way_bound (m : Msr) (zs : List Int) (hz : zs.length ≤ 40) : ∀ (d i : Nat), zs.length - i = d → i ≤ zs.length →
    (0 ≤ wayF m zs i ∧ wayF m zs i ≤ 2 ^ d) ∧ ∀ p, i < p → p ≤ zs.length + 1 → 0 ≤ befF m zs i p ∧ befF m zs i p ≤ (2 ^ d : Int) - 2 ^ (zs.length + 1 - p) := by
  intro d
  induction d using Nat.strongRecOn with
  | _ d ih =>
    intro i hd hi
    have hb : ∀ p, i < p → p ≤ zs.length + 1 → 0 ≤ befF m zs i p ∧ befF m zs i p ≤ (2 ^ d : Int) - 2 ^ (zs.length + 1 - p) := by
      intro p
      induction p with
      | zero => intro h; omega
      | succ p ihp =>
        intro h1 h2
        by_cases hp : p ≤ i
        · rw [befF_low (by omega), show zs.length + 1 - (p + 1) = d by omega]
          exact ⟨by omega, by simp⟩
        · have h3 := ihp (by omega) (by omega)
          have hpow : (2 : Int) ^ (zs.length + 1 - p) = 2 * 2 ^ (zs.length + 1 - (p + 1)) := by
            rw [show zs.length + 1 - p = (zs.length + 1 - (p + 1)) + 1 by omega, Int.pow_succ]; omega
          have hpos : (0 : Int) < 2 ^ (zs.length + 1 - (p + 1)) := Int.pow_pos (by omega)
          cases hl : lineW m zs i p
          · rw [befF_no (by rw [hl]; simp)]
            exact ⟨h3.1, by omega⟩
          · rw [befF_yesC (by omega) hl]
            obtain ⟨⟨h4, h5⟩, -⟩ := ih (zs.length - p) (by omega) p rfl (by omega)
            rw [show zs.length - p = zs.length + 1 - (p + 1) by omega] at h5
            have hd40 : (2 : Int) ^ d ≤ 2 ^ 40 := by
              have : (2 : Nat) ^ d ≤ 2 ^ 40 := Nat.pow_le_pow_right (by omega) (by omega)
              exact_mod_cast this
            have h40 : (2 : Int) ^ 40 = 1099511627776 := by decide
            rw [show wrap64 (befF m zs i p + wayF m zs p) = befF m zs i p + wayF m zs p by
              have := IntKind.wrap_i64 (befF m zs i p + wayF m zs p)
              unfold wrap64; omega]
            exact ⟨by omega, by omega⟩
    refine ⟨?_, hb⟩
    rcases Nat.lt_or_ge i zs.length with h | h
    · rw [wayF_at h]
      have := hb (zs.length + 1) (by omega) (Nat.le_refl _)
      rw [Nat.sub_self] at this
      exact ⟨this.1, by have h1 := this.2; simp at h1; omega⟩
    · obtain rfl : i = zs.length := by omega
      rw [wayF_end]
      obtain rfl : d = 0 := by omega
      simp
end Go.Proofs.YtobakeahbgodbaaGreat

namespace Go.Proofs.YtobakeahbgodbaaGreat
open Go.RowKit
set_option linter.unusedVariables false

theorem two_pow_le {d : Nat} (h : d ≤ 40) : (2 : Int) ^ d ≤ 1099511627776 := by
  have h1 : (2 : Nat) ^ d ≤ 2 ^ 40 := Nat.pow_le_pow_right (by omega) h
  have h2 : (2 : Int) ^ d = ((2 ^ d : Nat) : Int) := by norm_cast
  have h3 : (2 : Nat) ^ 40 = 1099511627776 := by decide
  omega
theorem wayF_range {m : Msr} {zs : List Int} (hz : zs.length ≤ 40) {i : Nat} (hi : i ≤ zs.length) : 0 ≤ wayF m zs i ∧ wayF m zs i ≤ 1099511627776 := by
  obtain ⟨⟨h1, h2⟩, -⟩ := way_bound m zs hz _ i rfl hi
  have := two_pow_le (d := zs.length - i) (by omega)
  omega
theorem befF_range {m : Msr} {zs : List Int} (hz : zs.length ≤ 40) {i p : Nat} (hi : i ≤ zs.length) (hp : p ≤ zs.length + 1) : 0 ≤ befF m zs i p ∧ befF m zs i p ≤ 1099511627776 := by
  by_cases h : i < p
  · obtain ⟨-, h1⟩ := way_bound m zs hz _ i rfl hi
    obtain ⟨h2, h3⟩ := h1 p h hp
    have h4 : (0 : Int) < 2 ^ (zs.length + 1 - p) := Int.pow_pos (by omega)
    have := two_pow_le (d := zs.length - i) (by omega)
    omega
  · rw [befF_low (by omega)]; omega
theorem befF_yes {m : Msr} {zs : List Int} (hz : zs.length ≤ 40) {i p : Nat} (h1 : i < p) (hp : p ≤ zs.length) (h2 : lineW m zs i p = true) : befF m zs i (p + 1) = befF m zs i p + wayF m zs p := by
  rw [befF_yesC h1 h2]
  have a := befF_range (m := m) hz (show i ≤ zs.length by omega) (show p ≤ zs.length + 1 by omega)
  have b := wayF_range (m := m) hz hp
  have := IntKind.wrap_i64 (befF m zs i p + wayF m zs p)
  unfold wrap64; omega
theorem befF_step {m : Msr} {zs : List Int} (hz : zs.length ≤ 40) {i p : Nat} (hp : p ≤ zs.length) : befF m zs i p ≤ befF m zs i (p + 1) := by
  cases h : (decide (i < p) && lineW m zs i p)
  · rw [befF_no h]; exact Int.le_refl _
  · rw [Bool.and_eq_true, decide_eq_true_eq] at h
    rw [befF_yes hz h.1 hp h.2]
    have := wayF_range (m := m) hz hp
    omega
theorem befF_mono {m : Msr} {zs : List Int} (hz : zs.length ≤ 40) {i p : Nat} (d : Nat) (hp : p + d ≤ zs.length + 1) : befF m zs i p ≤ befF m zs i (p + d) := by
  induction d with
  | zero => exact Int.le_refl _
  | succ d ih => exact Int.le_trans (ih (by omega)) (befF_step hz (by omega))
/-- the breakings whose first line ends at q are some of those from i on -/
theorem bef_way {m : Msr} {zs : List Int} (hz : zs.length ≤ 40) {i q : Nat} (h1 : i < q) (hq : q ≤ zs.length) (h2 : lineW m zs i q = true) : befF m zs i q + wayF m zs q ≤ wayF m zs i := by
  rw [wayF_at (i := i) (by omega), ← befF_yes hz h1 hq h2]
  have := befF_mono (m := m) hz (i := i) (p := q + 1) (zs.length - q) (by omega)
  rwa [show q + 1 + (zs.length - q) = zs.length + 1 by omega] at this

def idxF (m : Msr) (zs : List Int) : Nat → List Int → Int
  | _, [] => 0
  | p, x :: r => befF m zs p (p + x.toNat) + idxF m zs (p + x.toNat) r
def idxA (m : Msr) (zs ls : List Int) : Int := if isBrk m zs ls then idxF m zs 0 ls else -1
def cntA (m : Msr) (zs : List Int) : Int := if okW m zs then wayF m zs 0 else -1
theorem idxF_bound {m : Msr} {zs : List Int} (hz : zs.length ≤ 40) : ∀ (ls : List Int) (p : Nat), p ≤ zs.length → brkF m zs p ls = true → 0 ≤ idxF m zs p ls ∧ idxF m zs p ls < wayF m zs p
  | [], p, hp, hb => by
    have : p = zs.length := by simpa [brkF] using hb
    subst this
    rw [wayF_end]; simp [idxF]
  | x :: r, p, hp, hb => by
    rw [brkF, Bool.and_eq_true, Bool.and_eq_true] at hb
    have h1 := inB_true hb.1
    obtain ⟨q, rfl⟩ : ∃ q : Nat, x = (q : Int) := ⟨x.toNat, by omega⟩
    simp only [Int.toNat_natCast] at hb
    rw [idxF, Int.toNat_natCast]
    have h2 := idxF_bound hz r (p + q) (by omega) hb.2.2
    have h3 := bef_way hz (show p < p + q by omega) (by omega) hb.2.1
    have h4 := befF_range (m := m) hz hp (show p + q ≤ zs.length + 1 by omega)
    omega
theorem idxF_at {m : Msr} {zs ls : List Int} {p k : Nat} {x : Int} (h : ls[k]? = some x) : idxF m zs p (ls.drop k) = befF m zs p (p + x.toNat) + idxF m zs (p + x.toNat) (ls.drop (k + 1)) := by
  rw [drop_at h]; rfl
theorem idxF_end {m : Msr} {zs ls : List Int} {p k : Nat} (h : ls.length = k) : idxF m zs p (ls.drop k) = 0 := by
  rw [List.drop_of_length_le (by omega)]; rfl
end Go.Proofs.YtobakeahbgodbaaGreat

namespace Go.Proofs.YtobakeahbgodbaaGreat
open Go.RowKit
set_option linter.unusedVariables false

def tryE (ld : Int → Nat → Nat → Bool × Int) (rec : List Int → Nat → Int → Option (List Int) × Int) (ls : List Int) (p : Nat) : List Nat → Int → Option (List Int) × Int
  | [], s => (none, s)
  | q :: es, s =>
    if (ld s p q).1 then
      (match rec (ls ++ [(q : Int) - p]) q (ld s p q).2 with
       | (some r, s2) => (some r, s2)
       | (none, s2) => tryE ld rec ls p es s2)
    else tryE ld rec ls p es (ld s p q).2
def goE (m : Msr) (zs : List Int) (ld : Int → Nat → Nat → Bool × Int) : Nat → List Int → Nat → Int → Option (List Int) × Int
  | 0, _, _, s => (none, s)
  | f + 1, ls, p, s => if p = zs.length then (some ls, s) else tryE ld (goE m zs ld f) ls p (endsTo m zs p (zs.length + 1)) s
section
variable {ld : Int → Nat → Nat → Bool × Int} {rec : List Int → Nat → Int → Option (List Int) × Int} {ls : List Int} {p : Nat}
theorem tryE_none {es : List Nat} {s s2 : Int} (h : tryE ld rec ls p es s = (none, s2)) (es2 : List Nat) : tryE ld rec ls p (es ++ es2) s = tryE ld rec ls p es2 s2 := by
  induction es generalizing s with
  | nil => simp [tryE] at h; subst h; rfl
  | cons q es ih =>
    rw [List.cons_append]
    rw [tryE] at h ⊢
    split at h
    · rename_i hq
      rw [if_pos hq]
      cases hr : rec (ls ++ [(q : Int) - p]) q (ld s p q).2 with
      | mk o s3 =>
        rw [hr] at h
        cases o with
        | none => simp only at h ⊢; exact ih h
        | some r => simp at h
    · rename_i hq
      rw [if_neg hq]
      exact ih h
theorem tryE_some {es : List Nat} {s s2 : Int} {r : List Int} (h : tryE ld rec ls p es s = (some r, s2)) (es2 : List Nat) : tryE ld rec ls p (es ++ es2) s = (some r, s2) := by
  induction es generalizing s with
  | nil => simp [tryE] at h
  | cons q es ih =>
    rw [List.cons_append]
    rw [tryE] at h ⊢
    split at h
    · rename_i hq
      rw [if_pos hq]
      cases hr : rec (ls ++ [(q : Int) - p]) q (ld s p q).2 with
      | mk o s3 =>
        rw [hr] at h
        cases o with
        | none => simp only at h ⊢; exact ih h
        | some r => simpa using h
    · rename_i hq
      rw [if_neg hq]
      exact ih h
theorem tryE_skip {q : Nat} {s s2 : Int} (h : ld s p q = (false, s2)) (es : List Nat) : tryE ld rec ls p (q :: es) s = tryE ld rec ls p es s2 := by
  rw [tryE, h]; simp
theorem tryE_dead {q : Nat} {s s2 s3 : Int} (h : ld s p q = (true, s2)) (h2 : rec (ls ++ [(q : Int) - p]) q s2 = (none, s3)) (es : List Nat) : tryE ld rec ls p (q :: es) s = tryE ld rec ls p es s3 := by
  rw [tryE, h]; simp [h2]
theorem tryE_found {q : Nat} {s s2 s3 : Int} {r : List Int} (h : ld s p q = (true, s2)) (h2 : rec (ls ++ [(q : Int) - p]) q s2 = (some r, s3)) (es : List Nat) : tryE ld rec ls p (q :: es) s = (some r, s3) := by
  rw [tryE, h]; simp [h2]
end
/-- the ends at most n, parted at q -/
theorem endsTo_split (m : Msr) (zs : List Int) (p : Nat) {q N : Nat} (h : q ≤ N) : ∃ es, endsTo m zs p N = endsTo m zs p q ++ es := by
  obtain ⟨d, rfl⟩ : ∃ d, N = q + d := ⟨N - q, by omega⟩
  unfold endsTo
  rw [List.range_add, List.filter_append]
  exact ⟨_, rfl⟩
theorem goE_len {m : Msr} {zs : List Int} {ld : Int → Nat → Nat → Bool × Int} (f : Nat) (ls : List Int) (s : Int) : goE m zs ld (f + 1) ls zs.length s = (some ls, s) := by rw [goE, if_pos rfl]
theorem goE_at {m : Msr} {zs : List Int} {ld : Int → Nat → Nat → Bool × Int} {f : Nat} {ls : List Int} {p : Nat} {s : Int} (h : p < zs.length) : goE m zs ld (f + 1) ls p s = tryE ld (goE m zs ld f) ls p (endsTo m zs p (zs.length + 1)) s := by rw [goE, if_neg (by omega)]

/-! the longest line -/
def lastE (m : Msr) (zs : List Int) (p : Nat) : Nat := (endsTo m zs p (zs.length + 1)).getLastD p
def grdF (m : Msr) (zs : List Int) : Nat → Nat → Option (List Int)
  | 0, _ => none
  | f + 1, p => if p = zs.length then some [] else if lastE m zs p = p then none else (grdF m zs f (lastE m zs p)).map (fun r => ((lastE m zs p : Int) - p) :: r)
def grdA (m : Msr) (zs : List Int) : Option (List Int) := if okW m zs then grdF m zs (zs.length + 1) 0 else none
theorem lastE_cases (m : Msr) (zs : List Int) (p : Nat) (hp : p ≤ zs.length) :
    (lastE m zs p = p ∧ endsTo m zs p (zs.length + 1) = []) ∨ (p < lastE m zs p ∧ lastE m zs p ≤ zs.length ∧ lineW m zs p (lastE m zs p) = true ∧ endsTo m zs p (zs.length + 1) = endsTo m zs p (lastE m zs p) ++ [lastE m zs p]) := by
  -- the last end by going down
  have key : ∀ N, N ≤ zs.length + 1 → (endsTo m zs p N = [] ∨ ∃ q, q < N ∧ p < q ∧ lineW m zs p q = true ∧ endsTo m zs p N = endsTo m zs p q ++ [q]) := by
    intro N
    induction N with
    | zero => intro _; exact .inl (endsTo_low (by omega))
    | succ N ih =>
      intro hN
      cases h : (decide (p < N) && lineW m zs p N)
      · rw [endsTo_no h]
        rcases ih (by omega) with h1 | ⟨q, h1, h2, h3, h4⟩
        · exact .inl h1
        · exact .inr ⟨q, by omega, h2, h3, h4⟩
      · rw [Bool.and_eq_true, decide_eq_true_eq] at h
        exact .inr ⟨N, by omega, h.1, h.2, endsTo_yes h.1 h.2⟩
  rcases key (zs.length + 1) (Nat.le_refl _) with h | ⟨q, h1, h2, h3, h4⟩
  · left; exact ⟨by unfold lastE; rw [h]; rfl, h⟩
  · right
    have e : lastE m zs p = q := by unfold lastE; rw [h4]; simp
    rw [e]
    exact ⟨h2, by omega, h3, h4⟩
def ldG (m : Msr) (zs : List Int) : Int → Nat → Nat → Bool × Int := fun s p q => (q == lastE m zs p, s)
theorem tryE_pass {ld : Int → Nat → Nat → Bool × Int} {rec : List Int → Nat → Int → Option (List Int) × Int} {ls : List Int} {p : Nat} {s : Int} (es : List Nat) (h : ∀ q ∈ es, ld s p q = (false, s)) : tryE ld rec ls p es s = (none, s) := by
  induction es with
  | nil => rfl
  | cons q es ih => rw [tryE_skip (h q List.mem_cons_self)]; exact ih (fun x hx => h x (List.mem_cons_of_mem _ hx))
theorem goE_greedy (m : Msr) (zs : List Int) : ∀ (f : Nat) (ls : List Int) (p : Nat) (s : Int), zs.length < f + p → p ≤ zs.length → goE m zs (ldG m zs) f ls p s = ((grdF m zs f p).map (ls ++ ·), s)
  | 0, ls, p, s, h1, h2 => by omega
  | f + 1, ls, p, s, h1, h2 => by
    rcases Nat.lt_or_ge p zs.length with h | h
    · rw [goE_at h, grdF, if_neg (by omega)]
      rcases lastE_cases m zs p h2 with ⟨h3, h4⟩ | ⟨h3, h4, h5, h6⟩
      · rw [if_pos h3, h4]; rfl
      · rw [if_neg (by omega), h6]
        have hpass := tryE_pass (ld := ldG m zs) (rec := goE m zs (ldG m zs) f) (ls := ls) (p := p) (s := s) (endsTo m zs p (lastE m zs p)) (fun q hq => by
          have := (mem_endsTo.1 hq).1
          unfold ldG
          rw [show (q == lastE m zs p) = false from by rw [beq_eq_false_iff_ne]; omega])
        rw [tryE_none hpass]
        have hgo := goE_greedy m zs f (ls ++ [(lastE m zs p : Int) - p]) (lastE m zs p) s (by omega) h4
        have hld : ldG m zs s p (lastE m zs p) = (true, s) := by unfold ldG; simp
        cases hg : grdF m zs f (lastE m zs p) with
        | none =>
          rw [hg] at hgo
          rw [tryE_dead hld hgo]; rfl
        | some r =>
          rw [hg] at hgo
          rw [tryE_found hld hgo]
          simp
    · obtain rfl : p = zs.length := by omega
      rw [goE_len, grdF, if_pos rfl]
      simp
theorem grdF_brk {m : Msr} {zs : List Int} (hz : zs.length ≤ 40) : ∀ (f p : Nat) (ls : List Int), p ≤ zs.length → grdF m zs f p = some ls → brkF m zs p ls = true ∧ idxF m zs p ls = wayF m zs p - 1
  | 0, p, ls, hp, h => by simp [grdF] at h
  | f + 1, p, ls, hp, h => by
    rw [grdF] at h
    split at h
    · rename_i e
      subst e
      injection h with h
      subst h
      exact ⟨by simp [brkF], by rw [wayF_end]; simp [idxF]⟩
    · split at h
      · cases h
      · rename_i h1 h2
        rcases lastE_cases m zs p hp with ⟨h3, _⟩ | ⟨h3, h4, h5, h6⟩
        · exact absurd h3 h2
        · cases hg : grdF m zs f (lastE m zs p) with
          | none => rw [hg] at h; cases h
          | some r =>
            rw [hg] at h
            injection h with h
            subst h
            obtain ⟨h7, h8⟩ := grdF_brk hz f _ r h4 hg
            have e1 : p + ((lastE m zs p : Int) - p).toNat = lastE m zs p := by omega
            refine ⟨?_, ?_⟩
            · rw [brkF, e1, h5, h7]
              simp [inB]; omega
            · rw [idxF, e1, h8, wayF_at (i := p) (by omega)]
              have hb : befF m zs p (zs.length + 1) = befF m zs p (lastE m zs p) + wayF m zs (lastE m zs p) := by
                have hy := befF_yes hz h3 h4 h5
                unfold befF at hy ⊢
                rw [h6, ← endsTo_yes h3 h5]
                exact hy
              rw [hb]; omega
end Go.Proofs.YtobakeahbgodbaaGreat

namespace Go.Proofs.YtobakeahbgodbaaGreat
open Go.RowKit
set_option linter.unusedVariables false

/-! the breaking with an index -/
def ldA (m : Msr) (zs : List Int) : Int → Nat → Nat → Bool × Int := fun s _ q => if wayF m zs q ≤ s then (false, s - wayF m zs q) else (true, s)
theorem tryE_index {m : Msr} {zs : List Int} (hz : zs.length ≤ 40) {rec : List Int → Nat → Int → Option (List Int) × Int} {ls : List Int} {p : Nat} {s : Int} :
    ∀ (N : Nat), N ≤ zs.length + 1 → befF m zs p N ≤ s → tryE (ldA m zs) rec ls p (endsTo m zs p N) s = (none, s - befF m zs p N) := by
  intro N
  induction N with
  | zero => intro _ _; rw [endsTo_low (by omega), befF_low (by omega)]; simp [tryE]
  | succ N ih =>
    intro hN hs
    cases h : (decide (p < N) && lineW m zs p N)
    · rw [befF_no h] at hs ⊢
      rw [endsTo_no h]; exact ih (by omega) hs
    · rw [Bool.and_eq_true, decide_eq_true_eq] at h
      have hy := befF_yes hz h.1 (show N ≤ zs.length by omega) h.2
      have hw := wayF_range (m := m) hz (show N ≤ zs.length by omega)
      rw [hy] at hs ⊢
      rw [endsTo_yes h.1 h.2, tryE_none (ih (by omega) (by omega))]
      rw [tryE_skip (s2 := s - befF m zs p N - wayF m zs N) (by unfold ldA; rw [if_pos (by omega)])]
      simp [tryE]; omega
/-- some end holds the index -/
theorem bef_find {m : Msr} {zs : List Int} (hz : zs.length ≤ 40) {p : Nat} {s : Int} (h0 : 0 ≤ s) : ∀ N, N ≤ zs.length + 1 → s < befF m zs p N → ∃ q, p < q ∧ q < N ∧ lineW m zs p q = true ∧ befF m zs p q ≤ s ∧ s < befF m zs p q + wayF m zs q := by
  intro N
  induction N with
  | zero => intro _ h; rw [befF_low (by omega)] at h; omega
  | succ N ih =>
    intro hN hs
    by_cases hlt : s < befF m zs p N
    · obtain ⟨q, a, b, c⟩ := ih (by omega) hlt
      exact ⟨q, a, by omega, c⟩
    · cases h : (decide (p < N) && lineW m zs p N)
      · rw [befF_no h] at hs; omega
      · rw [Bool.and_eq_true, decide_eq_true_eq] at h
        rw [befF_yes hz h.1 (by omega) h.2] at hs
        exact ⟨N, h.1, by omega, h.2, by omega, hs⟩
theorem goE_index {m : Msr} {zs : List Int} (hz : zs.length ≤ 40) : ∀ (f : Nat) (ls : List Int) (p : Nat) (s : Int), zs.length < f + p → p ≤ zs.length → 0 ≤ s → s < wayF m zs p →
    ∃ r s2, goE m zs (ldA m zs) f ls p s = (some (ls ++ r), s2) ∧ brkF m zs p r = true ∧ idxF m zs p r = s
  | 0, ls, p, s, h1, h2, _, _ => by omega
  | f + 1, ls, p, s, h1, h2, h3, h4 => by
    rcases Nat.lt_or_ge p zs.length with h | h
    · rw [wayF_at h] at h4
      obtain ⟨q, a, b, c, d, e⟩ := bef_find hz h3 _ (Nat.le_refl _) h4
      obtain ⟨r, s2, g1, g2, g3⟩ := goE_index (m := m) hz f (ls ++ [(q : Int) - p]) q (s - befF m zs p q) (by omega) (by omega) (by omega) (by omega)
      obtain ⟨es, he⟩ := endsTo_split m zs p (show q + 1 ≤ zs.length + 1 by omega)
      refine ⟨((q : Int) - p) :: r, s2, ?_, ?_, ?_⟩
      · rw [goE_at h, he, endsTo_yes a c, List.append_assoc, tryE_none (tryE_index hz q (by omega) d), List.singleton_append]
        rw [tryE_found (by unfold ldA; rw [if_neg (by omega)]) g1]
        simp
      · have e1 : p + ((q : Int) - p).toNat = q := by omega
        rw [brkF, e1, c, g2]
        simp [inB]; omega
      · have e1 : p + ((q : Int) - p).toNat = q := by omega
        rw [idxF, e1, g3]; omega
    · obtain rfl : p = zs.length := by omega
      rw [wayF_end] at h4
      exact ⟨[], s, by rw [goE_len]; simp, by simp [brkF], by simp [idxF]; omega⟩
theorem goE_beyond {m : Msr} {zs : List Int} (hz : zs.length ≤ 40) (hz1 : 1 ≤ zs.length) (f : Nat) (s : Int) (h : wayF m zs 0 ≤ s) : (goE m zs (ldA m zs) (f + 1) [] 0 s).1 = none := by
  rw [goE_at (by omega), tryE_index hz _ (Nat.le_refl _) (by rw [← wayF_at (by omega)]; exact h)]
/-- one breaking has an index -/
theorem idxF_inj {m : Msr} {zs : List Int} (hz : zs.length ≤ 40) : ∀ (l1 l2 : List Int) (p : Nat), p ≤ zs.length → brkF m zs p l1 = true → brkF m zs p l2 = true → idxF m zs p l1 = idxF m zs p l2 → l1 = l2
  | [], [], _, _, _, _, _ => rfl
  | [], x :: r, p, hp, h1, h2, _ => by
    have : p = zs.length := by simpa [brkF] using h1
    rw [brkF, Bool.and_eq_true] at h2
    have := inB_true h2.1
    omega
  | x :: r, [], p, hp, h1, h2, _ => by
    have : p = zs.length := by simpa [brkF] using h2
    rw [brkF, Bool.and_eq_true] at h1
    have := inB_true h1.1
    omega
  | x :: r, y :: t, p, hp, h1, h2, h3 => by
    rw [brkF, Bool.and_eq_true, Bool.and_eq_true] at h1 h2
    have hx := inB_true h1.1
    have hy := inB_true h2.1
    obtain ⟨u, rfl⟩ : ∃ u : Nat, x = (u : Int) := ⟨x.toNat, by omega⟩
    obtain ⟨v, rfl⟩ : ∃ v : Nat, y = (v : Int) := ⟨y.toNat, by omega⟩
    simp only [Int.toNat_natCast] at h1 h2
    rw [idxF, idxF, Int.toNat_natCast, Int.toNat_natCast] at h3
    have b1 := idxF_bound hz r (p + u) (by omega) h1.2.2
    have b2 := idxF_bound hz t (p + v) (by omega) h2.2.2
    have w1 := befF_yes hz (show p < p + u by omega) (by omega) h1.2.1
    have w2 := befF_yes hz (show p < p + v by omega) (by omega) h2.2.1
    rcases Nat.lt_trichotomy u v with h | h | h
    · have := befF_mono (m := m) hz (i := p) (p := p + u + 1) (v - u - 1) (by omega)
      rw [show p + u + 1 + (v - u - 1) = p + v by omega] at this
      omega
    · subst h
      rw [idxF_inj hz r t (p + u) (by omega) h1.2.2 h2.2.2 (by omega)]
    · have := befF_mono (m := m) hz (i := p) (p := p + v + 1) (u - v - 1) (by omega)
      rw [show p + v + 1 + (u - v - 1) = p + u by omega] at this
      omega

/-! the cheapest -/
def dearC : Int := 400000
def addL (m : Msr) (zs : List Int) : Int → Nat → Nat → Int → Int := fun acc i q b => min acc (wrap64 (costW m zs i q + b))
def lstF (m : Msr) (zs : List Int) (i : Nat) : Int := valE m zs (addL m zs) 0 dearC i
def ldB (m : Msr) (zs : List Int) : Int → Nat → Nat → Bool × Int := fun s p q => (costW m zs p q + lstF m zs q == lstF m zs p, s)
theorem lstF_end (m : Msr) (zs : List Int) : lstF m zs zs.length = 0 := valE_end _ _ _ _ _
theorem costW_lo {m : Msr} {zs : List Int} (ho : okW m zs = true) {a b : Nat} (hb : b ≤ zs.length) (hl : lineW m zs a b = true) : 0 ≤ costW m zs a b ∧ costW m zs a b ≤ 9801 := costW_bound ho hb hl
/-- the least so far, among the ends below N -/
def lstT (m : Msr) (zs : List Int) (i N : Nat) : Int := (endsTo m zs i N).foldl (fun acc q => addL m zs acc i q (lstF m zs q)) dearC
theorem lstF_at {m : Msr} {zs : List Int} {i : Nat} (hi : i < zs.length) : lstF m zs i = lstT m zs i (zs.length + 1) := valE_at hi
theorem lst_bound {m : Msr} {zs : List Int} (ho : okW m zs = true) : ∀ (d i : Nat), zs.length - i = d → i ≤ zs.length →
    (0 ≤ lstF m zs i ∧ lstF m zs i ≤ dearC) ∧ ∀ N, i < N → N ≤ zs.length + 1 → (0 ≤ lstT m zs i N ∧ lstT m zs i N ≤ dearC) := by
  intro d
  induction d using Nat.strongRecOn with
  | _ d ih =>
    intro i hd hi
    have hb : ∀ N, N ≤ zs.length + 1 → (0 ≤ lstT m zs i N ∧ lstT m zs i N ≤ dearC) := by
      intro N
      induction N with
      | zero => intro _; unfold lstT; rw [endsTo_low (by omega)]; simp [dearC]
      | succ N ihN =>
        intro hN
        have h3 := ihN (by omega)
        cases h : (decide (i < N) && lineW m zs i N)
        · unfold lstT at h3 ⊢; rw [endsTo_no h]; exact h3
        · rw [Bool.and_eq_true, decide_eq_true_eq] at h
          have h4 := (ih (zs.length - N) (by omega) N rfl (by omega)).1
          have hc := costW_bound ho (show N ≤ zs.length by omega) h.2
          unfold lstT at h3 ⊢
          rw [endsTo_yes h.1 h.2, List.foldl_append]
          simp only [List.foldl_cons, List.foldl_nil]
          unfold addL at h3 ⊢
          have hw : wrap64 (costW m zs i N + lstF m zs N) = costW m zs i N + lstF m zs N := by
            have := IntKind.wrap_i64 (costW m zs i N + lstF m zs N)
            unfold dearC at *
            unfold wrap64; omega
          rw [hw]
          omega
    refine ⟨?_, fun N _ hN => hb N hN⟩
    rcases Nat.lt_or_ge i zs.length with h | h
    · rw [lstF_at h]; exact hb _ (Nat.le_refl _)
    · obtain rfl : i = zs.length := by omega
      rw [lstF_end]; simp [dearC]
theorem lstT_yes {m : Msr} {zs : List Int} (ho : okW m zs = true) {i N : Nat} (h1 : i < N) (hN : N ≤ zs.length) (h2 : lineW m zs i N = true) : lstT m zs i (N + 1) = min (lstT m zs i N) (costW m zs i N + lstF m zs N) := by
  have h4 := (lst_bound ho _ N rfl hN).1
  have hc := costW_bound ho hN h2
  unfold lstT
  rw [endsTo_yes h1 h2, List.foldl_append]
  simp only [List.foldl_cons, List.foldl_nil]
  unfold addL
  rw [show wrap64 (costW m zs i N + lstF m zs N) = costW m zs i N + lstF m zs N by
    have := IntKind.wrap_i64 (costW m zs i N + lstF m zs N)
    unfold dearC at *
    unfold wrap64; omega]
theorem lstT_no {m : Msr} {zs : List Int} {i N : Nat} (h : (decide (i < N) && lineW m zs i N) = false) : lstT m zs i (N + 1) = lstT m zs i N := by unfold lstT; rw [endsTo_no h]
theorem lstT_low {m : Msr} {zs : List Int} {i N : Nat} (h : N ≤ i + 1) : lstT m zs i N = dearC := by unfold lstT; rw [endsTo_low h]; rfl
/-- whatever end: no cheaper -/
theorem lstT_le {m : Msr} {zs : List Int} (ho : okW m zs = true) {i : Nat} : ∀ N, N ≤ zs.length + 1 → ∀ q, i < q → q < N → lineW m zs i q = true → lstT m zs i N ≤ costW m zs i q + lstF m zs q := by
  intro N
  induction N with
  | zero => intro _ q _ h; omega
  | succ N ih =>
    intro hN q h1 h2 h3
    cases h : (decide (i < N) && lineW m zs i N)
    · rw [lstT_no h]
      by_cases e : q = N
      · subst e; rw [h3] at h; simp at h; omega
      · exact ih (by omega) q h1 (by omega) h3
    · rw [Bool.and_eq_true, decide_eq_true_eq] at h
      rw [lstT_yes ho h.1 (by omega) h.2]
      by_cases e : q = N
      · subst e; omega
      · have := ih (by omega) q h1 (by omega) h3; omega
/-- the least is one end's, if it is not too dear; the first such -/
theorem lstT_find {m : Msr} {zs : List Int} (ho : okW m zs = true) {i : Nat} : ∀ N, N ≤ zs.length + 1 → lstT m zs i N < dearC →
    ∃ q, i < q ∧ q < N ∧ lineW m zs i q = true ∧ costW m zs i q + lstF m zs q = lstT m zs i N ∧ ∀ j, i < j → j < q → lineW m zs i j = true → costW m zs i j + lstF m zs j ≠ lstT m zs i N := by
  intro N
  induction N with
  | zero => intro _ h; rw [lstT_low (by omega)] at h; omega
  | succ N ih =>
    intro hN hlt
    cases h : (decide (i < N) && lineW m zs i N)
    · rw [lstT_no h] at hlt ⊢
      obtain ⟨q, a, b, c⟩ := ih (by omega) hlt
      exact ⟨q, a, by omega, c⟩
    · rw [Bool.and_eq_true, decide_eq_true_eq] at h
      rw [lstT_yes ho h.1 (by omega) h.2] at hlt ⊢
      by_cases hle : lstT m zs i N ≤ costW m zs i N + lstF m zs N
      · rw [show min (lstT m zs i N) (costW m zs i N + lstF m zs N) = lstT m zs i N by omega] at hlt ⊢
        obtain ⟨q, a, b, c⟩ := ih (by omega) hlt
        exact ⟨q, a, by omega, c⟩
      · rw [show min (lstT m zs i N) (costW m zs i N + lstF m zs N) = costW m zs i N + lstF m zs N by omega] at hlt ⊢
        refine ⟨N, h.1, by omega, h.2, rfl, fun j h1 h2 h3 => ?_⟩
        have := lstT_le ho N (by omega) j h1 h2 h3
        omega
def bstF (m : Msr) (zs : List Int) : Nat → Nat → List Int
  | 0, _ => []
  | f + 1, p => if p = zs.length then [] else match (endsTo m zs p (zs.length + 1)).find? (fun q => costW m zs p q + lstF m zs q == lstF m zs p) with
    | some q => ((q : Int) - p) :: bstF m zs f q
    | none => []
theorem bst_find {m : Msr} {zs : List Int} (ho : okW m zs = true) {p : Nat} (hp : p < zs.length) (h : lstF m zs p < dearC) :
    ∃ q es, p < q ∧ q ≤ zs.length ∧ lineW m zs p q = true ∧ costW m zs p q + lstF m zs q = lstF m zs p ∧ endsTo m zs p (zs.length + 1) = endsTo m zs p q ++ q :: es ∧ (∀ j ∈ endsTo m zs p q, (costW m zs p j + lstF m zs j == lstF m zs p) = false) ∧
      (endsTo m zs p (zs.length + 1)).find? (fun q => costW m zs p q + lstF m zs q == lstF m zs p) = some q := by
  have hl := h
  rw [lstF_at hp] at hl
  obtain ⟨q, a, b, c, d, e⟩ := lstT_find ho _ (Nat.le_refl _) hl
  rw [← lstF_at hp] at d e
  obtain ⟨es, he⟩ := endsTo_split m zs p (show q + 1 ≤ zs.length + 1 by omega)
  rw [endsTo_yes a c, List.append_assoc, List.singleton_append] at he
  have hno : ∀ j ∈ endsTo m zs p q, (costW m zs p j + lstF m zs j == lstF m zs p) = false := fun j hj => by
    have hj := mem_endsTo.1 hj
    rw [beq_eq_false_iff_ne]
    exact e j hj.2.1 hj.1 hj.2.2
  refine ⟨q, es, a, by omega, c, d, he, hno, ?_⟩
  rw [he, List.find?_append]
  rw [List.find?_eq_none.2 (fun j hj => by rw [hno j hj]; simp)]
  simp [d]
theorem goE_best {m : Msr} {zs : List Int} (ho : okW m zs = true) : ∀ (f : Nat) (ls : List Int) (p : Nat) (s : Int), zs.length < f + p → p ≤ zs.length → lstF m zs p < dearC → goE m zs (ldB m zs) f ls p s = (some (ls ++ bstF m zs f p), s)
  | 0, ls, p, s, h1, h2, _ => by omega
  | f + 1, ls, p, s, h1, h2, h3 => by
    rcases Nat.lt_or_ge p zs.length with h | h
    · obtain ⟨q, es, a, b, c, d, e, g, k⟩ := bst_find ho h h3
      have hc := costW_bound ho b c
      have hgo := goE_best ho f (ls ++ [(q : Int) - p]) q s (by omega) b (by omega)
      rw [goE_at h, e, tryE_none (tryE_pass _ (fun j hj => by unfold ldB; rw [g j hj]))]
      rw [tryE_found (by unfold ldB; rw [d]; simp) hgo, bstF, if_neg (by omega), k]
      simp
    · obtain rfl : p = zs.length := by omega
      rw [goE_len, bstF, if_pos rfl]; simp
/-- a breaking, as cheap as told, and none cheaper -/
theorem bstF_brk {m : Msr} {zs : List Int} (ho : okW m zs = true) : ∀ (f p : Nat), zs.length < f + p → p ≤ zs.length → lstF m zs p < dearC → brkF m zs p (bstF m zs f p) = true ∧ costF m zs p (bstF m zs f p) = lstF m zs p
  | 0, p, h1, h2, _ => by omega
  | f + 1, p, h1, h2, h3 => by
    rcases Nat.lt_or_ge p zs.length with h | h
    · obtain ⟨q, es, a, b, c, d, e, g, k⟩ := bst_find ho h h3
      have hc := costW_bound ho b c
      obtain ⟨h4, h5⟩ := bstF_brk ho f q (by omega) b (by omega)
      rw [bstF, if_neg (by omega), k]
      have e1 : p + ((q : Int) - p).toNat = q := by omega
      refine ⟨?_, ?_⟩
      · show brkF m zs p (((q : Int) - p) :: bstF m zs f q) = true
        rw [brkF, e1, c, h4]
        simp [inB]; omega
      · show costF m zs p (((q : Int) - p) :: bstF m zs f q) = _
        rw [costF, e1, h5]; exact d
    · obtain rfl : p = zs.length := by omega
      rw [bstF, if_pos rfl, lstF_end]; simp [brkF, costF]
theorem cost_least {m : Msr} {zs : List Int} (ho : okW m zs = true) : ∀ (ls : List Int) (p : Nat), p ≤ zs.length → brkF m zs p ls = true → lstF m zs p ≤ costF m zs p ls
  | [], p, hp, hb => by
    have : p = zs.length := by simpa [brkF] using hb
    subst this
    rw [lstF_end]; simp [costF]
  | x :: r, p, hp, hb => by
    rw [brkF, Bool.and_eq_true, Bool.and_eq_true] at hb
    have hx := inB_true hb.1
    obtain ⟨u, rfl⟩ : ∃ u : Nat, x = (u : Int) := ⟨x.toNat, by omega⟩
    simp only [Int.toNat_natCast] at hb
    rw [costF, Int.toNat_natCast, lstF_at (by omega)]
    have h1 := lstT_le ho (zs.length + 1) (Nat.le_refl _) (p + u) (by omega) (by omega) hb.2.1
    have h2 := cost_least ho r (p + u) (by omega) hb.2.2
    omega
/-- the cheapest one comes first among its equals -/
theorem bst_first {m : Msr} {zs : List Int} (ho : okW m zs = true) (hz : zs.length ≤ 40) : ∀ (f : Nat) (ls : List Int) (p : Nat), zs.length < f + p → p ≤ zs.length → lstF m zs p < dearC → brkF m zs p ls = true → costF m zs p ls = lstF m zs p → idxF m zs p (bstF m zs f p) ≤ idxF m zs p ls
  | 0, ls, p, h1, h2, _, _, _ => by omega
  | f + 1, [], p, h1, h2, h3, hb, hc => by
    have : p = zs.length := by simpa [brkF] using hb
    subst this
    rw [bstF, if_pos rfl]; exact Int.le_refl _
  | f + 1, x :: r, p, h1, h2, h3, hb, hc => by
    have hb0 := hb
    rw [brkF, Bool.and_eq_true, Bool.and_eq_true] at hb
    have hx := inB_true hb.1
    obtain ⟨u, rfl⟩ : ∃ u : Nat, x = (u : Int) := ⟨x.toNat, by omega⟩
    simp only [Int.toNat_natCast] at hb
    obtain ⟨q, es, a, b, c, d, e, g, k⟩ := bst_find ho (show p < zs.length by omega) h3
    have hq := costW_bound ho b c
    rw [bstF, if_neg (by omega), k]
    show idxF m zs p (((q : Int) - p) :: bstF m zs f q) ≤ _
    have e1 : p + ((q : Int) - p).toNat = q := by omega
    rw [idxF, e1, idxF, Int.toNat_natCast]
    rw [costF, Int.toNat_natCast] at hc
    have h5 := cost_least ho r (p + u) (by omega) hb.2.2
    have hcu := costW_bound ho (show p + u ≤ zs.length by omega) hb.2.1
    have h6 := lstT_le ho (zs.length + 1) (Nat.le_refl _) (p + u) (show p < p + u by omega) (by omega) hb.2.1
    rw [← lstF_at (by omega)] at h6
    have heq : costF m zs (p + u) r = lstF m zs (p + u) := by omega
    have hbq := bstF_brk ho f q (by omega) b (by omega)
    have i1 := idxF_bound hz _ q b hbq.1
    have i2 := idxF_bound hz r (p + u) (by omega) hb.2.2
    rcases Nat.lt_trichotomy q (p + u) with h | h | h
    · have w1 := befF_yes hz a b c
      have := befF_mono (m := m) hz (i := p) (p := q + 1) (p + u - q - 1) (by omega)
      rw [show q + 1 + (p + u - q - 1) = p + u by omega] at this
      omega
    · subst h
      have := bst_first ho hz f r (p + u) (by omega) b (by omega) hb.2.2 heq
      omega
    · exact absurd (show costW m zs p (p + u) + lstF m zs (p + u) = lstF m zs p by omega) (by
        have := g (p + u) (mem_endsTo.2 ⟨h, by omega, hb.2.1⟩)
        rwa [beq_eq_false_iff_ne] at this)
/-- too dear: no breaking at all -/
theorem lst_way {m : Msr} {zs : List Int} (ho : okW m zs = true) (hz : zs.length ≤ 40) {p : Nat} (hp : p ≤ zs.length) : lstF m zs p < dearC ↔ 0 < wayF m zs p := by
  constructor
  · intro h
    have hb := bstF_brk ho (zs.length + 1) p (by omega) hp h
    have := idxF_bound hz _ p hp hb.1
    omega
  · intro h
    obtain ⟨r, s2, g1, g2, g3⟩ := goE_index hz (zs.length + 1) [] p 0 (by omega) hp (Int.le_refl _) h
    have h1 := cost_least ho r p hp g2
    -- each line costs at most 9801, and there are at most 40
    have h2 : ∀ (r : List Int) (p : Nat), p ≤ zs.length → brkF m zs p r = true → costF m zs p r ≤ 9801 * ((zs.length : Int) - p) := by
      intro r
      induction r with
      | nil => intro p hp hb; have : p = zs.length := by simpa [brkF] using hb
               subst this; simp [costF]
      | cons x r ih =>
        intro p hp hb
        rw [brkF, Bool.and_eq_true, Bool.and_eq_true] at hb
        have hx := inB_true hb.1
        obtain ⟨u, rfl⟩ : ∃ u : Nat, x = (u : Int) := ⟨x.toNat, by omega⟩
        simp only [Int.toNat_natCast] at hb
        rw [costF, Int.toNat_natCast]
        have h3 := ih (p + u) (by omega) hb.2.2
        have h4 := costW_bound ho (show p + u ≤ zs.length by omega) hb.2.1
        omega
    have h3 := h2 r p hp g2
    unfold dearC; omega
end Go.Proofs.YtobakeahbgodbaaGreat
