/-
  The cursor over the bytes of a draw: each of its functions returns a number in its range, and turns no memory but the cursor's own block. Condition: the cursor is whole ('Cur').
-/
import Derived.Test.YtddkedinkgnboaaKeep
import Derived.Outline
namespace Go.Proofs.Ytddkedinkgnboaa
open Go.RowKit
set_option linter.unusedVariables false

/-- the bytes with the address A, below block b -/
def BytesB (w : World) (b : Nat) (A : Option Addr) (zs : List Int) : Prop :=
  0 < zs.length → ∃ ad, A = some ad ∧ ad.block < b ∧ ∀ j, j < zs.length → w.cell? (ad.add j) = some (.int .u8 (zs.getD j 0))
def CurAt (w : World) (g : Nat) (A : Option Addr) (n c : Nat) (i h : Int) (bs : List Int) : Prop :=
  w.heap[g]? = some (.cells #[.slice A n c, .int .i64 i, .int .i64 h] 79 (0, 0)) ∧ BytesB w g A bs ∧ bs.length = n ∧ n ≤ maxLen ∧ 0 ≤ i ∧ i ≤ n ∧ ∀ b ∈ bs, 0 ≤ b ∧ b ≤ 255
def Cur (w : World) (g : Nat) : Prop := ∃ A n c i h bs, CurAt w g A n c i h bs
/-- only the cursor's block has turned, nothing is new -/
def Turned (w w' : World) (g : Nat) : Prop := w.grownBy w' (some g) ∧ w'.heap.size = w.heap.size
theorem Turned.refl (w : World) (g : Nat) : Turned w w g := ⟨World.grownBy.refl w _, rfl⟩
theorem Turned.trans {a b c : World} {g : Nat} (h : Turned a b g) (k : Turned b c g) : Turned a c g :=
  ⟨⟨k.1.os.trans h.1.os, k.1.tape.trans h.1.tape, k.1.output.trans h.1.output, Nat.le_trans h.1.size k.1.size, fun i hi hne => (k.1.block i (by rw [h.2]; exact hi) hne).trans (h.1.block i hi hne)⟩, k.2.trans h.2⟩

theorem cell3 {w : World} {g : Nat} {a b c : Value} {t : TypeId} (h : w.heap[g]? = some (.cells #[a, b, c] t (0, 0))) :
    w.cell? ⟨g, 0, none⟩ = some a ∧ w.cell? ⟨g, 1, none⟩ = some b ∧ w.cell? ⟨g, 2, none⟩ = some c ∧ ∀ i, w.frozen? ⟨g, i, none⟩ = false := by
  refine ⟨?_, ?_, ?_, fun i => ?_⟩
  · rw [cell_of_row w g 0 _ t (0, 0) h]; rfl
  · rw [cell_of_row w g 1 _ t (0, 0) h]; rfl
  · rw [cell_of_row w g 2 _ t (0, 0) h]; rfl
  · exact frozen_of_row w g i _ t h

theorem and255 (z : Int) : 0 ≤ bits .and .i64 z 255 ∧ bits .and .i64 z 255 ≤ 255 := by
  have h : (BitVec.ofInt 64 z &&& BitVec.ofInt 64 255).toNat ≤ 255 := by
    rw [BitVec.toNat_and]
    exact Nat.le_trans Nat.and_le_right (by decide)
  have e : bits .and .i64 z 255 = IntKind.i64.wrap ((BitVec.ofInt 64 z &&& BitVec.ofInt 64 255).toNat : Int) := rfl
  rw [e, IntKind.wrap_i64]
  omega

section
variable {w : World} {g n c : Nat} {A : Option Addr} {i h : Int} {bs : List Int}
theorem BytesB.keep {w w' : World} {b : Nat} {A : Option Addr} {zs : List Int} (h : BytesB w b A zs) (hk : ∀ p : Addr, p.block < b → w'.cell? p = w.cell? p) : BytesB w' b A zs := fun hn => by
  obtain ⟨ad, e, hl, hc⟩ := h hn
  exact ⟨ad, e, hl, fun j hj => (hk _ (by rw [block_add]; exact hl)).trans (hc j hj)⟩
theorem CurAt.bytes_set (hb : BytesB w g A bs) (j : Nat) (u : Value) : BytesB (w.setCell ⟨g, j, none⟩ u) g A bs :=
  hb.keep fun p hp => World.cell?_setCell_other w ⟨g, j, none⟩ p u (fun e => by subst e; exact Nat.lt_irrefl _ hp)
theorem CurAt.seth (hc : CurAt w g A n c i h bs) (h' : Int) : CurAt (w.setCell ⟨g, 2, none⟩ (.int .i64 h')) g A n c i h' bs := by
  obtain ⟨hh, hB, rest⟩ := hc
  exact ⟨by rw [heap_setCell_same w g 2 _ _ _ hh]; rfl, CurAt.bytes_set hB 2 _, rest⟩
theorem CurAt.seti (hc : CurAt w g A n c i h bs) (i' : Int) (h0 : 0 ≤ i') (h1 : i' ≤ n) : CurAt (w.setCell ⟨g, 1, none⟩ (.int .i64 i')) g A n c i' h bs := by
  obtain ⟨hh, hB, hn, hm, _, _, hb⟩ := hc
  exact ⟨by rw [heap_setCell_same w g 1 _ _ _ hh]; rfl, CurAt.bytes_set hB 1 _, hn, hm, h0, h1, hb⟩
theorem CurAt.drewN (hc : CurAt w g A n c i h bs) (q : Nat) : CurAt (w.drewN q) g A n c i h bs := hc
theorem Turned.set (w : World) (g j : Nat) (u : Value) : Turned w (w.setCell ⟨g, j, none⟩ u) g :=
  ⟨grown_set (World.grownBy.refl w _) j u, by simp [World.setCell]⟩
theorem Turned.drewN {a : World} (ht : Turned a w g) (q : Nat) : Turned a (w.drewN q) g := ⟨⟨ht.1.os, ht.1.tape, ht.1.output, ht.1.size, ht.1.block⟩, ht.2⟩
end

set_option maxHeartbeats 1600000 in
theorem l01Byte_any (g : Nat) (w : World) (hc : Cur w g) :
    Calls Try.prog 68 #[.pointer (some ⟨g, 0, none⟩)] w fun e w' => ∃ x : Int, e = .returned (.int .i64 x) ∧ 0 ≤ x ∧ x ≤ 255 ∧ Cur w' g ∧ Turned w w' g := by
  obtain ⟨A, n, c, i, h, bs, hcur⟩ := hc
  have HC := Lib.hid hcur
  obtain ⟨hh, hB, hn, hm, hi0, hi1, hbs⟩ := hcur
  obtain ⟨c0, c1, c2, hf⟩ := cell3 hh
  have f0 := hf 0; have f1 := hf 1; have f2 := hf 2
  clear hf hbs hh
  unfold maxLen at hm
  have Hn := Lib.hid hn; clear hn
  by_cases hlt : i < n
  · obtain ⟨k, rfl⟩ := Int.eq_ofNat_of_zero_le hi0
    have hlk : k < n := by omega
    obtain ⟨ad, rfl, hab, hcell⟩ := hB (by rw [Hn.out]; omega)
    have hcb := hcell k (by rw [Hn.out]; exact hlk)
    obtain ⟨b, hb⟩ : ∃ b, bs.getD k 0 = b := ⟨_, rfl⟩
    rw [hb] at hcb
    have hne : (⟨g, 2, none⟩ : Addr) ≠ ad.add k := fun e => by have := congrArg Addr.block e; rw [block_add] at this; simp at this; omega
    have hcb2 : ∀ u, (w.setCell ⟨g, 2, none⟩ u).cell? (ad.add k) = some (.int .u8 b) := fun u => (World.cell?_setCell_other w ⟨g, 2, none⟩ (ad.add k) u hne).trans hcb
    clear hcell hcb hne hb hB hab
    go_enter Try.func68, Try.ntmps68
    go_wp2
    go_quiet (fail)
    go_wp2
    go_quiet (fail)
    go_wp2
    go_quiet (fail)
    go_wp2
    go_ret
    exact ⟨_, rfl, (and255 _).1, (and255 _).2, ⟨_, _, _, _, _, _, ((HC.out.seth _).drewN _).seti _ (by omega) (by omega)⟩, ((Turned.set _ _ _ _).drewN _).trans (Turned.set _ _ _ _)⟩
  · clear hB
    go_enter Try.func68, Try.ntmps68
    go_wp2
    go_quiet (fail)
    go_wp2
    go_quiet (fail)
    go_wp2
    go_ret
    exact ⟨_, rfl, (and255 _).1, (and255 _).2, ⟨_, _, _, _, _, _, (((HC.out.seth _).drewN _).drewN _)⟩, (((Turned.set _ _ _ _).drewN _).drewN _)⟩

set_option maxHeartbeats 800000 in
theorem l01Below_any (g : Nat) (m : Int) (w : World) (hc : Cur w g) :
    Calls Try.prog 43 #[.pointer (some ⟨g, 0, none⟩), .int .i64 m] w fun e w' => ∃ x : Int, e = .returned (.int .i64 x) ∧ 0 ≤ x ∧ (0 < m → x < m) ∧ Cur w' g ∧ Turned w w' g := by
  have HC := Lib.hid hc; clear hc
  by_cases h0 : m ≤ 0
  · go_enter Try.func43, Try.ntmps43
    go_wp2
    go_ret
    exact ⟨0, rfl, by omega, by omega, HC.out, Turned.refl _ _⟩
  by_cases h1 : m ≤ 256
  · go_enter Try.func43, Try.ntmps43
    go_wp2_with (go_at_call 68; refine (l01Byte_any g _ HC.out).mono ?_; rintro e w1 ⟨x, rfl, hx0, hx1, hc1, ht1⟩)
    go_ret
    exact ⟨x % m, rfl, Int.emod_nonneg _ (by omega), fun _ => Int.emod_lt_of_pos _ (by omega), hc1, ht1⟩
  · go_enter Try.func43, Try.ntmps43
    go_wp2_with fail
    refine (l01Byte_any g _ HC.out).mono ?_
    rintro e w1 ⟨x, rfl, hx0, hx1, hc1, ht1⟩
    go_wp2_with fail
    refine (l01Byte_any g _ hc1).mono ?_
    rintro e w2 ⟨y, rfl, hy0, hy1, hc2, ht2⟩
    go_wp2_with fail
    refine (l01Byte_any g _ hc2).mono ?_
    rintro e w3 ⟨z, rfl, hz0, hz1, hc3, ht3⟩
    go_wp2_with fail
    refine (l01Byte_any g _ hc3).mono ?_
    rintro e w4 ⟨u, rfl, hu0, hu1, hc4, ht4⟩
    go_wp2
    go_ret
    exact ⟨(x * 16777216 + y * 65536 + z * 256 + u) % m, rfl, Int.emod_nonneg _ (by omega), fun _ => Int.emod_lt_of_pos _ (by omega), hc4, ((ht1.trans ht2).trans ht3).trans ht4⟩

theorem l01Once_any (g : Nat) (m : Int) (w : World) (hc : Cur w g) :
    Calls Try.prog 44 #[.pointer (some ⟨g, 0, none⟩), .int .i64 m] w fun e w' => ∃ b : Bool, e = .returned (.bool b) ∧ Cur w' g ∧ Turned w w' g := by
  have HC := Lib.hid hc; clear hc
  go_enter Try.func44, Try.ntmps44
  go_wp2_with (go_at_call 43; refine (l01Below_any g _ _ HC.out).mono ?_; rintro e w1 ⟨x, rfl, hx0, hx1, hc1, ht1⟩)
  go_ret
  exact ⟨_, rfl, hc1, ht1⟩

/-- the slice of bytes with the address A reads as zs -/
def Bytes (w : World) (A : Option Addr) (zs : List Int) : Prop :=
  0 < zs.length → ∃ ad, A = some ad ∧ ∀ j, j < zs.length → w.cell? (ad.add j) = some (.int .u8 (zs.getD j 0))
theorem Bytes.nil (w : World) (A : Option Addr) : Bytes w A [] := fun h => absurd h (by simp)
theorem Bytes.of_row {w : World} {x : Addr} {zs : List Int} {n : Nat} (hn : n ≤ zs.length) (hc : ∀ i, i < zs.length → w.cell? (x.add i) = some (.int .u8 (zs.getD i 0))) : Bytes w (some x) (zs.take n) := by
  intro _
  refine ⟨x, rfl, fun j hj => ?_⟩
  rw [List.length_take] at hj
  rw [hc j (by omega)]
  simp only [List.getD, List.getElem?_take]
  rw [if_pos (by omega)]
theorem Bytes.toB {w : World} {A : Option Addr} {zs : List Int} (h : Bytes w A zs) : BytesB w w.heap.size A zs := fun hn => by
  obtain ⟨ad, e, hc⟩ := h hn
  exact ⟨ad, e, by have := World.block_lt_of_cell? _ _ (hc 0 hn); rwa [block_add] at this, hc⟩
theorem u8_bd {z : Int} (h : (Lit.int .u8 z).wf = true) : 0 ≤ z ∧ z ≤ 255 := by
  simp [Lit.wf, IntKind.min, IntKind.max, IntKind.signed, IntKind.bits] at h
  omega

set_option maxRecDepth 100000 in
set_option maxHeartbeats 800000 in
theorem l01New_any (A : Option Addr) (n c : Nat) (bs : List Int) (w : World) (hn : bs.length = n) (hm : n ≤ maxLen) (h : Bytes w A bs) (wf : ∀ z ∈ bs, (Lit.int .u8 z).wf = true) :
    Calls Try.prog 41 #[.slice A n c] w fun e w' => e = .returned (.pointer (some ⟨w.heap.size, 0, none⟩)) ∧ Cur w' w.heap.size ∧ Below w.heap.size w w' ∧ w'.heap.size = w.heap.size + 1 := by
  have HB := Lib.hid h.toB
  have Hn := Lib.hid hn; clear hn
  have Hwf := Lib.hid wf; clear wf
  have hm0 := hm
  unfold maxLen at hm
  go_enter Try.func41, Try.ntmps41
  go_wp2
  go_loop [3, 4] (fun hv i => ∃ k : Nat, ∃ q : Int, k ≤ n ∧ k ≤ 4000 ∧ i = .int .i64 k ∧ hv = .int .i64 q) (fun _ i => n - (intOf i).toNat)
  case atStart => exact ⟨0, _, Nat.zero_le _, Nat.zero_le _, rfl, rfl⟩
  case round =>
    obtain ⟨k, q, hk, hk4, rfl, rfl⟩ := hrel
    have fin : ∀ (q : Int), Cur (w.alloc (.cells #[.slice A n c, .int .i64 0, .int .i64 q] 79)) w.heap.size := fun q =>
      ⟨A, n, c, 0, q, bs, heap_alloc_new w _, HB.out.keep fun p hp => World.cell?_alloc_lt w _ p hp, Hn.out, hm0, by omega, by omega, fun b hb => u8_bd (Hwf.out b hb)⟩
    have FIN := Lib.hid fin; clear fin
    by_cases hlt : k < n
    · by_cases h4 : k < 4000
      · obtain ⟨ad, rfl, hc⟩ := h (by rw [Hn.out]; omega)
        have hck := hc k (by rw [Hn.out]; exact hlt)
        obtain ⟨b, hb⟩ : ∃ b, bs.getD k 0 = b := ⟨_, rfl⟩
        rw [hb] at hck
        clear hb hc
        go_wp2
        go_round
        case rel => exact ⟨k + 1, _, by omega, by omega, by go_num, rfl⟩
        case measure => simp [intOf]; omega
      · go_wp2
        go_ret
        exact ⟨rfl, FIN.out _, (Below.refl _ _).alloc (Nat.le_refl _) _, by simp⟩
    · go_wp2
      go_ret
      exact ⟨rfl, FIN.out _, (Below.refl _ _).alloc (Nat.le_refl _) _, by simp⟩

set_option maxHeartbeats 800000 in
/-- l01Int: one of the list's numbers; the list is not empty and lies elsewhere -/
theorem l01Int_any (g : Nat) (A : Option Addr) (n c b : Nat) (zs : List Int) (w : World) (hc : Cur w g) (hn : zs.length = n) (hm : n ≤ maxLen) (hp : 0 < n) (h : IntsB w b A zs) (hne : ∀ ad, A = some ad → ad.block ≠ g) :
    Calls Try.prog 45 #[.pointer (some ⟨g, 0, none⟩), .slice A n c] w fun e w' => ∃ x : Int, e = .returned (.int .i64 x) ∧ x ∈ zs ∧ Cur w' g ∧ Turned w w' g := by
  have HC := Lib.hid hc; clear hc
  have Hn := Lib.hid hn; clear hn
  unfold maxLen at hm
  obtain ⟨ad, rfl, hlt, hcell⟩ := h (by rw [Hn.out]; exact hp)
  have Hcell := Lib.hid hcell; clear hcell
  have hne' := hne ad rfl
  clear hne
  go_enter Try.func45, Try.ntmps45
  go_wp2_with fail
  refine (l01Below_any g _ _ HC.out).mono ?_
  rintro e w1 ⟨x, rfl, hx0, hx1, hc1, ht1⟩
  obtain ⟨k, rfl⟩ := Int.eq_ofNat_of_zero_le hx0
  have hk : k < n := by have := hx1 (by omega); omega
  have hck : w1.cell? (ad.add k) = some (.int .i64 (zs.getD k 0)) := ht1.1.cell (Hcell.out k (by rw [Hn.out]; exact hk)) (by rw [block_add]; intro e; injection e with e; exact hne' e)
  have HT := Lib.hid ht1
  have HC1 := Lib.hid hc1
  obtain ⟨y, hy⟩ : ∃ y, zs.getD k 0 = y := ⟨_, rfl⟩
  rw [hy] at hck
  have HY := Lib.hid hy
  clear hx1 ht1 hc1 hy
  go_wp2
  go_ret
  refine ⟨y, rfl, ?_, HC1.out, HT.out⟩
  have := HY.out
  have hkz : k < zs.length := by rw [Hn.out]; exact hk
  rw [← this]
  simp only [List.getD, List.getElem?_eq_getElem hkz, Option.getD_some]
  exact List.getElem_mem hkz
end Go.Proofs.Ytddkedinkgnboaa
