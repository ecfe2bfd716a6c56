/-
  slices.Concat at strings by contract. Condition: at most 2^20 strings.
-/
import Derived.Test.YtgngekolnlbddaaStrP
namespace Go.Proofs.Ytgngekolnlbddaa
open Go.RowKit
set_option linter.unusedVariables false

set_option maxRecDepth 100000 in
set_option maxHeartbeats 1600000 in
/-- slices.Grow(nil, n) -/
theorem sgrow_any (n : Nat) (w : World) (hn : n ≤ 2097152) :
    Calls Try.prog 50 #[.slice none 0 0, .int .i64 n] w fun e w' => ∃ v, e = .returned v ∧ OwnS w' w.heap.size v [] ∧ Below w.heap.size w w' := by
  rcases Nat.eq_zero_or_pos n with h0 | hpos
  · subst h0
    go_enter Try.func50, Try.ntmps50
    go_wp2
    go_ret
    exact ⟨_, rfl, ⟨rfl, .inl ⟨rfl, rfl⟩⟩, Below.refl _ _⟩
  · obtain ⟨i0, hi, hz0, hz1, hz2⟩ := info_parts strInfo
    have hgt : decide ((0 : Int) < (n : Int)) = true := decide_eq_true (by omega)
    have HAP := Lib.hid (fun ty => Lib.run_append_nil_zeros (P := Try.prog) w 30 3 ty 9 i0 (.string ByteArray.empty) .i64 .i64 Try.underlying30 Try.underlying3 hi hz0 n hpos (by rw [hz1]; omega) (by omega) (by rw [hz2]; omega))
    obtain ⟨cp, hcp⟩ : ∃ c, grownCap w n 0 9 = c := ⟨_, rfl⟩
    have hc1 : n ≤ cp := by rw [← hcp]; exact grownCap_ge w n 0 9
    have hc2 : cp ≤ maxLen := by rw [← hcp]; exact grownCap_le_maxLen w n 0 9 (by unfold maxLen; omega)
    rw [hcp] at HAP
    clear hcp hgt
    obtain ⟨w1, hw1⟩ : ∃ w1, w.drew.alloc (.cells (Builtin.zeroCells (Value.string ByteArray.empty).cells n ++ Builtin.zeroCells (Value.string ByteArray.empty).cells (cp - n)) 9) = w1 := ⟨_, rfl⟩
    have hb1 : Below w.heap.size w w1 := by rw [← hw1]; exact ((Below.refl _ w).drew).alloc (Nat.le_refl _) _
    have hO1 : OwnS w1 w.heap.size (.slice (some ⟨w.heap.size, 0, none⟩) 0 cp) [] := by
      rw [← hw1]
      exact World.ownsRow_made w.drew _ cp (Nat.le_refl _) hc2 (by simp only [Array.size_append, size_zeroCells, Value.cells]; simp; omega)
    rw [hw1] at HAP
    have HB := Lib.hid hb1; have HO := Lib.hid hO1
    unfold maxLen at hc2
    clear hw1 hb1 hO1 hi hz0 hz1 hz2 i0
    go_enter Try.func50, Try.ntmps50
    go_wp2_with (at_builtin; refine Lib.wpList_append_run _ rfl _ _ _ _ rfl _ _ rfl rfl _ _ (HAP.out _) ?_)
    go_ret
    exact ⟨_, rfl, HO.out, HB.out⟩

/-- one of the slices that are laid one behind the other -/
structure SPart where
  A : Option Addr
  n : Nat
  c : Nat
  zs : List ByteArray
def sflat (ps : List SPart) : List ByteArray := ps.flatMap (·.zs)
theorem sflat_at {ps : List SPart} {k : Nat} {p : SPart} (h : ps[k]? = some p) : sflat (ps.take (k + 1)) = sflat (ps.take k) ++ p.zs := by
  have : ps.take (k + 1) = ps.take k ++ [p] := by rw [List.take_add_one, h]; rfl
  unfold sflat
  rw [this, List.flatMap_append]; simp
theorem sflat_le (ps : List SPart) (k : Nat) : (sflat (ps.take k)).length ≤ (sflat ps).length := by
  have := congrArg sflat (List.take_append_drop k ps)
  unfold sflat at *
  rw [List.flatMap_append] at this
  rw [← this, List.length_append]; omega
def SPartsAt (w : World) (G : Addr) (b : Nat) (ps : List SPart) : Prop := G.block < b ∧ ∀ j p, ps[j]? = some p → w.cell? (G.add j) = some (.slice p.A p.n p.c) ∧ p.zs.length = p.n ∧ StrsB w b p.A p.zs
theorem SPartsAt.keep {w w' : World} {G : Addr} {b B : Nat} {ps : List SPart} (h : SPartsAt w G b ps) (hb : b ≤ B) (hB : Below B w w') : SPartsAt w' G b ps :=
  ⟨h.1, fun j p hp => by
    obtain ⟨h1, h2, h3⟩ := h.2 j p hp
    exact ⟨(hB.cell (p := G.add j) (by rw [block_add]; have := h.1; omega)).trans h1, h2, h3.keep hb hB⟩⟩

set_option maxRecDepth 100000 in
set_option maxHeartbeats 3200000 in
/-- slices.Concat -/
theorem sconcat_any (G : Addr) (b l cl : Nat) (ps : List SPart) (w : World) (hl : ps.length = l) (hl1 : l ≤ 1000) (hb : b ≤ w.heap.size) (hP : SPartsAt w G b ps) (hs : (sflat ps).length ≤ 1048576) :
    Calls Try.prog 41 #[.slice (some G) l cl] w fun e w' => ∃ v, e = .returned v ∧ OwnS w' w.heap.size v (sflat ps) ∧ Below w.heap.size w w' := by
  have Hl := Lib.hid hl; have HP := Lib.hid hP
  have HS := Lib.hid (fun k => Nat.le_trans (sflat_le ps k) hs)
  clear hl hP hs
  go_enter Try.func41, Try.ntmps41
  go_wp2
  go_loop [3, 11] (fun s i => ∃ k : Nat, k ≤ l ∧ i = .int .i64 k ∧ s = .int .i64 (sflat (ps.take k)).length) (fun _ i => l - (intOf i).toNat)
  case atStart => exact ⟨0, Nat.zero_le _, rfl, rfl⟩
  case round =>
    obtain ⟨k, hk, rfl, rfl⟩ := hrel
    have hsk := HS.out k
    by_cases hlt : k < l
    · obtain ⟨p, hp⟩ : ∃ p, ps[k]? = some p := ⟨_, List.getElem?_eq_getElem (by rw [Hl.out]; exact hlt)⟩
      obtain ⟨hc, hpn, _⟩ := HP.out.2 k p hp
      have hF : Hid ((sflat (ps.take (k + 1))).length = (sflat (ps.take k)).length + p.n) := by show _ = _; rw [sflat_at hp, List.length_append, hpn]
      have hsk1 := HS.out (k + 1)
      rw [hF.out] at hsk1
      obtain ⟨f, hf⟩ : ∃ f, (sflat (ps.take k)).length = f := ⟨_, rfl⟩
      rw [hf] at hF hsk hsk1 ⊢
      obtain ⟨A, n, c, zs⟩ := p
      simp only at hc hF hsk1 hpn
      clear hp hf hpn
      have hnn : decide ((f : Int) + (n : Int) < 0) = false := decide_eq_false (by omega)
      go_wp2
      go_round
      case rel => exact ⟨k + 1, by omega, by go_num, by rw [hF.out]; go_num⟩
      case measure => simp [intOf]; omega
    · have hkn : k = l := by omega
      subst hkn
      go_wp2_with fail
      refine (sgrow_any _ w (by omega)).mono ?_
      rintro e w1 ⟨v1, rfl, hO1, hb1⟩
      have O1 := Lib.hid hO1; have B1 := Lib.hid hb1
      clear hO1 hb1
      go_wp2
      go_loopw [6, 27] (fun v i wr => ∃ q : Nat, q ≤ k ∧ i = .int .i64 q ∧ OwnS wr w.heap.size v (sflat (ps.take q)) ∧ Below w.heap.size w wr) (fun _ i _ => k - (intOf i).toNat)
      case atStart => exact ⟨0, Nat.zero_le _, rfl, O1.out, B1.out⟩
      case round =>
        clear O1 B1
        obtain ⟨q, hq, rfl, hown, hb2⟩ := hrel
        have HO := Lib.hid hown; have HB := Lib.hid hb2
        have hsz := hb2.size
        clear hown hb2
        by_cases hqk : q < k
        · obtain ⟨p, hp⟩ : ∃ p, ps[q]? = some p := ⟨_, List.getElem?_eq_getElem (by rw [Hl.out]; exact hqk)⟩
          obtain ⟨hc, hpn, hI⟩ := (HP.out.keep hb HB.out).2 q p hp
          have HF := Lib.hid (sflat_at hp)
          have hsq := HS.out (q + 1)
          rw [HF.out, List.length_append] at hsq
          obtain ⟨A, n, c, zs⟩ := p
          simp only at hc HF hsq hpn hI
          have Hpn := Lib.hid hpn; have HI := Lib.hid hI.ints; have Hsq := Lib.hid hsq
          clear hp hpn hI hsq
          go_wp2_with (at_builtin; refine wpls_append_any _ rfl (.tmp 31) (.tmp 32) rfl w.heap.size _ _ zs A n c rfl rfl Hpn.out HI.out HO.out hsz (by have h1 := Hsq.out; have h2 := Hpn.out; omega) ?_; intro v' w4 hO4 hg4 _)
          rw [← HF.out] at hO4
          have O4 := Lib.hid hO4; have B4 := Lib.hid (HB.out.trans ((Below.refl w.heap.size wr).grown hg4 hsz (fun g hg => (World.ownsRow.lt HO.out g hg).1)))
          clear hO4 hg4
          go_roundw
          case rel => exact ⟨q + 1, by omega, by go_num, O4.out, B4.out⟩
          case measure => simp [intOf]; omega
        · have hqn : q = k := by omega
          subst hqn
          have HT : Hid (ps.take q = ps) := List.take_of_length_le (by rw [Hl.out]; omega)
          rw [HT.out] at HO
          go_wp2
          go_ret
          exact ⟨_, rfl, HO.out, HB.out⟩

theorem sparts3 (w : World) (A1 : Option Addr) (n1 c1 : Nat) (zs1 : List ByteArray) (A2 : Option Addr) (n2 c2 : Nat) (zs2 : List ByteArray) (A3 : Option Addr) (n3 c3 : Nat) (zs3 : List ByteArray) (T : TypeId) (h1 : zs1.length = n1) (h2 : zs2.length = n2) (h3 : zs3.length = n3) (i1 : StrsB w w.heap.size A1 zs1) (i2 : StrsB w w.heap.size A2 zs2) (i3 : StrsB w w.heap.size A3 zs3) :
    SPartsAt (w.alloc (.cells #[.slice A1 n1 c1, .slice A2 n2 c2, .slice A3 n3 c3] T)) ⟨w.heap.size, 0, none⟩ (w.heap.size + 1) [⟨A1, n1, c1, zs1⟩, ⟨A2, n2, c2, zs2⟩, ⟨A3, n3, c3, zs3⟩] := by
  have hb : Below w.heap.size w (w.alloc (.cells #[.slice A1 n1 c1, .slice A2 n2 c2, .slice A3 n3 c3] T)) := (Below.refl _ _).alloc (Nat.le_refl _) _
  refine ⟨Nat.lt_succ_self _, fun j p hp => ?_⟩
  have wide : ∀ {A : Option Addr} {zs : List ByteArray}, StrsB w w.heap.size A zs → StrsB (w.alloc (.cells #[.slice A1 n1 c1, .slice A2 n2 c2, .slice A3 n3 c3] T)) (w.heap.size + 1) A zs := fun h hn => by
    obtain ⟨ad, e, hl, hc⟩ := (h.keep (Nat.le_refl _) hb) hn
    exact ⟨ad, e, by omega, hc⟩
  match j, hp with
  | 0, hp =>
    simp at hp; subst hp
    exact ⟨by rw [add_zero_at, World.cell?_alloc_at _ _ _ _ rfl]; rfl, h1, wide i1⟩
  | 1, hp =>
    simp at hp; subst hp
    exact ⟨by rw [add_zero_at, World.cell?_alloc_at _ _ _ _ rfl]; rfl, h2, wide i2⟩
  | 2, hp =>
    simp at hp; subst hp
    exact ⟨by rw [add_zero_at, World.cell?_alloc_at _ _ _ _ rfl]; rfl, h3, wide i3⟩
end Go.Proofs.Ytgngekolnlbddaa
