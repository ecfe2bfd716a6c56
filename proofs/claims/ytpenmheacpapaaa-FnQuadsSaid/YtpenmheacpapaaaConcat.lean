/-
  slices.Grow at nil, slices.Concat and slices.Clone at whole numbers, by contract. Conditions: lengths of at most 2^20 together.
-/
import Derived.Test.YtpenmheacpapaaaPush
import Derived.Lib.AppendZeros
import Derived.Lib.SliceRun
import Derived.Test.YtpenmheacpapaaaBox
namespace Go.Proofs.Ytpenmheacpapaaa
open Go.RowKit
set_option linter.unusedVariables false

theorem run_append_none_int {w : World} (base : Nat) (ty : TypeId) (v : Value) (zs : List Int) (c : Nat) (hown : Own w base v zs) :
    (Builtin.append_ #[25, 25] ty #[v, .slice none 0 c]).run Try.prog w = .ok v w := by
  obtain ⟨i0, hi, hz0, hz1, hz2⟩ := info_parts intInfo
  have hu := Try.underlying25
  rcases hown.2 with ⟨rfl, h0⟩ | ⟨g, cap, cur, rfl, _, _, hnc, _⟩
  · simp [Builtin.append_, run_underlying hu, sizeOf, typeInfo, hi, Builtin.lenOf, Builtin.firstCells]
  · simp [Builtin.append_, run_underlying hu, sizeOf, typeInfo, hi, Builtin.lenOf, Builtin.firstCells, hnc, storeCells]

section
variable {ops : Array Oper} {rest : List Oper} {o : Oper} {a : Act} {Q : Exit → Act → World → Prop}
/-- append(s, xs...) onto a row of the call's own, whatever xs -/
theorem wpl_append_any (w : World) (hg : o.guard = none) (s x : Operand) (ho : o.op = .call { callee := .builtin .append, args := #[s, x], argTypes := #[25, 25] })
    (B : Nat) (v : Value) (zs ys : List Int) (A : Option Addr) (m c : Nat) (hs : a.eval s = v) (hx : a.eval x = .slice A m c) (hm : ys.length = m) (hI : Ints w A ys) (hown : Own w B v zs) (hB : B ≤ w.heap.size) (hlen : zs.length + m ≤ 2097152)
    (hK : ∀ v' w', Own w' B v' (zs ++ ys) → w.grownBy w' v.ownBlock → (v'.ownBlock = v.ownBlock ∨ v'.ownBlock = some w.heap.size) → wpList Try.prog ops Q rest (a.put o.dst v') w') :
    wpList Try.prog ops Q (o :: rest) a w := by
  rcases Nat.eq_zero_or_pos m with h0 | hpos
  · subst h0
    have hy : ys = [] := List.eq_nil_of_length_eq_zero hm
    subst hy
    cases A with
    | none =>
      refine wpList_plain hg fun K hK' => ?_
      have hrun := run_append_none_int (w := w) B o.type v zs c hown
      unfold Oper.wp execOp
      simp only [ho, resolve, invoke, builtin, Sem.run_bind, Sem.run_pure, Result.andThen_ok, List.map_toArray, List.map_cons, List.map_nil, hs, hx, hrun]
      exact hK' _ _ (hK v w (by rw [List.append_nil]; exact hown) (World.grownBy.refl w _) (.inl rfl))
    | some ad =>
      obtain ⟨i0, hi, hz0, hz1, hz2⟩ := info_parts intInfo
      refine wpList_plain hg fun K hK' => ?_
      obtain ⟨v', w', hr, h2, h3, h4⟩ := run_append_own (P := Try.prog) w B 25 o.type 3 i0 (.int .i64 0) 1 8 Try.underlying25 hi hz0 hz1 hz2 rfl (by decide) v zs.length (zs.map (Value.int .i64)) hown ad 0 c [] rfl (fun j u hj => by simp at hj) (fun u hu => by simp at hu) (by unfold maxLen; omega) (by omega) hB
      have hlie := append_lies i0 hi hz0 hz1 hz2 hown ad 0 c (news := []) rfl (fun j u hj => by simp at hj) (fun u hu => by simp at hu) (by omega) hr
      unfold Oper.wp execOp
      simp only [ho, resolve, invoke, builtin, Sem.run_bind, Sem.run_pure, Result.andThen_ok, List.map_toArray, List.map_cons, List.map_nil, hs, hx, hr]
      refine hK' _ _ (hK v' w' ?_ h3 hlie)
      unfold Own
      rw [List.append_nil]
      simpa using h2
  · exact wpl_append2 w hg s x ho B v zs ys A m c hs hx hm hpos hI hown hB hlen hK
end

set_option maxRecDepth 100000 in
set_option maxHeartbeats 1600000 in
/-- slices.Grow(nil, n) -/
theorem grow_any (n : Nat) (w : World) (hn : n ≤ 2097152) :
    Calls Try.prog 124 #[.slice none 0 0, .int .i64 n] w fun e w' => ∃ v, e = .returned v ∧ Own w' w.heap.size v [] ∧ Below w.heap.size w w' := by
  rcases Nat.eq_zero_or_pos n with h0 | hpos
  · subst h0
    go_enter Try.func124, Try.ntmps124
    go_wp2
    go_ret
    exact ⟨_, rfl, ⟨rfl, .inl ⟨rfl, rfl⟩⟩, Below.refl _ _⟩
  · obtain ⟨i0, hi, hz0, hz1, hz2⟩ := info_parts intInfo
    have hgt : decide ((0 : Int) < (n : Int)) = true := decide_eq_true (by omega)
    have HAP := Lib.hid (fun ty => Lib.run_append_nil_zeros (P := Try.prog) w 25 3 ty 3 i0 (.int .i64 0) .i64 .i64 Try.underlying25 Try.underlying3 hi hz0 n hpos (by rw [hz1]; omega) (by omega) (by rw [hz2]; omega))
    obtain ⟨cp, hcp⟩ : ∃ c, grownCap w n 0 3 = c := ⟨_, rfl⟩
    have hc1 : n ≤ cp := by rw [← hcp]; exact grownCap_ge w n 0 3
    have hc2 : cp ≤ maxLen := by rw [← hcp]; exact grownCap_le_maxLen w n 0 3 (by unfold maxLen; omega)
    rw [hcp] at HAP
    clear hcp hgt
    obtain ⟨w1, hw1⟩ : ∃ w1, w.drew.alloc (.cells (Builtin.zeroCells (Value.int .i64 0).cells n ++ Builtin.zeroCells (Value.int .i64 0).cells (cp - n)) 3) = w1 := ⟨_, rfl⟩
    have hb1 : Below w.heap.size w w1 := by rw [← hw1]; exact ((Below.refl _ w).drew).alloc (Nat.le_refl _) _
    have hO1 : Own w1 w.heap.size (.slice (some ⟨w.heap.size, 0, none⟩) 0 cp) [] := by
      rw [← hw1]
      exact World.ownsRow_made w.drew _ cp (Nat.le_refl _) hc2 (by simp only [Array.size_append, size_zeroCells, Value.cells]; simp; omega)
    rw [hw1] at HAP
    have HB := Lib.hid hb1; have HO := Lib.hid hO1
    unfold maxLen at hc2
    clear hw1 hb1 hO1 hi hz0 hz1 hz2 i0
    go_enter Try.func124, Try.ntmps124
    go_wp2_with (at_builtin; refine Lib.wpList_append_run _ rfl _ _ _ _ rfl _ _ rfl rfl _ _ (HAP.out _) ?_)
    go_ret
    exact ⟨_, rfl, HO.out, HB.out⟩

/-- one of the slices that are laid one behind the other -/
structure Part where
  A : Option Addr
  n : Nat
  c : Nat
  zs : List Int
def flat (ps : List Part) : List Int := ps.flatMap (·.zs)
theorem flat_at {ps : List Part} {k : Nat} {p : Part} (h : ps[k]? = some p) : flat (ps.take (k + 1)) = flat (ps.take k) ++ p.zs := by
  have : ps.take (k + 1) = ps.take k ++ [p] := by rw [List.take_add_one, h]; rfl
  unfold flat
  rw [this, List.flatMap_append]; simp
theorem flat_le (ps : List Part) (k : Nat) : (flat (ps.take k)).length ≤ (flat ps).length := by
  have := congrArg flat (List.take_append_drop k ps)
  unfold flat at *
  rw [List.flatMap_append] at this
  rw [← this, List.length_append]; omega
def PartsAt (w : World) (G : Addr) (b : Nat) (ps : List Part) : Prop := G.block < b ∧ ∀ j p, ps[j]? = some p → w.cell? (G.add j) = some (.slice p.A p.n p.c) ∧ p.zs.length = p.n ∧ IntsB w b p.A p.zs
theorem PartsAt.keep {w w' : World} {G : Addr} {b B : Nat} {ps : List Part} (h : PartsAt w G b ps) (hb : b ≤ B) (hB : Below B w w') : PartsAt w' G b ps :=
  ⟨h.1, fun j p hp => by
    obtain ⟨h1, h2, h3⟩ := h.2 j p hp
    exact ⟨(hB.cell (p := G.add j) (by rw [block_add]; have := h.1; omega)).trans h1, h2, h3.keep hb hB⟩⟩

set_option maxRecDepth 100000 in
set_option maxHeartbeats 3200000 in
/-- slices.Concat -/
theorem concat_any (G : Addr) (b l cl : Nat) (ps : List Part) (w : World) (hl : ps.length = l) (hl1 : l ≤ 1000) (hb : b ≤ w.heap.size) (hP : PartsAt w G b ps) (hs : (flat ps).length ≤ 1048576) :
    Calls Try.prog 102 #[.slice (some G) l cl] w fun e w' => ∃ v, e = .returned v ∧ Own w' w.heap.size v (flat ps) ∧ Below w.heap.size w w' := by
  have Hl := Lib.hid hl; have HP := Lib.hid hP
  have HS := Lib.hid (fun k => Nat.le_trans (flat_le ps k) hs)
  clear hl hP hs
  go_enter Try.func102, Try.ntmps102
  go_wp2
  go_loop [3, 11] (fun s i => ∃ k : Nat, k ≤ l ∧ i = .int .i64 k ∧ s = .int .i64 (flat (ps.take k)).length) (fun _ i => l - (intOf i).toNat)
  case atStart => exact ⟨0, Nat.zero_le _, rfl, rfl⟩
  case round =>
    obtain ⟨k, hk, rfl, rfl⟩ := hrel
    have hsk := HS.out k
    by_cases hlt : k < l
    · obtain ⟨p, hp⟩ : ∃ p, ps[k]? = some p := ⟨_, List.getElem?_eq_getElem (by rw [Hl.out]; exact hlt)⟩
      obtain ⟨hc, hpn, _⟩ := HP.out.2 k p hp
      have hF : Hid ((flat (ps.take (k + 1))).length = (flat (ps.take k)).length + p.n) := by show _ = _; rw [flat_at hp, List.length_append, hpn]
      have hsk1 := HS.out (k + 1)
      rw [hF.out] at hsk1
      obtain ⟨f, hf⟩ : ∃ f, (flat (ps.take k)).length = f := ⟨_, rfl⟩
      rw [hf] at hF hsk hsk1 ⊢
      obtain ⟨A, n, c, zs⟩ := p
      simp only at hc hF hsk1 hpn
      clear hp hf hpn
      have hnn : decide ((f : Int) + (n : Int) < 0) = false := decide_eq_false (by omega)
      go_wp2
      go_round
      case rel => exact ⟨k + 1, by omega, by go_num, by rw [hF.out]; go_num⟩
      case measure => simp [intOf]; omega
    · have hkn : k = l := by omega
      subst hkn
      go_wp2_with fail
      refine (grow_any _ w (by omega)).mono ?_
      rintro e w1 ⟨v1, rfl, hO1, hb1⟩
      have O1 := Lib.hid hO1; have B1 := Lib.hid hb1
      clear hO1 hb1
      go_wp2
      go_loopw [6, 27] (fun v i wr => ∃ q : Nat, q ≤ k ∧ i = .int .i64 q ∧ Own wr w.heap.size v (flat (ps.take q)) ∧ Below w.heap.size w wr) (fun _ i _ => k - (intOf i).toNat)
      case atStart => exact ⟨0, Nat.zero_le _, rfl, O1.out, B1.out⟩
      case round =>
        clear O1 B1
        obtain ⟨q, hq, rfl, hown, hb2⟩ := hrel
        have HO := Lib.hid hown; have HB := Lib.hid hb2
        have hsz := hb2.size
        clear hown hb2
        by_cases hqk : q < k
        · obtain ⟨p, hp⟩ : ∃ p, ps[q]? = some p := ⟨_, List.getElem?_eq_getElem (by rw [Hl.out]; exact hqk)⟩
          obtain ⟨hc, hpn, hI⟩ := (HP.out.keep hb HB.out).2 q p hp
          have HF := Lib.hid (flat_at hp)
          have hsq := HS.out (q + 1)
          rw [HF.out, List.length_append] at hsq
          obtain ⟨A, n, c, zs⟩ := p
          simp only at hc HF hsq hpn hI
          have Hpn := Lib.hid hpn; have HI := Lib.hid hI.ints; have Hsq := Lib.hid hsq
          clear hp hpn hI hsq
          go_wp2_with (at_builtin; refine wpl_append_any _ rfl (.tmp 31) (.tmp 32) rfl w.heap.size _ _ zs A n c rfl rfl Hpn.out HI.out HO.out hsz (by have h1 := Hsq.out; have h2 := Hpn.out; omega) ?_; intro v' w4 hO4 hg4 _)
          rw [← HF.out] at hO4
          have O4 := Lib.hid hO4; have B4 := Lib.hid (HB.out.trans ((Below.refl w.heap.size wr).grown hg4 hsz (fun g hg => (World.ownsRow.lt HO.out g hg).1)))
          clear hO4 hg4
          go_roundw
          case rel => exact ⟨q + 1, by omega, by go_num, O4.out, B4.out⟩
          case measure => simp [intOf]; omega
        · have hqn : q = k := by omega
          subst hqn
          have HT : Hid (ps.take q = ps) := List.take_of_length_le (by rw [Hl.out]; omega)
          rw [HT.out] at HO
          go_wp2
          go_ret
          exact ⟨_, rfl, HO.out, HB.out⟩

set_option maxRecDepth 100000 in
set_option maxHeartbeats 1600000 in
/-- slices.Clone -/
theorem clone_any (A : Option Addr) (n c : Nat) (zs : List Int) (w : World) (hn : zs.length = n) (hm : n ≤ 1048576) (h : IntsB w w.heap.size A zs) :
    Calls Try.prog 123 #[.slice A n c] w fun e w' => ∃ v, e = .returned v ∧ Own w' w.heap.size v zs ∧ Below w.heap.size w w' := by
  have Hn := Lib.hid hn
  have H := Lib.hid h
  have heq := fun (wx : World) => Lib.run_eql_slice_nil (P := Try.prog) wx 25 3 A n c 0 0 Try.underlying25
  cases A with
  | none =>
    have hz : zs = [] := by
      cases zs with
      | nil => rfl
      | cons z zs => obtain ⟨ad, e, _⟩ := h (by simp); cases e
    subst hz
    have hn0 : n = 0 := by simpa using hn.symm
    subst hn0
    simp only [Option.isNone_none] at heq
    clear hn h
    go_enter Try.func123, Try.ntmps123
    go_wp2
    go_ret
    exact ⟨_, rfl, ⟨rfl, .inl ⟨rfl, rfl⟩⟩, Below.refl _ _⟩
  | some ad =>
    simp only [Option.isNone_some] at heq
    obtain ⟨w1, hw1⟩ : ∃ w1, w.alloc (.cells #[] 3) = w1 := ⟨_, rfl⟩
    have hb1 : Below w.heap.size w w1 := by rw [← hw1]; exact below_new _ _
    have hO1 : Own w1 w.heap.size (.slice (some ⟨w.heap.size, 0, none⟩) 0 0) [] := by rw [← hw1]; exact World.ownsRow_lit w #[] 0 (Nat.le_refl _) (Nat.zero_le _) rfl
    have B1 := Lib.hid hb1; have O1 := Lib.hid hO1
    have I1 := Lib.hid ((H.out.keep (Nat.le_refl _) hb1).ints)
    have z1 := hb1.size
    clear hn h hb1 hO1
    go_enter Try.func123, Try.ntmps123
    go_wp2_with (at_builtin; refine wpl_append_any _ rfl (.tmp 5) (.tmp 6) rfl w.heap.size _ [] zs (some ad) n c rfl rfl Hn.out I1.out O1.out z1 (by simp; omega) ?_; intro v' w4 hO4 hg4 _)
    rw [List.nil_append] at hO4
    have O4 := Lib.hid hO4; have B4 := Lib.hid (B1.out.trans ((Below.refl w.heap.size w1).grown hg4 z1 (fun g hg => (World.ownsRow.lt O1.out g hg).1)))
    clear hO4 hg4
    go_ret
    exact ⟨_, rfl, O4.out, B4.out⟩
end Go.Proofs.Ytpenmheacpapaaa
