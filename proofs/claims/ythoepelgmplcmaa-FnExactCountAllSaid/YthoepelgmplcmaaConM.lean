/-
  append, slices.Grow and slices.Concat at lists of matrices, by contract. Conditions: sizes of at most 2^20, at most 1000 parts.
-/
import Derived.Test.YthoepelgmplcmaaMchC
import Derived.Test.YthoepelgmplcmaaPkC
namespace Go.Proofs.Ythoepelgmplcmaa
open Go.RowKit
set_option linter.unusedVariables false

section
variable {ops : Array Oper} {rest : List Oper} {o : Oper} {a : Act} {Q : Exit → Act → World → Prop}
set_option maxRecDepth 100000 in
/-- append(s, ys...) -/
theorem wpl_app_mat (w : World) (hg : o.guard = none) (s x : Operand) (ho : o.op = .call { callee := .builtin .append, args := #[s, x], argTypes := #[32, 32] })
    (B lo hi : Nat) (v : Value) (xs ys : List Mat) (A : Option Addr) (m c : Nat) (hs : a.eval s = v) (hown : OwnM w B v xs) (hB : B ≤ w.heap.size) (hx : a.eval x = .slice A m c) (hm : ys.length = m) (hI : MatsI w lo hi A ys) (hlen : xs.length + m ≤ 1048576)
    (hK : ∀ v' w', OwnM w' B v' (xs ++ ys) → w.grownBy w' v.ownBlock → (v'.ownBlock = v.ownBlock ∨ ∀ k, v'.ownBlock = some k → w.heap.size ≤ k) → wpList Try.prog ops Q rest (a.put o.dst v') w') :
    wpList Try.prog ops Q (o :: rest) a w := by
  obtain ⟨i0, hi, hz0, hz1, hz2⟩ := info_parts matInfo
  cases A with
  | none =>
    have hm0 : m = 0 := by
      rcases Nat.eq_zero_or_pos m with h | h
      · exact h
      · obtain ⟨ad, e, _⟩ := hI (by omega); cases e
    subst hm0
    have hy : ys = [] := List.eq_nil_of_length_eq_zero hm
    subst hy
    refine wpList_plain hg fun K hK' => ?_
    have hrun := run_append_none_any (P := Try.prog) (w := w) B 32 o.type 34 i0 2 Try.underlying32 hi v _ c _ hown
    unfold Oper.wp
    simp [execOp, ho, resolve, invoke, builtin, hs, hx, hrun, Result.andThen]
    exact hK' _ _ (hK v w (by rw [List.append_nil]; exact hown) (World.grownBy.refl w _) (.inl rfl))
  | some ad =>
    refine wpList_append_own_at _ hg s x 32 ho B 34 i0 (.agg #[.int .i64 0, .int .i64 0]) 2 16 Try.underlying32 hi hz0 hz1 hz2 rfl (by decide) v xs.length (mcells xs) hs hown ad m c (mcells ys) hx (by rw [mcells_len, hm]) ?_ ?_ (by unfold maxLen; omega) (by omega) hB ?_
    · intro j u hj
      have hjl : j < m * 2 := by
        have := (List.getElem?_eq_some_iff.1 hj).1
        rw [mcells_len, hm] at this; exact this
      obtain ⟨ad', e, _, _, hc⟩ := hI (by omega)
      obtain rfl := Option.some.inj e
      have hy : ys[j / 2]? = some (ys[j / 2]'(by omega)) := List.getElem?_eq_getElem (by omega)
      obtain ⟨c1, c2⟩ := hc (j / 2) _ hy
      obtain ⟨g1, g2⟩ := mcells_get hy
      rcases Nat.mod_two_eq_zero_or_one j with h0 | h0
      · have e2 : j / 2 * 2 = j := by omega
        rw [e2] at c1 g1
        rw [hj] at g1
        injection g1 with g1
        rw [c1, g1]
      · have e2 : j / 2 * 2 + 1 = j := by omega
        rw [e2] at c2 g2
        rw [hj] at g2
        injection g2 with g2
        rw [c2, g2]
    · intro u hu
      unfold mcells at hu
      rw [List.mem_flatMap] at hu
      obtain ⟨y, _, hu⟩ := hu
      simp at hu
      rcases hu with rfl | rfl <;> rfl
    · intro v' w' h1 h2 _ h4
      refine hK v' w' ?_ h2 ?_
      · unfold OwnM
        rw [List.length_append, hm, mcells_append]
        exact h1
      · rcases h4 with h4 | h4
        · exact .inl h4
        · refine .inr fun k hk => ?_
          rw [h4] at hk
          have e2 := Option.some.inj hk
          omega
end

set_option maxRecDepth 100000 in
set_option maxHeartbeats 1600000 in
/-- slices.Grow(nil, n) -/
theorem growM_any (n : Nat) (w : World) (hn : n ≤ 1048576) :
    Calls Try.prog 177 #[.slice none 0 0, .int .i64 n] w fun e w' => ∃ v, e = .returned v ∧ OwnM w' w.heap.size v [] ∧ Below w.heap.size w w' := by
  rcases Nat.eq_zero_or_pos n with h0 | hpos
  · subst h0
    go_enter Try.func177, Try.ntmps177
    go_wp2
    go_ret
    exact ⟨_, rfl, ⟨rfl, .inl ⟨rfl, rfl⟩⟩, Below.refl _ _⟩
  · obtain ⟨i0, hi, hz0, hz1, hz2⟩ := info_parts matInfo
    have hgt : decide ((0 : Int) < (n : Int)) = true := decide_eq_true (by omega)
    have HAP := Lib.hid (fun ty => Lib.run_append_nil_zeros (P := Try.prog) w 32 3 ty 34 i0 (.agg #[.int .i64 0, .int .i64 0]) .i64 .i64 Try.underlying32 Try.underlying3 hi hz0 n hpos (by rw [hz1]; omega) (by omega) (by rw [hz2]; omega))
    obtain ⟨cp, hcp⟩ : ∃ c, grownCap w n 0 34 = c := ⟨_, rfl⟩
    have hc1 : n ≤ cp := by rw [← hcp]; exact grownCap_ge w n 0 34
    have hc2 : cp ≤ maxLen := by rw [← hcp]; exact grownCap_le_maxLen w n 0 34 (by unfold maxLen; omega)
    rw [hcp] at HAP
    clear hcp hgt
    obtain ⟨w1, hw1⟩ : ∃ w1, w.drew.alloc (.cells (Builtin.zeroCells (Value.agg #[.int .i64 0, .int .i64 0]).cells n ++ Builtin.zeroCells (Value.agg #[.int .i64 0, .int .i64 0]).cells (cp - n)) 34) = w1 := ⟨_, rfl⟩
    have hb1 : Below w.heap.size w w1 := by rw [← hw1]; exact ((Below.refl _ w).drew).alloc (Nat.le_refl _) _
    have hO1 : OwnM w1 w.heap.size (.slice (some ⟨w.heap.size, 0, none⟩) 0 cp) [] := by
      rw [← hw1]
      exact World.ownsRow_made w.drew _ cp (Nat.le_refl _) hc2 (by simp only [Array.size_append, size_zeroCells, Value.cells]; simp; omega)
    rw [hw1] at HAP
    have HB := Lib.hid hb1; have HO := Lib.hid hO1
    unfold maxLen at hc2
    clear hw1 hb1 hO1 hi hz0 hz1 hz2 i0
    go_enter Try.func177, Try.ntmps177
    go_wp2_with (at_builtin; refine Lib.wpList_append_run _ rfl _ _ _ _ rfl _ _ rfl rfl _ _ (HAP.out _) ?_)
    go_ret
    exact ⟨_, rfl, HO.out, HB.out⟩

/-- one of the lists that are laid one behind the other -/
structure PartM where
  A : Option Addr
  n : Nat
  c : Nat
  xs : List Mat
def flatM (ps : List PartM) : List Mat := ps.flatMap (·.xs)
theorem flatM_at {ps : List PartM} {k : Nat} {p : PartM} (h : ps[k]? = some p) : flatM (ps.take (k + 1)) = flatM (ps.take k) ++ p.xs := by
  have : ps.take (k + 1) = ps.take k ++ [p] := by rw [List.take_add_one, h]; rfl
  unfold flatM
  rw [this, List.flatMap_append]; simp
theorem flatM_le (ps : List PartM) (k : Nat) : (flatM (ps.take k)).length ≤ (flatM ps).length := by
  have := congrArg flatM (List.take_append_drop k ps)
  unfold flatM at *
  rw [List.flatMap_append] at this
  rw [← this, List.length_append]; omega
def PartsM (w : World) (G : Addr) (b : Nat) (ps : List PartM) : Prop := G.block < b ∧ ∀ j p, ps[j]? = some p → w.cell? (G.add j) = some (.slice p.A p.n p.c) ∧ p.xs.length = p.n ∧ MatsI w 0 b p.A p.xs
theorem PartsM.keep {w w' : World} {G : Addr} {b B : Nat} {ps : List PartM} (h : PartsM w G b ps) (hb : b ≤ B) (hB : Below B w w') : PartsM w' G b ps :=
  ⟨h.1, fun j p hp => by
    obtain ⟨h1, h2, h3⟩ := h.2 j p hp
    exact ⟨(hB.cell (p := G.add j) (by rw [block_add]; have := h.1; omega)).trans h1, h2, h3.below hb hB⟩⟩

set_option maxRecDepth 100000 in
set_option maxHeartbeats 3200000 in
/-- slices.Concat -/
theorem concatM_any (G : Addr) (b l cl : Nat) (ps : List PartM) (w : World) (hl : ps.length = l) (hl1 : l ≤ 1000) (hb : b ≤ w.heap.size) (hP : PartsM w G b ps) (hs : (flatM ps).length ≤ 1000000) :
    Calls Try.prog 134 #[.slice (some G) l cl] w fun e w' => ∃ v, e = .returned v ∧ OwnM w' w.heap.size v (flatM ps) ∧ Below w.heap.size w w' := by
  have Hl := Lib.hid hl; have HP := Lib.hid hP
  have HS := Lib.hid (fun k => Nat.le_trans (flatM_le ps k) hs)
  clear hl hP hs
  go_enter Try.func134, Try.ntmps134
  go_wp2
  go_loop [3, 11] (fun s i => ∃ k : Nat, k ≤ l ∧ i = .int .i64 k ∧ s = .int .i64 (flatM (ps.take k)).length) (fun _ i => l - (intOf i).toNat)
  case atStart => exact ⟨0, Nat.zero_le _, rfl, rfl⟩
  case round =>
    obtain ⟨k, hk, rfl, rfl⟩ := hrel
    have hsk := HS.out k
    by_cases hlt : k < l
    · obtain ⟨p, hp⟩ : ∃ p, ps[k]? = some p := ⟨_, List.getElem?_eq_getElem (by rw [Hl.out]; exact hlt)⟩
      obtain ⟨hc, hpn, _⟩ := HP.out.2 k p hp
      have hF : Hid ((flatM (ps.take (k + 1))).length = (flatM (ps.take k)).length + p.n) := by show _ = _; rw [flatM_at hp, List.length_append, hpn]
      have hsk1 := HS.out (k + 1)
      rw [hF.out] at hsk1
      obtain ⟨f, hf⟩ : ∃ f, (flatM (ps.take k)).length = f := ⟨_, rfl⟩
      rw [hf] at hF hsk hsk1 ⊢
      obtain ⟨A, n, c, zs⟩ := p
      simp only at hc hF hsk1 hpn
      clear hp hf hpn
      have hnn : decide ((f : Int) + (n : Int) < 0) = false := decide_eq_false (by omega)
      go_wp2
      go_round
      case rel => exact ⟨k + 1, by omega, by go_num, by rw [hF.out]; go_num⟩
      case measure => simp [intOf]; omega
    · have hkn : k = l := by omega
      subst hkn
      go_wp2_with fail
      refine (growM_any _ w (by omega)).mono ?_
      rintro e w1 ⟨v1, rfl, hO1, hb1⟩
      have O1 := Lib.hid hO1; have B1 := Lib.hid hb1
      clear hO1 hb1
      go_wp2
      go_loopw [6, 27] (fun v i wr => ∃ q : Nat, q ≤ k ∧ i = .int .i64 q ∧ OwnM wr w.heap.size v (flatM (ps.take q)) ∧ Below w.heap.size w wr) (fun _ i _ => k - (intOf i).toNat)
      case atStart => exact ⟨0, Nat.zero_le _, rfl, O1.out, B1.out⟩
      case round =>
        clear O1 B1
        obtain ⟨q, hq, rfl, hown, hb2⟩ := hrel
        have HO := Lib.hid hown; have HB := Lib.hid hb2
        have hsz := hb2.size
        clear hown hb2
        by_cases hqk : q < k
        · obtain ⟨p, hp⟩ : ∃ p, ps[q]? = some p := ⟨_, List.getElem?_eq_getElem (by rw [Hl.out]; exact hqk)⟩
          obtain ⟨hc, hpn, hI⟩ := (HP.out.keep hb HB.out).2 q p hp
          have HF := Lib.hid (flatM_at hp)
          have hsq := HS.out (q + 1)
          rw [HF.out, List.length_append] at hsq
          obtain ⟨A, n, c, zs⟩ := p
          simp only at hc HF hsq hpn hI
          have Hpn := Lib.hid hpn; have HI := Lib.hid hI; have Hsq := Lib.hid hsq
          clear hp hpn hI hsq
          go_wp2_with (at_builtin; refine wpl_app_mat _ rfl (.tmp 31) (.tmp 32) rfl w.heap.size 0 b _ _ zs A n c rfl HO.out hsz rfl Hpn.out HI.out (by have h1 := Hsq.out; have h2 := Hpn.out; omega) ?_; intro v' w4 hO4 hg4 _)
          rw [← HF.out] at hO4
          have O4 := Lib.hid hO4; have B4 := Lib.hid (HB.out.trans ((Below.refl w.heap.size wr).grown hg4 hsz (fun g hg => (World.ownsRow.lt HO.out g hg).1)))
          clear hO4 hg4
          go_roundw
          case rel => exact ⟨q + 1, by omega, by go_num, O4.out, B4.out⟩
          case measure => simp [intOf]; omega
        · have hqn : q = k := by omega
          subst hqn
          have HT : Hid (ps.take q = ps) := List.take_of_length_le (by rw [Hl.out]; omega)
          rw [HT.out] at HO
          go_wp2
          go_ret
          exact ⟨_, rfl, HO.out, HB.out⟩
end Go.Proofs.Ythoepelgmplcmaa
