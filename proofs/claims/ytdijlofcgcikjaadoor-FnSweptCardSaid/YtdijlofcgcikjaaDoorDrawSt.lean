/-
  The draw of a magazine of a font: whatever the bytes, l2Stock returns a magazine in memory of its own, as many rows as the font has letters, at most 20 matrices in each. Conditions: the cursor is whole; the font's codes lie behind it, each from 0 to 128.
-/
import Derived.Test.YtdijlofcgcikjaaDoorDrawFa
import Derived.Test.YtdijlofcgcikjaaDoorPkM
import Derived.Test.YtdijlofcgcikjaaDoorMagW
import Derived.Deep.CutRange
namespace Go.Proofs.YtdijlofcgcikjaaDoor
open Go.RowKit
set_option linter.unusedVariables false

theorem chg_moved {w w' : World} {g : Nat} (h : Moved w w' g) : Chg g (g + 1) w w' := Chg.of_grown h (fun k hk => by injection hk with hk; omega)
theorem magDrew {w : World} {B hi : Nat} {v : Value} {hs : List Value} {ms : List (List Mat)} (h : OwnMag w B hi v hs ms) : OwnMag w.drew B hi v hs ms := h.chg (lo' := hi) (hi' := hi) ⟨rfl, rfl, rfl, Nat.le_refl _, fun _ _ _ => rfl⟩ (.inl (Nat.le_refl _))
theorem OwnMag.hi {w : World} {B hi hi' : Nat} {v : Value} {hs : List Value} {ms : List (List Mat)} (h : OwnMag w B hi v hs ms) (hle : hi ≤ hi') : OwnMag w B hi' v hs ms :=
  ⟨h.outer, h.rows, h.apart, fun i x g a b => ⟨(h.other i x g a b).1, Nat.lt_of_lt_of_le (h.other i x g a b).2 hle⟩, fun g a => Nat.lt_of_lt_of_le (h.top g a) hle⟩
theorem mcells_one_cell {ys : List Mat} : ∀ u ∈ mcells ys, u.oneCell' = true := by
  intro u hu
  unfold mcells at hu
  rw [List.mem_flatMap] at hu
  obtain ⟨y, _, hu⟩ := hu
  simp at hu
  rcases hu with rfl | rfl <;> rfl
theorem mats_one (w : World) (x : Mat) : MatsI (w.alloc (.cells #[.int .i64 x.1, .int .i64 x.2] 30)) w.heap.size (w.heap.size + 1) (some ⟨w.heap.size, 0, none⟩) [x] := fun _ => by
  refine ⟨_, rfl, Nat.le_refl _, Nat.lt_succ_self _, fun j y hj => ?_⟩
  cases j with
  | zero =>
    simp at hj; subst hj
    refine ⟨?_, ?_⟩
    · show World.cell? _ (Addr.add _ 0) = _
      rw [add_zero_at, World.cell?_alloc_at _ _ _ _ rfl]; rfl
    · show World.cell? _ (Addr.add _ 1) = _
      rw [show (1 : Nat) = 0 + 1 from rfl, addr_next, add_zero_at, World.cell?_alloc_at _ _ _ _ rfl]; rfl
  | succ j => simp at hj
set_option maxRecDepth 100000 in
/-- append(s, ys...) of matrices as a step of a region that draws, where the row lies told; what is appended is not empty -/
theorem step_app_mat2 {ops : Array Oper} {o : Oper} {a : Act} {w : World} {K : Act → World → Prop} {Q : Exit → Act → World → Prop} {E : Prop} (hw : Region.wanted o (yielded ops a.tmps) = true) (s x : Operand)
    (ho : o.op = .call { callee := .builtin .append, args := #[s, x], argTypes := #[34, 34] })
    (B lo hi : Nat) (v : Value) (xs ys : List Mat) (A : Option Addr) (m c : Nat) (hs : a.eval s = v) (hx : a.eval x = .slice A m c) (hm : ys.length = m) (hpos : 0 < m) (hI : MatsI w lo hi A ys) (hown : OwnM w B v xs) (hB : B ≤ w.heap.size) (hlen : xs.length + m ≤ 1048576)
    (hK : ∀ v' w', OwnM w' B v' (xs ++ ys) → w.grownBy w' v.ownBlock → (v'.ownBlock = v.ownBlock ∨ v'.ownBlock = some w.heap.size) → K (a.put o.dst v') w') :
    if Region.wanted o (yielded ops a.tmps) = true then Oper.wp Tryd.prog o a w K Q else E := by
  rw [if_pos hw]
  obtain ⟨i0, hi0, hz0, hz1, hz2⟩ := info_parts matInfo
  obtain ⟨ad, rfl, _, _, hc⟩ := hI (by omega)
  have hl : (mcells ys).length = m * 2 := by rw [mcells_len, hm]
  have hnews : ∀ j u, (mcells ys)[j]? = some u → w.cell? (ad.add j) = some u := by
    intro j u hj
    have hjl : j < m * 2 := by
      have := (List.getElem?_eq_some_iff.1 hj).1
      omega
    have hy : ys[j / 2]? = some (ys[j / 2]'(by omega)) := List.getElem?_eq_getElem (by omega)
    obtain ⟨c1, c2⟩ := hc (j / 2) _ hy
    obtain ⟨g1, g2⟩ := mcells_get hy
    rcases Nat.mod_two_eq_zero_or_one j with h0 | h0
    · have e2 : j / 2 * 2 = j := by omega
      rw [e2] at c1 g1
      rw [hj] at g1
      injection g1 with g1
      rw [c1, g1]
    · have e2 : j / 2 * 2 + 1 = j := by omega
      rw [e2] at c2 g2
      rw [hj] at g2
      injection g2 with g2
      rw [c2, g2]
  have h1 : ∀ u ∈ mcells ys, u.oneCell' = true := mcells_one_cell
  obtain ⟨v', w', hr, h2, h3, _, hlie⟩ := run_append_own_at (P := Tryd.prog) (w := w) B 34 o.type 30 i0 (.agg #[.int .i64 0, .int .i64 0]) 2 16 Tryd.underlying34 hi0 hz0 hz1 hz2 rfl (by decide) v xs.length (mcells xs) hown ad m c _ hl hnews h1 (by unfold maxLen; omega) (by omega) hB
  unfold Oper.wp execOp
  simp only [ho, resolve, invoke, builtin, Sem.run_bind, Sem.run_pure, Result.andThen_ok, List.map_toArray, List.map_cons, List.map_nil, hs, hx, hr]
  refine hK v' w' ?_ h3 hlie
  unfold OwnM
  rw [mcells_append, List.length_append, hm]
  exact h2
/-- rows of at most b matrices with small kinds and teeth -/
def StkB (b : Nat) (ms : List (List Mat)) : Prop := ∀ xs ∈ ms, xs.length ≤ b ∧ ∀ x ∈ xs, -1 ≤ x.1 ∧ x.1 ≤ 24 ∧ 0 ≤ x.2 ∧ x.2 ≤ 128
/-- .. of n rows, those from j on empty -/
def StkS (n : Nat) (ms : List (List Mat)) (j : Nat) : Prop := ms.length = n ∧ StkB 20 ms ∧ ∀ q, j ≤ q → q < n → ms[q]? = some []
/-- .. those behind j empty, row j with room for k -/
def StkI (n : Nat) (ms : List (List Mat)) (j k : Nat) (xs : List Mat) : Prop := ms.length = n ∧ StkB 20 ms ∧ (∀ q, j < q → q < n → ms[q]? = some []) ∧ ms[j]? = some xs ∧ xs.length + k ≤ 20
theorem stk_zero (n : Nat) : StkS n (List.replicate n []) 0 :=
  ⟨List.length_replicate, fun xs hx => by rw [(List.mem_replicate.1 hx).2]; exact ⟨Nat.zero_le _, fun x hx => by cases hx⟩, fun q _ hq => by rw [List.getElem?_replicate, if_pos hq]⟩
theorem stk_in {n j k : Nat} {ms : List (List Mat)} (h : StkS n ms j) (hj : j < n) (hk : k ≤ 20) : StkI n ms j k [] := ⟨h.1, h.2.1, fun q h1 h2 => h.2.2 q (by omega) h2, h.2.2 j (Nat.le_refl _) hj, by simpa using hk⟩
theorem stk_out {n j k : Nat} {ms : List (List Mat)} {xs : List Mat} (h : StkI n ms j k xs) : StkS n ms (j + 1) := ⟨h.1, h.2.1, fun q h1 h2 => h.2.2.1 q (by omega) h2⟩
theorem stk_push {n j k : Nat} {ms : List (List Mat)} {xs : List Mat} {x : Mat} (h : StkI n ms j (k + 1) xs) (hx : -1 ≤ x.1 ∧ x.1 ≤ 24 ∧ 0 ≤ x.2 ∧ x.2 ≤ 128) : StkI n (ms.set j (xs ++ [x])) j k (xs ++ [x]) := by
  obtain ⟨h1, h2, h3, h4, h5⟩ := h
  have hj := (List.getElem?_eq_some_iff.1 h4).1
  have hxs := h2 xs (List.mem_of_getElem? h4)
  refine ⟨by rw [List.length_set]; exact h1, fun ys hy => ?_, fun q hq hn => by rw [List.getElem?_set_ne (by omega)]; exact h3 q hq hn, List.getElem?_set_self hj, by rw [List.length_append]; simp; omega⟩
  rcases List.mem_or_eq_of_mem_set hy with hy | rfl
  · exact h2 ys hy
  · refine ⟨by rw [List.length_append]; simp; omega, fun z hz => ?_⟩
    rcases List.mem_append.1 hz with hz | hz
    · exact hxs.2 z hz
    · rw [List.mem_singleton] at hz; subst hz; exact hx
theorem and128 (t : Int) (x : Nat) (h0 : 0 ≤ t) (h1 : t ≤ 128) (hx : (x : Int) < 7) : 0 ≤ bits .andNot .i64 t (IntKind.i64.wrap (2 ^ x)) ∧ bits .andNot .i64 t (IntKind.i64.wrap (2 ^ x)) ≤ 128 := by
  have h : ∀ (a : Fin 129) (b : Fin 7), 0 ≤ bits .andNot .i64 ((a : Nat) : Int) (IntKind.i64.wrap (2 ^ (b : Nat))) ∧ bits .andNot .i64 ((a : Nat) : Int) (IntKind.i64.wrap (2 ^ (b : Nat))) ≤ 128 := by decide +kernel
  obtain ⟨a, rfl⟩ := Int.eq_ofNat_of_zero_le h0
  exact h ⟨a, by omega⟩ ⟨x, by omega⟩
set_option maxRecDepth 100000 in
set_option maxHeartbeats 12800000 in
theorem l2Stock_any (g Bf : Nat) (s : ByteArray) (A A2 : Option Addr) (n c m d : Nat) (cs : List Int) (w : World) (hc : Cur w g) (hs24 : s.size ≤ 24) (hg : g < Bf) (hcs : cs.length = m) (hm24 : m ≤ 24) (hD : Own w Bf (.slice A2 m d) cs) (hbd : ∀ x ∈ cs, 0 ≤ x ∧ x ≤ 128) :
    Calls Tryd.prog 73 #[.pointer (some ⟨g, 0, none⟩), .agg #[.string s, .slice A n c, .slice A2 m d]] w fun e w' => ∃ B hs ms, e = .returned (.slice (some ⟨B, 0, none⟩) s.size s.size) ∧ w.heap.size ≤ B ∧ OwnMag w' B w'.heap.size (.slice (some ⟨B, 0, none⟩) s.size s.size) hs ms ∧ ms.length = s.size ∧ StkB 20 ms ∧ CM w w' g := by
  have hgw := hc.lt
  obtain ⟨w0, hw0, hb0, hz0, hR0⟩ := mxWorld w #[.string s, .slice A n c, .slice A2 m d] 25
  have hc0 : CM w w0 g := (CM.of hc).step hb0
  have hD0 := hD.below hb0
  have ND := Lib.hid (fun k hk => (World.ownsRow.lt hD k hk).2 : ∀ k, (Value.slice A2 m d).ownBlock = some k → k < w.heap.size)
  have HBD := Lib.hid hbd; have HCS := Lib.hid hcs
  obtain ⟨N, hN⟩ : ∃ y, s.size = y := ⟨_, rfl⟩
  rw [hN] at hs24 ⊢
  obtain ⟨B, hB⟩ : ∃ y, w0.heap.size = y := ⟨_, rfl⟩
  rw [hB] at hz0
  have HB := Lib.hid hz0
  have hB1 : w.heap.size < B := by omega
  obtain ⟨f0, f1, f2⟩ := (show w0.cell? ⟨w.heap.size, 0, none⟩ = some (.string s) ∧ w0.cell? ⟨w.heap.size, 1, none⟩ = some (.slice A n c) ∧ w0.cell? ⟨w.heap.size, 2, none⟩ = some (.slice A2 m d) from ⟨cellOfBlk hR0 0, cellOfBlk hR0 1, cellOfBlk hR0 2⟩)
  go_enter Tryd.func73, Tryd.ntmps73
  clear hz0
  go_wp2_with (at_make; refine wpl_make_mag _ rfl (.tmp 14) rfl N _ rfl (by first | rfl | exact congrArg Int.ofNat hN) (by omega) ?_; intro w1 hM1 hb1 hz1)
  rw [hB] at hM1 hb1 hz1
  have C1 := Lib.hid (hc0.step (by rw [hB]; exact hb1)); have R1 := Lib.hid (hR0.below hb1 (by omega)); have D1 := Lib.hid (hD0.below (by rw [hB]; exact hb1)); have M1 := Lib.hid hM1
  have zh1 : w1.heap.size ≤ w1.heap.size := Nat.le_refl _
  clear hc hD hbd hcs hw0 hb0 hR0 hc0 hD0 hN f0 f1 f2 hM1 hb1 hB
  try go_wp2_with fail
  refine (below_cm w g 3 w1 (by omega) C1.out).mono ?_
  rintro e w2 ⟨wl, rfl, hwl, hc2, hm2⟩
  have zh2 : w1.heap.size ≤ w2.heap.size := by have := hm2.size; omega
  have C2 := Lib.hid (hc2)
  have R2 := Lib.hid (R1.out.moved hm2 (by omega))
  have D2 := Lib.hid (D1.out.grown_lt hm2 (fun k hk => by injection hk with hk; omega))
  have M2 := Lib.hid (M1.out.chg (chg_moved hm2) (.inr (by omega)))
  clear C1 R1 D1 M1
  clear hc2 hm2
  go_wp2_with fail
  go_loopw [20] (fun i wr => ∃ (j : Nat) (hs : List Value) (ms : List (List Mat)) (hi : Nat), j ≤ N ∧ i = .int .i64 j ∧ Hid (StkS N ms j) ∧ Hid (CM w wr g) ∧ Hid (Blk wr w.heap.size #[.string s, .slice A n c, .slice A2 m d] 25) ∧ Hid (Own wr Bf (.slice A2 m d) cs) ∧ Hid (OwnMag wr B hi (.slice (some ⟨B, 0, none⟩) N N) hs ms) ∧ hi ≤ wr.heap.size) (fun i _ => N - (intOf i).toNat)
  case atStart => exact ⟨0, _, _, _, Nat.zero_le _, rfl, stk_zero N, C2.out, R2.out, D2.out, M2.out, zh2⟩
  case round =>
    clear C2 R2 D2 M2 zh2 zh1 hz1
    obtain ⟨j, hs, ms, hi, hj, rfl, HS, C3, R3, D3, M3, zh3⟩ := hrel
    obtain ⟨w3, h3⟩ : ∃ x, x = wr := ⟨_, rfl⟩
    subst h3
    by_cases hjn : j < N
    · go_wp2_with fail
      refine (below_cm w g 5 w3 (by omega) C3.out).mono ?_
      rintro e w4 ⟨k0, rfl, hk0, hc4, hm4⟩
      have zh4 : hi ≤ w4.heap.size := by have := hm4.size; omega
      have C4 := Lib.hid (hc4)
      have R4 := Lib.hid (R3.out.moved hm4 (by omega))
      have D4 := Lib.hid (D3.out.grown_lt hm4 (fun k hk => by injection hk with hk; omega))
      have M4 := Lib.hid (M3.out.chg (chg_moved hm4) (.inr (by omega)))
      clear C3 R3 D3 M3
      clear hc4 hm4
      go_wp2_with fail
      refine (once_cm w g 10 w4 C4.out).mono ?_
      rintro e w5 ⟨b10, rfl, hc5, hm5⟩
      have zh5 : hi ≤ w5.heap.size := by have := hm5.size; omega
      have C5 := Lib.hid (hc5)
      have R5 := Lib.hid (R4.out.moved hm5 (by omega))
      have D5 := Lib.hid (D4.out.grown_lt hm5 (fun k hk => by injection hk with hk; omega))
      have M5 := Lib.hid (M4.out.chg (chg_moved hm5) (.inr (by omega)))
      clear C4 R4 D4 M4
      clear hc5 hm5
      go_upto_if 26 with fail
      go_cut [9] from 21 to 82 (fun kv wx => ∃ k : Nat, k ≤ 20 ∧ kv = .int .i64 k ∧ Hid (CM w wx g) ∧ Hid (Blk wx w.heap.size #[.string s, .slice A n c, .slice A2 m d] 25) ∧ Hid (Own wx Bf (.slice A2 m d) cs) ∧ Hid (OwnMag wx B hi (.slice (some ⟨B, 0, none⟩) N N) hs ms) ∧ hi ≤ wx.heap.size)
      case first =>
        cases b10
        · go_wp2
          go_meet
          case rel => exact ⟨k0, by omega, rfl, C5.out, R5.out, D5.out, M5.out, zh5⟩
        · go_wp2_with fail
          refine (below_cm w g 2 w5 (by omega) C5.out).mono ?_
          rintro e w6 ⟨k1, rfl, hk1, hc6, hm6⟩
          have zh6 : hi ≤ w6.heap.size := by have := hm6.size; omega
          have C6 := Lib.hid (hc6)
          have R6 := Lib.hid (R5.out.moved hm6 (by omega))
          have D6 := Lib.hid (D5.out.grown_lt hm6 (fun k hk => by injection hk with hk; omega))
          have M6 := Lib.hid (M5.out.chg (chg_moved hm6) (.inr (by omega)))
          clear C5 R5 D5 M5
          obtain ⟨k2, hk2⟩ : ∃ y, 19 + k1 = y := ⟨_, rfl⟩
          have e1 : (19 : Int) + (k1 : Int) = (k2 : Int) := by omega
          have e2 : IntKind.i64.wrap (k2 : Int) = (k2 : Int) := by rw [IntKind.wrap_i64]; omega
          have hk20 : k2 ≤ 20 := by omega
          clear hc6 hm6 hk2
          go_wp2
          go_meet
          case rel => exact ⟨k2, hk20, rfl, C6.out, R6.out, D6.out, M6.out, zh6⟩
      case rest =>
        obtain ⟨k, hk, rfl, C6, R6, D6, M6, zh6⟩ := hcut
        clear C5 R5 D5 M5 zh5
        obtain ⟨w6, h6⟩ : ∃ x, x = wc := ⟨_, rfl⟩
        subst h6
        have HI := Lib.hid (stk_in HS.out hjn hk)
        go_wp2_with fail
        go_loopw [9] (fun kv wq => ∃ (k : Nat) (hs : List Value) (ms : List (List Mat)) (xs : List Mat) (hi : Nat), kv = .int .i64 k ∧ Hid (StkI N ms j k xs) ∧ Hid (CM w wq g) ∧ Hid (Blk wq w.heap.size #[.string s, .slice A n c, .slice A2 m d] 25) ∧ Hid (Own wq Bf (.slice A2 m d) cs) ∧ Hid (OwnMag wq B hi (.slice (some ⟨B, 0, none⟩) N N) hs ms) ∧ hi ≤ wq.heap.size) (fun kv _ => (intOf kv).toNat)
        case atStart => exact ⟨k, _, _, _, _, rfl, HI.out, C6.out, R6.out, D6.out, M6.out, zh6⟩
        case round =>
          clear C6 R6 D6 M6 zh6 HI HS
          obtain ⟨k, hs, ms, xs, hi, rfl, HI, C7, R7, D7, M7, zh7⟩ := hrel
          obtain ⟨w7, h7⟩ : ∃ x, x = wr := ⟨_, rfl⟩
          subst h7
          by_cases hk0 : 0 < k
          · obtain ⟨k, rfl⟩ : ∃ y, k = y + 1 := ⟨k - 1, by omega⟩
            go_upto_region 13 with fail
            obtain ⟨w8, hw8, hb8, hz8, hX8⟩ := mxWorld w7 #[.int .i64 (j : Int), .int .i64 0] 30
            obtain ⟨cb, hcb⟩ : ∃ y, w7.heap.size = y := ⟨_, rfl⟩
            have hcw : w7.heap.size = cb := hcb
            have hcw2 : B + 1 ≤ w7.heap.size := by have := M7.out.top B rfl; omega
            have zh8 : hi ≤ w8.heap.size := by have := hb8.size; omega
            have C8 := Lib.hid (C7.out.step hb8)
            have R8 := Lib.hid (R7.out.below hb8 (by omega))
            have D8 := Lib.hid (D7.out.below hb8)
            have M8 := Lib.hid (M7.out.below hb8)
            clear C7 R7 D7 M7
            rw [hcb] at hX8 hz8
            have X8 := Lib.hid hX8
            have zc8 : cb < w8.heap.size := by omega
            have zhc : hi ≤ cb := by omega
            rw [hcb] at hcw2
            clear hX8 hb8 hz8 zh7 hcw
            rw [hw8, hcb]
            clear hw8 hcb
            go_cut [41] from 30 to 81 (fun cv wx => ∃ bb : Bool, cv = .bool bb ∧ Hid (CM w wx g) ∧ Hid (Blk wx w.heap.size #[.string s, .slice A n c, .slice A2 m d] 25) ∧ Hid (Own wx Bf (.slice A2 m d) cs) ∧ Hid (OwnMag wx B hi (.slice (some ⟨B, 0, none⟩) N N) hs ms) ∧ Hid (Blk wx cb #[.int .i64 (j : Int), .int .i64 0] 30) ∧ hi ≤ wx.heap.size ∧ cb < wx.heap.size)
            case first =>
              by_cases hwl0 : 0 < (wl : Int)
              · go_wp2_with fail
                refine (once_cm w g _ w8 C8.out).mono ?_
                rintro e w9 ⟨bb, rfl, hc9, hm9⟩
                have zh9 : hi ≤ w9.heap.size := by have := hm9.size; omega
                have zc9 : cb < w9.heap.size := by have := hm9.size; omega
                have C9 := Lib.hid (hc9)
                have R9 := Lib.hid (R8.out.moved hm9 (by omega))
                have D9 := Lib.hid (D8.out.grown_lt hm9 (fun k hk => by injection hk with hk; omega))
                have M9 := Lib.hid (M8.out.chg (chg_moved hm9) (.inr (by omega)))
                have X9 := Lib.hid (X8.out.moved hm9 (by omega))
                clear C8 R8 D8 M8 X8
                clear hc9 hm9
                go_wp2
                go_meet
                case rel => exact ⟨bb, rfl, C9.out, R9.out, D9.out, M9.out, X9.out, zh9, zc9⟩
              · go_wp2
                go_meet
                case rel => exact ⟨false, rfl, C8.out, R8.out, D8.out, M8.out, X8.out, zh8, zc8⟩
            case rest =>
              obtain ⟨bb, rfl, C10, R10, D10, M10, X10, zh10, zc10⟩ := hcut
              clear C8 R8 D8 M8 X8 zh8 zc8
              obtain ⟨w10, h10⟩ : ∃ x, x = wc := ⟨_, rfl⟩
              subst h10
              go_upto_if 41 with fail
              go_cut [] from 30 to 81 (fun wx => ∃ kd : Nat, kd ≤ 24 ∧ Hid (CM w wx g) ∧ Hid (Blk wx w.heap.size #[.string s, .slice A n c, .slice A2 m d] 25) ∧ Hid (Own wx Bf (.slice A2 m d) cs) ∧ Hid (OwnMag wx B hi (.slice (some ⟨B, 0, none⟩) N N) hs ms) ∧ Hid (Blk wx cb #[.int .i64 (kd : Int), .int .i64 0] 30) ∧ hi ≤ wx.heap.size ∧ cb < wx.heap.size)
              case first =>
                cases bb
                · go_wp2
                  go_meet
                  case rel => exact ⟨j, by omega, C10.out, R10.out, D10.out, M10.out, X10.out, zh10, zc10⟩
                · go_wp2_with fail
                  refine (below_cm w g _ w10 (by omega) C10.out).mono ?_
                  rintro e w11 ⟨x4, rfl, hx4, hc11, hm11⟩
                  have zh11 : hi ≤ w11.heap.size := by have := hm11.size; omega
                  have zc11 : cb < w11.heap.size := by have := hm11.size; omega
                  have C11 := Lib.hid (hc11)
                  have R11 := Lib.hid (R10.out.moved hm11 (by omega))
                  have D11 := Lib.hid (D10.out.grown_lt hm11 (fun k hk => by injection hk with hk; omega))
                  have M11 := Lib.hid (M10.out.chg (chg_moved hm11) (.inr (by omega)))
                  have X11 := Lib.hid (X10.out.moved hm11 (by omega))
                  clear C10 R10 D10 M10 X10
                  clear hc11 hm11
                  have ff := X11.out.warm 0
                  obtain ⟨x0, x1⟩ := (show w11.cell? ⟨cb, 0, none⟩ = some (.int .i64 (j : Int)) ∧ w11.cell? ⟨cb, 1, none⟩ = some (.int .i64 0) from ⟨cellOfBlk X11.out 0, cellOfBlk X11.out 1⟩)
                  have C12 : Hid (CM w (w11.setCell ⟨cb, 0, none⟩ (.int .i64 (x4 : Int))) g) := C11.out.set (by show w.heap.size ≤ cb; omega) hgw _
                  have R12 : Hid (Blk (w11.setCell ⟨cb, 0, none⟩ (.int .i64 (x4 : Int))) w.heap.size #[.string s, .slice A n c, .slice A2 m d] 25) := R11.out.other _ _ (by show w.heap.size ≠ cb; omega)
                  have D12 : Hid (Own (w11.setCell ⟨cb, 0, none⟩ (.int .i64 (x4 : Int))) Bf (.slice A2 m d) cs) := D11.out.setO _ _ (fun k hk => by have := ND.out k hk; show k ≠ cb; omega)
                  have M12 : Hid (OwnMag (w11.setCell ⟨cb, 0, none⟩ (.int .i64 (x4 : Int))) B hi (.slice (some ⟨B, 0, none⟩) N N) hs ms) := M11.out.chg (chg_set _ cb 0 _) (.inl (by omega))
                  have X12 : Hid (Blk (w11.setCell ⟨cb, 0, none⟩ (.int .i64 (x4 : Int))) cb #[.int .i64 (x4 : Int), .int .i64 0] 30) := heapSet (i := 0) X11.out _
                  obtain ⟨w12, hw12⟩ : ∃ ww, w11.setCell ⟨cb, 0, none⟩ (.int .i64 (x4 : Int)) = ww := ⟨_, rfl⟩
                  have zh12 : hi ≤ w12.heap.size := by rw [← hw12, setCell_size]; exact zh11
                  have zc12 : cb < w12.heap.size := by rw [← hw12, setCell_size]; exact zc11
                  rw [hw12] at C12 R12 D12 M12 X12
                  go_wp2
                  go_meet
                  case rel => exact ⟨x4, by omega, C12.out, R12.out, D12.out, M12.out, X12.out, zh12, zc12⟩
              case rest =>
                obtain ⟨kd, hkd, C13, R13, D13, M13, X13, zh13, zc13⟩ := hcut
                clear C10 R10 D10 M10 X10 zh10 zc10
                obtain ⟨w13, h13⟩ : ∃ x, x = wc := ⟨_, rfl⟩
                subst h13
                obtain ⟨x0, x1⟩ := (show w13.cell? ⟨cb, 0, none⟩ = some (.int .i64 (kd : Int)) ∧ w13.cell? ⟨cb, 1, none⟩ = some (.int .i64 0) from ⟨cellOfBlk X13.out 0, cellOfBlk X13.out 1⟩)
                obtain ⟨f0, f1, f2⟩ := (show w13.cell? ⟨w.heap.size, 0, none⟩ = some (.string s) ∧ w13.cell? ⟨w.heap.size, 1, none⟩ = some (.slice A n c) ∧ w13.cell? ⟨w.heap.size, 2, none⟩ = some (.slice A2 m d) from ⟨cellOfBlk R13.out 0, cellOfBlk R13.out 1, cellOfBlk R13.out 2⟩)
                go_upto_if 51 with fail
                go_cut [] from 30 to 81 (fun wx => ∃ T : Int, 0 ≤ T ∧ T ≤ 128 ∧ Hid (CM w wx g) ∧ Hid (Blk wx w.heap.size #[.string s, .slice A n c, .slice A2 m d] 25) ∧ Hid (Own wx Bf (.slice A2 m d) cs) ∧ Hid (OwnMag wx B hi (.slice (some ⟨B, 0, none⟩) N N) hs ms) ∧ Hid (Blk wx cb #[.int .i64 (kd : Int), .int .i64 T] 30) ∧ hi ≤ wx.heap.size ∧ cb < wx.heap.size)
                case first =>
                  by_cases hkm : (kd : Int) < (m : Int)
                  · obtain ⟨ad, x, hA, hx, hcx⟩ := (own_ints D13.out).at_ (k := kd) (by rw [HCS.out]; omega)
                    subst hA
                    have hxb := HBD.out x (List.mem_of_getElem? hx.out)
                    have ff := X13.out.warm 1
                    have C14 : Hid (CM w (w13.setCell ⟨cb, 1, none⟩ (.int .i64 x)) g) := C13.out.set (by show w.heap.size ≤ cb; omega) hgw _
                    have R14 : Hid (Blk (w13.setCell ⟨cb, 1, none⟩ (.int .i64 x)) w.heap.size #[.string s, .slice A n c, .slice (some ad) m d] 25) := R13.out.other _ _ (by show w.heap.size ≠ cb; omega)
                    have D14 : Hid (Own (w13.setCell ⟨cb, 1, none⟩ (.int .i64 x)) Bf (.slice (some ad) m d) cs) := D13.out.setO _ _ (fun k hk => by have := ND.out k hk; show k ≠ cb; omega)
                    have M14 : Hid (OwnMag (w13.setCell ⟨cb, 1, none⟩ (.int .i64 x)) B hi (.slice (some ⟨B, 0, none⟩) N N) hs ms) := M13.out.chg (chg_set _ cb 1 _) (.inl (by omega))
                    have X14 : Hid (Blk (w13.setCell ⟨cb, 1, none⟩ (.int .i64 x)) cb #[.int .i64 (kd : Int), .int .i64 x] 30) := heapSet (i := 1) X13.out _
                    obtain ⟨w14, hw14⟩ : ∃ ww, w13.setCell ⟨cb, 1, none⟩ (.int .i64 x) = ww := ⟨_, rfl⟩
                    have zh14 : hi ≤ w14.heap.size := by rw [← hw14, setCell_size]; exact zh13
                    have zc14 : cb < w14.heap.size := by rw [← hw14, setCell_size]; exact zc13
                    rw [hw14] at C14 R14 D14 M14 X14
                    go_wp2
                    go_meet
                    case rel => exact ⟨x, hxb.1, hxb.2, C14.out, R14.out, D14.out, M14.out, X14.out, zh14, zc14⟩
                  · go_wp2
                    go_meet
                    case rel => exact ⟨0, by omega, by omega, C13.out, R13.out, D13.out, M13.out, X13.out, zh13, zc13⟩
                case rest =>
                  obtain ⟨T, hT0, hT1, C15, R15, D15, M15, X15, zh15, zc15⟩ := hcut
                  clear x0 x1 f0 f1 f2 C13 R13 D13 M13 X13 zh13 zc13
                  obtain ⟨w15, h15⟩ : ∃ x, x = wc := ⟨_, rfl⟩
                  subst h15
                  go_upto_region 17 with fail
                  go_cut [64] from 30 to 81 (fun cv wx => ∃ bb : Bool, cv = .bool bb ∧ Hid (CM w wx g) ∧ Hid (Blk wx w.heap.size #[.string s, .slice A n c, .slice A2 m d] 25) ∧ Hid (Own wx Bf (.slice A2 m d) cs) ∧ Hid (OwnMag wx B hi (.slice (some ⟨B, 0, none⟩) N N) hs ms) ∧ Hid (Blk wx cb #[.int .i64 (kd : Int), .int .i64 T] 30) ∧ hi ≤ wx.heap.size ∧ cb < wx.heap.size)
                  case first =>
                    by_cases hwl0 : 1 < (wl : Int)
                    · go_wp2_with fail
                      refine (once_cm w g _ w15 C15.out).mono ?_
                      rintro e w16 ⟨bb, rfl, hc16, hm16⟩
                      have zh16 : hi ≤ w16.heap.size := by have := hm16.size; omega
                      have zc16 : cb < w16.heap.size := by have := hm16.size; omega
                      have C16 := Lib.hid (hc16)
                      have R16 := Lib.hid (R15.out.moved hm16 (by omega))
                      have D16 := Lib.hid (D15.out.grown_lt hm16 (fun k hk => by injection hk with hk; omega))
                      have M16 := Lib.hid (M15.out.chg (chg_moved hm16) (.inr (by omega)))
                      have X16 := Lib.hid (X15.out.moved hm16 (by omega))
                      clear C15 R15 D15 M15 X15
                      clear hc16 hm16
                      go_wp2
                      go_meet
                      case rel => exact ⟨bb, rfl, C16.out, R16.out, D16.out, M16.out, X16.out, zh16, zc16⟩
                    · go_wp2
                      go_meet
                      case rel => exact ⟨false, rfl, C15.out, R15.out, D15.out, M15.out, X15.out, zh15, zc15⟩
                  case rest =>
                    obtain ⟨bb, rfl, C17, R17, D17, M17, X17, zh17, zc17⟩ := hcut
                    clear C15 R15 D15 M15 X15 zh15 zc15
                    obtain ⟨w17, h17⟩ : ∃ x, x = wc := ⟨_, rfl⟩
                    subst h17
                    go_upto_if 64 with fail
                    go_cut [] from 30 to 81 (fun wx => ∃ T : Int, 0 ≤ T ∧ T ≤ 128 ∧ Hid (CM w wx g) ∧ Hid (Blk wx w.heap.size #[.string s, .slice A n c, .slice A2 m d] 25) ∧ Hid (Own wx Bf (.slice A2 m d) cs) ∧ Hid (OwnMag wx B hi (.slice (some ⟨B, 0, none⟩) N N) hs ms) ∧ Hid (Blk wx cb #[.int .i64 (kd : Int), .int .i64 T] 30) ∧ hi ≤ wx.heap.size ∧ cb < wx.heap.size)
                    case first =>
                      cases bb
                      · go_wp2
                        go_meet
                        case rel => exact ⟨T, hT0, hT1, C17.out, R17.out, D17.out, M17.out, X17.out, zh17, zc17⟩
                      · go_wp2_with fail
                        refine wp_region_planT 7 (.take 0 (.take 1 (.take 2 (.one 3 (.take 4 (.take 5 (.take 6 (.last 7)))))))) (fun w' => w'.cell? ⟨cb, 0, none⟩ = some (.int .i64 (kd : Int)) ∧ w'.cell? ⟨cb, 1, none⟩ = some (.int .i64 T)) (by kernel_rfl) (by kernel_rfl) (by kernel_rfl) (by intro c a d v w h; cases d <;> exact h) ⟨cellOfBlk X17.out 0, cellOfBlk X17.out 1⟩ ?_
                        obtain ⟨w18, hwd⟩ : ∃ x, w17.drew = x := ⟨_, rfl⟩
                        have C18 : Hid (CM w w18 g) := by show CM w w18 g; rw [← hwd]; exact CM.drew C17.out
                        have R18 : Hid (Blk w18 w.heap.size #[.string s, .slice A n c, .slice A2 m d] 25) := by show Blk w18 w.heap.size #[.string s, .slice A n c, .slice A2 m d] 25; rw [← hwd]; exact R17.out
                        have D18 : Hid (Own w18 Bf (.slice A2 m d) cs) := by show Own w18 Bf (.slice A2 m d) cs; rw [← hwd]; exact Own.drew D17.out
                        have M18 : Hid (OwnMag w18 B hi (.slice (some ⟨B, 0, none⟩) N N) hs ms) := by show OwnMag w18 B hi (.slice (some ⟨B, 0, none⟩) N N) hs ms; rw [← hwd]; exact magDrew M17.out
                        have X18 : Hid (Blk w18 cb #[.int .i64 (kd : Int), .int .i64 T] 30) := by show Blk w18 cb #[.int .i64 (kd : Int), .int .i64 T] 30; rw [← hwd]; exact X17.out
                        have zh18 : hi ≤ w18.heap.size := by rw [← hwd]; exact zh17
                        have zc18 : cb < w18.heap.size := by rw [← hwd]; exact zc17
                        rw [hwd]
                        clear hwd C17 R17 D17 M17 X17
                        refine planT_quiet rfl (by rfl) (v := ?_) ?_ ?_; rotate_left; (intro w1 hSw; obtain ⟨h0, h1⟩ := hSw; go_simp; try (with_reducible rfl)); (try simp only [Act.put, List.setIfInBounds_toArray, List.set_cons_zero, List.set_cons_succ])
                        refine planT_quiet rfl (by rfl) (v := ?_) ?_ ?_; rotate_left; (intro w1 hSw; obtain ⟨h0, h1⟩ := hSw; go_simp; try (with_reducible rfl)); (try simp only [Act.put, List.setIfInBounds_toArray, List.set_cons_zero, List.set_cons_succ])
                        refine planT_quiet rfl (by rfl) (v := ?_) ?_ ?_; rotate_left; (intro w1 hSw; obtain ⟨h0, h1⟩ := hSw; go_simp; try (with_reducible rfl)); (try simp only [Act.put, List.setIfInBounds_toArray, List.set_cons_zero, List.set_cons_succ])
                        refine planT_step rfl (fun Kc hK => ?_)
                        rw [if_pos (by rfl)]
                        go_simp
                        refine (below_cm w g _ w18 (by omega) C18.out).mono ?_
                        rintro e w19 ⟨x7, rfl, hx7, hc19, hm19⟩
                        have zh19 : hi ≤ w19.heap.size := by have := hm19.size; omega
                        have zc19 : cb < w19.heap.size := by have := hm19.size; omega
                        have C19 := Lib.hid (hc19)
                        have R19 := Lib.hid (R18.out.moved hm19 (by omega))
                        have D19 := Lib.hid (D18.out.grown_lt hm19 (fun k hk => by injection hk with hk; omega))
                        have M19 := Lib.hid (M18.out.chg (chg_moved hm19) (.inr (by omega)))
                        have X19 := Lib.hid (X18.out.moved hm19 (by omega))
                        clear C18 R18 D18 M18 X18
                        clear hc19 hm19
                        refine hK.out _ _ ⟨cellOfBlk X19.out 0, cellOfBlk X19.out 1⟩ ?_
                        clear hK Kc
                        refine planT_quiet rfl (by rfl) (v := ?_) ?_ ?_; rotate_left; (intro w1 hSw; obtain ⟨h0, h1⟩ := hSw; go_simp; try (with_reducible rfl)); (try simp only [Act.put, List.setIfInBounds_toArray, List.set_cons_zero, List.set_cons_succ])
                        refine planT_quiet rfl (by rfl) (v := ?_) ?_ ?_; rotate_left; (intro w1 hSw; obtain ⟨h0, h1⟩ := hSw; go_simp; try (with_reducible rfl)); (try simp only [Act.put, List.setIfInBounds_toArray, List.set_cons_zero, List.set_cons_succ])
                        refine planT_quiet rfl (by rfl) (v := ?_) ?_ ?_; rotate_left; (intro w1 hSw; obtain ⟨h0, h1⟩ := hSw; go_simp; try (with_reducible rfl)); (try simp only [Act.put, List.setIfInBounds_toArray, List.set_cons_zero, List.set_cons_succ])
                        have hab := and128 T x7 hT0 hT1 hx7
                        obtain ⟨T2, hT2⟩ : ∃ y, bits .andNot .i64 T (IntKind.i64.wrap (2 ^ x7)) = y := ⟨_, rfl⟩
                        rw [hT2] at hab
                        have ff := X19.out.warm 1
                        obtain ⟨x0, x1⟩ := (show w19.cell? ⟨cb, 0, none⟩ = some (.int .i64 (kd : Int)) ∧ w19.cell? ⟨cb, 1, none⟩ = some (.int .i64 T) from ⟨cellOfBlk X19.out 0, cellOfBlk X19.out 1⟩)
                        have C20 : Hid (CM w (w19.setCell ⟨cb, 1, none⟩ (.int .i64 T2)) g) := C19.out.set (by show w.heap.size ≤ cb; omega) hgw _
                        have R20 : Hid (Blk (w19.setCell ⟨cb, 1, none⟩ (.int .i64 T2)) w.heap.size #[.string s, .slice A n c, .slice A2 m d] 25) := R19.out.other _ _ (by show w.heap.size ≠ cb; omega)
                        have D20 : Hid (Own (w19.setCell ⟨cb, 1, none⟩ (.int .i64 T2)) Bf (.slice A2 m d) cs) := D19.out.setO _ _ (fun k hk => by have := ND.out k hk; show k ≠ cb; omega)
                        have M20 : Hid (OwnMag (w19.setCell ⟨cb, 1, none⟩ (.int .i64 T2)) B hi (.slice (some ⟨B, 0, none⟩) N N) hs ms) := M19.out.chg (chg_set _ cb 1 _) (.inl (by omega))
                        have X20 : Hid (Blk (w19.setCell ⟨cb, 1, none⟩ (.int .i64 T2)) cb #[.int .i64 (kd : Int), .int .i64 T2] 30) := heapSet (i := 1) X19.out _
                        obtain ⟨w20, hw20⟩ : ∃ ww, w19.setCell ⟨cb, 1, none⟩ (.int .i64 T2) = ww := ⟨_, rfl⟩
                        have zh20 : hi ≤ w20.heap.size := by rw [← hw20, setCell_size]; exact zh19
                        have zc20 : cb < w20.heap.size := by rw [← hw20, setCell_size]; exact zc19
                        rw [hw20] at C20 R20 D20 M20 X20
                        refine planT_last rfl (fun Kc hK => ?_)
                        rw [if_pos (by rfl)]
                        go_simp
                        (try rw [hT2])
                        refine hK.out _ _ ?_
                        clear hK Kc
                        go_wp2
                        go_meet
                        case rel => exact ⟨T2, hab.1, hab.2, C20.out, R20.out, D20.out, M20.out, X20.out, zh20, zc20⟩
                    case rest =>
                      clear C17 R17 D17 M17 X17 zh17 zc17 hT0 hT1
                      obtain ⟨T, hT0, hT1, C23, R23, D23, M23, X23, zh23, zc23⟩ := hcut
                      obtain ⟨w23, h23⟩ : ∃ x, x = wc := ⟨_, rfl⟩
                      subst h23
                      obtain ⟨h0, hh0, hO0⟩ := M23.out.rows j xs HI.out.2.2.2.1
                      have ho := M23.out.outer
                      rw [HI.out.1] at ho
                      have d1 := (ho.cellAt j (by omega)).trans hh0
                      have fz := ho.frozenAt j
                      have HH0 := Lib.hid hh0; have HO0 := Lib.hid hO0
                      obtain ⟨Ar, cr, rfl, -⟩ := hO0.form
                      have hxl : xs.length ≤ 20 := by have := HI.out.2.2.2.2; omega
                      obtain ⟨l, hl⟩ : ∃ y, xs.length = y := ⟨_, rfl⟩
                      have HL := Lib.hid hl
                      rw [hl] at d1 hxl
                      clear hh0 hO0 ho hl
                      go_wp2_with fail
                      refine wp_region_planT 10 (.take 0 (.take 1 (.take 2 (.take 3 (.take 4 (.take 5 (.take 6 (.one 7 (.one 8 (.take 9 (.last 10))))))))))) (fun w' => w'.cell? ⟨B, j, none⟩ = some (.slice Ar l cr) ∧ w'.cell? ⟨cb, 0, none⟩ = some (.int .i64 (kd : Int)) ∧ w'.cell? ⟨cb, 1, none⟩ = some (.int .i64 T)) (by kernel_rfl) (by kernel_rfl) (by kernel_rfl) (by intro c a d v w h; cases d <;> exact h) ⟨d1, cellOfBlk X23.out 0, cellOfBlk X23.out 1⟩ ?_
                      have d2 : w23.drew.cell? ⟨B, j, none⟩ = some (.slice Ar l cr) := d1
                      have HO1 : OwnM w23.drew B (.slice Ar xs.length cr) xs := HO0.out
                      clear HO0 d1
                      obtain ⟨w24, hwd⟩ : ∃ x, w23.drew = x := ⟨_, rfl⟩
                      have C24 : Hid (CM w w24 g) := by show CM w w24 g; rw [← hwd]; exact CM.drew C23.out
                      have R24 : Hid (Blk w24 w.heap.size #[.string s, .slice A n c, .slice A2 m d] 25) := by show Blk w24 w.heap.size #[.string s, .slice A n c, .slice A2 m d] 25; rw [← hwd]; exact R23.out
                      have D24 : Hid (Own w24 Bf (.slice A2 m d) cs) := by show Own w24 Bf (.slice A2 m d) cs; rw [← hwd]; exact Own.drew D23.out
                      have M24 : Hid (OwnMag w24 B hi (.slice (some ⟨B, 0, none⟩) N N) hs ms) := by show OwnMag w24 B hi (.slice (some ⟨B, 0, none⟩) N N) hs ms; rw [← hwd]; exact magDrew M23.out
                      have X24 : Hid (Blk w24 cb #[.int .i64 (kd : Int), .int .i64 T] 30) := by show Blk w24 cb #[.int .i64 (kd : Int), .int .i64 T] 30; rw [← hwd]; exact X23.out
                      have zh24 : hi ≤ w24.heap.size := by rw [← hwd]; exact zh23
                      have zc24 : cb < w24.heap.size := by rw [← hwd]; exact zc23
                      rw [hwd] at d2 HO1 ⊢
                      clear hwd C23 R23 D23 M23 X23
                      refine planT_quiet rfl (by rfl) (v := ?_) ?_ ?_; rotate_left; (intro w1 hSw; obtain ⟨h0, h1, h2⟩ := hSw; go_simp; try (with_reducible rfl)); (try simp only [Act.put, List.setIfInBounds_toArray, List.set_cons_zero, List.set_cons_succ])
                      refine planT_quiet rfl (by rfl) (v := ?_) ?_ ?_; rotate_left; (intro w1 hSw; obtain ⟨h0, h1, h2⟩ := hSw; go_simp; try (with_reducible rfl)); (try simp only [Act.put, List.setIfInBounds_toArray, List.set_cons_zero, List.set_cons_succ])
                      refine planT_quiet rfl (by rfl) (v := ?_) ?_ ?_; rotate_left; (intro w1 hSw; obtain ⟨h0, h1, h2⟩ := hSw; go_simp; try (with_reducible rfl)); (try simp only [Act.put, List.setIfInBounds_toArray, List.set_cons_zero, List.set_cons_succ])
                      refine planT_quiet rfl (by rfl) (v := ?_) ?_ ?_; rotate_left; (intro w1 hSw; obtain ⟨h0, h1, h2⟩ := hSw; go_simp; try (with_reducible rfl)); (try simp only [Act.put, List.setIfInBounds_toArray, List.set_cons_zero, List.set_cons_succ])
                      refine planT_quiet rfl (by rfl) (v := ?_) ?_ ?_; rotate_left; (intro w1 hSw; obtain ⟨h0, h1, h2⟩ := hSw; go_simp; try (with_reducible rfl)); (try simp only [Act.put, List.setIfInBounds_toArray, List.set_cons_zero, List.set_cons_succ])
                      refine planT_quiet rfl (by rfl) (v := ?_) ?_ ?_; rotate_left; (intro w1 hSw; obtain ⟨h0, h1, h2⟩ := hSw; go_simp; try (with_reducible rfl)); (try simp only [Act.put, List.setIfInBounds_toArray, List.set_cons_zero, List.set_cons_succ])
                      refine planT_quiet rfl (by rfl) (v := ?_) ?_ ?_; rotate_left; (intro w1 hSw; obtain ⟨h0, h1, h2⟩ := hSw; go_simp; try (with_reducible rfl)); (try simp only [Act.put, List.setIfInBounds_toArray, List.set_cons_zero, List.set_cons_succ])
                      refine planT_step rfl (fun Kc hK => ?_)
                      rw [if_pos (by rfl)]
                      go_simp
                      have hbl : Below w24.heap.size w24 (w24.alloc (.cells #[.int .i64 (kd : Int), .int .i64 T] 30)) := below_new _ _
                      have HN : MatsI (w24.alloc (.cells #[.int .i64 (kd : Int), .int .i64 T] 30)) w24.heap.size (w24.heap.size + 1) (some ⟨w24.heap.size, 0, none⟩) [((kd : Int), T)] := mats_one _ _
                      obtain ⟨w25, hwl⟩ : ∃ x, w24.alloc (.cells #[.int .i64 (kd : Int), .int .i64 T] 30) = x := ⟨_, rfl⟩
                      rw [hwl] at hbl HN
                      (try rw [hwl])
                      clear hwl
                      have HO2 := HO1.below hbl
                      have d3 := (hbl.cell (World.block_lt_of_cell? _ _ d2)).trans d2
                      clear HO1 d2
                      obtain ⟨nb, hnb⟩ : ∃ y, w24.heap.size = y := ⟨_, rfl⟩
                      rw [hnb] at HN
                      have hnbs := hbl.size
                      (try rw [hnb])
                      have zh25 : hi ≤ w25.heap.size := by have := hbl.size; omega
                      have zc25 : cb < w25.heap.size := by have := hbl.size; omega
                      have C25 := Lib.hid (C24.out.step hbl)
                      have R25 := Lib.hid (R24.out.below hbl (by omega))
                      have D25 := Lib.hid (D24.out.below hbl)
                      have M25 := Lib.hid (M24.out.below hbl)
                      have X25 := Lib.hid (X24.out.below hbl (by omega))
                      clear C24 R24 D24 M24 X24
                      refine hK.out _ _ ⟨d3, cellOfBlk X25.out 0, cellOfBlk X25.out 1⟩ ?_
                      clear hK Kc hbl hnb
                      refine planT_step rfl (fun Kc hK => ?_)
                      refine step_app_mat2 (by rfl) (.tmp 77) (.tmp 79) rfl B nb (nb + 1) (.slice Ar l cr) xs [((kd : Int), T)] (some ⟨nb, 0, none⟩) 1 1 rfl rfl rfl (by omega) HN (by have h := HO2; rw [HL.out] at h; exact h) (by omega) (by rw [HL.out]; omega) ?_
                      intro v5 w26 hO5 hg5 hf5
                      skip
                      rw [HL.out] at HO2
                      have hrw : (Value.slice Ar l cr).ownBlock = some B → False := fun he => (M25.out.other j _ B (by rw [← HL.out]; exact HH0.out) he).1 rfl
                      have hk5 := M25.out.kept (h := .slice Ar l cr) (by rw [← HL.out]; exact HH0.out) hg5
                      rw [HI.out.1] at hk5
                      have hst := M25.out.store HI.out.2.2.2.1 (h := .slice Ar l cr) (by rw [← HL.out]; exact HH0.out) hg5 hO5 (by rcases hf5 with h | h; exact .inl h; exact .inr (fun k hk => by rw [h] at hk; injection hk with hk; omega)) zh25
                      obtain ⟨A5, c5, rfl, -⟩ := hO5.form
                      have hl5 : (xs ++ [((kd : Int), T)]).length = l + 1 := by rw [List.length_append, HL.out]; rfl
                      rw [hl5] at hst hO5 ⊢
                      have d5 := (hk5.cellAt j (by omega)).trans HH0.out
                      rw [HL.out] at d5
                      have f5 := hk5.frozenAt j
                      have hlt5 := fun k hk => World.ownsRow.lt HO2 k hk
                      have hcbr : (Value.slice Ar l cr).ownBlock ≠ some cb := fun e => by have := (M25.out.other j _ cb (by rw [← HL.out]; exact HH0.out) e).2; omega
                      have X26 := Lib.hid (X25.out.grownO hg5 hcbr); have R26 := Lib.hid (R25.out.grownO hg5 (fun e => by have := (hlt5 _ e).1; omega)); have D26 := Lib.hid (D25.out.grownO hg5 (fun q hq e => by have h1 := ND.out q hq; have h2 := (hlt5 q e).1; omega))
                      have C26 : Hid (CM w w26 g) := C25.out.belowB ((Below.refl B w25).grown hg5 (by omega) (fun q hq => (hlt5 q hq).1)) (by omega) hgw
                      have zs5 := hg5.size
                      refine hK.out _ _ ⟨d5, cellOfBlk X26.out 0, cellOfBlk X26.out 1⟩ ?_
                      clear hK Kc
                      refine planT_quiet rfl (by rfl) (v := ?_) ?_ ?_; rotate_left; (intro w1 hSw; obtain ⟨h0, h1, h2⟩ := hSw; go_simp; try (with_reducible rfl)); (try simp only [Act.put, List.setIfInBounds_toArray, List.set_cons_zero, List.set_cons_succ])
                      have C27 : Hid (CM w (w26.setCell ⟨B, j, none⟩ (.slice A5 (l + 1) c5)) g) := C26.out.set (by show w.heap.size ≤ B; omega) hgw _
                      have R27 : Hid (Blk (w26.setCell ⟨B, j, none⟩ (.slice A5 (l + 1) c5)) w.heap.size #[.string s, .slice A n c, .slice A2 m d] 25) := R26.out.other _ _ (by show w.heap.size ≠ B; omega)
                      have D27 : Hid (Own (w26.setCell ⟨B, j, none⟩ (.slice A5 (l + 1) c5)) Bf (.slice A2 m d) cs) := D26.out.setO _ _ (fun q hq => by have := ND.out q hq; show q ≠ B; omega)
                      have M9 := Lib.hid hst
                      have hI2 := Lib.hid (stk_push (x := ((kd : Int), T)) HI.out ⟨by show -1 ≤ (kd : Int); omega, by show (kd : Int) ≤ 24; omega, hT0, hT1⟩)
                      refine planT_last rfl (fun Kc hK => ?_)
                      rw [if_pos (by rfl)]
                      go_simp
                      refine hK.out _ _ ?_
                      clear hK Kc
                      have ek : IntKind.i64.wrap (k : Int) = (k : Int) := by rw [IntKind.wrap_i64]; have := HI.out.2.2.2.2; omega
                      go_wp2
                      go_roundw
                      case rel => exact ⟨k, _, _, _, _, by go_num, hI2.out, C27.out, R27.out, D27.out, M9.out, Nat.le_refl _⟩
                      case measure => simp [intOf]
          · have hk00 : k = 0 := by omega
            subst hk00
            go_wp2
            go_roundw
            case rel => exact ⟨j + 1, _, _, _, by omega, by go_num, stk_out HI.out, C7.out, R7.out, D7.out, M7.out, zh7⟩
            case measure => simp [intOf]; omega
    · have hjN : j = N := by omega
      subst hjN
      go_wp2
      go_ret
      exact ⟨B, _, ms, rfl, by omega, M3.out.hi zh3, HS.out.1, HS.out.2.1, C3.out⟩
end Go.Proofs.YtdijlofcgcikjaaDoor
