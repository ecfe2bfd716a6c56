/-
  The draw of a font, mostly one: whatever the bytes, l2Any returns a font of at most 24 letters, widths and codes, in memory of its own. Condition: the cursor is whole.
-/
import Derived.Test.YtdijlofcgcikjaaDoorDrawFo
import Derived.Test.YtdijlofcgcikjaaDoorPick
namespace Go.Proofs.YtdijlofcgcikjaaDoor
open Go.RowKit
set_option linter.unusedVariables false

/-- append as a step of a region that draws, where the row lies told; what is appended is not empty -/
theorem step_app2 {ops : Array Oper} {o : Oper} {a : Act} {w : World} {K : Act → World → Prop} {Q : Exit → Act → World → Prop} {E : Prop} (hw : Region.wanted o (yielded ops a.tmps) = true) (s x : Operand)
    (ho : o.op = .call { callee := .builtin .append, args := #[s, x], argTypes := #[23, 23] })
    (B : Nat) (v : Value) (zs ys : List Int) (A : Option Addr) (m c : Nat) (hs : a.eval s = v) (hx : a.eval x = .slice A m c) (hm : ys.length = m) (hpos : 0 < m) (hI : Ints w A ys) (hown : Own w B v zs) (hB : B ≤ w.heap.size) (hlen : zs.length + m ≤ 2097152)
    (hK : ∀ v' w', Own w' B v' (zs ++ ys) → w.grownBy w' v.ownBlock → (v'.ownBlock = v.ownBlock ∨ v'.ownBlock = some w.heap.size) → K (a.put o.dst v') w') :
    if Region.wanted o (yielded ops a.tmps) = true then Oper.wp Tryd.prog o a w K Q else E := by
  rw [if_pos hw]
  obtain ⟨i0, hi, hz0, hz1, hz2⟩ := info_parts intInfo
  obtain ⟨ad, rfl, hc⟩ := hI (by omega)
  have hl : (ys.map (Value.int .i64)).length = m * 1 := by simp [hm]
  have hnews : ∀ j u, (ys.map (Value.int .i64))[j]? = some u → w.cell? (ad.add j) = some u := by
    intro j u hj
    rw [List.getElem?_map] at hj
    cases hy : ys[j]? with
    | none => rw [hy] at hj; cases hj
    | some y =>
      rw [hy] at hj
      simp at hj; subst hj
      rw [hc j (lt_at hy), getD_at hy]
  have h1 : ∀ u ∈ ys.map (Value.int .i64), u.oneCell' = true := by
    intro u hu
    obtain ⟨y, _, rfl⟩ := List.mem_map.1 hu
    rfl
  obtain ⟨v', w', hr, h2, h3, h4⟩ := run_append_own (P := Tryd.prog) w B 23 o.type 3 i0 (.int .i64 0) 1 8 Tryd.underlying23 hi hz0 hz1 hz2 rfl (by decide) v zs.length (zs.map (Value.int .i64)) hown ad m c _ hl hnews h1 (by unfold maxLen; omega) (by omega) hB
  have hlie := append_lies i0 hi hz0 hz1 hz2 hown ad m c hl hnews h1 (by omega) hr
  unfold Oper.wp execOp
  simp only [ho, resolve, invoke, builtin, Sem.run_bind, Sem.run_pure, Result.andThen_ok, List.map_toArray, List.map_cons, List.map_nil, hs, hx, hr]
  refine hK v' w' ?_ h3 hlie
  unfold Own
  rw [List.map_append, List.length_append, hm]
  exact h2
theorem own_form5x {w : World} {B : Nat} {v : Value} {zs : List Int} (h : Own w B v zs) : ∃ A n c, v = .slice A n c ∧ zs.length = n ∧ Own w B (.slice A n c) zs ∧ n ≤ c ∧ c ≤ maxLen := by
  obtain ⟨A, c, rfl, hI, _, h1, h2⟩ := h.form
  exact ⟨A, zs.length, c, rfl, rfl, h, h1, h2⟩
theorem own_at0 {w : World} {B n c : Nat} {ad : Addr} {zs : List Int} (h : Own w B (.slice (some ad) n c) zs) : ∃ g, ad = ⟨g, 0, none⟩ := by
  rcases h.2 with ⟨hv, _⟩ | ⟨g, cap, cur, hv, _⟩
  · injection hv with e; cases e
  · injection hv with e1 e2 e3; injection e1 with e1; exact ⟨g, e1⟩
theorem ints_tail {w : World} {g : Nat} {zs : List Int} (h : Ints w (some ⟨g, 0, none⟩) zs) : Ints w (some ⟨g, 1, none⟩) (zs.drop 1) := fun hn => by
  obtain ⟨ad, e, hc⟩ := h (by rw [List.length_drop] at hn; omega)
  injection e with e; subst e
  refine ⟨_, rfl, fun i hi => ?_⟩
  rw [List.length_drop] at hi
  have := hc (1 + i) (by omega)
  rw [show (List.drop 1 zs).getD i 0 = zs.getD (1 + i) 0 from by simp [List.getD, Nat.add_comm]]
  rw [← this]
  rw [show (⟨g, 0, none⟩ : Addr).add (1 + i) = (⟨g, 1, none⟩ : Addr).add i from by by_cases hi0 : i = 0 <;> simp [Addr.add, hi0]]
def litsA : List ByteArray := [⟨#[97]⟩, ⟨#[32]⟩, ⟨#[126]⟩, ⟨#[]⟩]
/-- what a draw of a font returns: the value, in memory of the call's own -/
def FDraw (w w' : World) (g : Nat) (v : Value) (s : ByteArray) (ws cs : List Int) : Prop :=
  ∃ A n c A2 m d, v = .agg #[.string s, .slice A n c, .slice A2 m d] ∧ s.size ≤ 24 ∧ ws.length = n ∧ n ≤ 24 ∧ cs.length = m ∧ m ≤ 24 ∧ Own w' w.heap.size (.slice A n c) ws ∧ Own w' w.heap.size (.slice A2 m d) cs ∧ CM w w' g
set_option maxRecDepth 100000 in
set_option maxHeartbeats 6400000 in
theorem l2AnyW_any (g : Nat) (w : World) (hc : Cur w g) :
    Calls Tryd.prog 72 #[.pointer (some ⟨g, 0, none⟩)] w fun e w' => ∃ v s ws cs, e = .returned v ∧ FDraw w w' g v s ws cs ∧ ∀ x ∈ cs, 0 ≤ x ∧ x ≤ 128 := by
  have hgw := hc.lt
  obtain ⟨w0, hw0, hb0, hz0, hR0⟩ := mxWorld w #[.string ⟨#[]⟩, .slice none 0 0, .slice none 0 0] 25
  have hc0 : CM w w0 g := (CM.of hc).step hb0
  have C0 := Lib.hid hc0; have R0 := Lib.hid hR0; have HC0 := Lib.hid (CM.of hc0.1)
  clear hc hb0 hR0 hc0
  go_enter Tryd.func72, Tryd.ntmps72
  go_wp2_with fail
  clear hw0
  refine (l2FontW_any g 9 w0 HC0.out.1 (by omega) (by omega)).mono ?_
  rintro e w2 ⟨s, A, A2, c, d, n, ws, cs, rfl, hsz, hws, hcs, hn1, hn9, hW, hD, hne, hc2, hbd9⟩
  rw [hz0] at hW hD
  obtain ⟨b, hbd⟩ : ∃ b, w2.heap.size = b := ⟨_, rfl⟩
  obtain ⟨gA, rfl⟩ := own_at0 hW
  obtain ⟨gD, rfl⟩ := own_at0 hD
  have NE : Hid (∀ k, (Value.slice (some ⟨gA, 0, none⟩) n c).ownBlock = some k → (Value.slice (some ⟨gD, 0, none⟩) n d).ownBlock ≠ some k) := fun k hk h2 => by
    have e1 : gA = k := by injection hk
    have e2 : gD = k := by injection h2
    exact hne (e1.trans e2.symm)
  have hAb : gA < b := by have := World.ownsRow.lt hW gA rfl; omega
  have hA2b : gD < b := by have := World.ownsRow.lt hD gD rfl; omega
  have NW : Hid (∀ k, (Value.slice (some ⟨gA, 0, none⟩) n c).ownBlock = some k → k ≠ b) := fun k hk => by have := World.ownsRow.lt hW k hk; omega
  have ND : Hid (∀ k, (Value.slice (some ⟨gD, 0, none⟩) n d).ownBlock = some k → k ≠ b) := fun k hk => by have := World.ownsRow.lt hD k hk; omega
  obtain ⟨w3, hw3, hb3, hz3, hF3⟩ := mxWorld w2 #[.string s, .slice (some ⟨gA, 0, none⟩) n c, .slice (some ⟨gD, 0, none⟩) n d] 25
  rw [hbd] at hF3 hz3
  have F3 := Lib.hid hF3; have R3 := Lib.hid ((R0.out.moved hc2.2 (by omega)).below hb3 (by have := hc2.2.size; omega)); have W3 := Lib.hid (hW.below hb3); have D3 := Lib.hid (hD.below hb3); have C3 := Lib.hid ((C0.out.trans hc2).step hb3)
  have hwb : w.heap.size + 1 ≤ b := by have := hc2.2.size; omega
  have z3 : b < w3.heap.size := by omega
  have Hs := Lib.hid hsz; have Hws := Lib.hid hws; have Hcs := Lib.hid hcs; have HBD := Lib.hid hbd9
  clear hc2 hW hD hF3 hb3 R0 C0 HC0 hsz hws hcs hz3 hbd9
  go_wp2_with fail
  clear hw3 hbd
  refine (below_cm w g _ _ (by omega) C3.out).mono ?_
  rintro e w4 ⟨k, rfl, hk, hc4, hm4⟩
  have z4 : b < w4.heap.size := by have := hm4.size; omega
  have R4 := Lib.hid (R3.out.moved hm4 (by omega))
  have F4 := Lib.hid (F3.out.moved hm4 (by omega))
  have W4 := Lib.hid (W3.out.grown_lt hm4 (fun k hk => by injection hk with hk; omega))
  have D4 := Lib.hid (D3.out.grown_lt hm4 (fun k hk => by injection hk with hk; omega))
  have C4 := Lib.hid (hc4)
  clear R3 F3 W3 D3 C3 hm4
  by_cases hk0 : k = 0
  · subst hk0
    go_wp2_with fail
    refine wp_region_planT 7 (.take 0 (.take 1 (.take 2 (.one 3 (.one 4 (.take 5 (.take 6 (.last 7)))))))) (fun w' => w'.cell? ⟨b, 0, none⟩ = some (.string s) ∧ w'.cell? ⟨b, 1, none⟩ = some (.slice (some ⟨gA, 0, none⟩) n c) ∧ w'.cell? ⟨b, 2, none⟩ = some (.slice (some ⟨gD, 0, none⟩) n d)) (by kernel_rfl) (by kernel_rfl) (by kernel_rfl) (by intro c a d v w h; cases d <;> exact h) ⟨cellOfBlk F4.out 0, cellOfBlk F4.out 1, cellOfBlk F4.out 2⟩ ?_
    obtain ⟨w5, hwd⟩ : ∃ x, w4.drew = x := ⟨_, rfl⟩
    have R5 : Hid (Blk w5 w.heap.size #[.string ⟨#[]⟩, .slice none 0 0, .slice none 0 0] 25) := by show Blk _ _ _ _; rw [← hwd]; exact R4.out
    have F5 : Hid (Blk w5 b #[.string s, .slice (some ⟨gA, 0, none⟩) n c, .slice (some ⟨gD, 0, none⟩) n d] 25) := by show Blk _ _ _ _; rw [← hwd]; exact F4.out
    have W5 : Hid (Own w5 (w.heap.size + 1) (.slice (some ⟨gA, 0, none⟩) n c) ws) := by show Own _ _ _ _; rw [← hwd]; exact Own.drew W4.out
    have D5 : Hid (Own w5 (w.heap.size + 1) (.slice (some ⟨gD, 0, none⟩) n d) cs) := by show Own _ _ _ _; rw [← hwd]; exact Own.drew D4.out
    have C5 : Hid (CM w w5 g) := by show CM _ _ _; rw [← hwd]; exact CM.drew C4.out
    have z5 : b < w5.heap.size := by rw [← hwd]; exact z4
    rw [hwd]
    clear hwd R4 F4 W4 D4 C4
    refine planT_quiet rfl (by rfl) (v := ?_) ?_ ?_; rotate_left; (intro w1 hSw; obtain ⟨h0, h1, h2⟩ := hSw; go_simp; try (with_reducible rfl)); (try simp only [Act.put, List.setIfInBounds_toArray, List.set_cons_zero, List.set_cons_succ])
    refine planT_quiet rfl (by rfl) (v := ?_) ?_ ?_; rotate_left; (intro w1 hSw; obtain ⟨h0, h1, h2⟩ := hSw; go_simp; try (with_reducible rfl)); (try simp only [Act.put, List.setIfInBounds_toArray, List.set_cons_zero, List.set_cons_succ])
    refine planT_quiet rfl (by rfl) (v := ?_) ?_ ?_; rotate_left; (intro w1 hSw; obtain ⟨h0, h1, h2⟩ := hSw; go_simp; try (with_reducible rfl)); (try simp only [Act.put, List.setIfInBounds_toArray, List.set_cons_zero, List.set_cons_succ])
    refine planT_step rfl (fun Kc hK => ?_)
    rw [if_pos (by rfl)]
    go_simp
    have HLit := Lib.hid (lit_strs w5 litsA)
    have hbl : Below w5.heap.size w5 (w5.alloc (.cells #[.string ⟨#[97]⟩, .string ⟨#[32]⟩, .string ⟨#[126]⟩, .string ⟨#[]⟩] 9)) := below_new _ _
    obtain ⟨w6, hwl⟩ : ∃ x, w5.alloc (.cells #[.string ⟨#[97]⟩, .string ⟨#[32]⟩, .string ⟨#[126]⟩, .string ⟨#[]⟩] 9) = x := ⟨_, rfl⟩
    have HLit2 : Hid (StrsB w6 (w5.heap.size + 1) (some ⟨w5.heap.size, 0, none⟩) litsA) := by show StrsB _ _ _ _; rw [← hwl]; exact HLit.out
    rw [hwl] at hbl
    (try rw [hwl])
    clear hwl HLit
    have z6 : b < w6.heap.size := by have := hbl.size; omega
    have R6 := Lib.hid (R5.out.below hbl (by omega))
    have F6 := Lib.hid (F5.out.below hbl (by omega))
    have W6 := Lib.hid (W5.out.below hbl)
    have D6 := Lib.hid (D5.out.below hbl)
    have C6 := Lib.hid (C5.out.step hbl)
    clear R5 F5 W5 D5 C5 hbl
    refine hK.out _ _ ⟨cellOfBlk F6.out 0, cellOfBlk F6.out 1, cellOfBlk F6.out 2⟩ ?_
    clear hK Kc
    refine planT_step rfl (fun Kc hK => ?_)
    rw [if_pos (by rfl)]
    go_simp
    refine (pick_cm w g ⟨w5.heap.size, 0, none⟩ 4 4 (w5.heap.size + 1) litsA w6 C6.out rfl (by omega) (by omega) HLit2.out (by show w5.heap.size ≠ g; omega)).mono ?_
    rintro e w7 ⟨t, rfl, ht, hc7, hm7⟩
    have hts : t.size ≤ 1 := by simp [litsA] at ht; rcases ht with rfl | rfl | rfl | rfl <;> decide
    clear ht HLit2
    have z7 : b < w7.heap.size := by have := hm7.size; omega
    have R7 := Lib.hid (R6.out.moved hm7 (by omega))
    have F7 := Lib.hid (F6.out.moved hm7 (by omega))
    have W7 := Lib.hid (W6.out.grown_lt hm7 (fun k hk => by injection hk with hk; omega))
    have D7 := Lib.hid (D6.out.grown_lt hm7 (fun k hk => by injection hk with hk; omega))
    have C7 := Lib.hid (hc7)
    clear R6 F6 W6 D6 C6 hm7
    refine hK.out _ _ ⟨cellOfBlk F7.out 0, cellOfBlk F7.out 1, cellOfBlk F7.out 2⟩ ?_
    clear hK Kc
    have hss : ¬ (9223372036854775807 < s.size + t.size) := by have := Hs.out; omega
    refine planT_quiet rfl (by rfl) (v := ?_) ?_ ?_; rotate_left; (intro w1 hSw; obtain ⟨h0, h1, h2⟩ := hSw; go_simp; try (with_reducible rfl)); (try simp only [Act.put, List.setIfInBounds_toArray, List.set_cons_zero, List.set_cons_succ])
    refine planT_quiet rfl (by rfl) (v := ?_) ?_ ?_; rotate_left; (intro w1 hSw; obtain ⟨h0, h1, h2⟩ := hSw; go_simp; try (with_reducible rfl)); (try simp only [Act.put, List.setIfInBounds_toArray, List.set_cons_zero, List.set_cons_succ])
    have ff := F7.out.warm 0
    obtain ⟨b0, b1, b2⟩ := (show w7.cell? ⟨b, 0, none⟩ = some (.string s) ∧ w7.cell? ⟨b, 1, none⟩ = some (.slice (some ⟨gA, 0, none⟩) n c) ∧ w7.cell? ⟨b, 2, none⟩ = some (.slice (some ⟨gD, 0, none⟩) n d) from ⟨cellOfBlk F7.out 0, cellOfBlk F7.out 1, cellOfBlk F7.out 2⟩)
    have F8 : Hid (Blk (w7.setCell ⟨b, 0, none⟩ (.string (s ++ t))) b #[.string (s ++ t), .slice (some ⟨gA, 0, none⟩) n c, .slice (some ⟨gD, 0, none⟩) n d] 25) := heapSet (i := 0) F7.out _
    have R8 : Hid (Blk (w7.setCell ⟨b, 0, none⟩ (.string (s ++ t))) w.heap.size #[.string ⟨#[]⟩, .slice none 0 0, .slice none 0 0] 25) := R7.out.other _ _ (by show w.heap.size ≠ b; omega)
    have W8 : Hid (Own (w7.setCell ⟨b, 0, none⟩ (.string (s ++ t))) (w.heap.size + 1) (.slice (some ⟨gA, 0, none⟩) n c) ws) := W7.out.setO _ _ (fun k hk => NW.out k hk)
    have D8 : Hid (Own (w7.setCell ⟨b, 0, none⟩ (.string (s ++ t))) (w.heap.size + 1) (.slice (some ⟨gD, 0, none⟩) n d) cs) := D7.out.setO _ _ (fun k hk => ND.out k hk)
    have C8 : Hid (CM w (w7.setCell ⟨b, 0, none⟩ (.string (s ++ t))) g) := C7.out.set (by show w.heap.size ≤ b; omega) hgw _
    obtain ⟨w8, hw8⟩ : ∃ x, w7.setCell ⟨b, 0, none⟩ (.string (s ++ t)) = x := ⟨_, rfl⟩
    have z8 : b < w8.heap.size := by rw [← hw8, setCell_size]; exact z7
    rw [hw8] at F8 R8 W8 D8 C8
    refine planT_last rfl (fun Kc hK => ?_)
    rw [if_pos (by rfl)]
    go_simp
    clear ff b0 b1 b2
    refine hK.out _ _ ?_
    clear hK Kc hw8 F7 R7 W7 D7 C7
    have Hst : Hid ((s ++ t).size ≤ 24) := by show _ ≤ _; rw [ByteArray.size_append]; have := Hs.out; omega
    clear hss hts
    go_wp2_with fail
    refine wp_region_planT 8 (.take 0 (.take 1 (.take 2 (.one 3 (.one 4 (.one 5 (.one 6 (.take 7 (.last 8))))))))) (fun w' => w'.cell? ⟨b, 0, none⟩ = some (.string (s ++ t)) ∧ w'.cell? ⟨b, 1, none⟩ = some (.slice (some ⟨gA, 0, none⟩) n c) ∧ w'.cell? ⟨b, 2, none⟩ = some (.slice (some ⟨gD, 0, none⟩) n d)) (by kernel_rfl) (by kernel_rfl) (by kernel_rfl) (by intro c a d v w h; cases d <;> exact h) ⟨cellOfBlk F8.out 0, cellOfBlk F8.out 1, cellOfBlk F8.out 2⟩ ?_
    obtain ⟨w9, hwd⟩ : ∃ x, w8.drew = x := ⟨_, rfl⟩
    have R9 : Hid (Blk w9 w.heap.size #[.string ⟨#[]⟩, .slice none 0 0, .slice none 0 0] 25) := by show Blk _ _ _ _; rw [← hwd]; exact R8.out
    have F9 : Hid (Blk w9 b #[.string (s ++ t), .slice (some ⟨gA, 0, none⟩) n c, .slice (some ⟨gD, 0, none⟩) n d] 25) := by show Blk _ _ _ _; rw [← hwd]; exact F8.out
    have W9 : Hid (Own w9 (w.heap.size + 1) (.slice (some ⟨gA, 0, none⟩) n c) ws) := by show Own _ _ _ _; rw [← hwd]; exact Own.drew W8.out
    have D9 : Hid (Own w9 (w.heap.size + 1) (.slice (some ⟨gD, 0, none⟩) n d) cs) := by show Own _ _ _ _; rw [← hwd]; exact Own.drew D8.out
    have C9 : Hid (CM w w9 g) := by show CM _ _ _; rw [← hwd]; exact CM.drew C8.out
    have z9 : b < w9.heap.size := by rw [← hwd]; exact z8
    rw [hwd]
    clear hwd R8 F8 W8 D8 C8
    refine planT_quiet rfl (by rfl) (v := ?_) ?_ ?_; rotate_left; (intro w1 hSw; obtain ⟨h0, h1, h2⟩ := hSw; go_simp; try (with_reducible rfl)); (try simp only [Act.put, List.setIfInBounds_toArray, List.set_cons_zero, List.set_cons_succ])
    refine planT_quiet rfl (by rfl) (v := ?_) ?_ ?_; rotate_left; (intro w1 hSw; obtain ⟨h0, h1, h2⟩ := hSw; go_simp; try (with_reducible rfl)); (try simp only [Act.put, List.setIfInBounds_toArray, List.set_cons_zero, List.set_cons_succ])
    refine planT_quiet rfl (by rfl) (v := ?_) ?_ ?_; rotate_left; (intro w1 hSw; obtain ⟨h0, h1, h2⟩ := hSw; go_simp; try (with_reducible rfl)); (try simp only [Act.put, List.setIfInBounds_toArray, List.set_cons_zero, List.set_cons_succ])
    refine planT_step rfl (fun Kc hK => ?_)
    rw [if_pos (by rfl)]
    go_simp
    have HLit := Lib.hid (lit_ints w9 [0, 1, 60, 61])
    have hbl : Below w9.heap.size w9 (w9.alloc (.cells #[.int .i64 0, .int .i64 1, .int .i64 60, .int .i64 61] 3)) := below_new _ _
    obtain ⟨w10, hwl⟩ : ∃ x, w9.alloc (.cells #[.int .i64 0, .int .i64 1, .int .i64 60, .int .i64 61] 3) = x := ⟨_, rfl⟩
    have HLit2 : Hid (IntsB w10 (w9.heap.size + 1) (some ⟨w9.heap.size, 0, none⟩) [0, 1, 60, 61]) := by show IntsB _ _ _ _; rw [← hwl]; exact HLit.out
    rw [hwl] at hbl
    (try rw [hwl])
    clear hwl HLit
    have z10 : b < w10.heap.size := by have := hbl.size; omega
    have R10 := Lib.hid (R9.out.below hbl (by omega))
    have F10 := Lib.hid (F9.out.below hbl (by omega))
    have W10 := Lib.hid (W9.out.below hbl)
    have D10 := Lib.hid (D9.out.below hbl)
    have C10 := Lib.hid (C9.out.step hbl)
    clear R9 F9 W9 D9 C9 hbl
    refine hK.out _ _ ⟨cellOfBlk F10.out 0, cellOfBlk F10.out 1, cellOfBlk F10.out 2⟩ ?_
    clear hK Kc
    refine planT_step rfl (fun Kc hK => ?_)
    rw [if_pos (by rfl)]
    go_simp
    refine (l01Int_any g (some ⟨w9.heap.size, 0, none⟩) 4 4 (w9.heap.size + 1) [0, 1, 60, 61] w10 C10.out.1 rfl (by unfold maxLen; omega) (by omega) HLit2.out (fun ad had => by injection had with had; subst had; show w9.heap.size ≠ g; omega)).mono ?_
    rintro e w11 ⟨x1, rfl, hx, hcu, ht2⟩
    have hm11 := ht2.moved
    have hc11 : CM w w11 g := ⟨hcu, C10.out.2.trans hm11⟩
    clear hcu ht2 HLit2 hx
    have z11 : b < w11.heap.size := by have := hm11.size; omega
    have R11 := Lib.hid (R10.out.moved hm11 (by omega))
    have F11 := Lib.hid (F10.out.moved hm11 (by omega))
    have W11 := Lib.hid (W10.out.grown_lt hm11 (fun k hk => by injection hk with hk; omega))
    have D11 := Lib.hid (D10.out.grown_lt hm11 (fun k hk => by injection hk with hk; omega))
    have C11 := Lib.hid (hc11)
    clear R10 F10 W10 D10 C10 hm11
    refine hK.out _ _ ⟨cellOfBlk F11.out 0, cellOfBlk F11.out 1, cellOfBlk F11.out 2⟩ ?_
    clear hK Kc
    refine planT_step rfl (fun Kc hK => ?_)
    rw [if_pos (by rfl)]
    go_simp
    have HI : Hid (Ints (w11.alloc (.cells #[.int .i64 x1] 3)) (some ⟨w11.heap.size, 0, none⟩) [x1]) := (lit_ints w11 [x1]).ints
    have hbl : Below w11.heap.size w11 (w11.alloc (.cells #[.int .i64 x1] 3)) := below_new _ _
    obtain ⟨w12, hwl⟩ : ∃ x, w11.alloc (.cells #[.int .i64 x1] 3) = x := ⟨_, rfl⟩
    rw [hwl] at hbl HI
    (try rw [hwl])
    clear hwl
    have z12 : b < w12.heap.size := by have := hbl.size; omega
    have R12 := Lib.hid (R11.out.below hbl (by omega))
    have F12 := Lib.hid (F11.out.below hbl (by omega))
    have W12 := Lib.hid (W11.out.below hbl)
    have D12 := Lib.hid (D11.out.below hbl)
    have C12 := Lib.hid (C11.out.step hbl)
    clear R11 F11 W11 D11 C11 hbl
    refine hK.out _ _ ⟨cellOfBlk F12.out 0, cellOfBlk F12.out 1, cellOfBlk F12.out 2⟩ ?_
    clear hK Kc
    refine planT_step rfl (fun Kc hK => ?_)
    refine step_app2 (by rfl) (.tmp 18) (.tmp 22) rfl (w.heap.size + 1) (.slice (some ⟨gA, 0, none⟩) n c) ws [x1] (some ⟨w11.heap.size, 0, none⟩) 1 1 (by simp [Act.eval]) (by simp [Act.eval]) rfl (by omega) HI.out W12.out (by omega) (by rw [Hws.out]; omega) ?_
    intro v13 w13 hO hg hv
    obtain ⟨A1, m1, c1, rfl, hlen, hO, -, -⟩ := own_form5x hO
    obtain rfl : m1 = n + 1 := by rw [← hlen, List.length_append, Hws.out]; rfl
    clear hlen
    have NW1 : Hid (∀ k, (Value.slice A1 (n + 1) c1).ownBlock = some k → k ≠ b) := fun k hk => by
      rcases hv with hv | hv
      · rw [hv] at hk; exact NW.out k hk
      · rw [hv] at hk; injection hk with hk; omega
    have hgw13 := hg.size
    have z13 : b < w13.heap.size := by omega
    have R13 := Lib.hid (R12.out.grownO hg (fun e => by have := World.ownsRow.lt W12.out _ e; omega)); have F13 := Lib.hid (F12.out.grownO hg (fun e => absurd rfl (NW.out _ e))); have D13 := Lib.hid (D12.out.grownO hg (fun k hk e => NE.out k e hk)); have W13 := Lib.hid hO
    have C13 : Hid (CM w w13 g) := C12.out.belowB ((Below.refl w.heap.size w12).grown hg (by omega) (fun k hk => by have := (World.ownsRow.lt W12.out k hk).1; omega)) (Nat.le_refl _) hgw
    have NE1 : Hid (∀ k, (Value.slice A1 (n + 1) c1).ownBlock = some k → (Value.slice (some ⟨gD, 0, none⟩) n d).ownBlock ≠ some k) := fun k hk h2 => by
      rcases hv with hv | hv
      · rw [hv] at hk; exact NE.out k hk h2
      · rw [hv] at hk; injection hk with hk; have := (World.ownsRow.lt D12.out k h2).2; omega
    clear hO hg hv HI R12 F12 W12 D12 C12 NW NE
    have NW := NW1; have NE := NE1
    refine hK.out _ _ ⟨cellOfBlk F13.out 0, cellOfBlk F13.out 1, cellOfBlk F13.out 2⟩ ?_
    clear hK Kc
    refine planT_quiet rfl (by rfl) (v := ?_) ?_ ?_; rotate_left; (intro w1 hSw; obtain ⟨h0, h1, h2⟩ := hSw; go_simp; try (with_reducible rfl)); (try simp only [Act.put, List.setIfInBounds_toArray, List.set_cons_zero, List.set_cons_succ])
    have ff := F13.out.warm 1
    obtain ⟨b0, b1, b2⟩ := (show w13.cell? ⟨b, 0, none⟩ = some (.string (s ++ t)) ∧ w13.cell? ⟨b, 1, none⟩ = some (.slice (some ⟨gA, 0, none⟩) n c) ∧ w13.cell? ⟨b, 2, none⟩ = some (.slice (some ⟨gD, 0, none⟩) n d) from ⟨cellOfBlk F13.out 0, cellOfBlk F13.out 1, cellOfBlk F13.out 2⟩)
    have F14 : Hid (Blk (w13.setCell ⟨b, 1, none⟩ (.slice A1 (n + 1) c1)) b #[.string (s ++ t), .slice A1 (n + 1) c1, .slice (some ⟨gD, 0, none⟩) n d] 25) := heapSet (i := 1) F13.out _
    have R14 : Hid (Blk (w13.setCell ⟨b, 1, none⟩ (.slice A1 (n + 1) c1)) w.heap.size #[.string ⟨#[]⟩, .slice none 0 0, .slice none 0 0] 25) := R13.out.other _ _ (by show w.heap.size ≠ b; omega)
    have W14 : Hid (Own (w13.setCell ⟨b, 1, none⟩ (.slice A1 (n + 1) c1)) (w.heap.size + 1) (.slice A1 (n + 1) c1) (ws ++ [x1])) := W13.out.setO _ _ (fun k hk => NW.out k hk)
    have D14 : Hid (Own (w13.setCell ⟨b, 1, none⟩ (.slice A1 (n + 1) c1)) (w.heap.size + 1) (.slice (some ⟨gD, 0, none⟩) n d) cs) := D13.out.setO _ _ (fun k hk => ND.out k hk)
    have C14 : Hid (CM w (w13.setCell ⟨b, 1, none⟩ (.slice A1 (n + 1) c1)) g) := C13.out.set (by show w.heap.size ≤ b; omega) hgw _
    obtain ⟨w14, hw14⟩ : ∃ x, w13.setCell ⟨b, 1, none⟩ (.slice A1 (n + 1) c1) = x := ⟨_, rfl⟩
    have z14 : b < w14.heap.size := by rw [← hw14, setCell_size]; exact z13
    rw [hw14] at F14 R14 W14 D14 C14
    refine planT_last rfl (fun Kc hK => ?_)
    rw [if_pos (by rfl)]
    go_simp
    clear ff b0 b1 b2
    refine hK.out _ _ ?_
    clear hK Kc hw14 F13 R13 W13 D13 C13
    go_wp2_with fail
    refine wp_region_planT 8 (.take 0 (.take 1 (.take 2 (.one 3 (.one 4 (.one 5 (.one 6 (.take 7 (.last 8))))))))) (fun w' => w'.cell? ⟨b, 0, none⟩ = some (.string (s ++ t)) ∧ w'.cell? ⟨b, 1, none⟩ = some (.slice A1 (n + 1) c1) ∧ w'.cell? ⟨b, 2, none⟩ = some (.slice (some ⟨gD, 0, none⟩) n d)) (by kernel_rfl) (by kernel_rfl) (by kernel_rfl) (by intro c a d v w h; cases d <;> exact h) ⟨cellOfBlk F14.out 0, cellOfBlk F14.out 1, cellOfBlk F14.out 2⟩ ?_
    obtain ⟨w15, hwd⟩ : ∃ x, w14.drew = x := ⟨_, rfl⟩
    have R15 : Hid (Blk w15 w.heap.size #[.string ⟨#[]⟩, .slice none 0 0, .slice none 0 0] 25) := by show Blk _ _ _ _; rw [← hwd]; exact R14.out
    have F15 : Hid (Blk w15 b #[.string (s ++ t), .slice A1 (n + 1) c1, .slice (some ⟨gD, 0, none⟩) n d] 25) := by show Blk _ _ _ _; rw [← hwd]; exact F14.out
    have W15 : Hid (Own w15 (w.heap.size + 1) (.slice A1 (n + 1) c1) (ws ++ [x1])) := by show Own _ _ _ _; rw [← hwd]; exact Own.drew W14.out
    have D15 : Hid (Own w15 (w.heap.size + 1) (.slice (some ⟨gD, 0, none⟩) n d) cs) := by show Own _ _ _ _; rw [← hwd]; exact Own.drew D14.out
    have C15 : Hid (CM w w15 g) := by show CM _ _ _; rw [← hwd]; exact CM.drew C14.out
    have z15 : b < w15.heap.size := by rw [← hwd]; exact z14
    rw [hwd]
    clear hwd R14 F14 W14 D14 C14
    refine planT_quiet rfl (by rfl) (v := ?_) ?_ ?_; rotate_left; (intro w1 hSw; obtain ⟨h0, h1, h2⟩ := hSw; go_simp; try (with_reducible rfl)); (try simp only [Act.put, List.setIfInBounds_toArray, List.set_cons_zero, List.set_cons_succ])
    refine planT_quiet rfl (by rfl) (v := ?_) ?_ ?_; rotate_left; (intro w1 hSw; obtain ⟨h0, h1, h2⟩ := hSw; go_simp; try (with_reducible rfl)); (try simp only [Act.put, List.setIfInBounds_toArray, List.set_cons_zero, List.set_cons_succ])
    refine planT_quiet rfl (by rfl) (v := ?_) ?_ ?_; rotate_left; (intro w1 hSw; obtain ⟨h0, h1, h2⟩ := hSw; go_simp; try (with_reducible rfl)); (try simp only [Act.put, List.setIfInBounds_toArray, List.set_cons_zero, List.set_cons_succ])
    refine planT_step rfl (fun Kc hK => ?_)
    rw [if_pos (by rfl)]
    go_simp
    have HLit := Lib.hid (lit_ints w15 [127, 0, 3, 128])
    have hbl : Below w15.heap.size w15 (w15.alloc (.cells #[.int .i64 127, .int .i64 0, .int .i64 3, .int .i64 128] 3)) := below_new _ _
    obtain ⟨w16, hwl⟩ : ∃ x, w15.alloc (.cells #[.int .i64 127, .int .i64 0, .int .i64 3, .int .i64 128] 3) = x := ⟨_, rfl⟩
    have HLit2 : Hid (IntsB w16 (w15.heap.size + 1) (some ⟨w15.heap.size, 0, none⟩) [127, 0, 3, 128]) := by show IntsB _ _ _ _; rw [← hwl]; exact HLit.out
    rw [hwl] at hbl
    (try rw [hwl])
    clear hwl HLit
    have z16 : b < w16.heap.size := by have := hbl.size; omega
    have R16 := Lib.hid (R15.out.below hbl (by omega))
    have F16 := Lib.hid (F15.out.below hbl (by omega))
    have W16 := Lib.hid (W15.out.below hbl)
    have D16 := Lib.hid (D15.out.below hbl)
    have C16 := Lib.hid (C15.out.step hbl)
    clear R15 F15 W15 D15 C15 hbl
    refine hK.out _ _ ⟨cellOfBlk F16.out 0, cellOfBlk F16.out 1, cellOfBlk F16.out 2⟩ ?_
    clear hK Kc
    refine planT_step rfl (fun Kc hK => ?_)
    rw [if_pos (by rfl)]
    go_simp
    refine (l01Int_any g (some ⟨w15.heap.size, 0, none⟩) 4 4 (w15.heap.size + 1) [127, 0, 3, 128] w16 C16.out.1 rfl (by unfold maxLen; omega) (by omega) HLit2.out (fun ad had => by injection had with had; subst had; show w15.heap.size ≠ g; omega)).mono ?_
    rintro e w17 ⟨x2, rfl, hx, hcu, ht2⟩
    have hm17 := ht2.moved
    have hc17 : CM w w17 g := ⟨hcu, C16.out.2.trans hm17⟩
    have HX2 : Hid (0 ≤ x2 ∧ x2 ≤ 128) := by have h := hx; simp at h; show _ ∧ _; omega
    clear hcu ht2 HLit2 hx
    have z17 : b < w17.heap.size := by have := hm17.size; omega
    have R17 := Lib.hid (R16.out.moved hm17 (by omega))
    have F17 := Lib.hid (F16.out.moved hm17 (by omega))
    have W17 := Lib.hid (W16.out.grown_lt hm17 (fun k hk => by injection hk with hk; omega))
    have D17 := Lib.hid (D16.out.grown_lt hm17 (fun k hk => by injection hk with hk; omega))
    have C17 := Lib.hid (hc17)
    clear R16 F16 W16 D16 C16 hm17
    refine hK.out _ _ ⟨cellOfBlk F17.out 0, cellOfBlk F17.out 1, cellOfBlk F17.out 2⟩ ?_
    clear hK Kc
    refine planT_step rfl (fun Kc hK => ?_)
    rw [if_pos (by rfl)]
    go_simp
    have HI : Hid (Ints (w17.alloc (.cells #[.int .i64 x2] 3)) (some ⟨w17.heap.size, 0, none⟩) [x2]) := (lit_ints w17 [x2]).ints
    have hbl : Below w17.heap.size w17 (w17.alloc (.cells #[.int .i64 x2] 3)) := below_new _ _
    obtain ⟨w18, hwl⟩ : ∃ x, w17.alloc (.cells #[.int .i64 x2] 3) = x := ⟨_, rfl⟩
    rw [hwl] at hbl HI
    (try rw [hwl])
    clear hwl
    have z18 : b < w18.heap.size := by have := hbl.size; omega
    have R18 := Lib.hid (R17.out.below hbl (by omega))
    have F18 := Lib.hid (F17.out.below hbl (by omega))
    have W18 := Lib.hid (W17.out.below hbl)
    have D18 := Lib.hid (D17.out.below hbl)
    have C18 := Lib.hid (C17.out.step hbl)
    clear R17 F17 W17 D17 C17 hbl
    refine hK.out _ _ ⟨cellOfBlk F18.out 0, cellOfBlk F18.out 1, cellOfBlk F18.out 2⟩ ?_
    clear hK Kc
    refine planT_step rfl (fun Kc hK => ?_)
    refine step_app2 (by rfl) (.tmp 26) (.tmp 30) rfl (w.heap.size + 1) (.slice (some ⟨gD, 0, none⟩) n d) cs [x2] (some ⟨w17.heap.size, 0, none⟩) 1 1 (by simp [Act.eval]) (by simp [Act.eval]) rfl (by omega) HI.out D18.out (by omega) (by rw [Hcs.out]; omega) ?_
    intro v19 w19 hO hg hv
    obtain ⟨A2, m2, c2, rfl, hlen, hO, -, -⟩ := own_form5x hO
    obtain rfl : m2 = n + 1 := by rw [← hlen, List.length_append, Hcs.out]; rfl
    clear hlen
    have ND2 : Hid (∀ k, (Value.slice A2 (n + 1) c2).ownBlock = some k → k ≠ b) := fun k hk => by
      rcases hv with hv | hv
      · rw [hv] at hk; exact ND.out k hk
      · rw [hv] at hk; injection hk with hk; omega
    have hgw19 := hg.size
    have z19 : b < w19.heap.size := by omega
    have R19 := Lib.hid (R18.out.grownO hg (fun e => by have := World.ownsRow.lt D18.out _ e; omega)); have F19 := Lib.hid (F18.out.grownO hg (fun e => absurd rfl (ND.out _ e))); have W19 := Lib.hid (W18.out.grownO hg (fun k hk e => NE.out k hk e)); have D19 := Lib.hid hO
    have C19 : Hid (CM w w19 g) := C18.out.belowB ((Below.refl w.heap.size w18).grown hg (by omega) (fun k hk => by have := (World.ownsRow.lt D18.out k hk).1; omega)) (Nat.le_refl _) hgw
    have NE2 := NE
    clear hO hg hv HI R18 F18 W18 D18 C18 ND NE
    have ND := ND2; have NE := NE2
    refine hK.out _ _ ⟨cellOfBlk F19.out 0, cellOfBlk F19.out 1, cellOfBlk F19.out 2⟩ ?_
    clear hK Kc
    refine planT_quiet rfl (by rfl) (v := ?_) ?_ ?_; rotate_left; (intro w1 hSw; obtain ⟨h0, h1, h2⟩ := hSw; go_simp; try (with_reducible rfl)); (try simp only [Act.put, List.setIfInBounds_toArray, List.set_cons_zero, List.set_cons_succ])
    have ff := F19.out.warm 2
    obtain ⟨b0, b1, b2⟩ := (show w19.cell? ⟨b, 0, none⟩ = some (.string (s ++ t)) ∧ w19.cell? ⟨b, 1, none⟩ = some (.slice A1 (n + 1) c1) ∧ w19.cell? ⟨b, 2, none⟩ = some (.slice (some ⟨gD, 0, none⟩) n d) from ⟨cellOfBlk F19.out 0, cellOfBlk F19.out 1, cellOfBlk F19.out 2⟩)
    have F20 : Hid (Blk (w19.setCell ⟨b, 2, none⟩ (.slice A2 (n + 1) c2)) b #[.string (s ++ t), .slice A1 (n + 1) c1, .slice A2 (n + 1) c2] 25) := heapSet (i := 2) F19.out _
    have R20 : Hid (Blk (w19.setCell ⟨b, 2, none⟩ (.slice A2 (n + 1) c2)) w.heap.size #[.string ⟨#[]⟩, .slice none 0 0, .slice none 0 0] 25) := R19.out.other _ _ (by show w.heap.size ≠ b; omega)
    have W20 : Hid (Own (w19.setCell ⟨b, 2, none⟩ (.slice A2 (n + 1) c2)) (w.heap.size + 1) (.slice A1 (n + 1) c1) (ws ++ [x1])) := W19.out.setO _ _ (fun k hk => NW.out k hk)
    have D20 : Hid (Own (w19.setCell ⟨b, 2, none⟩ (.slice A2 (n + 1) c2)) (w.heap.size + 1) (.slice A2 (n + 1) c2) (cs ++ [x2])) := D19.out.setO _ _ (fun k hk => ND.out k hk)
    have C20 : Hid (CM w (w19.setCell ⟨b, 2, none⟩ (.slice A2 (n + 1) c2)) g) := C19.out.set (by show w.heap.size ≤ b; omega) hgw _
    obtain ⟨w20, hw20⟩ : ∃ x, w19.setCell ⟨b, 2, none⟩ (.slice A2 (n + 1) c2) = x := ⟨_, rfl⟩
    have z20 : b < w20.heap.size := by rw [← hw20, setCell_size]; exact z19
    rw [hw20] at F20 R20 W20 D20 C20
    refine planT_last rfl (fun Kc hK => ?_)
    rw [if_pos (by rfl)]
    go_simp
    clear ff b0 b1 b2
    refine hK.out _ _ ?_
    clear hK Kc hw20 F19 R19 W19 D19 C19
    have HFs := Hst.out
    have HFw1 : ((ws ++ [x1])).length = n + 1 := by rw [List.length_append, Hws.out]; rfl
    have HFw2 : n + 1 ≤ 24 := by omega
    have HFd1 : ((cs ++ [x2])).length = n + 1 := by rw [List.length_append, Hcs.out]; rfl
    have HFd2 : n + 1 ≤ 24 := by omega
    obtain ⟨b0, b1, b2⟩ := (show w20.cell? ⟨b, 0, none⟩ = some (.string (s ++ t)) ∧ w20.cell? ⟨b, 1, none⟩ = some (.slice A1 (n + 1) c1) ∧ w20.cell? ⟨b, 2, none⟩ = some (.slice A2 (n + 1) c2) from ⟨cellOfBlk F20.out 0, cellOfBlk F20.out 1, cellOfBlk F20.out 2⟩)
    have ff := R20.out.warm
    obtain ⟨q0, q1, q2⟩ := (show w20.cell? ⟨w.heap.size, 0, none⟩ = some (.string ⟨#[]⟩) ∧ w20.cell? ⟨w.heap.size, 1, none⟩ = some (.slice none 0 0) ∧ w20.cell? ⟨w.heap.size, 2, none⟩ = some (.slice none 0 0) from ⟨cellOfBlk R20.out 0, cellOfBlk R20.out 1, cellOfBlk R20.out 2⟩)
    obtain ⟨y, hy⟩ : ∃ x, (((w20.setCell ⟨w.heap.size, 0, none⟩ (.string (s ++ t))).setCell ⟨w.heap.size, 1, none⟩ (.slice A1 (n + 1) c1)).setCell ⟨w.heap.size, 2, none⟩ (.slice A2 (n + 1) c2)) = x := ⟨_, rfl⟩
    have HR4 : Blk y w.heap.size #[.string (s ++ t), .slice A1 (n + 1) c1, .slice A2 (n + 1) c2] 25 := by rw [← hy]; exact (heapSet (i := 2) (heapSet (i := 1) (heapSet (i := 0) R20.out (.string (s ++ t))) (.slice A1 (n + 1) c1)) (.slice A2 (n + 1) c2))
    have HW4 : Hid (Own y (w.heap.size + 1) (.slice A1 (n + 1) c1) (ws ++ [x1])) := by show Own _ _ _ _; rw [← hy]; exact (((W20.out.setO ⟨w.heap.size, 0, none⟩ (.string (s ++ t)) (fun k hk => by have := World.ownsRow.lt W20.out k hk; show k ≠ w.heap.size; omega)).setO ⟨w.heap.size, 1, none⟩ (.slice A1 (n + 1) c1) (fun k hk => by have := World.ownsRow.lt W20.out k hk; show k ≠ w.heap.size; omega)).setO ⟨w.heap.size, 2, none⟩ (.slice A2 (n + 1) c2) (fun k hk => by have := World.ownsRow.lt W20.out k hk; show k ≠ w.heap.size; omega))
    have HC4 : Hid (Own y (w.heap.size + 1) (.slice A2 (n + 1) c2) (cs ++ [x2])) := by show Own _ _ _ _; rw [← hy]; exact (((D20.out.setO ⟨w.heap.size, 0, none⟩ (.string (s ++ t)) (fun k hk => by have := World.ownsRow.lt D20.out k hk; show k ≠ w.heap.size; omega)).setO ⟨w.heap.size, 1, none⟩ (.slice A1 (n + 1) c1) (fun k hk => by have := World.ownsRow.lt D20.out k hk; show k ≠ w.heap.size; omega)).setO ⟨w.heap.size, 2, none⟩ (.slice A2 (n + 1) c2) (fun k hk => by have := World.ownsRow.lt D20.out k hk; show k ≠ w.heap.size; omega))
    have HM4 : Hid (CM w y g) := by show CM _ _ _; rw [← hy]; exact (((C20.out.set (p := ⟨w.heap.size, 0, none⟩) (Nat.le_refl _) hgw (.string (s ++ t))).set (p := ⟨w.heap.size, 1, none⟩) (Nat.le_refl _) hgw (.slice A1 (n + 1) c1)).set (p := ⟨w.heap.size, 2, none⟩) (Nat.le_refl _) hgw (.slice A2 (n + 1) c2))
    have HR5 := Lib.hid HR4
    clear HR4 F20 R20 W20 D20 C20
    go_wp2
    clear hy b0 b1 b2 q0 q1 q2 ff
    obtain ⟨r0, r1, r2⟩ := (show y.cell? ⟨w.heap.size, 0, none⟩ = some (.string (s ++ t)) ∧ y.cell? ⟨w.heap.size, 1, none⟩ = some (.slice A1 (n + 1) c1) ∧ y.cell? ⟨w.heap.size, 2, none⟩ = some (.slice A2 (n + 1) c2) from ⟨cellOfBlk HR5.out 0, cellOfBlk HR5.out 1, cellOfBlk HR5.out 2⟩)
    (try simp only [Exit.inBlock, Exit.then])
    refine bodyPost_ret (v := .agg #[.string (s ++ t), .slice A1 (n + 1) c1, .slice A2 (n + 1) c2]) (by simp [results, Tryd.results72, go_sem, r0, r1, r2]) rfl ?_
    exact ⟨_, _, _, _, rfl, ⟨_, _, _, _, _, _, rfl, HFs, HFw1, HFw2, HFd1, HFd2, own_base HW4.out (by omega), own_base HC4.out (by omega), HM4.out⟩, (fun x hx => (List.mem_append.1 hx).elim (fun hx => ⟨(HBD.out x hx).1, Int.le_trans (HBD.out x hx).2 (by decide)⟩) (fun h => by rw [List.mem_singleton] at h; subst h; exact HX2.out))⟩
  by_cases hk1 : k = 1
  · subst hk1
    go_wp2_with fail
    refine wp_region_planT 6 (.take 0 (.take 1 (.take 2 (.one 3 (.one 4 (.take 5 (.last 6))))))) (fun w' => w'.cell? ⟨b, 0, none⟩ = some (.string s) ∧ w'.cell? ⟨b, 1, none⟩ = some (.slice (some ⟨gA, 0, none⟩) n c) ∧ w'.cell? ⟨b, 2, none⟩ = some (.slice (some ⟨gD, 0, none⟩) n d)) (by kernel_rfl) (by kernel_rfl) (by kernel_rfl) (by intro c a d v w h; cases d <;> exact h) ⟨cellOfBlk F4.out 0, cellOfBlk F4.out 1, cellOfBlk F4.out 2⟩ ?_
    obtain ⟨w5, hwd⟩ : ∃ x, w4.drew = x := ⟨_, rfl⟩
    have R5 : Hid (Blk w5 w.heap.size #[.string ⟨#[]⟩, .slice none 0 0, .slice none 0 0] 25) := by show Blk _ _ _ _; rw [← hwd]; exact R4.out
    have F5 : Hid (Blk w5 b #[.string s, .slice (some ⟨gA, 0, none⟩) n c, .slice (some ⟨gD, 0, none⟩) n d] 25) := by show Blk _ _ _ _; rw [← hwd]; exact F4.out
    have W5 : Hid (Own w5 (w.heap.size + 1) (.slice (some ⟨gA, 0, none⟩) n c) ws) := by show Own _ _ _ _; rw [← hwd]; exact Own.drew W4.out
    have D5 : Hid (Own w5 (w.heap.size + 1) (.slice (some ⟨gD, 0, none⟩) n d) cs) := by show Own _ _ _ _; rw [← hwd]; exact Own.drew D4.out
    have C5 : Hid (CM w w5 g) := by show CM _ _ _; rw [← hwd]; exact CM.drew C4.out
    have z5 : b < w5.heap.size := by rw [← hwd]; exact z4
    rw [hwd]
    clear hwd R4 F4 W4 D4 C4
    have a0 : (0 : Int) < n := by omega
    have a1 : 0 < n := by omega
    refine planT_quiet rfl (by rfl) (v := ?_) ?_ ?_; rotate_left; (intro w1 hSw; obtain ⟨h0, h1, h2⟩ := hSw; go_simp; try (with_reducible rfl)); (try simp only [Act.put, List.setIfInBounds_toArray, List.set_cons_zero, List.set_cons_succ])
    refine planT_quiet rfl (by rfl) (v := ?_) ?_ ?_; rotate_left; (intro w1 hSw; obtain ⟨h0, h1, h2⟩ := hSw; go_simp; try (with_reducible rfl)); (try simp only [Act.put, List.setIfInBounds_toArray, List.set_cons_zero, List.set_cons_succ])
    refine planT_quiet rfl (by rfl) (v := ?_) ?_ ?_; rotate_left; (intro w1 hSw; obtain ⟨h0, h1, h2⟩ := hSw; go_simp; try (with_reducible rfl)); (try simp only [Act.put, List.setIfInBounds_toArray, List.set_cons_zero, List.set_cons_succ])
    refine planT_step rfl (fun Kc hK => ?_)
    rw [if_pos (by rfl)]
    go_simp
    have HLit := Lib.hid (lit_ints w5 [0, 61, (-5), 60])
    have hbl : Below w5.heap.size w5 (w5.alloc (.cells #[.int .i64 0, .int .i64 61, .int .i64 (-5), .int .i64 60] 3)) := below_new _ _
    obtain ⟨w6, hwl⟩ : ∃ x, w5.alloc (.cells #[.int .i64 0, .int .i64 61, .int .i64 (-5), .int .i64 60] 3) = x := ⟨_, rfl⟩
    have HLit2 : Hid (IntsB w6 (w5.heap.size + 1) (some ⟨w5.heap.size, 0, none⟩) [0, 61, (-5), 60]) := by show IntsB _ _ _ _; rw [← hwl]; exact HLit.out
    rw [hwl] at hbl
    (try rw [hwl])
    clear hwl HLit
    have z6 : b < w6.heap.size := by have := hbl.size; omega
    have R6 := Lib.hid (R5.out.below hbl (by omega))
    have F6 := Lib.hid (F5.out.below hbl (by omega))
    have W6 := Lib.hid (W5.out.below hbl)
    have D6 := Lib.hid (D5.out.below hbl)
    have C6 := Lib.hid (C5.out.step hbl)
    clear R5 F5 W5 D5 C5 hbl
    refine hK.out _ _ ⟨cellOfBlk F6.out 0, cellOfBlk F6.out 1, cellOfBlk F6.out 2⟩ ?_
    clear hK Kc
    refine planT_step rfl (fun Kc hK => ?_)
    rw [if_pos (by rfl)]
    go_simp
    refine (l01Int_any g (some ⟨w5.heap.size, 0, none⟩) 4 4 (w5.heap.size + 1) [0, 61, (-5), 60] w6 C6.out.1 rfl (by unfold maxLen; omega) (by omega) HLit2.out (fun ad had => by injection had with had; subst had; show w5.heap.size ≠ g; omega)).mono ?_
    rintro e w7 ⟨x1, rfl, hx, hcu, ht2⟩
    have hm7 := ht2.moved
    have hc7 : CM w w7 g := ⟨hcu, C6.out.2.trans hm7⟩
    clear hcu ht2 HLit2 hx
    have z7 : b < w7.heap.size := by have := hm7.size; omega
    have R7 := Lib.hid (R6.out.moved hm7 (by omega))
    have F7 := Lib.hid (F6.out.moved hm7 (by omega))
    have W7 := Lib.hid (W6.out.grown_lt hm7 (fun k hk => by injection hk with hk; omega))
    have D7 := Lib.hid (D6.out.grown_lt hm7 (fun k hk => by injection hk with hk; omega))
    have C7 := Lib.hid (hc7)
    clear R6 F6 W6 D6 C6 hm7
    refine hK.out _ _ ⟨cellOfBlk F7.out 0, cellOfBlk F7.out 1, cellOfBlk F7.out 2⟩ ?_
    clear hK Kc
    refine planT_quiet rfl (by rfl) (v := ?_) ?_ ?_; rotate_left; (intro w1 hSw; obtain ⟨h0, h1, h2⟩ := hSw; go_simp; try (with_reducible rfl)); (try simp only [Act.put, List.setIfInBounds_toArray, List.set_cons_zero, List.set_cons_succ])
    obtain ⟨⟨y, hy⟩, hfr, hup⟩ := own_store W7.out Hws.out (j := 0) a1
    have F8 : Hid (Blk (w7.setCell ⟨gA, 0, none⟩ (.int .i64 x1)) b #[.string s, .slice (some ⟨gA, 0, none⟩) n c, .slice (some ⟨gD, 0, none⟩) n d] 25) := F7.out.other _ _ (by show b ≠ gA; omega)
    have R8 : Hid (Blk (w7.setCell ⟨gA, 0, none⟩ (.int .i64 x1)) w.heap.size #[.string ⟨#[]⟩, .slice none 0 0, .slice none 0 0] 25) := R7.out.other _ _ (by have := (World.ownsRow.lt W7.out gA rfl).1; show w.heap.size ≠ gA; omega)
    have W8 : Hid (Own (w7.setCell ⟨gA, 0, none⟩ (.int .i64 x1)) (w.heap.size + 1) (.slice (some ⟨gA, 0, none⟩) n c) (ws.set 0 x1)) := hup x1
    have D8 : Hid (Own (w7.setCell ⟨gA, 0, none⟩ (.int .i64 x1)) (w.heap.size + 1) (.slice (some ⟨gD, 0, none⟩) n d) cs) := D7.out.setO _ _ (fun k hk e => NE.out gA rfl (by rw [hk]; exact congrArg _ e))
    have C8 : Hid (CM w (w7.setCell ⟨gA, 0, none⟩ (.int .i64 x1)) g) := C7.out.set (by have := (World.ownsRow.lt W7.out gA rfl).1; show w.heap.size ≤ gA; omega) hgw _
    obtain ⟨w8, hw8⟩ : ∃ x, (w7.setCell ⟨gA, 0, none⟩ (.int .i64 x1)) = x := ⟨_, rfl⟩
    have z8 : b < w8.heap.size := by rw [← hw8, setCell_size]; exact z7
    rw [hw8] at F8 R8 W8 D8 C8
    clear hup
    refine planT_last rfl (fun Kc hK => ?_)
    rw [if_pos (by rfl)]
    go_simp
    refine hK.out _ _ ?_
    clear hK Kc hw8 F7 R7 W7 D7 C7 hy hfr
    have HFs : s.size ≤ 24 := by have := Hs.out; omega
    have HFw1 : ((ws.set 0 x1)).length = n := by rw [List.length_set, Hws.out]
    have HFw2 : n ≤ 24 := by omega
    have HFd1 : (cs).length = n := Hcs.out
    have HFd2 : n ≤ 24 := by omega
    obtain ⟨b0, b1, b2⟩ := (show w8.cell? ⟨b, 0, none⟩ = some (.string s) ∧ w8.cell? ⟨b, 1, none⟩ = some (.slice (some ⟨gA, 0, none⟩) n c) ∧ w8.cell? ⟨b, 2, none⟩ = some (.slice (some ⟨gD, 0, none⟩) n d) from ⟨cellOfBlk F8.out 0, cellOfBlk F8.out 1, cellOfBlk F8.out 2⟩)
    have ff := R8.out.warm
    obtain ⟨q0, q1, q2⟩ := (show w8.cell? ⟨w.heap.size, 0, none⟩ = some (.string ⟨#[]⟩) ∧ w8.cell? ⟨w.heap.size, 1, none⟩ = some (.slice none 0 0) ∧ w8.cell? ⟨w.heap.size, 2, none⟩ = some (.slice none 0 0) from ⟨cellOfBlk R8.out 0, cellOfBlk R8.out 1, cellOfBlk R8.out 2⟩)
    obtain ⟨y, hy⟩ : ∃ x, (((w8.setCell ⟨w.heap.size, 0, none⟩ (.string s)).setCell ⟨w.heap.size, 1, none⟩ (.slice (some ⟨gA, 0, none⟩) n c)).setCell ⟨w.heap.size, 2, none⟩ (.slice (some ⟨gD, 0, none⟩) n d)) = x := ⟨_, rfl⟩
    have HR4 : Blk y w.heap.size #[.string s, .slice (some ⟨gA, 0, none⟩) n c, .slice (some ⟨gD, 0, none⟩) n d] 25 := by rw [← hy]; exact (heapSet (i := 2) (heapSet (i := 1) (heapSet (i := 0) R8.out (.string s)) (.slice (some ⟨gA, 0, none⟩) n c)) (.slice (some ⟨gD, 0, none⟩) n d))
    have HW4 : Hid (Own y (w.heap.size + 1) (.slice (some ⟨gA, 0, none⟩) n c) (ws.set 0 x1)) := by show Own _ _ _ _; rw [← hy]; exact (((W8.out.setO ⟨w.heap.size, 0, none⟩ (.string s) (fun k hk => by have := World.ownsRow.lt W8.out k hk; show k ≠ w.heap.size; omega)).setO ⟨w.heap.size, 1, none⟩ (.slice (some ⟨gA, 0, none⟩) n c) (fun k hk => by have := World.ownsRow.lt W8.out k hk; show k ≠ w.heap.size; omega)).setO ⟨w.heap.size, 2, none⟩ (.slice (some ⟨gD, 0, none⟩) n d) (fun k hk => by have := World.ownsRow.lt W8.out k hk; show k ≠ w.heap.size; omega))
    have HC4 : Hid (Own y (w.heap.size + 1) (.slice (some ⟨gD, 0, none⟩) n d) cs) := by show Own _ _ _ _; rw [← hy]; exact (((D8.out.setO ⟨w.heap.size, 0, none⟩ (.string s) (fun k hk => by have := World.ownsRow.lt D8.out k hk; show k ≠ w.heap.size; omega)).setO ⟨w.heap.size, 1, none⟩ (.slice (some ⟨gA, 0, none⟩) n c) (fun k hk => by have := World.ownsRow.lt D8.out k hk; show k ≠ w.heap.size; omega)).setO ⟨w.heap.size, 2, none⟩ (.slice (some ⟨gD, 0, none⟩) n d) (fun k hk => by have := World.ownsRow.lt D8.out k hk; show k ≠ w.heap.size; omega))
    have HM4 : Hid (CM w y g) := by show CM _ _ _; rw [← hy]; exact (((C8.out.set (p := ⟨w.heap.size, 0, none⟩) (Nat.le_refl _) hgw (.string s)).set (p := ⟨w.heap.size, 1, none⟩) (Nat.le_refl _) hgw (.slice (some ⟨gA, 0, none⟩) n c)).set (p := ⟨w.heap.size, 2, none⟩) (Nat.le_refl _) hgw (.slice (some ⟨gD, 0, none⟩) n d))
    have HR5 := Lib.hid HR4
    clear HR4 F8 R8 W8 D8 C8
    go_wp2
    clear hy b0 b1 b2 q0 q1 q2 ff
    obtain ⟨r0, r1, r2⟩ := (show y.cell? ⟨w.heap.size, 0, none⟩ = some (.string s) ∧ y.cell? ⟨w.heap.size, 1, none⟩ = some (.slice (some ⟨gA, 0, none⟩) n c) ∧ y.cell? ⟨w.heap.size, 2, none⟩ = some (.slice (some ⟨gD, 0, none⟩) n d) from ⟨cellOfBlk HR5.out 0, cellOfBlk HR5.out 1, cellOfBlk HR5.out 2⟩)
    (try simp only [Exit.inBlock, Exit.then])
    refine bodyPost_ret (v := .agg #[.string s, .slice (some ⟨gA, 0, none⟩) n c, .slice (some ⟨gD, 0, none⟩) n d]) (by simp [results, Tryd.results72, go_sem, r0, r1, r2]) rfl ?_
    exact ⟨_, _, _, _, rfl, ⟨_, _, _, _, _, _, rfl, HFs, HFw1, HFw2, HFd1, HFd2, own_base HW4.out (by omega), own_base HC4.out (by omega), HM4.out⟩, (fun x hx => ⟨(HBD.out x hx).1, Int.le_trans (HBD.out x hx).2 (by decide)⟩)⟩
  by_cases hk2 : k = 2
  · subst hk2
    have hnd : n ≤ d ∧ d ≤ maxLen := by
      obtain ⟨A0, c0, e, _, _, h1, h2⟩ := D4.out.form
      injection e with e1 e2 e3; rw [Hcs.out] at h1; omega
    obtain ⟨hnd, hdm⟩ := hnd
    obtain ⟨w5, hw5⟩ : ∃ x, w4.alloc (.cells #[] 3) = x := ⟨_, rfl⟩
    have hbl : Below w4.heap.size w4 w5 := by rw [← hw5]; exact below_new _ _
    have EO : Hid (Own w5 w4.heap.size (.slice (some ⟨w4.heap.size, 0, none⟩) 0 0) []) := by show Own _ _ _ _; rw [← hw5]; exact World.ownsRow_lit w4 #[] 0 (Nat.le_refl _) (Nat.zero_le _) rfl
    have zz : w4.heap.size < w5.heap.size := by have := hbl.size; show _ < _; first | omega | (rw [← hw5]; show _ < (w4.heap.push _).size; rw [Array.size_push]; omega)
    have z5 : b < w5.heap.size := by have := hbl.size; omega
    have R5 := Lib.hid (R4.out.below hbl (by omega))
    have F5 := Lib.hid (F4.out.below hbl (by omega))
    have W5 := Lib.hid (W4.out.below hbl)
    have D5 := Lib.hid (D4.out.below hbl)
    have C5 := Lib.hid (C4.out.step hbl)
    clear R4 F4 W4 D4 C4 hbl
    obtain ⟨b0, b1, b2⟩ := (show w5.cell? ⟨b, 0, none⟩ = some (.string s) ∧ w5.cell? ⟨b, 1, none⟩ = some (.slice (some ⟨gA, 0, none⟩) n c) ∧ w5.cell? ⟨b, 2, none⟩ = some (.slice (some ⟨gD, 0, none⟩) n d) from ⟨cellOfBlk F5.out 0, cellOfBlk F5.out 1, cellOfBlk F5.out 2⟩)
    have hI0 : Ints w5 (some ⟨gD, 0, none⟩) cs := by have h := D5.out.form; obtain ⟨A0, c0, e, hI, _⟩ := h; injection e with e1; subst e1; exact hI
    have a0 : 1 ≤ n := hn1
    have a1 : (1 : Int) ≤ n := by omega
    have a2 : (1 : Int) ≤ d := by omega
    have a3 : (n : Int) ≤ d := by omega
    by_cases hn11 : n = 1
    · subst hn11
      have DE := Lib.hid (own_base EO.out (by omega : w.heap.size + 1 ≤ _))
      have N9 : Hid (∀ k, (Value.slice (some ⟨w4.heap.size, 0, none⟩) 0 0).ownBlock = some k → k ≠ b) := fun k hk => by
        have e : w4.heap.size = k := by injection hk
        omega
      clear D5 ND hI0
      have D5 := DE; have ND := N9; clear DE N9 b0 b1 b2
      have hc0 : ¬ (c : Int) < 0 := by omega
      have f2 := F5.out.warm 2
      obtain ⟨d0, d1, d2⟩ := (show w5.cell? ⟨b, 0, none⟩ = some (.string s) ∧ w5.cell? ⟨b, 1, none⟩ = some (.slice (some ⟨gA, 0, none⟩) 1 c) ∧ w5.cell? ⟨b, 2, none⟩ = some (.slice (some ⟨gD, 0, none⟩) 1 d) from ⟨cellOfBlk F5.out 0, cellOfBlk F5.out 1, cellOfBlk F5.out 2⟩)
      have F6 : Hid (Blk (w5.setCell ⟨b, 2, none⟩ (.slice (some ⟨w4.heap.size, 0, none⟩) 0 0)) b #[.string s, .slice (some ⟨gA, 0, none⟩) 1 c, .slice (some ⟨w4.heap.size, 0, none⟩) 0 0] 25) := heapSet (i := 2) F5.out _
      have R6 : Hid (Blk (w5.setCell ⟨b, 2, none⟩ (.slice (some ⟨w4.heap.size, 0, none⟩) 0 0)) w.heap.size #[.string ⟨#[]⟩, .slice none 0 0, .slice none 0 0] 25) := R5.out.other _ _ (by show w.heap.size ≠ b; omega)
      have W6 : Hid (Own (w5.setCell ⟨b, 2, none⟩ (.slice (some ⟨w4.heap.size, 0, none⟩) 0 0)) (w.heap.size + 1) (.slice (some ⟨gA, 0, none⟩) 1 c) ws) := W5.out.setO _ _ (fun k hk => NW.out k hk)
      have D6 : Hid (Own (w5.setCell ⟨b, 2, none⟩ (.slice (some ⟨w4.heap.size, 0, none⟩) 0 0)) (w.heap.size + 1) (.slice (some ⟨w4.heap.size, 0, none⟩) 0 0) []) := D5.out.setO _ _ (fun k hk => ND.out k hk)
      have C6 : Hid (CM w (w5.setCell ⟨b, 2, none⟩ (.slice (some ⟨w4.heap.size, 0, none⟩) 0 0)) g) := C5.out.set (by show w.heap.size ≤ b; omega) hgw _
      obtain ⟨w6, hw6⟩ : ∃ x, w5.setCell ⟨b, 2, none⟩ (.slice (some ⟨w4.heap.size, 0, none⟩) 0 0) = x := ⟨_, rfl⟩
      have z6 : b < w6.heap.size := by rw [← hw6, setCell_size]; exact z5
      rw [hw6] at F6 R6 W6 D6 C6
      obtain ⟨b0, b1, b2⟩ := (show w6.cell? ⟨b, 0, none⟩ = some (.string s) ∧ w6.cell? ⟨b, 1, none⟩ = some (.slice (some ⟨gA, 0, none⟩) 1 c) ∧ w6.cell? ⟨b, 2, none⟩ = some (.slice (some ⟨w4.heap.size, 0, none⟩) 0 0) from ⟨cellOfBlk F6.out 0, cellOfBlk F6.out 1, cellOfBlk F6.out 2⟩)
      have ff := R6.out.warm
      obtain ⟨q0, q1, q2⟩ := (show w6.cell? ⟨w.heap.size, 0, none⟩ = some (.string ⟨#[]⟩) ∧ w6.cell? ⟨w.heap.size, 1, none⟩ = some (.slice none 0 0) ∧ w6.cell? ⟨w.heap.size, 2, none⟩ = some (.slice none 0 0) from ⟨cellOfBlk R6.out 0, cellOfBlk R6.out 1, cellOfBlk R6.out 2⟩)
      obtain ⟨y, hy⟩ : ∃ x, (((w6.setCell ⟨w.heap.size, 0, none⟩ (.string s)).setCell ⟨w.heap.size, 1, none⟩ (.slice (some ⟨gA, 0, none⟩) 1 c)).setCell ⟨w.heap.size, 2, none⟩ (.slice (some ⟨w4.heap.size, 0, none⟩) 0 0)) = x := ⟨_, rfl⟩
      have HR4 : Blk y w.heap.size #[.string s, .slice (some ⟨gA, 0, none⟩) 1 c, .slice (some ⟨w4.heap.size, 0, none⟩) 0 0] 25 := by rw [← hy]; exact (heapSet (i := 2) (heapSet (i := 1) (heapSet (i := 0) R6.out (.string s)) (.slice (some ⟨gA, 0, none⟩) 1 c)) (.slice (some ⟨w4.heap.size, 0, none⟩) 0 0))
      have HW4 : Hid (Own y (w.heap.size + 1) (.slice (some ⟨gA, 0, none⟩) 1 c) ws) := by show Own _ _ _ _; rw [← hy]; exact (((W6.out.setO ⟨w.heap.size, 0, none⟩ (.string s) (fun k hk => by have := World.ownsRow.lt W6.out k hk; show k ≠ w.heap.size; omega)).setO ⟨w.heap.size, 1, none⟩ (.slice (some ⟨gA, 0, none⟩) 1 c) (fun k hk => by have := World.ownsRow.lt W6.out k hk; show k ≠ w.heap.size; omega)).setO ⟨w.heap.size, 2, none⟩ (.slice (some ⟨w4.heap.size, 0, none⟩) 0 0) (fun k hk => by have := World.ownsRow.lt W6.out k hk; show k ≠ w.heap.size; omega))
      have HC4 : Hid (Own y (w.heap.size + 1) (.slice (some ⟨w4.heap.size, 0, none⟩) 0 0) []) := by show Own _ _ _ _; rw [← hy]; exact (((D6.out.setO ⟨w.heap.size, 0, none⟩ (.string s) (fun k hk => by have := World.ownsRow.lt D6.out k hk; show k ≠ w.heap.size; omega)).setO ⟨w.heap.size, 1, none⟩ (.slice (some ⟨gA, 0, none⟩) 1 c) (fun k hk => by have := World.ownsRow.lt D6.out k hk; show k ≠ w.heap.size; omega)).setO ⟨w.heap.size, 2, none⟩ (.slice (some ⟨w4.heap.size, 0, none⟩) 0 0) (fun k hk => by have := World.ownsRow.lt D6.out k hk; show k ≠ w.heap.size; omega))
      have HM4 : Hid (CM w y g) := by show CM _ _ _; rw [← hy]; exact (((C6.out.set (p := ⟨w.heap.size, 0, none⟩) (Nat.le_refl _) hgw (.string s)).set (p := ⟨w.heap.size, 1, none⟩) (Nat.le_refl _) hgw (.slice (some ⟨gA, 0, none⟩) 1 c)).set (p := ⟨w.heap.size, 2, none⟩) (Nat.le_refl _) hgw (.slice (some ⟨w4.heap.size, 0, none⟩) 0 0))
      have HR5 := Lib.hid HR4
      clear HR4 F6 R6 W6 D6 C6
      by_cases hd1 : d = 1
      · subst hd1
        go_wp2_with fail
        obtain ⟨r0, r1, r2⟩ := (show y.cell? ⟨w.heap.size, 0, none⟩ = some (.string s) ∧ y.cell? ⟨w.heap.size, 1, none⟩ = some (.slice (some ⟨gA, 0, none⟩) 1 c) ∧ y.cell? ⟨w.heap.size, 2, none⟩ = some (.slice (some ⟨w4.heap.size, 0, none⟩) 0 0) from ⟨cellOfBlk HR5.out 0, cellOfBlk HR5.out 1, cellOfBlk HR5.out 2⟩)
        (try simp only [Exit.inBlock, Exit.then])
        refine bodyPost_ret (v := .agg #[.string s, .slice (some ⟨gA, 0, none⟩) 1 c, .slice (some ⟨w4.heap.size, 0, none⟩) 0 0]) (by simp [results, Tryd.results72, go_sem, r0, r1, r2]) rfl ?_
        have HFs : s.size ≤ 24 := by have := Hs.out; omega
        have HFw1 := Hws.out
        have HFw2 : 1 ≤ 24 := by omega
        have HFd1 : ([] : List Int).length = 0 := rfl
        have HFd2 : 0 ≤ 24 := by omega
        exact ⟨_, _, _, _, rfl, ⟨_, _, _, _, _, _, rfl, HFs, HFw1, HFw2, HFd1, HFd2, own_base HW4.out (by omega), own_base HC4.out (by omega), HM4.out⟩, (fun x hx => by cases hx)⟩
      · go_wp2_with fail
        obtain ⟨r0, r1, r2⟩ := (show y.cell? ⟨w.heap.size, 0, none⟩ = some (.string s) ∧ y.cell? ⟨w.heap.size, 1, none⟩ = some (.slice (some ⟨gA, 0, none⟩) 1 c) ∧ y.cell? ⟨w.heap.size, 2, none⟩ = some (.slice (some ⟨w4.heap.size, 0, none⟩) 0 0) from ⟨cellOfBlk HR5.out 0, cellOfBlk HR5.out 1, cellOfBlk HR5.out 2⟩)
        (try simp only [Exit.inBlock, Exit.then])
        refine bodyPost_ret (v := .agg #[.string s, .slice (some ⟨gA, 0, none⟩) 1 c, .slice (some ⟨w4.heap.size, 0, none⟩) 0 0]) (by simp [results, Tryd.results72, go_sem, r0, r1, r2]) rfl ?_
        have HFs : s.size ≤ 24 := by have := Hs.out; omega
        have HFw1 := Hws.out
        have HFw2 : 1 ≤ 24 := by omega
        have HFd1 : ([] : List Int).length = 0 := rfl
        have HFd2 : 0 ≤ 24 := by omega
        exact ⟨_, _, _, _, rfl, ⟨_, _, _, _, _, _, rfl, HFs, HFw1, HFw2, HFd1, HFd2, own_base HW4.out (by omega), own_base HC4.out (by omega), HM4.out⟩, (fun x hx => by cases hx)⟩
    have HIx : Hid (Ints w5 (some ⟨gD, 1, none⟩) (cs.drop 1)) := (ints_tail hI0)
    clear hI0
    have zz2 := zz
    have hd1 : ¬ d = 1 := by omega
    have hn12 : ¬ n - 1 = 0 := by omega
    have T2 : (cs.drop 1).length = n - 1 := (by rw [List.length_drop, Hcs.out])
    have T4 : w4.heap.size ≤ w5.heap.size := by omega
    have T5 : ([] : List Int).length + (n - 1) ≤ 2097152 := by simp; omega
    go_wp2_with (
      at_builtin
      refine wpl_append_any _ rfl (.tmp 43) (.tmp 46) rfl w4.heap.size _ [] (cs.drop 1) (some ⟨gD, 1, none⟩) (n - 1) (d - 1) rfl rfl T2 HIx.out EO.out T4 T5 ?_
      intro v6 w6 hO hg hv
      obtain ⟨A9, n9, d9, rfl, hlen, hO, -, -⟩ := own_form5x hO
      have hn99 : n9 ≤ 24 := by rw [← hlen]; simp only [List.nil_append, List.length_drop]; have := Hcs.out; omega
      have hbg := (Below.refl w4.heap.size w5).grown hg (by omega) (fun k hk => by have e9 : w4.heap.size = k := (by injection hk); omega)
      have N9 : Hid (∀ k, (Value.slice A9 n9 d9).ownBlock = some k → k ≠ b) := fun k hk => by have := (World.ownsRow.lt hO k hk).1; omega
      have z6 : b < w6.heap.size := by have := hbg.size; omega
      have R6 := Lib.hid (R5.out.grownO hg (fun e => by have e9 : w4.heap.size = w.heap.size := (by injection e); omega)); have F6 := Lib.hid (F5.out.grownO hg (fun e => by have e9 : w4.heap.size = b := (by injection e); omega)); have W6 := Lib.hid (W5.out.grownO hg (fun k hk e => by have e8 : gA = k := (by injection hk); have e9 : w4.heap.size = k := (by injection e); omega))
      have D6 := Lib.hid (own_base hO (by omega : w.heap.size + 1 ≤ _)); have C6 : Hid (CM w w6 g) := C5.out.belowB ((Below.refl w.heap.size w5).grown hg (by omega) (fun k hk => by have e9 : w4.heap.size = k := (by injection hk); omega)) (Nat.le_refl _) hgw
      clear ND
      have ND := N9; have HL9 := Lib.hid hlen; clear hg hv hbg hO hlen R5 F5 W5 D5 C5 b0 b1 b2
      have f2 := F6.out.warm 2
      obtain ⟨d0, d1, d2⟩ := (show w6.cell? ⟨b, 0, none⟩ = some (.string s) ∧ w6.cell? ⟨b, 1, none⟩ = some (.slice (some ⟨gA, 0, none⟩) n c) ∧ w6.cell? ⟨b, 2, none⟩ = some (.slice (some ⟨gD, 0, none⟩) n d) from ⟨cellOfBlk F6.out 0, cellOfBlk F6.out 1, cellOfBlk F6.out 2⟩)
      have F7 : Hid (Blk (w6.setCell ⟨b, 2, none⟩ (.slice A9 n9 d9)) b #[.string s, .slice (some ⟨gA, 0, none⟩) n c, .slice A9 n9 d9] 25) := heapSet (i := 2) F6.out _
      have R7 : Hid (Blk (w6.setCell ⟨b, 2, none⟩ (.slice A9 n9 d9)) w.heap.size #[.string ⟨#[]⟩, .slice none 0 0, .slice none 0 0] 25) := R6.out.other _ _ (by show w.heap.size ≠ b; omega)
      have W7 : Hid (Own (w6.setCell ⟨b, 2, none⟩ (.slice A9 n9 d9)) (w.heap.size + 1) (.slice (some ⟨gA, 0, none⟩) n c) ws) := W6.out.setO _ _ (fun k hk => NW.out k hk)
      have D7 : Hid (Own (w6.setCell ⟨b, 2, none⟩ (.slice A9 n9 d9)) (w.heap.size + 1) (.slice A9 n9 d9) ([] ++ (cs.drop 1))) := D6.out.setO _ _ (fun k hk => ND.out k hk)
      have C7 : Hid (CM w (w6.setCell ⟨b, 2, none⟩ (.slice A9 n9 d9)) g) := C6.out.set (by show w.heap.size ≤ b; omega) hgw _
      obtain ⟨w7, hw7⟩ : ∃ x, w6.setCell ⟨b, 2, none⟩ (.slice A9 n9 d9) = x := ⟨_, rfl⟩
      have z7 : b < w7.heap.size := by rw [← hw7, setCell_size]; exact z6
      rw [hw7] at F7 R7 W7 D7 C7
      obtain ⟨b0, b1, b2⟩ := (show w7.cell? ⟨b, 0, none⟩ = some (.string s) ∧ w7.cell? ⟨b, 1, none⟩ = some (.slice (some ⟨gA, 0, none⟩) n c) ∧ w7.cell? ⟨b, 2, none⟩ = some (.slice A9 n9 d9) from ⟨cellOfBlk F7.out 0, cellOfBlk F7.out 1, cellOfBlk F7.out 2⟩)
      have ff := R7.out.warm
      obtain ⟨q0, q1, q2⟩ := (show w7.cell? ⟨w.heap.size, 0, none⟩ = some (.string ⟨#[]⟩) ∧ w7.cell? ⟨w.heap.size, 1, none⟩ = some (.slice none 0 0) ∧ w7.cell? ⟨w.heap.size, 2, none⟩ = some (.slice none 0 0) from ⟨cellOfBlk R7.out 0, cellOfBlk R7.out 1, cellOfBlk R7.out 2⟩)
      obtain ⟨y, hy⟩ : ∃ x, (((w7.setCell ⟨w.heap.size, 0, none⟩ (.string s)).setCell ⟨w.heap.size, 1, none⟩ (.slice (some ⟨gA, 0, none⟩) n c)).setCell ⟨w.heap.size, 2, none⟩ (.slice A9 n9 d9)) = x := ⟨_, rfl⟩
      have HR4 : Blk y w.heap.size #[.string s, .slice (some ⟨gA, 0, none⟩) n c, .slice A9 n9 d9] 25 := by rw [← hy]; exact (heapSet (i := 2) (heapSet (i := 1) (heapSet (i := 0) R7.out (.string s)) (.slice (some ⟨gA, 0, none⟩) n c)) (.slice A9 n9 d9))
      have HW4 : Hid (Own y (w.heap.size + 1) (.slice (some ⟨gA, 0, none⟩) n c) ws) := by show Own _ _ _ _; rw [← hy]; exact (((W7.out.setO ⟨w.heap.size, 0, none⟩ (.string s) (fun k hk => by have := World.ownsRow.lt W7.out k hk; show k ≠ w.heap.size; omega)).setO ⟨w.heap.size, 1, none⟩ (.slice (some ⟨gA, 0, none⟩) n c) (fun k hk => by have := World.ownsRow.lt W7.out k hk; show k ≠ w.heap.size; omega)).setO ⟨w.heap.size, 2, none⟩ (.slice A9 n9 d9) (fun k hk => by have := World.ownsRow.lt W7.out k hk; show k ≠ w.heap.size; omega))
      have HC4 : Hid (Own y (w.heap.size + 1) (.slice A9 n9 d9) ([] ++ (cs.drop 1))) := by show Own _ _ _ _; rw [← hy]; exact (((D7.out.setO ⟨w.heap.size, 0, none⟩ (.string s) (fun k hk => by have := World.ownsRow.lt D7.out k hk; show k ≠ w.heap.size; omega)).setO ⟨w.heap.size, 1, none⟩ (.slice (some ⟨gA, 0, none⟩) n c) (fun k hk => by have := World.ownsRow.lt D7.out k hk; show k ≠ w.heap.size; omega)).setO ⟨w.heap.size, 2, none⟩ (.slice A9 n9 d9) (fun k hk => by have := World.ownsRow.lt D7.out k hk; show k ≠ w.heap.size; omega))
      have HM4 : Hid (CM w y g) := by show CM _ _ _; rw [← hy]; exact (((C7.out.set (p := ⟨w.heap.size, 0, none⟩) (Nat.le_refl _) hgw (.string s)).set (p := ⟨w.heap.size, 1, none⟩) (Nat.le_refl _) hgw (.slice (some ⟨gA, 0, none⟩) n c)).set (p := ⟨w.heap.size, 2, none⟩) (Nat.le_refl _) hgw (.slice A9 n9 d9))
      have HR5 := Lib.hid HR4
      clear HR4 F7 R7 W7 D7 C7
    )
    obtain ⟨r0, r1, r2⟩ := (show y.cell? ⟨w.heap.size, 0, none⟩ = some (.string s) ∧ y.cell? ⟨w.heap.size, 1, none⟩ = some (.slice (some ⟨gA, 0, none⟩) n c) ∧ y.cell? ⟨w.heap.size, 2, none⟩ = some (.slice A9 n9 d9) from ⟨cellOfBlk HR5.out 0, cellOfBlk HR5.out 1, cellOfBlk HR5.out 2⟩)
    (try simp only [Exit.inBlock, Exit.then])
    refine bodyPost_ret (v := .agg #[.string s, .slice (some ⟨gA, 0, none⟩) n c, .slice A9 n9 d9]) (by simp [results, Tryd.results72, go_sem, r0, r1, r2]) rfl ?_
    have HFs : s.size ≤ 24 := by have := Hs.out; omega
    have HFw1 := Hws.out
    have HFw2 : n ≤ 24 := by omega
    have HFd1 := HL9.out
    have HFd2 := hn99
    exact ⟨_, _, _, _, rfl, ⟨_, _, _, _, _, _, rfl, HFs, HFw1, HFw2, HFd1, HFd2, own_base HW4.out (by omega), own_base HC4.out (by omega), HM4.out⟩, (fun x hx => ⟨(HBD.out x (List.mem_of_mem_drop hx)).1, Int.le_trans (HBD.out x (List.mem_of_mem_drop hx)).2 (by decide)⟩)⟩
  by_cases hk3 : k = 3
  · subst hk3
    have ON := Lib.hid (own_none w4 (w.heap.size + 1))
    have ff := R4.out.warm
    obtain ⟨q0, q1, q2⟩ := (show w4.cell? ⟨w.heap.size, 0, none⟩ = some (.string ⟨#[]⟩) ∧ w4.cell? ⟨w.heap.size, 1, none⟩ = some (.slice none 0 0) ∧ w4.cell? ⟨w.heap.size, 2, none⟩ = some (.slice none 0 0) from ⟨cellOfBlk R4.out 0, cellOfBlk R4.out 1, cellOfBlk R4.out 2⟩)
    obtain ⟨y, hy⟩ : ∃ x, (((w4.setCell ⟨w.heap.size, 0, none⟩ (.string ⟨#[]⟩)).setCell ⟨w.heap.size, 1, none⟩ (.slice none 0 0)).setCell ⟨w.heap.size, 2, none⟩ (.slice none 0 0)) = x := ⟨_, rfl⟩
    have HR4 : Blk y w.heap.size #[.string ⟨#[]⟩, .slice none 0 0, .slice none 0 0] 25 := by rw [← hy]; exact (heapSet (i := 2) (heapSet (i := 1) (heapSet (i := 0) R4.out (.string ⟨#[]⟩)) (.slice none 0 0)) (.slice none 0 0))
    have HM4 : Hid (CM w y g) := by show CM _ _ _; rw [← hy]; exact (((C4.out.set (p := ⟨w.heap.size, 0, none⟩) (Nat.le_refl _) hgw (.string ⟨#[]⟩)).set (p := ⟨w.heap.size, 1, none⟩) (Nat.le_refl _) hgw (.slice none 0 0)).set (p := ⟨w.heap.size, 2, none⟩) (Nat.le_refl _) hgw (.slice none 0 0))
    have HR5 := Lib.hid HR4
    clear HR4 F4 R4 W4 D4 C4 ON
    go_wp2
    clear hy q0 q1 q2 ff
    obtain ⟨r0, r1, r2⟩ := (show y.cell? ⟨w.heap.size, 0, none⟩ = some (.string ⟨#[]⟩) ∧ y.cell? ⟨w.heap.size, 1, none⟩ = some (.slice none 0 0) ∧ y.cell? ⟨w.heap.size, 2, none⟩ = some (.slice none 0 0) from ⟨cellOfBlk HR5.out 0, cellOfBlk HR5.out 1, cellOfBlk HR5.out 2⟩)
    (try simp only [Exit.inBlock, Exit.then])
    refine bodyPost_ret (v := .agg #[.string ⟨#[]⟩, .slice none 0 0, .slice none 0 0]) (by simp [results, Tryd.results72, go_sem, r0, r1, r2]) rfl ?_
    exact ⟨_, _, [], [], rfl, ⟨_, _, _, _, _, _, rfl, by show 0 ≤ 24; omega, rfl, by omega, rfl, by omega, own_none _ _, own_none _ _, HM4.out⟩, fun x hx => by cases hx⟩
  have e0 : ¬ (k : Int) = 0 := by omega
  have e1 : ¬ (k : Int) = 1 := by omega
  have e2 : ¬ (k : Int) = 2 := by omega
  have e3 : ¬ (k : Int) = 3 := by omega
  have HFs : s.size ≤ 24 := by have := Hs.out; omega
  have HFw1 := Hws.out
  have HFw2 : n ≤ 24 := by omega
  have HFd1 := Hcs.out
  have HFd2 : n ≤ 24 := by omega
  obtain ⟨b0, b1, b2⟩ := (show w4.cell? ⟨b, 0, none⟩ = some (.string s) ∧ w4.cell? ⟨b, 1, none⟩ = some (.slice (some ⟨gA, 0, none⟩) n c) ∧ w4.cell? ⟨b, 2, none⟩ = some (.slice (some ⟨gD, 0, none⟩) n d) from ⟨cellOfBlk F4.out 0, cellOfBlk F4.out 1, cellOfBlk F4.out 2⟩)
  have ff := R4.out.warm
  obtain ⟨q0, q1, q2⟩ := (show w4.cell? ⟨w.heap.size, 0, none⟩ = some (.string ⟨#[]⟩) ∧ w4.cell? ⟨w.heap.size, 1, none⟩ = some (.slice none 0 0) ∧ w4.cell? ⟨w.heap.size, 2, none⟩ = some (.slice none 0 0) from ⟨cellOfBlk R4.out 0, cellOfBlk R4.out 1, cellOfBlk R4.out 2⟩)
  obtain ⟨y, hy⟩ : ∃ x, (((w4.setCell ⟨w.heap.size, 0, none⟩ (.string s)).setCell ⟨w.heap.size, 1, none⟩ (.slice (some ⟨gA, 0, none⟩) n c)).setCell ⟨w.heap.size, 2, none⟩ (.slice (some ⟨gD, 0, none⟩) n d)) = x := ⟨_, rfl⟩
  have HR4 : Blk y w.heap.size #[.string s, .slice (some ⟨gA, 0, none⟩) n c, .slice (some ⟨gD, 0, none⟩) n d] 25 := by rw [← hy]; exact (heapSet (i := 2) (heapSet (i := 1) (heapSet (i := 0) R4.out (.string s)) (.slice (some ⟨gA, 0, none⟩) n c)) (.slice (some ⟨gD, 0, none⟩) n d))
  have HW4 : Hid (Own y (w.heap.size + 1) (.slice (some ⟨gA, 0, none⟩) n c) ws) := by show Own _ _ _ _; rw [← hy]; exact (((W4.out.setO ⟨w.heap.size, 0, none⟩ (.string s) (fun k hk => by have := World.ownsRow.lt W4.out k hk; show k ≠ w.heap.size; omega)).setO ⟨w.heap.size, 1, none⟩ (.slice (some ⟨gA, 0, none⟩) n c) (fun k hk => by have := World.ownsRow.lt W4.out k hk; show k ≠ w.heap.size; omega)).setO ⟨w.heap.size, 2, none⟩ (.slice (some ⟨gD, 0, none⟩) n d) (fun k hk => by have := World.ownsRow.lt W4.out k hk; show k ≠ w.heap.size; omega))
  have HC4 : Hid (Own y (w.heap.size + 1) (.slice (some ⟨gD, 0, none⟩) n d) cs) := by show Own _ _ _ _; rw [← hy]; exact (((D4.out.setO ⟨w.heap.size, 0, none⟩ (.string s) (fun k hk => by have := World.ownsRow.lt D4.out k hk; show k ≠ w.heap.size; omega)).setO ⟨w.heap.size, 1, none⟩ (.slice (some ⟨gA, 0, none⟩) n c) (fun k hk => by have := World.ownsRow.lt D4.out k hk; show k ≠ w.heap.size; omega)).setO ⟨w.heap.size, 2, none⟩ (.slice (some ⟨gD, 0, none⟩) n d) (fun k hk => by have := World.ownsRow.lt D4.out k hk; show k ≠ w.heap.size; omega))
  have HM4 : Hid (CM w y g) := by show CM _ _ _; rw [← hy]; exact (((C4.out.set (p := ⟨w.heap.size, 0, none⟩) (Nat.le_refl _) hgw (.string s)).set (p := ⟨w.heap.size, 1, none⟩) (Nat.le_refl _) hgw (.slice (some ⟨gA, 0, none⟩) n c)).set (p := ⟨w.heap.size, 2, none⟩) (Nat.le_refl _) hgw (.slice (some ⟨gD, 0, none⟩) n d))
  have HR5 := Lib.hid HR4
  clear HR4 F4 R4 W4 D4 C4
  go_wp2
  clear hy b0 b1 b2 q0 q1 q2 ff
  obtain ⟨r0, r1, r2⟩ := (show y.cell? ⟨w.heap.size, 0, none⟩ = some (.string s) ∧ y.cell? ⟨w.heap.size, 1, none⟩ = some (.slice (some ⟨gA, 0, none⟩) n c) ∧ y.cell? ⟨w.heap.size, 2, none⟩ = some (.slice (some ⟨gD, 0, none⟩) n d) from ⟨cellOfBlk HR5.out 0, cellOfBlk HR5.out 1, cellOfBlk HR5.out 2⟩)
  (try simp only [Exit.inBlock, Exit.then])
  refine bodyPost_ret (v := .agg #[.string s, .slice (some ⟨gA, 0, none⟩) n c, .slice (some ⟨gD, 0, none⟩) n d]) (by simp [results, Tryd.results72, go_sem, r0, r1, r2]) rfl ?_
  exact ⟨_, _, _, _, rfl, ⟨_, _, _, _, _, _, rfl, HFs, HFw1, HFw2, HFd1, HFd2, own_base HW4.out (by omega), own_base HC4.out (by omega), HM4.out⟩, (fun x hx => ⟨(HBD.out x hx).1, Int.le_trans (HBD.out x hx).2 (by decide)⟩)⟩
theorem l2Any_any (g : Nat) (w : World) (hc : Cur w g) :
    Calls Tryd.prog 72 #[.pointer (some ⟨g, 0, none⟩)] w fun e w' => ∃ v s ws cs, e = .returned v ∧ FDraw w w' g v s ws cs :=
  (l2AnyW_any g w hc).mono fun e w' ⟨v, s, ws, cs, h1, h2, _⟩ => ⟨v, s, ws, cs, h1, h2⟩
end Go.Proofs.YtdijlofcgcikjaaDoor
