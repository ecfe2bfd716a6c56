/-
  The draw of a font: whatever the bytes, l2Font returns a font of from 1 to so many letters in memory of its own. Condition: the cursor is whole.
-/
import Derived.Test.YtdijlofcgcikjaaDoorDraw2
import Derived.Test.YtdijlofcgcikjaaDoorFitN
import Derived.Test.YtdijlofcgcikjaaDoorPkD
import Derived.Test.YtdijlofcgcikjaaDoorPkG
import Derived.Test.YtdijlofcgcikjaaDoorBreak
namespace Go.Proofs.YtdijlofcgcikjaaDoor
open Go.RowKit
set_option linter.unusedVariables false

theorem setCell_size (V : World) (p : Addr) (u : Value) : (V.setCell p u).heap.size = V.heap.size := by simp [World.setCell]

theorem Blk.moved {w w' : World} {B g : Nat} {cs : Array Value} {T : TypeId} (h : Blk w B cs T) (hm : Moved w w' g) (hne : B ≠ g) : Blk w' B cs T := (hm.block B h.lt (fun e => hne (by injection e))).trans h
theorem Blk.grownO {w w' : World} {B : Nat} {cs : Array Value} {T : TypeId} {row : Option Nat} (h : Blk w B cs T) (hg : w.grownBy w' row) (hr : row ≠ some B) : Blk w' B cs T := (hg.block B h.lt (fun e => hr e.symm)).trans h
theorem Own.grownO {w w' : World} {B : Nat} {v : Value} {zs : List Int} {row : Option Nat} (h : Own w B v zs) (hg : w.grownBy w' row) (hr : ∀ k, v.ownBlock = some k → row ≠ some k) : Own w' B v zs := by
  refine ⟨h.1, ?_⟩
  rcases h.2 with hn | ⟨g, cap, cur, rfl, hB, hh, rest⟩
  · exact .inl hn
  · exact .inr ⟨g, cap, cur, rfl, hB, (hg.block g (Array.getElem?_eq_some_iff.1 hh).1 (fun e => hr g rfl e.symm)).trans hh, rest⟩
theorem Own.setO {w : World} {B : Nat} {v : Value} {zs : List Int} (h : Own w B v zs) (p : Addr) (u : Value) (hr : ∀ k, v.ownBlock = some k → k ≠ p.block) : Own (w.setCell p u) B v zs := by
  refine ⟨h.1, ?_⟩
  rcases h.2 with hn | ⟨g, cap, cur, rfl, hB, hh, rest⟩
  · exact .inl hn
  · exact .inr ⟨g, cap, cur, rfl, hB, (Below.heap_setCell w p u g (hr g rfl)).trans hh, rest⟩
theorem bits557 (a b c : Nat) (ha : (a : Int) < 5) (hb : (b : Int) < 5) (hc : (c : Int) < 7) :
    0 ≤ bits .or .i64 (bits .or .i64 (IntKind.i64.wrap (2 ^ a)) (IntKind.i64.wrap (2 ^ b))) (IntKind.i64.wrap (2 ^ c)) ∧ bits .or .i64 (bits .or .i64 (IntKind.i64.wrap (2 ^ a)) (IntKind.i64.wrap (2 ^ b))) (IntKind.i64.wrap (2 ^ c)) ≤ 127 := by
  have h : ∀ (a b : Fin 5) (c : Fin 7), 0 ≤ bits .or .i64 (bits .or .i64 (IntKind.i64.wrap (2 ^ (a : Nat))) (IntKind.i64.wrap (2 ^ (b : Nat)))) (IntKind.i64.wrap (2 ^ (c : Nat))) ∧ bits .or .i64 (bits .or .i64 (IntKind.i64.wrap (2 ^ (a : Nat))) (IntKind.i64.wrap (2 ^ (b : Nat)))) (IntKind.i64.wrap (2 ^ (c : Nat))) ≤ 127 := by decide +kernel
  exact h ⟨a, by omega⟩ ⟨b, by omega⟩ ⟨c, by omega⟩
theorem ordAt_bd {zs : List Int} (h : ∀ z ∈ zs, 0 ≤ z ∧ z ≤ 127) : ∀ k, ∀ x ∈ ordAt zs k, 0 ≤ x ∧ x ≤ 127
  | 0, x, hx => by cases hx
  | k + 1, x, hx => by
    unfold ordAt at hx
    rcases List.mem_append.1 hx with hx | hx
    · exact ordAt_bd h k x hx
    · rw [List.mem_singleton] at hx
      subst hx
      rw [List.getD_eq_getElem?_getD]
      cases hg : zs[nextOf zs (leftAt zs k)]? with
      | none => exact ⟨by decide, by decide⟩
      | some y => exact h y (List.mem_of_getElem? hg)
theorem ordL_bd (zs : List Int) : ∀ x ∈ ordL zs, 0 ≤ x ∧ x ≤ 127 := by
  unfold ordL
  split
  · rename_i h
    unfold setsB isBar allSet at h
    simp only [Bool.and_eq_true, List.all_eq_true] at h
    refine ordAt_bd (fun z hz => ?_) _
    have := h.2.1 z hz
    unfold setB at this
    exact of_decide_eq_true this
  · intro x hx; cases hx
def abcL : ByteArray := ⟨#[97, 101, 110, 111, 114, 116, 105, 46, 44, 104, 115, 100, 108, 117, 99, 109, 102, 119, 45, 103, 121, 112, 98, 118, 107, 113, 120, 106, 122, 33, 40, 41, 48, 49, 50, 51, 52, 53, 54, 55]⟩
theorem abc_at (i : Nat) (h : i + 1 ≤ 40) : (abcL.extract i (i + 1)).size = 1 := by
  have e : abcL.size = 40 := rfl
  rw [ByteArray.size_extract, e]; omega
/-- what holds of the sets so far: k rounds to come -/
def FSet (M n0 : Nat) (zs : List Int) (k : Nat) : Prop := zs.length + k ≤ M ∧ (zs.length = 0 → k = n0) ∧ (zs = [] ∨ setsB zs = true)
theorem fset_add {M n0 k : Nat} {zs : List Int} {x : Int} (h : FSet M n0 zs (k + 1)) (hx : setsB (zs ++ [x]) = true) : FSet M n0 (zs ++ [x]) k :=
  ⟨by simp; have := h.1; omega, by simp, .inr hx⟩
theorem fset_skip {M n0 k : Nat} {zs : List Int} {x : Int} (h : FSet M n0 zs (k + 1)) (h0 : 0 ≤ x) (h1 : x ≤ 127) (hx : setsB (zs ++ [x]) = false) : FSet M n0 zs k := by
  obtain ⟨a, b, c⟩ := h
  refine ⟨by omega, fun hz => ?_, c⟩
  have : zs = [] := List.eq_nil_of_length_eq_zero hz
  subst this
  rw [List.nil_append, sets_one h0 h1] at hx
  cases hx
set_option maxRecDepth 100000 in
set_option maxHeartbeats 6400000 in
theorem l2FontW_any (g M : Nat) (w : World) (hc : Cur w g) (hM1 : 1 ≤ M) (hM2 : M ≤ 20) :
    Calls Tryd.prog 89 #[.pointer (some ⟨g, 0, none⟩), .int .i64 M] w fun e w' => ∃ (s : ByteArray) (A A2 : Addr) (c d n : Nat) (ws cs : List Int), e = .returned (.agg #[.string s, .slice (some A) n c, .slice (some A2) n d]) ∧ s.size = n ∧ ws.length = n ∧ cs.length = n ∧ 1 ≤ n ∧ n ≤ M ∧ Own w' w.heap.size (.slice (some A) n c) ws ∧ Own w' w.heap.size (.slice (some A2) n d) cs ∧ A.block ≠ A2.block ∧ CM w w' g ∧ ∀ x ∈ cs, 0 ≤ x ∧ x ≤ 127 := by
  have hgw := hc.lt
  obtain ⟨w0, hw0⟩ : ∃ x, ((w.alloc (.cells #[.string ⟨#[]⟩, .slice none 0 0, .slice none 0 0] 25)).alloc (.cells #[.string ⟨#[]⟩, .slice none 0 0, .slice none 0 0] 25)).alloc (.cells #[] 3) = x := ⟨_, rfl⟩
  have hc0 : CM w w0 g := by rw [← hw0]; exact (((CM.of hc).alloc _).alloc _).alloc _
  have hz0 : w0.heap.size = w.heap.size + 3 := by rw [← hw0]; simp
  have hR : Blk w0 w.heap.size #[.string ⟨#[]⟩, .slice none 0 0, .slice none 0 0] 25 := by
    rw [← hw0]
    exact ((Blk.new w #[.string ⟨#[]⟩, .slice none 0 0, .slice none 0 0] 25).below (b := w.heap.size + 1) ((Below.refl _ _).alloc (by simp) _) (by omega)).below (b := w.heap.size + 1) ((Below.refl _ _).alloc (by simp) _) (by omega)
  have hF : Blk w0 (w.heap.size + 1) #[.string ⟨#[]⟩, .slice none 0 0, .slice none 0 0] 25 := by
    have h := Blk.new (w.alloc (.cells #[.string ⟨#[]⟩, .slice none 0 0, .slice none 0 0] 25)) #[.string ⟨#[]⟩, .slice none 0 0, .slice none 0 0] 25
    have e : (w.alloc (.cells #[.string ⟨#[]⟩, .slice none 0 0, .slice none 0 0] 25)).heap.size = w.heap.size + 1 := by simp
    rw [e] at h
    rw [← hw0]
    exact h.below (b := w.heap.size + 2) ((Below.refl _ _).alloc (by simp) _) (by omega)
  have hE : Own w0 (w.heap.size + 2) (.slice (some ⟨w.heap.size + 2, 0, none⟩) 0 0) [] := by
    rw [← hw0]
    have h : Own (((w.alloc (.cells #[.string ⟨#[]⟩, .slice none 0 0, .slice none 0 0] 25)).alloc (.cells #[.string ⟨#[]⟩, .slice none 0 0, .slice none 0 0] 25)).alloc (.cells #[] 3)) ((w.alloc (.cells #[.string ⟨#[]⟩, .slice none 0 0, .slice none 0 0] 25)).alloc (.cells #[.string ⟨#[]⟩, .slice none 0 0, .slice none 0 0] 25)).heap.size (.slice (some ⟨((w.alloc (.cells #[.string ⟨#[]⟩, .slice none 0 0, .slice none 0 0] 25)).alloc (.cells #[.string ⟨#[]⟩, .slice none 0 0, .slice none 0 0] 25)).heap.size, 0, none⟩) 0 0) [] := World.ownsRow_lit ((w.alloc (.cells #[.string ⟨#[]⟩, .slice none 0 0, .slice none 0 0] 25)).alloc (.cells #[.string ⟨#[]⟩, .slice none 0 0, .slice none 0 0] 25)) #[] 0 (Nat.le_refl _) (Nat.zero_le _) rfl
    have e : ((w.alloc (.cells #[.string ⟨#[]⟩, .slice none 0 0, .slice none 0 0] 25)).alloc (.cells #[.string ⟨#[]⟩, .slice none 0 0, .slice none 0 0] 25)).heap.size = w.heap.size + 2 := by simp
    rw [e] at h
    exact h
  have C0 := Lib.hid hc0; have R0 := Lib.hid hR; have F0 := Lib.hid hF; have E0 := Lib.hid hE
  clear hc hc0 hR hF hE
  go_enter Tryd.func89, Tryd.ntmps89
  go_wp2_with fail
  clear hw0
  refine (below_cm w g _ _ (by omega) C0.out).mono ?_
  rintro e w1 ⟨x0, rfl, hx0, hc1, hm1⟩
  obtain ⟨n0, hn0⟩ : ∃ n0, 1 + x0 = n0 := ⟨_, rfl⟩
  have hn1 : 1 ≤ n0 := by omega
  have hnM : n0 ≤ M := by omega
  have HN0 := Lib.hid hn0
  have C1 := Lib.hid hc1; have R1 := Lib.hid (R0.out.moved hm1 (by omega)); have F1 := Lib.hid (F0.out.moved hm1 (by omega)); have E1 := Lib.hid (E0.out.grown_lt hm1 (fun k hk => by injection hk with hk; omega))
  have hz1 : w.heap.size + 3 ≤ w1.heap.size := by have := hm1.size; omega
  have hnx : (1 : Int) + (x0 : Int) = (n0 : Int) := by omega
  clear hc1 hm1 C0 R0 F0 E0 hn0
  go_wp2
  clear hnx
  go_loopw [6, 7] (fun v q wr => ∃ (zs : List Int) (k : Nat) (ad : Addr) (c : Nat), v = .slice (some ad) zs.length c ∧ q = .int .i64 k ∧ Hid (Own wr (w.heap.size + 2) (.slice (some ad) zs.length c) zs) ∧ Hid (FSet M n0 zs k) ∧ Hid (CM w wr g) ∧ Hid (Blk wr w.heap.size #[.string ⟨#[]⟩, .slice none 0 0, .slice none 0 0] 25) ∧ Hid (Blk wr (w.heap.size + 1) #[.string ⟨#[]⟩, .slice none 0 0, .slice none 0 0] 25) ∧ w.heap.size + 3 ≤ wr.heap.size) (fun _ q _ => (intOf q).toNat)
  case atStart => exact ⟨[], n0, _, _, rfl, rfl, E1.out, ⟨by simp; omega, fun _ => rfl, .inl rfl⟩, C1.out, R1.out, F1.out, hz1⟩
  case round =>
    clear E1 C1 R1 F1 hz1
    obtain ⟨zs, k, ad, c, rfl, rfl, HO, HD, HCM, HR, HF, hzr⟩ := hrel
    have hzl : zs.length + k ≤ M := HD.out.1
    obtain ⟨m, hm⟩ : ∃ m, zs.length = m := ⟨_, rfl⟩
    rw [hm] at HO hzl ⊢
    have Hm := Lib.hid hm
    clear hm
    by_cases hk : 0 < k
    · obtain ⟨k', rfl⟩ : ∃ k', k = k' + 1 := ⟨k - 1, by omega⟩
      have hcr := Lib.hid (CM.of HCM.out.1)
      have tok1 : True := trivial
      have tok2 : True := trivial
      have tok3 : True := trivial
      go_wp2_with fail
      go_region_with ((first
        | (clear tok1; go_at_call 38; refine (below_cm wr g _ _ (by omega) (by first | assumption | exact CM.drew hcr.out)).mono ?_; rintro e wa ⟨xa, rfl, hxa, hca, -⟩)
        | (clear tok2; go_at_call 38; refine (below_cm wr g _ _ (by omega) (by first | assumption | exact CM.drew (by assumption))).mono ?_; rintro e wb ⟨xb, rfl, hxb, hcb, -⟩)
        | (clear tok3; go_at_call 38; refine (below_cm wr g _ _ (by omega) (by first | assumption | exact CM.drew (by assumption))).mono ?_; rintro e W ⟨xc, rfl, hxc, hW, -⟩)))
      obtain ⟨S, hS⟩ : ∃ S, bits .or .i64 (bits .or .i64 (IntKind.i64.wrap (2 ^ xa)) (IntKind.i64.wrap (2 ^ xb))) (IntKind.i64.wrap (2 ^ xc)) = S := ⟨_, rfl⟩
      have HSb := Lib.hid (bits557 xa xb xc hxa hxb hxc)
      rw [hS] at HSb
      have HW := Lib.hid hW
      have HOW := Lib.hid (HO.out.grown_lt hW.2 (fun k hk => by injection hk with hk; omega))
      have hszW := hW.2.size
      have HIW := Lib.hid (own_ints HOW.out)
      have HRW := Lib.hid (HR.out.moved hW.2 (by omega)); have HFW := Lib.hid (HF.out.moved hW.2 (by omega))
      have hmx : 32 ≤ maxLen := by unfold maxLen; omega
      clear hW HO HR HF
      cases hs : setsB (zs ++ [S])
      · have Hs := Lib.hid hs
        go_wp2_with (first
          | (at_builtin; refine wpl_copyof _ rfl (.tmp 32) (.tmp 33) rfl zs ad m c rfl rfl Hm.out HIW.out (by omega) ?_; intro v1 w4 hO4 hb4)
          | (at_builtin; refine wpl_push _ rfl (.tmp 34) (.tmp 36) rfl W.heap.size _ zs S rfl rfl hO4 hb4.size (by rw [Hm.out]; omega) ?_; intro v2 w5 hO5 hb5; obtain ⟨ad5, c5, rfl, hO5', hI5, hl5, hm5⟩ := own_row3 hO5 Hm.out)
          | (go_at_call 99; refine (l1Sets_any _ _ _ (zs ++ [S]) _ (by rw [List.length_append, Hm.out]; rfl) (by omega) hl5 hm5 hI5).mono ?_; rintro e w' ⟨rfl, rfl⟩))
        have hb5m : W.heap.size ≤ W.heap.size := Nat.le_refl _
        have hbb := Lib.hid (hb4.trans (hb5.mono hb5m))
        have z5 := hbb.out.size
        clear hb4 hb5
        go_roundw
        case rel => exact ⟨zs, k', ad, c, by rw [Hm.out], by go_num, by rw [Hm.out]; exact HOW.out.below hbb.out, fset_skip HD.out HSb.out.1 HSb.out.2 Hs.out, ⟨HW.out.1.below hbb.out, HCM.out.2.trans (HW.out.2.trans (moved_below hbb.out))⟩, HRW.out.below hbb.out (by omega), HFW.out.below hbb.out (by omega), by omega⟩
        case measure => simp [intOf]
      · have Hs := Lib.hid hs
        go_wp2_with (first
          | (at_builtin; refine wpl_copyof _ rfl (.tmp 32) (.tmp 33) rfl zs ad m c rfl rfl Hm.out HIW.out (by omega) ?_; intro v1 w4 hO4 hb4)
          | (at_builtin; refine wpl_push _ rfl (.tmp 34) (.tmp 36) rfl W.heap.size _ zs S rfl rfl hO4 hb4.size (by rw [Hm.out]; omega) ?_; intro v2 w5 hO5 hb5; obtain ⟨ad5, c5, rfl, hO5', hI5, hl5, hm5⟩ := own_row3 hO5 Hm.out)
          | (go_at_call 99; refine (l1Sets_any _ _ _ (zs ++ [S]) _ (by rw [List.length_append, Hm.out]; rfl) (by omega) hl5 hm5 hI5).mono ?_; rintro e w' ⟨rfl, rfl⟩))
        have hb5m : W.heap.size ≤ W.heap.size := Nat.le_refl _
        have hbb := Lib.hid (hb4.trans (hb5.mono hb5m))
        have z5 := hbb.out.size
        clear hb4 hb5
        go_roundw
        case rel => exact ⟨zs ++ [S], k', ad5, c5, by rw [List.length_append, Hm.out]; rfl, by go_num, by rw [List.length_append, Hm.out]; exact own_base hO5' (by omega), fset_add HD.out Hs.out, ⟨HW.out.1.below hbb.out, HCM.out.2.trans (HW.out.2.trans (moved_below hbb.out))⟩, HRW.out.below hbb.out (by omega), HFW.out.below hbb.out (by omega), by omega⟩
        case measure => simp [intOf]
    · have hk0 : k = 0 := by omega
      subst hk0
      have hm1 : 1 ≤ m := by
        have := HD.out.2.1
        rw [Hm.out] at this
        omega
      have hset : setsB zs = true := by
        rcases HD.out.2.2 with h | h
        · have := Hm.out; rw [h] at this; simp at this; omega
        · exact h
      have HL : Hid ((ordL zs).length = m) := by show _ = _; unfold ordL; rw [hset, if_pos rfl, ordAt_len, Hm.out]
      have HI := Lib.hid (own_ints HO.out)
      obtain ⟨hmc, hcm⟩ : m ≤ c ∧ c ≤ maxLen := by
        obtain ⟨A', c', hv, _, _, h1, h2⟩ := HO.out.form
        injection hv with e1 e2 e3
        subst e3
        rw [Hm.out] at h1
        exact ⟨h1, h2⟩
      have hmM : m ≤ 20 := by omega
      clear hset
      go_wp2_with fail
      refine (specOrder_any _ _ _ zs _ Hm.out (by omega) hmc hcm HI.out).mono ?_
      rintro e w2 ⟨u, rfl, hO2, hb2⟩
      obtain ⟨cs, hcs⟩ : ∃ x, ordL zs = x := ⟨_, rfl⟩
      have HBD : Hid (∀ x ∈ cs, 0 ≤ x ∧ x ≤ 127) := by show ∀ x ∈ cs, _; rw [← hcs]; exact ordL_bd zs
      rw [hcs] at hO2 HL
      obtain ⟨A2', d, rfl, -, hA2, -, -⟩ := hO2.form
      rw [HL.out] at hO2 ⊢
      have h2t := fun k hk => World.ownsRow.lt hO2 k hk
      obtain ⟨A2, rfl⟩ : ∃ x, A2' = some x := by
        rcases hO2.2 with ⟨hv, hz⟩ | ⟨gg, cap, cur, hv, _⟩
        · have := HL.out; omega
        · injection hv with e1 e2 e3; exact ⟨_, e1⟩
      have HO2 := Lib.hid hO2; have C2 := Lib.hid (CM.step HCM.out hb2); have R2 := Lib.hid (HR.out.below hb2 (by omega)); have F2 := Lib.hid (HF.out.below hb2 (by omega))
      have z2 := hb2.size
      have hA2b : wr.heap.size ≤ A2.block ∧ A2.block < w2.heap.size := h2t A2.block rfl
      clear hb2 hO2 HO HI HCM HR HF hA2 hcs
      obtain ⟨f0, f1, f2⟩ := (show w2.cell? ⟨w.heap.size + 1, 0, none⟩ = some (.string ⟨#[]⟩) ∧ w2.cell? ⟨w.heap.size + 1, 1, none⟩ = some (.slice none 0 0) ∧ w2.cell? ⟨w.heap.size + 1, 2, none⟩ = some (.slice none 0 0) from ⟨cellOfBlk F2.out 0, cellOfBlk F2.out 1, cellOfBlk F2.out 2⟩)
      have ff := F2.out.warm 2
      have HO3 : Hid (Own (w2.setCell ⟨w.heap.size + 1, 2, none⟩ (.slice (some A2) m d)) (w.heap.size + 2) (.slice (some A2) m d) cs) := own_base (HO2.out.setO _ _ (fun k hk => by have := h2t k hk; show k ≠ w.heap.size + 1; omega)) (by omega)
      have F3 : Hid (Blk (w2.setCell ⟨w.heap.size + 1, 2, none⟩ (.slice (some A2) m d)) (w.heap.size + 1) #[.string ⟨#[]⟩, .slice none 0 0, .slice (some A2) m d] 25) := heapSet (i := 2) F2.out _
      have R3 : Hid (Blk (w2.setCell ⟨w.heap.size + 1, 2, none⟩ (.slice (some A2) m d)) w.heap.size #[.string ⟨#[]⟩, .slice none 0 0, .slice none 0 0] 25) := R2.out.other _ _ (by show w.heap.size ≠ w.heap.size + 1; omega)
      have C3 : Hid (CM w (w2.setCell ⟨w.heap.size + 1, 2, none⟩ (.slice (some A2) m d)) g) := C2.out.set (by show w.heap.size ≤ w.heap.size + 1; omega) hgw _
      clear HO2 C2 R2 F2
      obtain ⟨w3, hw3⟩ : ∃ x, w2.setCell ⟨w.heap.size + 1, 2, none⟩ (.slice (some A2) m d) = x := ⟨_, rfl⟩
      rw [hw3] at HO3 F3 R3 C3
      have z3 : w2.heap.size ≤ w3.heap.size := by rw [← hw3]; simp [World.setCell]
      obtain ⟨g0, g1, g2⟩ := (show w3.cell? ⟨w.heap.size + 1, 0, none⟩ = some (.string ⟨#[]⟩) ∧ w3.cell? ⟨w.heap.size + 1, 1, none⟩ = some (.slice none 0 0) ∧ w3.cell? ⟨w.heap.size + 1, 2, none⟩ = some (.slice (some A2) m d) from ⟨cellOfBlk F3.out 0, cellOfBlk F3.out 1, cellOfBlk F3.out 2⟩)
      go_wp2
      clear hw3 f0 f1 f2 g0 g1 g2 ff
      go_loopw [50] (fun q wq => ∃ (i : Nat) (s : ByteArray) (ws : List Int) (A : Option Addr) (c' : Nat), i ≤ m ∧ q = .int .i64 i ∧ Hid (s.size = i) ∧ Hid (ws.length = i) ∧ Hid (Blk wq (w.heap.size + 1) #[.string s, .slice A i c', .slice (some A2) m d] 25) ∧ Hid (Own wq w2.heap.size (.slice A i c') ws) ∧ Hid (Own wq (w.heap.size + 2) (.slice (some A2) m d) cs) ∧ Hid (Blk wq w.heap.size #[.string ⟨#[]⟩, .slice none 0 0, .slice none 0 0] 25) ∧ Hid (CM w wq g) ∧ w2.heap.size ≤ wq.heap.size) (fun q _ => m - (intOf q).toNat)
      case atStart => exact ⟨0, ⟨#[]⟩, [], none, 0, Nat.zero_le _, rfl, rfl, rfl, F3.out, own_none _ _, HO3.out, R3.out, C3.out, by omega⟩
      case round =>
        clear F3 HO3 R3 C3
        rename World => wq
        obtain ⟨i, s, ws, A, c', hi, rfl, Hs, Hws, HF, HW, HC2, HR, HCM, hzq⟩ := hrel
        by_cases hlt : i < m
        · obtain ⟨j, hj⟩ : ∃ j, i + 1 = j := ⟨_, rfl⟩
          obtain ⟨t, ht⟩ : ∃ t, (⟨#[97, 101, 110, 111, 114, 116, 105, 46, 44, 104, 115, 100, 108, 117, 99, 109, 102, 119, 45, 103, 121, 112, 98, 118, 107, 113, 120, 106, 122, 33, 40, 41, 48, 49, 50, 51, 52, 53, 54, 55]⟩ : ByteArray).extract i j = t := ⟨_, rfl⟩
          have hts : t.size = 1 := by rw [← ht, ← hj]; exact abc_at i (by omega)
          have a1 : (i : Int) + 1 = (j : Int) := by omega
          have a2 : IntKind.i64.wrap (j : Int) = (j : Int) := by rw [IntKind.wrap_i64]; omega
          have hj40 : j ≤ 40 := by omega
          have hj41 : (j : Int) ≤ 40 := by omega
          have hss : ¬ (9223372036854775807 < s.size + 1) := by have := Hs.out; omega
          have hij : i ≤ j := by omega
          have HB0 : Hid (Blk wq.drew (w.heap.size + 1) #[.string s, .slice A i c', .slice (some A2) m d] 25) := HF.out
          go_wp2_with fail
          refine wp_region_planT 8 (.take 0 (.take 1 (.take 2 (.take 3 (.take 4 (.take 5 (.take 6 (.take 7 (.last 8))))))))) (fun w' => w'.cell? ⟨w.heap.size + 1, 0, none⟩ = some (.string s) ∧ w'.cell? ⟨w.heap.size + 1, 1, none⟩ = some (.slice A i c') ∧ w'.cell? ⟨w.heap.size + 1, 2, none⟩ = some (.slice (some A2) m d)) (by kernel_rfl) (by kernel_rfl) (by kernel_rfl) (by intro c a d v w h; cases d <;> exact h) ⟨cellOfBlk HB0.out 0, cellOfBlk HB0.out 1, cellOfBlk HB0.out 2⟩ ?_
          refine planT_quiet rfl (by rfl) (v := ?_) ?_ ?_; rotate_left; (intro w1 hSw; obtain ⟨h0, h1, h2⟩ := hSw; go_simp; try (with_reducible rfl)); (try simp only [Act.put, List.setIfInBounds_toArray, List.set_cons_zero, List.set_cons_succ])
          refine planT_quiet rfl (by rfl) (v := ?_) ?_ ?_; rotate_left; (intro w1 hSw; obtain ⟨h0, h1, h2⟩ := hSw; go_simp; try (with_reducible rfl)); (try simp only [Act.put, List.setIfInBounds_toArray, List.set_cons_zero, List.set_cons_succ])
          refine planT_quiet rfl (by rfl) (v := ?_) ?_ ?_; rotate_left; (intro w1 hSw; obtain ⟨h0, h1, h2⟩ := hSw; go_simp; try (with_reducible rfl)); (try simp only [Act.put, List.setIfInBounds_toArray, List.set_cons_zero, List.set_cons_succ])
          refine planT_quiet rfl (by rfl) (v := ?_) ?_ ?_; rotate_left; (intro w1 hSw; obtain ⟨h0, h1, h2⟩ := hSw; go_simp; try (with_reducible rfl)); (try simp only [Act.put, List.setIfInBounds_toArray, List.set_cons_zero, List.set_cons_succ])
          refine planT_quiet rfl (by rfl) (v := ?_) ?_ ?_; rotate_left; (intro w1 hSw; obtain ⟨h0, h1, h2⟩ := hSw; go_simp; try (with_reducible rfl)); (try simp only [Act.put, List.setIfInBounds_toArray, List.set_cons_zero, List.set_cons_succ])
          refine planT_quiet rfl (by rfl) (v := ?_) ?_ ?_; rotate_left; (intro w1 hSw; obtain ⟨h0, h1, h2⟩ := hSw; go_simp; try (with_reducible rfl)); (try simp only [Act.put, List.setIfInBounds_toArray, List.set_cons_zero, List.set_cons_succ])
          refine planT_quiet rfl (by rfl) (v := ?_) ?_ ?_; rotate_left; (intro w1 hSw; obtain ⟨h0, h1, h2⟩ := hSw; go_simp; try (with_reducible rfl)); (try simp only [Act.put, List.setIfInBounds_toArray, List.set_cons_zero, List.set_cons_succ])
          refine planT_quiet rfl (by rfl) (v := ?_) ?_ ?_; rotate_left; (intro w1 hSw; obtain ⟨h0, h1, h2⟩ := hSw; go_simp; try (with_reducible rfl)); (try simp only [Act.put, List.setIfInBounds_toArray, List.set_cons_zero, List.set_cons_succ])
          clear hj41 hss
          have ff := HB0.warm 0
          obtain ⟨b0, b1, b2⟩ := (show wq.drew.cell? ⟨w.heap.size + 1, 0, none⟩ = some (.string s) ∧ wq.drew.cell? ⟨w.heap.size + 1, 1, none⟩ = some (.slice A i c') ∧ wq.drew.cell? ⟨w.heap.size + 1, 2, none⟩ = some (.slice (some A2) m d) from ⟨cellOfBlk HB0 0, cellOfBlk HB0 1, cellOfBlk HB0 2⟩)
          have HF2 : Hid (Blk (wq.drew.setCell ⟨w.heap.size + 1, 0, none⟩ (.string (s ++ t))) (w.heap.size + 1) #[.string (s ++ t), .slice A i c', .slice (some A2) m d] 25) := heapSet (i := 0) HB0 _
          have HW2 : Hid (Own (wq.drew.setCell ⟨w.heap.size + 1, 0, none⟩ (.string (s ++ t))) w2.heap.size (.slice A i c') ws) := (Own.drewN HW.out 1).setO _ _ (fun k hk => by have := World.ownsRow.lt HW.out k hk; show k ≠ w.heap.size + 1; omega)
          have HC3 : Hid (Own (wq.drew.setCell ⟨w.heap.size + 1, 0, none⟩ (.string (s ++ t))) (w.heap.size + 2) (.slice (some A2) m d) cs) := (Own.drewN HC2.out 1).setO _ _ (fun k hk => by have := World.ownsRow.lt HC2.out k hk; show k ≠ w.heap.size + 1; omega)
          have HR2 : Hid (Blk (wq.drew.setCell ⟨w.heap.size + 1, 0, none⟩ (.string (s ++ t))) w.heap.size #[.string ⟨#[]⟩, .slice none 0 0, .slice none 0 0] 25) := Blk.other (w := wq.drew) HR.out _ _ (by show w.heap.size ≠ w.heap.size + 1; omega)
          have HM2 : Hid (CM w (wq.drew.setCell ⟨w.heap.size + 1, 0, none⟩ (.string (s ++ t))) g) := (CM.drew HCM.out).set (by show w.heap.size ≤ w.heap.size + 1; omega) hgw _
          obtain ⟨w4, hw4⟩ : ∃ x, wq.drew.setCell ⟨w.heap.size + 1, 0, none⟩ (.string (s ++ t)) = x := ⟨_, rfl⟩
          have z4 : wq.heap.size ≤ w4.heap.size := by rw [← hw4, setCell_size]; exact Nat.le_refl _
          rw [hw4] at HF2 HW2 HC3 HR2 HM2
          refine planT_last rfl (fun Kc hK => ?_)
          rw [if_pos (by rfl)]
          go_simp
          clear ff b0 b1 b2
          refine hK.out _ _ ?_
          clear hK Kc
          clear hw4 HF HW HC2 HR HCM HB0
          have hcw := Lib.hid (CM.drew (CM.of HM2.out.1))
          go_wp2_with fail
          refine wp_region_planT 8 (.take 0 (.take 1 (.take 2 (.one 3 (.take 4 (.one 5 (.one 6 (.take 7 (.last 8))))))))) (fun w' => w'.cell? ⟨w.heap.size + 1, 0, none⟩ = some (.string (s ++ t)) ∧ w'.cell? ⟨w.heap.size + 1, 1, none⟩ = some (.slice A i c') ∧ w'.cell? ⟨w.heap.size + 1, 2, none⟩ = some (.slice (some A2) m d)) (by kernel_rfl) (by kernel_rfl) (by kernel_rfl) (by intro c a d v w h; cases d <;> exact h) ⟨cellOfBlk HF2.out 0, cellOfBlk HF2.out 1, cellOfBlk HF2.out 2⟩ ?_
          refine planT_quiet rfl (by rfl) (v := ?_) ?_ ?_; rotate_left; (intro w1 hSw; obtain ⟨h0, h1, h2⟩ := hSw; go_simp; try (with_reducible rfl)); (try simp only [Act.put, List.setIfInBounds_toArray, List.set_cons_zero, List.set_cons_succ])
          refine planT_quiet rfl (by rfl) (v := ?_) ?_ ?_; rotate_left; (intro w1 hSw; obtain ⟨h0, h1, h2⟩ := hSw; go_simp; try (with_reducible rfl)); (try simp only [Act.put, List.setIfInBounds_toArray, List.set_cons_zero, List.set_cons_succ])
          refine planT_quiet rfl (by rfl) (v := ?_) ?_ ?_; rotate_left; (intro w1 hSw; obtain ⟨h0, h1, h2⟩ := hSw; go_simp; try (with_reducible rfl)); (try simp only [Act.put, List.setIfInBounds_toArray, List.set_cons_zero, List.set_cons_succ])
          refine planT_step rfl (fun Kc hK => ?_)
          rw [if_pos (by rfl)]
          go_simp
          refine (below_cm w4 g _ _ (by omega) hcw.out).mono ?_
          rintro e w5 ⟨x5, rfl, hx5, hc5, hm5'⟩
          have hm5 := hc5.2
          have HF5 := Lib.hid (HF2.out.moved hm5 (by omega)); have HW5 := Lib.hid (HW2.out.grown_lt hm5 (fun k hk => by injection hk with hk; omega)); have HC5 := Lib.hid (HC3.out.grown_lt hm5 (fun k hk => by injection hk with hk; omega)); have HR5 := Lib.hid (HR2.out.moved hm5 (by omega)); have HM5 := Lib.hid (HM2.out.trans hc5)
          have z5 : w4.heap.size ≤ w5.heap.size := hm5.size
          obtain ⟨y5, hy5⟩ : ∃ y, 1 + x5 = y := ⟨_, rfl⟩
          have e5 : (1 : Int) + (x5 : Int) = (y5 : Int) := by omega
          have e6 : IntKind.i64.wrap (y5 : Int) = (y5 : Int) := by rw [IntKind.wrap_i64]; omega
          clear hc5 hm5 hm5' HF2 HW2 HC3 HR2 HM2 hcw hy5
          refine hK.out _ _ ⟨cellOfBlk HF5.out 0, cellOfBlk HF5.out 1, cellOfBlk HF5.out 2⟩ ?_
          clear hK Kc
          refine planT_quiet rfl (by rfl) (v := ?_) ?_ ?_; rotate_left; (intro w1 hSw; obtain ⟨h0, h1, h2⟩ := hSw; go_simp; try (with_reducible rfl)); (try simp only [Act.put, List.setIfInBounds_toArray, List.set_cons_zero, List.set_cons_succ])
          refine planT_step rfl (fun Kc hK => ?_)
          rw [if_pos (by rfl)]
          go_simp
          have hE6 : Below w5.heap.size w5 (w5.alloc (.cells #[.int .i64 (y5 : Int)] 3)) := below_new _ _
          have I6 : Hid (Ints (w5.alloc (.cells #[.int .i64 (y5 : Int)] 3)) (some ⟨w5.heap.size, 0, none⟩) [(y5 : Int)]) := (lit_ints w5 [(y5 : Int)]).ints
          have HF6 := Lib.hid (HF5.out.below hE6 (by omega)); have HW6 := Lib.hid (HW5.out.below hE6); have HC6 := Lib.hid (HC5.out.below hE6); have HR6 := Lib.hid (HR5.out.below hE6 (by omega)); have HM6 := Lib.hid (HM5.out.step hE6)
          obtain ⟨w6, hw6⟩ : ∃ x, w5.alloc (.cells #[.int .i64 (y5 : Int)] 3) = x := ⟨_, rfl⟩
          have z6 : w5.heap.size ≤ w6.heap.size := by rw [← hw6]; exact hE6.size
          rw [hw6] at I6 HF6 HW6 HC6 HR6 HM6 ⊢
          clear hE6 hw6 e5 e6 HF5 HW5 HC5 HR5 HM5
          refine hK.out _ _ ⟨cellOfBlk HF6.out 0, cellOfBlk HF6.out 1, cellOfBlk HF6.out 2⟩ ?_
          clear hK Kc
          refine planT_step rfl (fun Kc hK => ?_)
          refine step_app_any (by rfl) (.tmp 62) (.tmp 66) rfl w2.heap.size (.slice A i c') ws [(y5 : Int)] (some ⟨w5.heap.size, 0, none⟩) 1 1 (by simp [Act.eval]) (by simp [Act.eval]) rfl I6.out HW6.out (by omega) (by rw [Hws.out]; simp; omega) ?_
          intro v7 w7 hO7 hg7
          have hl7 : (ws ++ [(y5 : Int)]).length = j := by rw [List.length_append, Hws.out]; simp; exact hj
          obtain ⟨A7, c7, rfl, -, -, -, -⟩ := hO7.form
          rw [hl7] at hO7 ⊢
          have HF7 := Lib.hid (HF6.out.grownO hg7 (fun e => by have := World.ownsRow.lt HW6.out _ e; omega)); have HR7 := Lib.hid (HR6.out.grownO hg7 (fun e => by have := World.ownsRow.lt HW6.out _ e; omega)); have HC7 := Lib.hid (HC6.out.grownO hg7 (fun k hk e => by have h1 := World.ownsRow.lt HW6.out _ e; have h2 : A2.block = k := (by injection hk); omega))
          have HM7 : Hid (CM w w7 g) := HM6.out.belowB ((Below.refl w.heap.size w6).grown hg7 (by omega) (fun k hk => by have := (World.ownsRow.lt HW6.out k hk).1; omega)) (Nat.le_refl _) hgw
          have z7 : w6.heap.size ≤ w7.heap.size := hg7.size
          have HO7 := Lib.hid hO7; have Hl7 := Lib.hid hl7
          clear hO7 hg7 hl7 HF6 HW6 HC6 HR6 HM6 I6
          refine hK.out _ _ ⟨cellOfBlk HF7.out 0, cellOfBlk HF7.out 1, cellOfBlk HF7.out 2⟩ ?_
          clear hK Kc
          refine planT_quiet rfl (by rfl) (v := ?_) ?_ ?_; rotate_left; (intro w1 hSw; obtain ⟨h0, h1, h2⟩ := hSw; go_simp; try (with_reducible rfl)); (try simp only [Act.put, List.setIfInBounds_toArray, List.set_cons_zero, List.set_cons_succ])
          have ff := HF7.out.warm 1
          obtain ⟨b0, b1, b2⟩ := (show w7.cell? ⟨w.heap.size + 1, 0, none⟩ = some (.string (s ++ t)) ∧ w7.cell? ⟨w.heap.size + 1, 1, none⟩ = some (.slice A i c') ∧ w7.cell? ⟨w.heap.size + 1, 2, none⟩ = some (.slice (some A2) m d) from ⟨cellOfBlk HF7.out 0, cellOfBlk HF7.out 1, cellOfBlk HF7.out 2⟩)
          have HF8 : Hid (Blk (w7.setCell ⟨w.heap.size + 1, 1, none⟩ (.slice A7 j c7)) (w.heap.size + 1) #[.string (s ++ t), .slice A7 j c7, .slice (some A2) m d] 25) := heapSet (i := 1) HF7.out _
          have HW8 : Hid (Own (w7.setCell ⟨w.heap.size + 1, 1, none⟩ (.slice A7 j c7)) w2.heap.size (.slice A7 j c7) (ws ++ [(y5 : Int)])) := HO7.out.setO _ _ (fun k hk => by have := World.ownsRow.lt HO7.out k hk; show k ≠ w.heap.size + 1; omega)
          have HC8 : Hid (Own (w7.setCell ⟨w.heap.size + 1, 1, none⟩ (.slice A7 j c7)) (w.heap.size + 2) (.slice (some A2) m d) cs) := HC7.out.setO _ _ (fun k hk => by have := World.ownsRow.lt HC7.out k hk; show k ≠ w.heap.size + 1; omega)
          have HR8 : Hid (Blk (w7.setCell ⟨w.heap.size + 1, 1, none⟩ (.slice A7 j c7)) w.heap.size #[.string ⟨#[]⟩, .slice none 0 0, .slice none 0 0] 25) := HR7.out.other _ _ (by show w.heap.size ≠ w.heap.size + 1; omega)
          have HM8 : Hid (CM w (w7.setCell ⟨w.heap.size + 1, 1, none⟩ (.slice A7 j c7)) g) := HM7.out.set (by show w.heap.size ≤ w.heap.size + 1; omega) hgw _
          obtain ⟨w8, hw8⟩ : ∃ x, w7.setCell ⟨w.heap.size + 1, 1, none⟩ (.slice A7 j c7) = x := ⟨_, rfl⟩
          have z8 : w7.heap.size ≤ w8.heap.size := by rw [← hw8, setCell_size]; exact Nat.le_refl _
          rw [hw8] at HF8 HW8 HC8 HR8 HM8
          refine planT_last rfl (fun Kc hK => ?_)
          rw [if_pos (by rfl)]
          go_simp
          clear ff b0 b1 b2
          refine hK.out _ _ ?_
          clear hK Kc hw8 HF7 HO7 HC7 HR7 HM7
          have hst : (s ++ t).size = j := by rw [ByteArray.size_append, hts, Hs.out]; exact hj
          have Hst := Lib.hid hst
          clear hst ht
          go_wp2
          go_roundw
          case rel => exact ⟨j, s ++ t, ws ++ [(y5 : Int)], A7, c7, by omega, by go_num, Hst.out, Hl7.out, HF8.out, HW8.out, HC8.out, HR8.out, HM8.out, by omega⟩
          case measure => simp [intOf]; omega
        · have him : i = m := by omega
          subst him
          obtain ⟨A1, rfl⟩ : ∃ x, A = some x := by
            rcases HW.out.2 with ⟨hv, hz⟩ | ⟨gg, cap, cur, hv, _⟩
            · have := Hws.out; omega
            · injection hv with e1 e2 e3; exact ⟨_, e1⟩
          have hne : A1.block ≠ A2.block := by have := World.ownsRow.lt HW.out A1.block rfl; omega
          obtain ⟨b0, b1, b2⟩ := (show wq.cell? ⟨w.heap.size + 1, 0, none⟩ = some (.string s) ∧ wq.cell? ⟨w.heap.size + 1, 1, none⟩ = some (.slice (some A1) i c') ∧ wq.cell? ⟨w.heap.size + 1, 2, none⟩ = some (.slice (some A2) i d) from ⟨cellOfBlk HF.out 0, cellOfBlk HF.out 1, cellOfBlk HF.out 2⟩)
          have ff := HR.out.warm
          obtain ⟨q0, q1, q2⟩ := (show wq.cell? ⟨w.heap.size, 0, none⟩ = some (.string ⟨#[]⟩) ∧ wq.cell? ⟨w.heap.size, 1, none⟩ = some (.slice none 0 0) ∧ wq.cell? ⟨w.heap.size, 2, none⟩ = some (.slice none 0 0) from ⟨cellOfBlk HR.out 0, cellOfBlk HR.out 1, cellOfBlk HR.out 2⟩)
          obtain ⟨y, hy⟩ : ∃ x, (((wq.setCell ⟨w.heap.size, 0, none⟩ (.string s)).setCell ⟨w.heap.size, 1, none⟩ (.slice (some A1) i c')).setCell ⟨w.heap.size, 2, none⟩ (.slice (some A2) i d)) = x := ⟨_, rfl⟩
          have HR4 : Blk y w.heap.size #[.string s, .slice (some A1) i c', .slice (some A2) i d] 25 := by rw [← hy]; exact (heapSet (i := 2) (heapSet (i := 1) (heapSet (i := 0) HR.out (.string s)) (.slice (some A1) i c')) (.slice (some A2) i d))
          have HW4 : Hid (Own y w2.heap.size (.slice (some A1) i c') ws) := by show Own _ _ _ _; rw [← hy]; exact (((HW.out.setO ⟨w.heap.size, 0, none⟩ (.string s) (fun k hk => by have := World.ownsRow.lt HW.out k hk; show k ≠ w.heap.size; omega)).setO ⟨w.heap.size, 1, none⟩ (.slice (some A1) i c') (fun k hk => by have := World.ownsRow.lt HW.out k hk; show k ≠ w.heap.size; omega)).setO ⟨w.heap.size, 2, none⟩ (.slice (some A2) i d) (fun k hk => by have := World.ownsRow.lt HW.out k hk; show k ≠ w.heap.size; omega))
          have HC4 : Hid (Own y (w.heap.size + 2) (.slice (some A2) i d) cs) := by show Own _ _ _ _; rw [← hy]; exact (((HC2.out.setO ⟨w.heap.size, 0, none⟩ (.string s) (fun k hk => by have := World.ownsRow.lt HC2.out k hk; show k ≠ w.heap.size; omega)).setO ⟨w.heap.size, 1, none⟩ (.slice (some A1) i c') (fun k hk => by have := World.ownsRow.lt HC2.out k hk; show k ≠ w.heap.size; omega)).setO ⟨w.heap.size, 2, none⟩ (.slice (some A2) i d) (fun k hk => by have := World.ownsRow.lt HC2.out k hk; show k ≠ w.heap.size; omega))
          have HM4 : Hid (CM w y g) := by show CM _ _ _; rw [← hy]; exact (((HCM.out.set (p := ⟨w.heap.size, 0, none⟩) (Nat.le_refl _) hgw (.string s)).set (p := ⟨w.heap.size, 1, none⟩) (Nat.le_refl _) hgw (.slice (some A1) i c')).set (p := ⟨w.heap.size, 2, none⟩) (Nat.le_refl _) hgw (.slice (some A2) i d))
          have HR5 := Lib.hid HR4
          have Hne := Lib.hid hne
          clear HR4 hne HF HR HW HC2 HCM
          go_wp2
          clear hy b0 b1 b2 q0 q1 q2 ff
          obtain ⟨r0, r1, r2⟩ := (show y.cell? ⟨w.heap.size, 0, none⟩ = some (.string s) ∧ y.cell? ⟨w.heap.size, 1, none⟩ = some (.slice (some A1) i c') ∧ y.cell? ⟨w.heap.size, 2, none⟩ = some (.slice (some A2) i d) from ⟨cellOfBlk HR5.out 0, cellOfBlk HR5.out 1, cellOfBlk HR5.out 2⟩)
          (try simp only [Exit.inBlock, Exit.then])
          refine bodyPost_ret (v := .agg #[.string s, .slice (some A1) i c', .slice (some A2) i d]) (by simp [results, Tryd.results89, go_sem, r0, r1, r2]) rfl ?_
          exact ⟨s, A1, A2, c', d, i, ws, cs, rfl, Hs.out, Hws.out, HL.out, hm1, by omega, own_base HW4.out (by omega), own_base HC4.out (by omega), Hne.out, HM4.out, HBD.out⟩
theorem l2Font_any (g M : Nat) (w : World) (hc : Cur w g) (hM1 : 1 ≤ M) (hM2 : M ≤ 20) :
    Calls Tryd.prog 89 #[.pointer (some ⟨g, 0, none⟩), .int .i64 M] w fun e w' => ∃ (s : ByteArray) (A A2 : Addr) (c d n : Nat) (ws cs : List Int), e = .returned (.agg #[.string s, .slice (some A) n c, .slice (some A2) n d]) ∧ s.size = n ∧ ws.length = n ∧ cs.length = n ∧ 1 ≤ n ∧ n ≤ M ∧ Own w' w.heap.size (.slice (some A) n c) ws ∧ Own w' w.heap.size (.slice (some A2) n d) cs ∧ A.block ≠ A2.block ∧ CM w w' g :=
  (l2FontW_any g M w hc hM1 hM2).mono fun e w' ⟨s, A, A2, c, d, n, ws, cs, h1, h2, h3, h4, h5, h6, h7, h8, h9, h10, _⟩ => ⟨s, A, A2, c, d, n, ws, cs, h1, h2, h3, h4, h5, h6, h7, h8, h9, h10⟩
end Go.Proofs.YtdijlofcgcikjaaDoor
