/-
  The draws that the laws of chapter 2 call: whatever the bytes, they return a bar of at most 42 numbers in memory of their own. Condition: the bytes are within a slice's reach.
-/
import Derived.Test.YtpgokcilnejolaaDraw2
namespace Go.Proofs.Ytpgokcilnejolaa
open Go.RowKit
set_option linter.unusedVariables false

set_option maxRecDepth 100000 in
set_option maxHeartbeats 3200000 in
theorem l1Any_any (g : Nat) (w : World) (hc : Cur w g) :
    Calls Try.prog 62 #[.pointer (some ⟨g, 0, none⟩)] w fun e w' => ∃ v zs, e = .returned v ∧ Own w' w.heap.size v zs ∧ zs.length ≤ 42 ∧ CM w w' g := by
  have hgw := hc.lt
  have HC := Lib.hid hc; clear hc
  go_enter Try.func62, Try.ntmps62
  go_wp2_with fail
  refine (l1Draw_any g _ HC.out).mono ?_
  rintro e w1 ⟨v, zs, rfl, hO1, hz1, hz2, hc1⟩
  obtain ⟨gb, m, c, rfl, hm, hgb, hmc, hcm, hO1', _⟩ := own_form2 hO1 (by omega)
  have hm1 : 1 ≤ m := by omega
  have hm2 : m ≤ 11 := by omega
  have Hm := Lib.hid hm
  have HO1 := Lib.hid hO1'; have HC1 := Lib.hid hc1
  clear hO1 hO1' hc1 hz1 hz2 hm
  go_wp2_with fail
  refine (below_cm w g _ _ (by omega) HC1.out).mono ?_
  rintro e w2 ⟨k, rfl, hk, hc2, hm2'⟩
  have HO2 := Lib.hid (HO1.out.grown_lt hm2' (fun k hk => by injection hk with hk; omega))
  have HC2 := Lib.hid hc2
  clear HO1 HC1 hc2 hm2'
  by_cases h0 : k = 0
  · have hb0 : ((k : Int) == 0) = true := by simp; omega
    clear h0
    go_wp2_with fail
    refine (below_cm w2 g _ _ (by omega) (CM.of HC2.out.1)).mono ?_
    rintro e w3 ⟨j, rfl, hj, hc3, -⟩
    go_wp2_with fail
    refine (l1Teeth_cm w2 g _ hc3).mono ?_
    rintro e w4 ⟨x, rfl, hc4, -⟩
    have HO4 := Lib.hid (HO2.out.grown_lt hc4.2 (fun k hk => by injection hk with hk; omega))
    have hjm : j < m := by omega
    obtain ⟨⟨y, hd⟩, hf, hst⟩ := own_store HO4.out Hm.out hjm
    have HST := Lib.hid (hst x)
    have HCF : Hid (CM w (w4.setCell ⟨gb, j, none⟩ (.int .i64 x)) g) :=
      ⟨hc4.1.set_other (by show g < gb; omega) _, (HC2.out.2.trans hc4.2).set_new (by exact hgb) _⟩
    clear hst hc3 hc4
    go_wp2
    go_ret
    exact ⟨_, zs.set j x, rfl, HST.out, by rw [List.length_set, Hm.out]; omega, HCF.out⟩
  have hb0 : ((k : Int) == 0) = false := by simp; omega
  by_cases h1 : k = 1
  · have hb1 : ((k : Int) == 1) = true := by simp; omega
    clear h0 h1
    go_wp2
    go_ret
    exact ⟨_, [], rfl, World.ownsRow_nil _ _ _ _, by simp, HC2.out⟩
  have hb1 : ((k : Int) == 1) = false := by simp; omega
  by_cases h2 : k = 2
  · have hb2 : ((k : Int) == 2) = true := by simp; omega
    clear h0 h1 h2
    have hsz2 := HC2.out.2.size
    go_wp2
    go_loopw [3] (fun v wr => ∃ (ys : List Int) (m' gr c' : Nat), v = .slice (some ⟨gr, 0, none⟩) m' c' ∧ ys.length = m' ∧ 1 ≤ m' ∧ m' ≤ 42 ∧ m' ≤ c' ∧ c' ≤ maxLen ∧ Own wr w.heap.size (.slice (some ⟨gr, 0, none⟩) m' c') ys ∧ CM w wr g) (fun v _ => 42 - lenOf v)
    case atStart => exact ⟨zs, m, gb, c, rfl, Hm.out, hm1, by omega, hmc, hcm, HO2.out, HC2.out⟩
    case round =>
      clear HO2 HC2 Hm hm1 hm2 hmc hcm
      obtain ⟨ys, m', gr, c', rfl, hl, hm1, hm2, hmc, hcm, hO, hC⟩ := hrel
      have Hl := Lib.hid hl; have HO := Lib.hid hO; have HC := Lib.hid hC
      have hszr := hC.2.size
      clear hl hO hC
      by_cases hlt : m' < 42
      · go_wp2_with (at_builtin; refine wpl_push _ rfl (.tmp 25) (.tmp 28) rfl w.heap.size _ ys (m' : Int) rfl rfl HO.out hszr (by rw [Hl.out]; omega) ?_; intro v2 w5 hO5 hb5; obtain ⟨g5, m5, c5, rfl, hm5, hg5, hmc5, hcm5, hO5', hr5⟩ := own_form2 hO5 (by simp))
        have hm6 : m5 = m' + 1 := by rw [← hm5, List.length_append, Hl.out]; rfl
        subst hm6
        go_roundw
        case rel => exact ⟨ys ++ [(m' : Int)], m' + 1, g5, c5, rfl, hm5, by omega, by omega, hmc5, hcm5, hO5', ⟨HC.out.1.belowB hb5 hgw, HC.out.2.below_base hb5 (Nat.le_refl _)⟩⟩
        case measure => simp [lenOf]; omega
      · have hm42 : m' = 42 := by omega
        subst hm42
        go_wp2_with fail
        refine (below_cm w g _ _ (by omega) HC.out).mono ?_
        rintro e w5 ⟨j, rfl, hj, hc5, hmv⟩
        have HO5 := Lib.hid (HO.out.grown_lt hmv (fun k hk => by injection hk with hk; omega))
        have HC5 := Lib.hid hc5
        unfold maxLen at hcm
        clear hc5 hmv
        go_wp2
        go_ret
        exact ⟨_, ys.take (39 + j), rfl, own_take HO5.out Hl.out (by omega) ⟨_, rfl⟩, by rw [List.length_take, Hl.out]; omega, HC5.out⟩
  have hb2 : ((k : Int) == 2) = false := by simp; omega
  clear h0 h1 h2
  go_wp2
  go_ret
  exact ⟨_, zs, rfl, HO2.out, by rw [Hm.out]; omega, HC2.out⟩

theorem row_at {w w' : World} {B g n c gb k : Nat} {zs : List Int} (h : w.ownsRow B 3 1 (.slice (some ⟨gb, 0, none⟩) n c) n (zs.map (Value.int .i64))) (hm : Moved w w' g) (hB : B ≤ gb) (hg : g < B) (hlen : zs.length = n) (hk : k < n) :
    ∃ y, zs[k]? = some y ∧ w'.cell? ⟨gb, k, none⟩ = some (.int .i64 y) := by
  refine ⟨zs[k]'(by omega), List.getElem?_eq_getElem (by omega), ?_⟩
  have hc : w.cell? ⟨gb, k, none⟩ = some (.int .i64 (zs[k]'(by omega))) := (h.cellAt k (by omega)).trans (by rw [List.getElem?_map, List.getElem?_eq_getElem (by omega)]; rfl)
  exact hm.cell hc (by intro e; injection e with e; have : gb = g := e; omega)
theorem own_form3 {w : World} {B : Nat} {v : Value} {zs : List Int} (h : Own w B v zs) :
    ∃ A n c, v = .slice A n c ∧ zs.length = n ∧ Own w B (.slice A n c) zs ∧ n ≤ c ∧ c ≤ maxLen := by
  obtain ⟨A, c, rfl, hI, _, h1, h2⟩ := h.form
  exact ⟨A, zs.length, c, rfl, rfl, h, h1, h2⟩
set_option maxHeartbeats 3200000 in
theorem drawFall_any (A : Option Addr) (n c : Nat) (bs : List Int) (w : World) (hn : bs.length = n) (hm : n ≤ maxLen) (h : Bytes w A bs) (wf : ∀ z ∈ bs, (Lit.int .u8 z).wf = true) :
    Calls Try.prog 26 #[.slice A n c] w fun e w' => ∃ (A' : Option Addr) (n' c' : Nat) (zs : List Int) (s : Int), e = .returned (.tuple #[.slice A' n' c', .int .i64 s]) ∧ Own w' w.heap.size (.slice A' n' c') zs ∧ zs.length = n' ∧ n' ≤ 42 ∧ n' ≤ c' ∧ c' ≤ maxLen ∧ Below w.heap.size w w' := by
  have H := Lib.hid h; have Hn := Lib.hid hn; have Hwf := Lib.hid wf
  clear h hn wf
  go_enter Try.func26, Try.ntmps26
  go_wp2_with fail
  refine (l01New_any _ _ _ bs _ Hn.out hm H.out Hwf.out).mono ?_
  rintro e w1 ⟨rfl, hc1, hb1, hs1⟩
  have HB1 := Lib.hid hb1; have HS1 := Lib.hid hs1; have HC1 := Lib.hid hc1
  have hsz1 : w.heap.size < w1.heap.size := by omega
  clear hc1 hb1 hs1
  go_wp2_with fail
  refine (l1Any_any _ _ HC1.out).mono ?_
  rintro e w2 ⟨v, zs, rfl, hO2, hz, hc2⟩
  obtain ⟨A2, n2, c2, rfl, hn2, hO2', hnc2, hcm2⟩ := own_form3 hO2
  have hn42 : n2 ≤ 42 := by omega
  have HN2 := Lib.hid hn2; have HO2 := Lib.hid hO2'; have HC2 := Lib.hid hc2
  clear hO2 hO2' hn2 hz hc2
  go_wp2_with fail
  refine (l1Teeth_cm w2 _ _ (CM.of HC2.out.1)).mono ?_
  rintro e w3 ⟨s, rfl, hc3, -⟩
  have HO3 := Lib.hid (HO2.out.grown_lt hc3.2 (fun k hk => by injection hk with hk; omega))
  have HC3 : Hid (CM w1 w3 w.heap.size) := ⟨hc3.1, HC2.out.2.trans hc3.2⟩
  clear hc3 HC2
  by_cases hpos : 0 < n2
  · go_wp2_with fail
    refine (once_cm w3 _ _ _ (CM.of HC3.out.1)).mono ?_
    rintro e w4 ⟨b, rfl, hc4, -⟩
    have HO4 := Lib.hid (HO3.out.grown_lt hc4.2 (fun k hk => by injection hk with hk; omega))
    have HC4 : Hid (CM w1 w4 w.heap.size) := ⟨hc4.1, HC3.out.2.trans hc4.2⟩
    have hsz4 : w1.heap.size ≤ w4.heap.size := HC4.out.2.size
    clear hc4 HC3 HO3
    cases b
    · go_wp2
      go_ret2
      exact ⟨_, _, _, zs, s, rfl, own_base HO4.out (by omega), HN2.out, hn42, hnc2, hcm2, cm_below HB1.out HS1.out HC4.out⟩
    · have hcc4 := CM.of HC4.out.1
      have tok1 : True := trivial
      have tok2 : True := trivial
      obtain ⟨gb, m, cc, hv, hm2, hgb, _, _, _, hrow⟩ := own_form2 HO4.out (by rw [HN2.out]; exact hpos)
      injection hv with e1 e2 e3
      subst e1; subst e2; subst e3
      have HROW := Lib.hid hrow
      clear hrow hm2
      go_wp2
      go_region_with ((first
          | (clear tok1; go_at_call 65; refine (below_cm w4 _ _ _ (by omega) (by first | assumption | exact CM.drew (by assumption))).mono ?_; rintro e wa ⟨xa, rfl, hxa, hca, -⟩; obtain ⟨y, hy, hya⟩ := row_at HROW.out hca.2 hgb (by omega) HN2.out (show xa < n2 by omega))
          | (clear tok2; go_at_call 65; refine (below_cm w4 _ _ _ (by omega) (by first | assumption | exact CM.drew (by assumption))).mono ?_; rintro e wb ⟨xb, rfl, hxb, hcb, -⟩; obtain ⟨y', hy', hyb⟩ := row_at HROW.out hcb.2 hgb (by omega) HN2.out (show xa < n2 by omega))))
      all_goals
        go_wp2
        go_ret2
        have HO5 := HO4.out.grown_lt hcb.2 (fun k hk => by injection hk with hk; omega)
        exact ⟨_, _, _, zs, _, rfl, own_base HO5 (by omega), HN2.out, hn42, hnc2, hcm2, cm_below HB1.out HS1.out ⟨hcb.1, HC4.out.2.trans hcb.2⟩⟩
  · go_wp2
    go_ret2
    have hsz3 : w1.heap.size ≤ w3.heap.size := HC3.out.2.size
    exact ⟨_, _, _, zs, s, rfl, own_base HO3.out (by omega), HN2.out, hn42, hnc2, hcm2, cm_below HB1.out HS1.out HC3.out⟩
end Go.Proofs.Ytpgokcilnejolaa
