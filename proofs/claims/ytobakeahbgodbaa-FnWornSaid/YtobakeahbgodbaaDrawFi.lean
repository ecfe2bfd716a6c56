/-
  The draw of a magazine to be filled: whatever the bytes, a font of at most 24 letters and a small number, in memory of its own. No condition.
-/
import Derived.Test.YtobakeahbgodbaaDrawFa
namespace Go.Proofs.Ytobakeahbgodbaa
open Go.RowKit
set_option linter.unusedVariables false

/-- the font of a draw is a font in memory of the call's own -/
theorem FDraw.font {w w' : World} {g B : Nat} {v : Value} {s : ByteArray} {ws cs : List Int} (h : FDraw w w' g v s ws cs) (hB : B ≤ w.heap.size) :
    FontV w' B w'.heap.size v ⟨s, ws, cs⟩ ∧ Small ⟨s, ws, cs⟩ := by
  obtain ⟨A, n, c, A2, m, d, rfl, hs, hw, hn, hc, hm, h1, h2, -⟩ := h
  subst hw; subst hc
  exact ⟨⟨A, c, A2, d, rfl, (IntsI.of_own (own_base h1 hB)), (IntsI.of_own (own_base h2 hB)), (own_caps h1).1, (own_caps h1).2, (own_caps h2).1, (own_caps h2).2, by show s.size ≤ maxLen; unfold maxLen; omega⟩, by show s.size ≤ 1048576; omega, by show ws.length ≤ 1048576; omega, by show cs.length ≤ 1048576; omega⟩
theorem FDraw.small {w w' : World} {g : Nat} {v : Value} {s : ByteArray} {ws cs : List Int} (h : FDraw w w' g v s ws cs) : s.size ≤ 24 ∧ ws.length ≤ 24 ∧ cs.length ≤ 24 := by
  obtain ⟨A, n, c, A2, m, d, rfl, hs, hw, hn, hc, hm, h1, h2, -⟩ := h
  omega
theorem bytes_below {w w' : World} {A : Option Addr} {zs : List Int} (h : Bytes w A zs) (hb : Below w.heap.size w w') : Bytes w' A zs := fun hn => by
  obtain ⟨ad, e, hl, hc⟩ := (h.toB.keep (fun p hp => hb.cell hp)) hn
  exact ⟨ad, e, hc⟩
def fillsA : List Int := [0, 1, 2, 5, 20, 21, -1]

set_option maxRecDepth 100000 in
set_option maxHeartbeats 3200000 in
theorem drawFill_any (A : Option Addr) (n c : Nat) (bs : List Int) (w : World) (hn : bs.length = n) (hm : n ≤ maxLen) (h : Bytes w A bs) (wf : ∀ z ∈ bs, (Lit.int .u8 z).wf = true) :
    Calls Try.prog 16 #[.slice A n c] w fun e w' => ∃ v f E, e = .returned (.tuple #[v, .int .i64 E]) ∧ FontV w' w.heap.size w'.heap.size v f ∧ f.s.size ≤ 24 ∧ f.ws.length ≤ 24 ∧ f.cs.length ≤ 24 ∧ E ∈ fillsA ∧ Below w.heap.size w w' := by
  have Hn := Lib.hid hn; have Hwf := Lib.hid wf
  obtain ⟨w0, hw0, hb0, hz0, hR0⟩ := mxWorld w #[.string ⟨#[]⟩, .slice none 0 0, .slice none 0 0] 25
  have H := Lib.hid (bytes_below h hb0)
  have T0 := Lib.hid hb0; have R0 := Lib.hid hR0
  clear hn wf h hb0 hR0
  go_enter Try.func16, Try.ntmps16
  go_wp2_with fail
  clear hw0
  refine (l01New_any _ _ _ bs _ Hn.out hm H.out Hwf.out).mono ?_
  rintro e w1 ⟨rfl, hc1, hb1, hs1⟩
  obtain ⟨g, hg⟩ : ∃ g, w0.heap.size = g := ⟨_, rfl⟩
  rw [hg] at hc1 hs1
  have hwg : w.heap.size < g := by omega
  have R1 := Lib.hid (R0.out.below hb1 (by omega))
  have T1 := Lib.hid (T0.out.trans (hb1.mono (by omega))); have HC1 := Lib.hid hc1
  rw [hg]
  clear hb1 hc1 R0 T0 hg hz0
  go_wp2_with fail
  refine (l2Any_any g w1 HC1.out).mono ?_
  rintro e w2 ⟨v, s, ws, cs, rfl, hF⟩
  obtain ⟨A1, m1, c1, A2, m2, d2, rfl, hs24, hw1, hm1, hc2, hm2, hO1, hO2, hcm⟩ := hF
  have hm0 := hcm.2
  have R2 := Lib.hid (R1.out.moved hm0 (by omega))
  have T2 := Lib.hid (T1.out.trans (hm0.below (by omega) (by omega)))
  have O1 := Lib.hid hO1; have O2 := Lib.hid hO2; have C2 := Lib.hid hcm; have HW := Lib.hid hw1; have HC := Lib.hid hc2
  clear hO1 hO2 hcm hm0 R1 T1 HC1 hw1 hc2
  obtain ⟨w3, hw3⟩ : ∃ x, w2.alloc (.cells #[.int .i64 0, .int .i64 1, .int .i64 2, .int .i64 5, .int .i64 20, .int .i64 21, .int .i64 (-1)] 3) = x := ⟨_, rfl⟩
  have L3 : Hid (IntsB w3 (w2.heap.size + 1) (some ⟨w2.heap.size, 0, none⟩) fillsA) := by show IntsB _ _ _ _; rw [← hw3]; exact lit_ints w2 fillsA
  have hb3 : Below w2.heap.size w2 w3 := by rw [← hw3]; exact below_new _ _
  have hz2 : w1.heap.size ≤ w2.heap.size := C2.out.2.size
  have hz3 := hb3.size
  have R3 := Lib.hid (R2.out.below hb3 (by omega)); have T3 := Lib.hid (T2.out.trans (hb3.mono (by omega)))
  have P1 := Lib.hid (O1.out.below hb3); have P2 := Lib.hid (O2.out.below hb3); have C3 := Lib.hid (C2.out.step hb3)
  clear R2 T2 O1 O2 C2 hb3
  go_wp2_with fail
  clear hw3
  refine (l01Int_any g (some ⟨w2.heap.size, 0, none⟩) 7 7 (w2.heap.size + 1) fillsA w3 C3.out.1 rfl (by unfold maxLen; omega) (by omega) L3.out (fun ad had => by injection had with had; subst had; show w2.heap.size ≠ g; omega)).mono ?_
  rintro e w4 ⟨E, rfl, hE, hcu, ht⟩
  have hm4 := ht.moved
  have hz4 := hm4.size
  have R4 := Lib.hid (R3.out.moved hm4 (by omega)); have T4 := Lib.hid (T3.out.trans (hm4.below (by omega) (by omega)))
  have Q1 := Lib.hid (P1.out.grown_lt hm4 (fun k hk => by have e9 : g = k := (by injection hk); omega)); have Q2 := Lib.hid (P2.out.grown_lt hm4 (fun k hk => by have e9 : g = k := (by injection hk); omega))
  have HE := Lib.hid hE
  clear hcu ht hm4 R3 T3 P1 P2 C3 L3 hE
  have ff := R4.out.warm
  obtain ⟨q0, q1, q2⟩ := (show w4.cell? ⟨w.heap.size, 0, none⟩ = some (.string ⟨#[]⟩) ∧ w4.cell? ⟨w.heap.size, 1, none⟩ = some (.slice none 0 0) ∧ w4.cell? ⟨w.heap.size, 2, none⟩ = some (.slice none 0 0) from ⟨cellOfBlk R4.out 0, cellOfBlk R4.out 1, cellOfBlk R4.out 2⟩)
  obtain ⟨y, hy⟩ : ∃ x, ((w4.setCell ⟨w.heap.size, 0, none⟩ (.string s)).setCell ⟨w.heap.size, 1, none⟩ (.slice A1 m1 c1)).setCell ⟨w.heap.size, 2, none⟩ (.slice A2 m2 d2) = x := ⟨_, rfl⟩
  have ne1 : ∀ k, (Value.slice A1 m1 c1).ownBlock = some k → k ≠ w.heap.size := fun k hk => by have := (World.ownsRow.lt Q1.out k hk).1; omega
  have ne2 : ∀ k, (Value.slice A2 m2 d2).ownBlock = some k → k ≠ w.heap.size := fun k hk => by have := (World.ownsRow.lt Q2.out k hk).1; omega
  have HR : Hid (Blk y w.heap.size #[.string s, .slice A1 m1 c1, .slice A2 m2 d2] 25) := by show Blk _ _ _ _; rw [← hy]; exact heapSet (i := 2) (heapSet (i := 1) (heapSet (i := 0) R4.out _) _) _
  have S1 : Hid (Own y w1.heap.size (.slice A1 m1 c1) ws) := by show Own _ _ _ _; rw [← hy]; exact ((Q1.out.setO _ _ ne1).setO _ _ ne1).setO _ _ ne1
  have S2 : Hid (Own y w1.heap.size (.slice A2 m2 d2) cs) := by show Own _ _ _ _; rw [← hy]; exact ((Q2.out.setO _ _ ne2).setO _ _ ne2).setO _ _ ne2
  have TY : Hid (Below w.heap.size w y) := by show Below _ _ _; rw [← hy]; exact ((T4.out.setCell (p := ⟨w.heap.size, 0, none⟩) (Nat.le_refl _) _).setCell (p := ⟨w.heap.size, 1, none⟩) (Nat.le_refl _) _).setCell (p := ⟨w.heap.size, 2, none⟩) (Nat.le_refl _) _
  clear R4 T4 Q1 Q2 ne1 ne2
  go_wp2
  clear hy q0 q1 q2 ff
  obtain ⟨r0, r1, r2⟩ := (show y.cell? ⟨w.heap.size, 0, none⟩ = some (.string s) ∧ y.cell? ⟨w.heap.size, 1, none⟩ = some (.slice A1 m1 c1) ∧ y.cell? ⟨w.heap.size, 2, none⟩ = some (.slice A2 m2 d2) from ⟨cellOfBlk HR.out 0, cellOfBlk HR.out 1, cellOfBlk HR.out 2⟩)
  (try simp only [Exit.inBlock, Exit.then])
  refine bodyPost_ret (v := .tuple #[.agg #[.string s, .slice A1 m1 c1, .slice A2 m2 d2], .int .i64 E]) (by simp [results, Try.results16, go_sem, r0, r1, r2]) rfl ?_
  have hW : ws.length = m1 := HW.out
  have hC : cs.length = m2 := HC.out
  subst hW; subst hC
  have hzw : w.heap.size ≤ w1.heap.size := by omega
  exact ⟨_, ⟨s, ws, cs⟩, E, rfl, ⟨A1, c1, A2, d2, rfl, IntsI.of_own (own_base S1.out hzw), IntsI.of_own (own_base S2.out hzw), (own_caps S1.out).1, (own_caps S1.out).2, (own_caps S2.out).1, (own_caps S2.out).2, by show s.size ≤ maxLen; unfold maxLen; omega⟩, hs24, hm1, hm2, HE.out, TY.out⟩
end Go.Proofs.Ytobakeahbgodbaa
