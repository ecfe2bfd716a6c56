/-
  DrawQuadLine: whatever the bytes, a measure of three numbers and a line of at most 122 and at most nine numbers. No condition but that the bytes are bytes.
-/
import Derived.Test.YtpenmheacpapaaaDrawB
namespace Go.Proofs.Ytpenmheacpapaaa
open Go.RowKit
set_option linter.unusedVariables false

set_option maxRecDepth 100000 in
set_option maxHeartbeats 1600000 in
theorem drawQuad_any (A : Option Addr) (n c : Nat) (bs : List Int) (w : World) (hn : bs.length = n) (hm : n ≤ maxLen) (h : Bytes w A bs) (wf : ∀ z ∈ bs, (Lit.int .u8 z).wf = true) :
    Calls Try.prog 56 #[.slice A n c] w fun e w' => ∃ x y z gb m c zs Ad md cd ys, e = .returned (.tuple #[.agg #[.int .i64 x, .int .i64 y, .int .i64 z], .slice (some ⟨gb, 0, none⟩) m c, .slice Ad md cd]) ∧ zs.length = m ∧ m ≤ 122 ∧ m ≤ c ∧ c ≤ maxLen ∧ Own w' w.heap.size (.slice (some ⟨gb, 0, none⟩) m c) zs ∧ ys.length = md ∧ md ≤ 9 ∧ Ints w' Ad ys ∧ Below w.heap.size w w' := by
  obtain ⟨wa, hwa⟩ : ∃ wa, w.alloc (.cells #[.int .i64 0, .int .i64 0, .int .i64 0] 24) = wa := ⟨_, rfl⟩
  have hba : Below w.heap.size w wa := by rw [← hwa]; exact below_new _ _
  have RA : M3 wa w.heap.size 0 0 0 := by rw [← hwa]; exact M3.new w 0 0 0
  have za : w.heap.size < wa.heap.size := RA.lt
  have BA := Lib.hid hba; have RA := Lib.hid RA; have Hn := Lib.hid hn; have Hwf := Lib.hid wf
  have HA : Hid (Bytes wa A bs) := fun hp => by
    obtain ⟨ad, e, hc⟩ := h hp
    exact ⟨ad, e, fun j hj => (hba.cell (World.block_lt_of_cell? _ _ (hc j hj))).trans (hc j hj)⟩
  clear hba hn wf h
  go_enter Try.func56, Try.ntmps56
  go_wp2_with fail
  clear hwa
  refine (l01New_any A n c bs wa Hn.out hm HA.out Hwf.out).mono ?_
  rintro e w1 ⟨rfl, hc1, hb1, hs1⟩
  have R1 := Lib.hid (RA.out.below hb1 za); have HC1 := Lib.hid hc1
  have B1 := Lib.hid (BA.out.trans (hb1.mono (by omega)))
  have hs1' : w1.heap.size = wa.heap.size + 1 := hs1
  have z1 : wa.heap.size < w1.heap.size := by omega
  clear hc1 hb1 hs1 hs1' BA HA
  obtain ⟨g, hg⟩ : ∃ g, wa.heap.size = g := ⟨_, rfl⟩
  rw [hg] at za z1 HC1 ⊢
  clear hg
  go_wp2_with fail
  refine (l3Any_any g w1 HC1.out).mono ?_
  rintro e w2 ⟨x, y, z, rfl, hc2⟩
  have R2 := Lib.hid (R1.out.cm hc2 (by omega)); have C2 := Lib.hid hc2
  have z2 : g < w2.heap.size := hc2.lt
  clear hc2 R1
  obtain ⟨w3, hw3⟩ : ∃ w3, w2.alloc (.cells #[.int .i64 x, .int .i64 y, .int .i64 z] 24) = w3 := ⟨_, rfl⟩
  have M3' : M3 w3 w2.heap.size x y z := by rw [← hw3]; exact M3.new w2 _ _ _
  have hb3 : Below w2.heap.size w2 w3 := by rw [← hw3]; exact below_new _ _
  have R3 := Lib.hid (R2.out.below hb3 R2.out.lt); have C3 : Hid (CM w1 w3 g) := C2.out.step hb3
  have z3 : w2.heap.size < w3.heap.size := M3'.lt
  have y2 : w1.heap.size ≤ w2.heap.size := C2.out.2.size
  have M3q := Lib.hid M3'
  obtain ⟨m0, m1, m2, _, _, _⟩ := M3q.out.cells
  clear hb3 R2 C2 M3'
  go_wp2_with fail
  clear hw3
  refine (l3Row_any g x y z w3 C3.out.1).mono ?_
  clear m0 m1 m2
  rintro e w4 ⟨gb, m, c4, zs, rfl, hl, hm1, hmc, hcm, hgb, hO4, hc4⟩
  have R4 := Lib.hid (R3.out.cm hc4 (by omega)); have M4 := Lib.hid (M3q.out.cm hc4 (by omega)); have C4 := Lib.hid (C3.out.trans hc4); have O4 := Lib.hid hO4; have Hl := Lib.hid hl; have Hcm := Lib.hid hcm
  have z4 : w3.heap.size ≤ w4.heap.size := hc4.2.size
  clear hc4 hO4 hl hcm R3 M3q C3
  by_cases hp : 0 < m
  case neg =>
    have hd : decide ((0 : Int) < (m : Int)) = false := decide_eq_false (by omega)
    obtain ⟨m0, m1, m2, _, _, _⟩ := M4.out.cells
    have CC := Lib.hid C4.out.1
    go_wp2_with fail
    first
      | go_region_held3 (fun w' => w'.cell? ⟨w2.heap.size, 0, none⟩ = some (.int .i64 x) ∧ w'.cell? ⟨w2.heap.size, 1, none⟩ = some (.int .i64 y) ∧ w'.cell? ⟨w2.heap.size, 2, none⟩ = some (.int .i64 z)) (first | go_keep | exact ⟨n0, n1, n2⟩ | exact ⟨k0, k1, k2⟩)
        (first
          | (go_at_call 99; refine (l3Blanks_any g _ (by first | exact CC.out | exact CC.out.drew)).mono ?_; rintro e w6 ⟨Ad, md, cd, ys, rfl, hl, hmd, hI6, hA6, hc6d⟩; have hc6 : CM w4 w6 g := ⟨hc6d.1, (Moved.refl w4 g).drew.trans hc6d.2⟩; have C6 := Lib.hid (C4.out.trans hc6); have M6 := Lib.hid (M4.out.cm hc6 (by omega)); have R6 := Lib.hid (R4.out.cm hc6 (by omega)); have J6 := Lib.hid hI6; have A6 := Lib.hid hA6; have P6 := Lib.hid (O4.out.grown_lt hc6.2 (fun q hq => by injection hq with hq; omega)); have Hl6 := Lib.hid hl; have z6 := hc6.2.size; obtain ⟨n0, n1, n2, _, _, _⟩ := M6.out.cells; obtain ⟨s0, s1, s2, f0, f1, f2⟩ := R6.out.cells; have MK := Lib.hid (((M6.out.other ⟨w.heap.size, 0, none⟩ (.int .i64 x) (by show _ ≠ w.heap.size; omega)).other ⟨w.heap.size, 1, none⟩ (.int .i64 y) (by show _ ≠ w.heap.size; omega)).other ⟨w.heap.size, 2, none⟩ (.int .i64 z) (by show _ ≠ w.heap.size; omega)); obtain ⟨k0, k1, k2, _, _, _⟩ := MK.out.cells; clear hc6 hc6d hI6 hA6 hl))
      | fail "the region"
    have RG := Lib.hid (R6.out.put x y z)
    obtain ⟨d0, d1, d2, _, _, _⟩ := RG.out.cells
    have hw6 : w.heap.size < w6.heap.size := by omega
    have hne : ∀ ad, Ad = some ad → some w.heap.size ≠ some ad.block := fun ad h e => by injection e with e; have h1 : w4.heap.size ≤ ad.block := A6.out ad h; omega
    have OG : Hid (Ints (((w6.setCell ⟨w.heap.size, 0, none⟩ (.int .i64 x)).setCell ⟨w.heap.size, 1, none⟩ (.int .i64 y)).setCell ⟨w.heap.size, 2, none⟩ (.int .i64 z)) Ad ys) := (((J6.out.grown (grown_set (World.grownBy.refl w6 _) 0 _) (Nat.le_refl _) hne).grown (grown_set (World.grownBy.refl _ _) 1 _) (by simp [World.setCell]) hne).grown (grown_set (World.grownBy.refl _ _) 2 _) (by simp [World.setCell]) hne).ints
    have PG : Hid (Own (((w6.setCell ⟨w.heap.size, 0, none⟩ (.int .i64 x)).setCell ⟨w.heap.size, 1, none⟩ (.int .i64 y)).setCell ⟨w.heap.size, 2, none⟩ (.int .i64 z)) w.heap.size (.slice (some ⟨gb, 0, none⟩) m c4) zs) := own_base1 (((P6.out.grown_lt (grown_set (World.grownBy.refl w6 _) 0 _) (fun q hq => by injection hq with hq; subst hq; show w.heap.size < w3.heap.size; omega)).grown_lt (grown_set (World.grownBy.refl _ _) 1 _) (fun q hq => by injection hq with hq; subst hq; show w.heap.size < w3.heap.size; omega)).grown_lt (grown_set (World.grownBy.refl _ _) 2 _) (fun q hq => by injection hq with hq; subst hq; show w.heap.size < w3.heap.size; omega)) (show w.heap.size ≤ w3.heap.size by omega)
    have B6 := Lib.hid (B1.out.trans (C6.out.2.below (B := w.heap.size) (by omega) (by omega)))
    have BG := Lib.hid (((B6.out.setCell (p := ⟨w.heap.size, 0, none⟩) (Nat.le_refl _) (.int .i64 x)).setCell (p := ⟨w.heap.size, 1, none⟩) (Nat.le_refl _) (.int .i64 y)).setCell (p := ⟨w.heap.size, 2, none⟩) (Nat.le_refl _) (.int .i64 z))
    go_wp2
    exact bodyPost_ret (v := .tuple #[.agg #[.int .i64 x, .int .i64 y, .int .i64 z], .slice (some ⟨gb, 0, none⟩) m c4, .slice Ad md cd]) (by simp [results, Try.results56, go_sem, d0, d1, d2]) rfl ⟨x, y, z, gb, m, c4, zs, Ad, md, cd, ys, rfl, Hl.out, by omega, by omega, Hcm.out, PG.out, Hl6.out, hmd, OG.out, BG.out⟩
  have hd : decide ((0 : Int) < (m : Int)) = true := decide_eq_true (by omega)
  go_wp2_with fail
  refine (once_cm w4 g _ _ (CM.of C4.out.1)).mono ?_
  rintro e w7 ⟨bq, rfl, hc7, -⟩
  have R7 := Lib.hid (R4.out.cm hc7 (by omega)); have M7 := Lib.hid (M4.out.cm hc7 (by omega)); have C7 := Lib.hid (C4.out.trans hc7); have O7 := Lib.hid (O4.out.grown_lt hc7.2 (fun q hq => by injection hq with hq; omega))
  have z7 : w4.heap.size ≤ w7.heap.size := hc7.2.size
  clear hc7 R4 M4 C4 O4
  rcases bq with _ | _
  case true =>
    obtain ⟨m0, m1, m2, _, _, _⟩ := M7.out.cells
    have CC := Lib.hid C7.out.1
    go_wp2_with fail
    first
      | go_region_held3 (fun w' => w'.cell? ⟨w2.heap.size, 0, none⟩ = some (.int .i64 x) ∧ w'.cell? ⟨w2.heap.size, 1, none⟩ = some (.int .i64 y) ∧ w'.cell? ⟨w2.heap.size, 2, none⟩ = some (.int .i64 z)) (first | go_keep | exact ⟨n0, n1, n2⟩ | exact ⟨k0, k1, k2⟩)
        (first
          | (go_at_call 99; refine (l3Blanks_any g _ (by first | exact CC.out | exact CC.out.drew)).mono ?_; rintro e w6 ⟨Ad, md, cd, ys, rfl, hl, hmd, hI6, hA6, hc6d⟩; have hc6 : CM w7 w6 g := ⟨hc6d.1, (Moved.refl w7 g).drew.trans hc6d.2⟩; have C6 := Lib.hid (C7.out.trans hc6); have M6 := Lib.hid (M7.out.cm hc6 (by omega)); have R6 := Lib.hid (R7.out.cm hc6 (by omega)); have J6 := Lib.hid hI6; have A6 := Lib.hid hA6; have P6 := Lib.hid (O7.out.grown_lt hc6.2 (fun q hq => by injection hq with hq; omega)); have Hl6 := Lib.hid hl; have z6 := hc6.2.size; obtain ⟨n0, n1, n2, _, _, _⟩ := M6.out.cells; obtain ⟨s0, s1, s2, f0, f1, f2⟩ := R6.out.cells; have MK := Lib.hid (((M6.out.other ⟨w.heap.size, 0, none⟩ (.int .i64 x) (by show _ ≠ w.heap.size; omega)).other ⟨w.heap.size, 1, none⟩ (.int .i64 y) (by show _ ≠ w.heap.size; omega)).other ⟨w.heap.size, 2, none⟩ (.int .i64 z) (by show _ ≠ w.heap.size; omega)); obtain ⟨k0, k1, k2, _, _, _⟩ := MK.out.cells; clear hc6 hc6d hI6 hA6 hl))
      | fail "the region"
    have RG := Lib.hid (R6.out.put x y z)
    obtain ⟨d0, d1, d2, _, _, _⟩ := RG.out.cells
    have hw6 : w.heap.size < w6.heap.size := by omega
    have hne : ∀ ad, Ad = some ad → some w.heap.size ≠ some ad.block := fun ad h e => by injection e with e; have h1 : w7.heap.size ≤ ad.block := A6.out ad h; omega
    have OG : Hid (Ints (((w6.setCell ⟨w.heap.size, 0, none⟩ (.int .i64 x)).setCell ⟨w.heap.size, 1, none⟩ (.int .i64 y)).setCell ⟨w.heap.size, 2, none⟩ (.int .i64 z)) Ad ys) := (((J6.out.grown (grown_set (World.grownBy.refl w6 _) 0 _) (Nat.le_refl _) hne).grown (grown_set (World.grownBy.refl _ _) 1 _) (by simp [World.setCell]) hne).grown (grown_set (World.grownBy.refl _ _) 2 _) (by simp [World.setCell]) hne).ints
    have PG : Hid (Own (((w6.setCell ⟨w.heap.size, 0, none⟩ (.int .i64 x)).setCell ⟨w.heap.size, 1, none⟩ (.int .i64 y)).setCell ⟨w.heap.size, 2, none⟩ (.int .i64 z)) w.heap.size (.slice (some ⟨gb, 0, none⟩) m c4) zs) := own_base1 (((P6.out.grown_lt (grown_set (World.grownBy.refl w6 _) 0 _) (fun q hq => by injection hq with hq; subst hq; show w.heap.size < w3.heap.size; omega)).grown_lt (grown_set (World.grownBy.refl _ _) 1 _) (fun q hq => by injection hq with hq; subst hq; show w.heap.size < w3.heap.size; omega)).grown_lt (grown_set (World.grownBy.refl _ _) 2 _) (fun q hq => by injection hq with hq; subst hq; show w.heap.size < w3.heap.size; omega)) (show w.heap.size ≤ w3.heap.size by omega)
    have B6 := Lib.hid (B1.out.trans (C6.out.2.below (B := w.heap.size) (by omega) (by omega)))
    have BG := Lib.hid (((B6.out.setCell (p := ⟨w.heap.size, 0, none⟩) (Nat.le_refl _) (.int .i64 x)).setCell (p := ⟨w.heap.size, 1, none⟩) (Nat.le_refl _) (.int .i64 y)).setCell (p := ⟨w.heap.size, 2, none⟩) (Nat.le_refl _) (.int .i64 z))
    go_wp2
    exact bodyPost_ret (v := .tuple #[.agg #[.int .i64 x, .int .i64 y, .int .i64 z], .slice (some ⟨gb, 0, none⟩) m c4, .slice Ad md cd]) (by simp [results, Try.results56, go_sem, d0, d1, d2]) rfl ⟨x, y, z, gb, m, c4, zs, Ad, md, cd, ys, rfl, Hl.out, by omega, by omega, Hcm.out, PG.out, Hl6.out, hmd, OG.out, BG.out⟩
  go_wp2_with fail
  refine (below_cm w7 g _ _ (by omega) (CM.of C7.out.1)).mono ?_
  rintro e w5 ⟨q, rfl, hq, hc5, -⟩
  have R5 := Lib.hid (R7.out.cm hc5 (by omega)); have M5 := Lib.hid (M7.out.cm hc5 (by omega)); have C5 := Lib.hid (C7.out.trans hc5)
  have hqm : q ≤ m := by omega
  have O5 := Lib.hid (own_take (O7.out.grown_lt hc5.2 (fun q hq => by injection hq with hq; omega)) Hl.out hqm ⟨_, rfl⟩)
  have z5 : w7.heap.size ≤ w5.heap.size := hc5.2.size
  have Hq : Hid ((zs.take q).length = q) := by show _ = _; rw [List.length_take, Hl.out]; omega
  clear hc5 R7 M7 C7 O7
  obtain ⟨m0, m1, m2, _, _, _⟩ := M5.out.cells
  have CC := Lib.hid C5.out.1
  go_wp2_with fail
  first
    | go_region_held3 (fun w' => w'.cell? ⟨w2.heap.size, 0, none⟩ = some (.int .i64 x) ∧ w'.cell? ⟨w2.heap.size, 1, none⟩ = some (.int .i64 y) ∧ w'.cell? ⟨w2.heap.size, 2, none⟩ = some (.int .i64 z)) (first | go_keep | exact ⟨n0, n1, n2⟩ | exact ⟨k0, k1, k2⟩)
      (first
        | (go_at_call 99; refine (l3Blanks_any g _ (by first | exact CC.out | exact CC.out.drew)).mono ?_; rintro e w6 ⟨Ad, md, cd, ys, rfl, hl, hmd, hI6, hA6, hc6d⟩; have hc6 : CM w5 w6 g := ⟨hc6d.1, (Moved.refl w5 g).drew.trans hc6d.2⟩; have C6 := Lib.hid (C5.out.trans hc6); have M6 := Lib.hid (M5.out.cm hc6 (by omega)); have R6 := Lib.hid (R5.out.cm hc6 (by omega)); have J6 := Lib.hid hI6; have A6 := Lib.hid hA6; have P6 := Lib.hid (O5.out.grown_lt hc6.2 (fun q hq => by injection hq with hq; omega)); have Hl6 := Lib.hid hl; have z6 := hc6.2.size; obtain ⟨n0, n1, n2, _, _, _⟩ := M6.out.cells; obtain ⟨s0, s1, s2, f0, f1, f2⟩ := R6.out.cells; have MK := Lib.hid (((M6.out.other ⟨w.heap.size, 0, none⟩ (.int .i64 x) (by show _ ≠ w.heap.size; omega)).other ⟨w.heap.size, 1, none⟩ (.int .i64 y) (by show _ ≠ w.heap.size; omega)).other ⟨w.heap.size, 2, none⟩ (.int .i64 z) (by show _ ≠ w.heap.size; omega)); obtain ⟨k0, k1, k2, _, _, _⟩ := MK.out.cells; clear hc6 hc6d hI6 hA6 hl))
    | fail "the region"
  have RG := Lib.hid (R6.out.put x y z)
  obtain ⟨d0, d1, d2, _, _, _⟩ := RG.out.cells
  have hw6 : w.heap.size < w6.heap.size := by omega
  have hne : ∀ ad, Ad = some ad → some w.heap.size ≠ some ad.block := fun ad h e => by injection e with e; have h1 : w5.heap.size ≤ ad.block := A6.out ad h; omega
  have OG : Hid (Ints (((w6.setCell ⟨w.heap.size, 0, none⟩ (.int .i64 x)).setCell ⟨w.heap.size, 1, none⟩ (.int .i64 y)).setCell ⟨w.heap.size, 2, none⟩ (.int .i64 z)) Ad ys) := (((J6.out.grown (grown_set (World.grownBy.refl w6 _) 0 _) (Nat.le_refl _) hne).grown (grown_set (World.grownBy.refl _ _) 1 _) (by simp [World.setCell]) hne).grown (grown_set (World.grownBy.refl _ _) 2 _) (by simp [World.setCell]) hne).ints
  have PG : Hid (Own (((w6.setCell ⟨w.heap.size, 0, none⟩ (.int .i64 x)).setCell ⟨w.heap.size, 1, none⟩ (.int .i64 y)).setCell ⟨w.heap.size, 2, none⟩ (.int .i64 z)) w.heap.size (.slice (some ⟨gb, 0, none⟩) q c4) (zs.take q)) := own_base1 (((P6.out.grown_lt (grown_set (World.grownBy.refl w6 _) 0 _) (fun q hq => by injection hq with hq; subst hq; show w.heap.size < w3.heap.size; omega)).grown_lt (grown_set (World.grownBy.refl _ _) 1 _) (fun q hq => by injection hq with hq; subst hq; show w.heap.size < w3.heap.size; omega)).grown_lt (grown_set (World.grownBy.refl _ _) 2 _) (fun q hq => by injection hq with hq; subst hq; show w.heap.size < w3.heap.size; omega)) (show w.heap.size ≤ w3.heap.size by omega)
  have B6 := Lib.hid (B1.out.trans (C6.out.2.below (B := w.heap.size) (by omega) (by omega)))
  have BG := Lib.hid (((B6.out.setCell (p := ⟨w.heap.size, 0, none⟩) (Nat.le_refl _) (.int .i64 x)).setCell (p := ⟨w.heap.size, 1, none⟩) (Nat.le_refl _) (.int .i64 y)).setCell (p := ⟨w.heap.size, 2, none⟩) (Nat.le_refl _) (.int .i64 z))
  go_wp2
  exact bodyPost_ret (v := .tuple #[.agg #[.int .i64 x, .int .i64 y, .int .i64 z], .slice (some ⟨gb, 0, none⟩) q c4, .slice Ad md cd]) (by simp [results, Try.results56, go_sem, d0, d1, d2]) rfl ⟨x, y, z, gb, q, c4, (zs.take q), Ad, md, cd, ys, rfl, Hq.out, by omega, by omega, Hcm.out, PG.out, Hl6.out, hmd, OG.out, BG.out⟩
end Go.Proofs.Ytpenmheacpapaaa
